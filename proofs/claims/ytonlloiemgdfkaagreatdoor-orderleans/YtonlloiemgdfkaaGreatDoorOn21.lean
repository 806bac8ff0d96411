/- Steps of the proof: CnfFunc. -/
import Derived.Test.YtonlloiemgdfkaaGreatDoorOn12
import Derived.Shelf.Abstract
set_option maxHeartbeats 16000000
set_option maxRecDepth 100000
namespace Go.Proofs.YtonlloiemgdfkaaGreatDoor.Cn
open Go.RowKit Go.Lib
theorem uJ {F:Nat} {cap:Array Value} (S:Nat->Prop) (zs:List Int) (g:Int->Bool) (p:Option Addr) (cp:Nat) (w:World) (hS : ∀ b,S b->b<w.heap.size) (hF : ∀ args w,(callFunc F args).run Tryz.prog w=.ok (.enter F args) w) (hz:bP S w zs (.slice p zs.length cp))
  (hc : ∀ x∈zs,Calls Tryz.prog F (#[.int .i64 x]++cap) w fun e w'=>e=.returned (.bool (g x))/\w'=w) :
  Calls Tryz.prog 94 #[.slice p zs.length cp,.func (.func F) #[] cap] w fun e w'=> ∃ n:Int,e=.returned (.int .i64 n)/\decide (0<=n)=zs.any g/\w'=w:=by
 have hmax:zs.length<=9223372036854775807:=by obtain ⟨_,_,_,h⟩:=hz.shape;exact h
 have HZ:=hid hz
 have HC:=hid hc
 clear hz hc
 go_enter Tryz.func94,Tryz.ntmps94
 go_wp2_with fail
 go_loopg [8] zs.length (fun gk i wr=> ∃ j:Nat,j+gk=zs.length/\i=.int .i64 j/\(zs.take j).any g=false/\wr=w)
 case atStart=>exact ⟨0,by simp,rfl,by simp,rfl⟩
 case round=>
  obtain ⟨j,hj,rfl,hno,hw⟩:=hrel
  subst hw
  have HNO:=hid hno
  clear hno
  by_cases hlt:j<zs.length
  ·obtain ⟨b,off,rfl,hb,hcell⟩:=HZ.out.cellD hlt
   have HCALL:=hid (HC.out zs[j] (List.getElem_mem hlt))
   have HST:Hid ((zs.take (j+1)).any g=g zs[j]):=by
    show _=_
    rw [List.take_succ_eq_append_getElem hlt,List.any_append,HNO.out];simp
   have HUP:Hid (g zs[j]=true->zs.any g=true):=fun h=>List.any_eq_true.2 ⟨zs[j],List.getElem_mem hlt,h⟩
   have hbl:=hS b hb
   generalize zs[j]=x at HCALL HST HUP hcell
   generalize g x=β at HCALL HST HUP
   clear HNO
   go_wp2_with fail
   refine HCALL.out.mono ?_
   rintro e w1 ⟨rfl,hw1⟩
   rw [hw1]
   clear hw1 HCALL
   cases β
   ·go_wp2_with fail
    go_roundg (zs.length-(j+1))
    case rel=>exact ⟨j+1,by omega,by go_num,HST.out,rfl⟩
    case measure=>omega
   ·go_wp2_with fail
    go_ret
    exact ⟨(j:Int),rfl,by rw [show zs.any g=true from HUP.out trivial];exact decide_eq_true (by omega),rfl⟩
  ·obtain rfl:j=zs.length:=by omega
   go_wp2_with fail
   go_ret
   refine ⟨-1,rfl,?_,rfl⟩
   have:=HNO.out
   rw [List.take_length] at this
   rw [this];rfl
theorem zU {F:Nat} {cap:Array Value} (S:Nat->Prop) (zs:List Int) (g:Int->Bool) (p:Option Addr) (cp:Nat) (w:World) (hS : ∀ b,S b->b<w.heap.size) (hF : ∀ args w,(callFunc F args).run Tryz.prog w=.ok (.enter F args) w) (hz:bP S w zs (.slice p zs.length cp))
  (hc : ∀ x∈zs,Calls Tryz.prog F (#[.int .i64 x]++cap) w fun e w'=>e=.returned (.bool (g x))/\w'=w) :
  Calls Tryz.prog 44 #[.slice p zs.length cp,.func (.func F) #[] cap] w fun e w'=>e=.returned (.bool (zs.any g))/\w'=w:=by
 have HI:=hid (uJ S zs g p cp w hS hF hz hc)
 clear hz hc
 go_enter Tryz.func44,Tryz.ntmps44
 go_wp2_with fail
 refine HI.out.mono ?_
 rintro e w1 ⟨n,rfl,hn,hw1⟩
 rw [hw1]
 have HN:=hid hn
 clear hn hw1 HI
 go_wp2_with fail
 go_ret
 exact ⟨aF HN.out,rfl⟩
end Go.Proofs.YtonlloiemgdfkaaGreatDoor.Cn
