/- ResolveUnmasks's card: of any tree and wish the law returns true; what the program lays at its start is the premise that the card ties. -/
import Derived.Test.YtonlloiemgdfkaaGreatDoorCards
import Derived.Test.YtonlloiemgdfkaaGreatDoorTie
import Derived.Test.YtonlloiemgdfkaaGreatDoorRu30
import Derived.Lay
namespace Go.Proofs.YtonlloiemgdfkaaGreatDoor.resolveUnmasks
open Go.ChangeShapes Go.WideShapes Go.ChangeAt Go.RowKit
open Go.ChangeMaps (open_string shut_string)
theorem own:ownKnob Tryz.prog.godebug=none:=by kernel_rfl
theorem aFh:laidOutB Tryz.prog=true:=by kernel_rfl
set_option maxRecDepth 100000 in
theorem sK (H:Type) (enc:TypeId × Value->H) (W:World) (base:Nat) (args:Array Value) (ds gs:List (DataW H)) (before:List MemPlace)
  (hval : ∀ (j:Nat) t v,Tryz.f12.params[j]? = some t->args[j]? = some v->Value.okWide Tryz.prog W .any base t v)
  (hW:DataW.Whole enc Tryz.prog Tryz.f12.params.toList Rows.resolveUnmasksSpec.vars false W args.toList ds gs before) (hL:laidMetH Tryz.prog Rows.resolveUnmasksRow.laid W) (hsh:W.ShapedOpen Tryz.prog) :
  Calls Tryz.prog 12 args W fun e W'=> ∃ v,e=.returned v/\Rows.resolveUnmasksSpec.post enc Tryz.prog Tryz.f12 false true false false W args v W':=by
 have hW':=hW
 obtain ⟨p,q,hA0,hV,rfl,hfz,hnd⟩:=hW
 have hA:DataW.TrodAll enc Tryz.prog W 0 (fun _=>true) true Tryz.f12.params.toList args.toList ds p:=hA0
 rw [Tryz.params12] at hA hval
 obtain ⟨v0,vs0,d0,ds0,p0,q0,hargs,rfl,rfl,h0,r0⟩:=trodAll_cons hA
 obtain ⟨v1,vs1,d1,ds1,p1,q1,rfl,rfl,rfl,h1,r1⟩:=trodAll_cons r0
 obtain ⟨rfl,rfl,rfl⟩:=trodAll_nil r1
 obtain rfl:args=#[v0,v1]:=by cases args;simp_all
 obtain ⟨rfl,rfl⟩:=trodVars_none hV
 have lt0 : ∀ x∈p0,x.block<W.heap.size:=by obtain ⟨m,hm⟩:=h0;exact DataW.trod_lt m _ _ _ hm
 have k0:=h0
 have lt1 : ∀ x∈p1,x.block<W.heap.size:=by obtain ⟨m,hm⟩:=h1;exact DataW.trod_lt m _ _ _ hm
 have k1:=h1
 obtain ⟨ps0,pv0,rfl,nd0⟩:=aHp (hval 0 24 v0 rfl rfl) h0
 obtain ⟨wi1,ts1,in1,ma1,on1,rfl,nd1⟩:=aHq (hval 1 30 v1 rfl rfl) h1
 clear hA0
 rw [MakeChecks.laidMetH_plain _ _ _ (by kernel_rfl)] at hL
 have hE:Env W:=aOv hL (by simp [Rows.resolveUnmasksRow]) (by simp [Rows.resolveUnmasksRow]) (by simp [Rows.resolveUnmasksRow]) (by simp [Rows.resolveUnmasksRow])
 have hM:jU W:=aKp hsh
 have hcap:iV pv0:=aLd h0
 refine (rL (fun b=>b<W.heap.size) ps0 wi1 pv0 ts1 in1 ma1 on1 W (fun _ h=>h) nd0 nd1 hcap hE hM).mono fun e W' ⟨he,bel⟩=> ?_
 subst he
 exact ⟨_,rfl,_,_,_,[],_,[],hW',trodAll_mk1 (shut_bool Tryz.underlying4 _),
  (trodAll_cons_mk (Below.trod aFh (by kernel_rfl) (of_decide_eq_true (by kernel_rfl)) k0 bel lt0) (trodAll_cons_mk (Below.trod aFh (by kernel_rfl) (of_decide_eq_true (by kernel_rfl)) k1 bel lt1) trodAll_mk0)),rfl,bel.frame _,fun h=>by cases h⟩
set_option maxRecDepth 100000 in
theorem lifted (os:Os) (started:os.Started) (H:Type) (enc:TypeId × Value->H) :
  ReturnsInHanded {} Tryz.checked os 12 .any (fun w args=>(Rows.resolveUnmasksSpec.pre enc Tryz.prog Tryz.f12 Rows.resolveUnmasksRow.domain false w args/\laidMetH Tryz.prog Rows.resolveUnmasksRow.laid w)/\sizedMet enc Tryz.prog Tryz.f12 (OpenSpec.ofChange Rows.resolveUnmasksSpec) false w args)
   (Rows.resolveUnmasksSpec.post enc Tryz.prog Tryz.f12 false true false false):=by
 refine uZ (C:=Tryz.checked) (X:=fun w _=>laidMetH Tryz.prog Rows.resolveUnmasksRow.laid w) (fun _ _ _ hh h=>h.of_heap hh) own started (by kernel_rfl) Tryz.func12
  (ChangeSpec.witness_shaped (enc:=enc) (C:=Tryz.checked) (os:=os) (X:=fun w _=>laidMetH Tryz.prog Rows.resolveUnmasksRow.laid w) false (World.laidAll Tryz.prog os Rows.resolveUnmasksRow.laid) #[.agg #[.slice none 0 0],.agg #[.slice none 0 0,.slice none 0 0,.slice none 0 0,.slice none 0 0]] 8 (World.laidAll_os _ _ _)
   (World.shaped_of_ZipB (by kernel_rfl) (by kernel_rfl)) (by kernel_rfl) (by kernel_rfl) (by kernel_rfl)
   (by rw [MakeChecks.laidMetH_plain _ _ _ (by kernel_rfl)];exact laidMet_laidAll _ (by kernel_rfl) (by kernel_rfl))) ?_
 intro W base args ds gs before hval hW hL hsh
 exact sK H enc W base args ds gs before hval hW hL hsh
theorem aQb:Rows.resolveUnmasksRow.wf (OpenSpec.ofChange Rows.resolveUnmasksSpec)=true:=by kernel_rfl
theorem aQc:laidOutB Tryz.pinned.checked.prog=true:=by kernel_rfl
theorem aQd:mapsRowed Tryz.pinned.checked.prog=true:=by kernel_rfl
theorem aQe:(Rows.resolveUnmasksRow.inPlace==Tryz.pinned.checked.prog.inPlace 12)=true:=by kernel_rfl
theorem aQf:(Rows.resolveUnmasksRow.unfollowed==Tryz.pinned.checked.prog.unfollowed 12)=true:=by kernel_rfl
theorem aQg:(Rows.resolveUnmasksRow.recurses==Tryz.pinned.checked.prog.recurses 12)=true:=by kernel_rfl
theorem aQh:(Rows.resolveUnmasksRow.named==Tryz.pinned.checked.prog.varsNamed 12)=true:=by kernel_rfl
theorem aQi:(Rows.resolveUnmasksRow.plainKeys==Tryz.pinned.checked.prog.plainKeys)=true:=by kernel_rfl
theorem aQj:Tryz.pinned.checked.prog.stopsHeard=true:=by kernel_rfl
theorem aQk:Tryz.pinned.checked.prog.mayEnter=true:=by kernel_rfl
theorem aOw:(Rows.resolveUnmasksRow.lifted==Tryz.pinned.checked.prog.liftsFinal)=true:=by kernel_rfl
theorem aPb:joinedFacts Tryz.pinned.checked.prog 12 Tryz.f12 Rows.resolveUnmasksSpec Rows.resolveUnmasksRow=true:=by
 unfold joinedFacts
 rw [aQb,aQc,aQd,aQe,aQf,aQg,aQh,aQi,aQj,aQk,aOw]
 kernel_rfl
theorem aQz:Rows.ResolveUnmasksSaid:=
 OpenClaim.holds_of_wide 12 Tryz.f12 rfl rfl rfl rfl rfl rfl rfl ⟨rfl,rfl,rfl,rfl,rfl⟩ rfl rfl rfl rfl rfl (by kernel_rfl) Tryz.func12 aPb
  (of_decide_eq_true (by kernel_rfl)) (by unfold Func.isWrapper;first | (rw [if_pos (by decide +kernel)];kernel_rfl) | (rw [if_neg (by decide +kernel)];exact ⟨rfl,rfl⟩))
  (fun os started H enc _=>lifted os started H enc)
theorem plain (f : FuncId) (fn : Func) (hf : Tryz.pinned.checked.prog.funcNamed "quartermaster/quartermasterlaw.ResolveUnmasks" = some f) (hfn : Tryz.pinned.checked.prog.funcs[f]? = some fn) :
  true=Tryz.pinned.checked.prog.looks []/\∀ (j:Nat) t,fn.params[j]? = some t->Tryz.pinned.checked.prog.wantsStandIn t=false:=by
 obtain rfl : f = 12 := Option.some.inj ((show Tryz.prog.funcNamed "quartermaster/quartermasterlaw.ResolveUnmasks" = some 12 by kernel_rfl).symm.trans hf) |>.symm
 obtain rfl:fn=Tryz.f12:=(Option.some.inj (Tryz.func12.symm.trans hfn)).symm
 refine ⟨by kernel_rfl,fun j t ht=> ?_⟩
 rw [Tryz.params12] at ht
 have hm:t ∈ [24,30]:=by simpa using Array.mem_of_getElem? ht
 have hall:([24,30].all fun u=> !Tryz.prog.wantsStandIn u)=true:=by kernel_rfl
 exact (show Tryz.prog.wantsStandIn t=false by simpa using List.all_eq_true.1 hall t hm)
theorem aPz:Tryz.pinned.checked.prog.mainIs=some (Rows.resolveUnmasksCard.stood.harness.1,Rows.resolveUnmasksCard.stood.harness.2.toList):=by kernel_rfl
theorem aPy:false=Rows.resolveUnmasksRow.goesBy Tryz.pinned.checked.prog:=by kernel_rfl
theorem card:Rows.ResolveUnmasksCardSaid:=
 Claim7.holds_tied_plain_at .later [] _ _ _ _ aQz (fun _ h=>by cases h) (by kernel_rfl) (fun _ h=>by cases h) resolveUnmasks_row_tie rfl ⟨rfl,rfl⟩ aPz rfl plain aPy
end Go.Proofs.YtonlloiemgdfkaaGreatDoor.resolveUnmasks
namespace Go.Proofs.YtonlloiemgdfkaaGreatDoor
theorem resolveUnmasks_holds:Rows.ResolveUnmasksCardSaid:=resolveUnmasks.card
#print axioms resolveUnmasks_holds
end Go.Proofs.YtonlloiemgdfkaaGreatDoor
