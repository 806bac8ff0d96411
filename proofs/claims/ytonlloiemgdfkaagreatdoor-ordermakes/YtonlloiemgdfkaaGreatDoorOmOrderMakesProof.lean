/- OrderMakes's card: of any tree and two sets the law returns true; what the program lays at its start is the premise that the card ties. -/
import Derived.Test.YtonlloiemgdfkaaGreatDoorCards
import Derived.Test.YtonlloiemgdfkaaGreatDoorTie
import Derived.Test.YtonlloiemgdfkaaGreatDoorOm19
import Derived.Test.YtonlloiemgdfkaaGreatDoorOm20
import Derived.Lay
namespace Go.Proofs.YtonlloiemgdfkaaGreatDoor.orderMakes
open Go.ChangeShapes Go.WideShapes Go.ChangeAt Go.RowKit
open Go.ChangeMaps (open_string shut_string)
theorem own:ownKnob Tryz.prog.godebug=none:=by kernel_rfl
theorem rF:laidOutB Tryz.prog=true:=by kernel_rfl
set_option maxRecDepth 100000 in
theorem mX (H:Type) (enc:TypeId × Value->H) (W:World) (base:Nat) (args:Array Value) (ds gs:List (DataW H)) (before:List MemPlace)
  (hval : ∀ (j:Nat) t v,Tryz.f6.params[j]? = some t->args[j]? = some v->Value.okWide Tryz.prog W .any base t v)
  (hW:DataW.Whole enc Tryz.prog Tryz.f6.params.toList Rows.orderMakesSpec.vars false W args.toList ds gs before) (hL:laidMetH Tryz.prog Rows.orderMakesRow.laid W) (hsh:W.ShapedOpen Tryz.prog) :
  Calls Tryz.prog 6 args W fun e W'=> ∃ v,e=.returned v/\Rows.orderMakesSpec.post enc Tryz.prog Tryz.f6 false true false false W args v W':=by
 have hW':=hW
 obtain ⟨p,q,hA0,hV,rfl,hfz,hnd⟩:=hW
 have hA:DataW.TrodAll enc Tryz.prog W 0 (fun _=>true) true Tryz.f6.params.toList args.toList ds p:=hA0
 rw [Tryz.params6] at hA hval
 obtain ⟨v0,vs0,d0,ds0,p0,q0,hargs,rfl,rfl,h0,r0⟩:=trodAll_cons hA
 obtain ⟨v1,vs1,d1,ds1,p1,q1,rfl,rfl,rfl,h1,r1⟩:=trodAll_cons r0
 obtain ⟨v2,vs2,d2,ds2,p2,q2,rfl,rfl,rfl,h2,r2⟩:=trodAll_cons r1
 obtain ⟨rfl,rfl,rfl⟩:=trodAll_nil r2
 obtain rfl:args=#[v0,v1,v2]:=by cases args;simp_all
 obtain ⟨rfl,rfl⟩:=trodVars_none hV
 have lt0 : ∀ x∈p0,x.block<W.heap.size:=by obtain ⟨m,hm⟩:=h0;exact DataW.trod_lt m _ _ _ hm
 have k0:=h0
 have lt1 : ∀ x∈p1,x.block<W.heap.size:=by obtain ⟨m,hm⟩:=h1;exact DataW.trod_lt m _ _ _ hm
 have k1:=h1
 have lt2 : ∀ x∈p2,x.block<W.heap.size:=by obtain ⟨m,hm⟩:=h2;exact DataW.trod_lt m _ _ _ hm
 have k2:=h2
 obtain ⟨ps0,pv0,rfl,nd0⟩:=xZ (hval 0 24 v0 rfl rfl) h0
 obtain ⟨ms1,nd1⟩:=tD (hval 1 26 v1 rfl rfl) h1
 obtain ⟨ms2,nd2⟩:=tD (hval 2 26 v2 rfl rfl) h2
 clear hA0
 rw [MakeChecks.laidMetH_plain _ _ _ (by kernel_rfl)] at hL
 have hE:Env W:=aCx hL (by simp [Rows.orderMakesRow]) (by simp [Rows.orderMakesRow]) (by simp [Rows.orderMakesRow]) (by simp [Rows.orderMakesRow])
 have hM:fV W:=aAf hsh
 refine (pG (fun b=>b<W.heap.size) ps0 ms1 ms2 pv0 v1 v2 W (fun _ h=>h) nd0 nd1 nd2 hE hM).mono fun e W' ⟨he,bel⟩=> ?_
 subst he
 exact ⟨_,rfl,_,_,_,[],_,[],hW',trodAll_mk1 (shut_bool Tryz.underlying4 _),
  (trodAll_cons_mk (Below.trod rF (by kernel_rfl) (of_decide_eq_true (by kernel_rfl)) k0 bel lt0) (trodAll_cons_mk (Below.trod rF (by kernel_rfl) (of_decide_eq_true (by kernel_rfl)) k1 bel lt1) (trodAll_cons_mk (Below.trod rF (by kernel_rfl) (of_decide_eq_true (by kernel_rfl)) k2 bel lt2) trodAll_mk0))),rfl,bel.frame _,fun h=>by cases h⟩
set_option maxRecDepth 100000 in
theorem lifted (os:Os) (started:os.Started) (H:Type) (enc:TypeId × Value->H) :
  ReturnsInHanded {} Tryz.checked os 6 .any (fun w args=>(Rows.orderMakesSpec.pre enc Tryz.prog Tryz.f6 Rows.orderMakesRow.domain false w args/\laidMetH Tryz.prog Rows.orderMakesRow.laid w)/\sizedMet enc Tryz.prog Tryz.f6 (OpenSpec.ofChange Rows.orderMakesSpec) false w args)
   (Rows.orderMakesSpec.post enc Tryz.prog Tryz.f6 false true false false):=by
 refine oY (C:=Tryz.checked) (X:=fun w _=>laidMetH Tryz.prog Rows.orderMakesRow.laid w) (fun _ _ _ hh h=>h.of_heap hh) own started (by kernel_rfl) Tryz.func6
  (ChangeSpec.witness_shaped (enc:=enc) (C:=Tryz.checked) (os:=os) (X:=fun w _=>laidMetH Tryz.prog Rows.orderMakesRow.laid w) false (World.laidAll Tryz.prog os Rows.orderMakesRow.laid) #[.agg #[.slice none 0 0],.slice none 0 0,.slice none 0 0] 8 (World.laidAll_os _ _ _)
   (World.shaped_of_ZipB (by kernel_rfl) (by kernel_rfl)) (by kernel_rfl) (by kernel_rfl) (by kernel_rfl)
   (by rw [MakeChecks.laidMetH_plain _ _ _ (by kernel_rfl)];exact laidMet_laidAll _ (by kernel_rfl) (by kernel_rfl))) ?_
 intro W base args ds gs before hval hW hL hsh
 exact mX H enc W base args ds gs before hval hW hL hsh
theorem aDt:Rows.orderMakesRow.wf (OpenSpec.ofChange Rows.orderMakesSpec)=true:=by kernel_rfl
theorem aDu:laidOutB Tryz.pinned.checked.prog=true:=by kernel_rfl
theorem aDv:mapsRowed Tryz.pinned.checked.prog=true:=by kernel_rfl
theorem aDw:(Rows.orderMakesRow.inPlace==Tryz.pinned.checked.prog.inPlace 6)=true:=by kernel_rfl
theorem aDx:(Rows.orderMakesRow.unfollowed==Tryz.pinned.checked.prog.unfollowed 6)=true:=by kernel_rfl
theorem aDy:(Rows.orderMakesRow.recurses==Tryz.pinned.checked.prog.recurses 6)=true:=by kernel_rfl
theorem aDz:(Rows.orderMakesRow.named==Tryz.pinned.checked.prog.varsNamed 6)=true:=by kernel_rfl
theorem aEa:(Rows.orderMakesRow.plainKeys==Tryz.pinned.checked.prog.plainKeys)=true:=by kernel_rfl
theorem aEb:Tryz.pinned.checked.prog.stopsHeard=true:=by kernel_rfl
theorem aEc:Tryz.pinned.checked.prog.mayEnter=true:=by kernel_rfl
theorem aCy:(Rows.orderMakesRow.lifted==Tryz.pinned.checked.prog.liftsFinal)=true:=by kernel_rfl
theorem aDb:joinedFacts Tryz.pinned.checked.prog 6 Tryz.f6 Rows.orderMakesSpec Rows.orderMakesRow=true:=by
 unfold joinedFacts
 rw [aDt,aDu,aDv,aDw,aDx,aDy,aDz,aEa,aEb,aEc,aCy]
 kernel_rfl
theorem aEs:Rows.OrderMakesSaid:=
 OpenClaim.holds_of_wide 6 Tryz.f6 rfl rfl rfl rfl rfl rfl rfl ⟨rfl,rfl,rfl,rfl,rfl⟩ rfl rfl rfl rfl rfl (by kernel_rfl) Tryz.func6 aDb
  (of_decide_eq_true (by kernel_rfl)) (by unfold Func.isWrapper;first | (rw [if_pos (by decide +kernel)];kernel_rfl) | (rw [if_neg (by decide +kernel)];exact ⟨rfl,rfl⟩))
  (fun os started H enc _=>lifted os started H enc)
theorem plain (f : FuncId) (fn : Func) (hf : Tryz.pinned.checked.prog.funcNamed "quartermaster/quartermasterlaw.OrderMakes" = some f) (hfn : Tryz.pinned.checked.prog.funcs[f]? = some fn) :
  true=Tryz.pinned.checked.prog.looks []/\∀ (j:Nat) t,fn.params[j]? = some t->Tryz.pinned.checked.prog.wantsStandIn t=false:=by
 obtain rfl : f = 6 := Option.some.inj ((show Tryz.prog.funcNamed "quartermaster/quartermasterlaw.OrderMakes" = some 6 by kernel_rfl).symm.trans hf) |>.symm
 obtain rfl:fn=Tryz.f6:=(Option.some.inj (Tryz.func6.symm.trans hfn)).symm
 refine ⟨by kernel_rfl,fun j t ht=> ?_⟩
 rw [Tryz.params6] at ht
 have hm:t ∈ [24,26,26]:=by simpa using Array.mem_of_getElem? ht
 have hall:([24,26,26].all fun u=> !Tryz.prog.wantsStandIn u)=true:=by kernel_rfl
 exact (show Tryz.prog.wantsStandIn t=false by simpa using List.all_eq_true.1 hall t hm)
theorem aDs:Tryz.pinned.checked.prog.mainIs=some (Rows.orderMakesCard.stood.harness.1,Rows.orderMakesCard.stood.harness.2.toList):=by kernel_rfl
theorem aDr:false=Rows.orderMakesRow.goesBy Tryz.pinned.checked.prog:=by kernel_rfl
theorem card:Rows.OrderMakesCardSaid:=
 Claim7.holds_tied_plain_at .later [] _ _ _ _ aEs (fun _ h=>by cases h) (by kernel_rfl) (fun _ h=>by cases h) orderMakes_row_tie rfl ⟨rfl,rfl⟩ aDs rfl plain aDr
end Go.Proofs.YtonlloiemgdfkaaGreatDoor.orderMakes
namespace Go.Proofs.YtonlloiemgdfkaaGreatDoor
theorem orderMakes_holds:Rows.OrderMakesCardSaid:=orderMakes.card
#print axioms orderMakes_holds
end Go.Proofs.YtonlloiemgdfkaaGreatDoor
