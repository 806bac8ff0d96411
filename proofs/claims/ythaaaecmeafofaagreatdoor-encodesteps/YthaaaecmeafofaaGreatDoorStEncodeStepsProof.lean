/- EncodeSteps's card: of any tree and wish the law returns true; what the program lays at its start is the premise that the card ties. -/
import Derived.Test.YthaaaecmeafofaaGreatDoorCards
import Derived.Test.YthaaaecmeafofaaGreatDoorTie
import Derived.Test.YthaaaecmeafofaaGreatDoorSt30
import Derived.Lay
namespace Go.Proofs.YthaaaecmeafofaaGreatDoor.encodeSteps
open Go.ChangeShapes Go.WideShapes Go.ChangeAt Go.RowKit
open Go.ChangeMaps (open_string shut_string)
theorem own:ownKnob Tryz.prog.godebug=none:=by kernel_rfl
theorem aFl:laidOutB Tryz.prog=true:=by kernel_rfl
set_option maxRecDepth 100000 in
theorem sG (H:Type) (enc:TypeId × Value->H) (W:World) (base:Nat) (args:Array Value) (ds gs:List (DataW H)) (before:List MemPlace)
  (hval : ∀ (j:Nat) t v,Tryz.f9.params[j]? = some t->args[j]? = some v->Value.okWide Tryz.prog W .any base t v)
  (hW:DataW.Whole enc Tryz.prog Tryz.f9.params.toList Rows.encodeStepsSpec.vars false W args.toList ds gs before) (hL:laidMetH Tryz.prog Rows.encodeStepsRow.laid W) (hsh:W.ShapedOpen Tryz.prog) :
  Calls Tryz.prog 9 args W fun e W'=> ∃ v,e=.returned v/\Rows.encodeStepsSpec.post enc Tryz.prog Tryz.f9 false true false false W args v W':=by
 have hW':=hW
 obtain ⟨p,q,hA0,hV,rfl,hfz,hnd⟩:=hW
 have hA:DataW.TrodAll enc Tryz.prog W 0 (fun _=>true) true Tryz.f9.params.toList args.toList ds p:=hA0
 rw [Tryz.params9] at hA hval
 obtain ⟨v0,vs0,d0,ds0,p0,q0,hargs,rfl,rfl,h0,r0⟩:=trodAll_cons hA
 obtain ⟨v1,vs1,d1,ds1,p1,q1,rfl,rfl,rfl,h1,r1⟩:=trodAll_cons r0
 obtain ⟨rfl,rfl,rfl⟩:=trodAll_nil r1
 obtain rfl:args=#[v0,v1]:=by cases args;simp_all
 obtain ⟨rfl,rfl⟩:=trodVars_none hV
 have lt0 : ∀ x∈p0,x.block<W.heap.size:=by obtain ⟨m,hm⟩:=h0;exact DataW.trod_lt m _ _ _ hm
 have k0:=h0
 have lt1 : ∀ x∈p1,x.block<W.heap.size:=by obtain ⟨m,hm⟩:=h1;exact DataW.trod_lt m _ _ _ hm
 have k1:=h1
 obtain ⟨ps0,pv0,rfl,nd0⟩:=aHw (hval 0 24 v0 rfl rfl) h0
 obtain ⟨wi1,ts1,in1,ma1,on1,rfl,nd1⟩:=aHx (hval 1 46 v1 rfl rfl) h1
 clear hA0
 rw [MakeChecks.laidMetH_plain _ _ _ (by kernel_rfl)] at hL
 have hE:Env W:=aOr hL (by simp [Rows.encodeStepsRow]) (by simp [Rows.encodeStepsRow]) (by simp [Rows.encodeStepsRow]) (by simp [Rows.encodeStepsRow])
 have hM:jR W:=aKs hsh
 have hcap:nB pv0:=aLf h0
 refine (uS (fun b=>b<W.heap.size) ps0 wi1 pv0 ts1 in1 ma1 on1 W (fun _ h=>h) nd0 nd1 hcap hE hM).mono fun e W' ⟨he,bel⟩=> ?_
 subst he
 exact ⟨_,rfl,_,_,_,[],_,[],hW',trodAll_mk1 (shut_bool Tryz.underlying4 _),
  (trodAll_cons_mk (Below.trod aFl (by kernel_rfl) (of_decide_eq_true (by kernel_rfl)) k0 bel lt0) (trodAll_cons_mk (Below.trod aFl (by kernel_rfl) (of_decide_eq_true (by kernel_rfl)) k1 bel lt1) trodAll_mk0)),rfl,bel.frame _,fun h=>by cases h⟩
set_option maxRecDepth 100000 in
theorem lifted (os:Os) (started:os.Started) (H:Type) (enc:TypeId × Value->H) :
  ReturnsInHanded {} Tryz.checked os 9 .any (fun w args=>(Rows.encodeStepsSpec.pre enc Tryz.prog Tryz.f9 Rows.encodeStepsRow.domain false w args/\laidMetH Tryz.prog Rows.encodeStepsRow.laid w)/\sizedMet enc Tryz.prog Tryz.f9 (OpenSpec.ofChange Rows.encodeStepsSpec) false w args)
   (Rows.encodeStepsSpec.post enc Tryz.prog Tryz.f9 false true false false):=by
 refine uW (C:=Tryz.checked) (X:=fun w _=>laidMetH Tryz.prog Rows.encodeStepsRow.laid w) (fun _ _ _ hh h=>h.of_heap hh) own started (by kernel_rfl) Tryz.func9
  (ChangeSpec.witness_shaped (enc:=enc) (C:=Tryz.checked) (os:=os) (X:=fun w _=>laidMetH Tryz.prog Rows.encodeStepsRow.laid w) false (World.laidAll Tryz.prog os Rows.encodeStepsRow.laid) #[.agg #[.slice none 0 0],.agg #[.slice none 0 0,.slice none 0 0,.slice none 0 0,.slice none 0 0]] 8 (World.laidAll_os _ _ _)
   (World.shaped_of_ZipB (by kernel_rfl) (by kernel_rfl)) (by kernel_rfl) (by kernel_rfl) (by kernel_rfl)
   (by rw [MakeChecks.laidMetH_plain _ _ _ (by kernel_rfl)];exact laidMet_laidAll _ (by kernel_rfl) (by kernel_rfl))) ?_
 intro W base args ds gs before hval hW hL hsh
 exact sG H enc W base args ds gs before hval hW hL hsh
theorem aPu:Rows.encodeStepsRow.wf (OpenSpec.ofChange Rows.encodeStepsSpec)=true:=by kernel_rfl
theorem aPv:laidOutB Tryz.pinned.checked.prog=true:=by kernel_rfl
theorem aPw:mapsRowed Tryz.pinned.checked.prog=true:=by kernel_rfl
theorem aPx:(Rows.encodeStepsRow.inPlace==Tryz.pinned.checked.prog.inPlace 9)=true:=by kernel_rfl
theorem aPy:(Rows.encodeStepsRow.unfollowed==Tryz.pinned.checked.prog.unfollowed 9)=true:=by kernel_rfl
theorem aPz:(Rows.encodeStepsRow.recurses==Tryz.pinned.checked.prog.recurses 9)=true:=by kernel_rfl
theorem aQa:(Rows.encodeStepsRow.named==Tryz.pinned.checked.prog.varsNamed 9)=true:=by kernel_rfl
theorem aQb:(Rows.encodeStepsRow.plainKeys==Tryz.pinned.checked.prog.plainKeys)=true:=by kernel_rfl
theorem aQc:Tryz.pinned.checked.prog.stopsHeard=true:=by kernel_rfl
theorem aQd:Tryz.pinned.checked.prog.mayEnter=true:=by kernel_rfl
theorem aOs:(Rows.encodeStepsRow.lifted==Tryz.pinned.checked.prog.liftsFinal)=true:=by kernel_rfl
theorem aOy:joinedFacts Tryz.pinned.checked.prog 9 Tryz.f9 Rows.encodeStepsSpec Rows.encodeStepsRow=true:=by
 unfold joinedFacts
 rw [aPu,aPv,aPw,aPx,aPy,aPz,aQa,aQb,aQc,aQd,aOs]
 kernel_rfl
theorem aQt:Rows.EncodeStepsSaid:=
 OpenClaim.holds_of_wide 9 Tryz.f9 rfl rfl rfl rfl rfl rfl rfl ⟨rfl,rfl,rfl,rfl,rfl⟩ rfl rfl rfl rfl rfl (by kernel_rfl) Tryz.func9 aOy
  (of_decide_eq_true (by kernel_rfl)) (by unfold Func.isWrapper;first | (rw [if_pos (by decide +kernel)];kernel_rfl) | (rw [if_neg (by decide +kernel)];exact ⟨rfl,rfl⟩))
  (fun os started H enc _=>lifted os started H enc)
theorem plain (f : FuncId) (fn : Func) (hf : Tryz.pinned.checked.prog.funcNamed "quartermaster/quartermasterlaw.EncodeSteps" = some f) (hfn : Tryz.pinned.checked.prog.funcs[f]? = some fn) :
  true=Tryz.pinned.checked.prog.looks []/\∀ (j:Nat) t,fn.params[j]? = some t->Tryz.pinned.checked.prog.wantsStandIn t=false:=by
 obtain rfl : f = 9 := Option.some.inj ((show Tryz.prog.funcNamed "quartermaster/quartermasterlaw.EncodeSteps" = some 9 by kernel_rfl).symm.trans hf) |>.symm
 obtain rfl:fn=Tryz.f9:=(Option.some.inj (Tryz.func9.symm.trans hfn)).symm
 refine ⟨by kernel_rfl,fun j t ht=> ?_⟩
 rw [Tryz.params9] at ht
 have hm:t ∈ [24,46]:=by simpa using Array.mem_of_getElem? ht
 have hall:([24,46].all fun u=> !Tryz.prog.wantsStandIn u)=true:=by kernel_rfl
 exact (show Tryz.prog.wantsStandIn t=false by simpa using List.all_eq_true.1 hall t hm)
theorem aPt:Tryz.pinned.checked.prog.mainIs=some (Rows.encodeStepsCard.stood.harness.1,Rows.encodeStepsCard.stood.harness.2.toList):=by kernel_rfl
theorem aPs:false=Rows.encodeStepsRow.goesBy Tryz.pinned.checked.prog:=by kernel_rfl
theorem card:Rows.EncodeStepsCardSaid:=
 Claim7.holds_tied_plain_at .later [] _ _ _ _ aQt (fun _ h=>by cases h) (by kernel_rfl) (fun _ h=>by cases h) encodeSteps_row_tie rfl ⟨rfl,rfl⟩ aPt rfl plain aPs
end Go.Proofs.YthaaaecmeafofaaGreatDoor.encodeSteps
namespace Go.Proofs.YthaaaecmeafofaaGreatDoor
theorem encodeSteps_holds:Rows.EncodeStepsCardSaid:=encodeSteps.card
#print axioms encodeSteps_holds
end Go.Proofs.YthaaaecmeafofaaGreatDoor
