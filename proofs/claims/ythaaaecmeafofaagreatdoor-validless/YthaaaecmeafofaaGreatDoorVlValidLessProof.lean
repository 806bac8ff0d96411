/- ValidLess's card: of any tree, wish and set the law returns true; what the program lays at its start is the premise that the card ties. -/
import Derived.Test.YthaaaecmeafofaaGreatDoorCards
import Derived.Test.YthaaaecmeafofaaGreatDoorTie
import Derived.Test.YthaaaecmeafofaaGreatDoorVl12
import Derived.Test.YthaaaecmeafofaaGreatDoorVl13
import Derived.Lay
namespace Go.Proofs.YthaaaecmeafofaaGreatDoor.validLess
open Go.ChangeShapes Go.WideShapes Go.ChangeAt Go.RowKit
open Go.ChangeMaps (open_string shut_string)
theorem own:ownKnob Tryz.prog.godebug=none:=by kernel_rfl
theorem nR:laidOutB Tryz.prog=true:=by kernel_rfl
set_option maxRecDepth 100000 in
theorem kK (H:Type) (enc:TypeId × Value->H) (W:World) (base:Nat) (args:Array Value) (ds gs:List (DataW H)) (before:List MemPlace)
  (hval : ∀ (j:Nat) t v,Tryz.f7.params[j]? = some t->args[j]? = some v->Value.okWide Tryz.prog W .any base t v)
  (hW:DataW.Whole enc Tryz.prog Tryz.f7.params.toList Rows.validLessSpec.vars false W args.toList ds gs before) (hL:laidMetH Tryz.prog Rows.validLessRow.laid W) (hsh:W.ShapedOpen Tryz.prog) :
  Calls Tryz.prog 7 args W fun e W'=> ∃ v,e=.returned v/\Rows.validLessSpec.post enc Tryz.prog Tryz.f7 false true false false W args v W':=by
 have hW':=hW
 obtain ⟨p,q,hA0,hV,rfl,hfz,hnd⟩:=hW
 have hA:DataW.TrodAll enc Tryz.prog W 0 (fun _=>true) true Tryz.f7.params.toList args.toList ds p:=hA0
 rw [Tryz.params7] at hA hval
 obtain ⟨v0,vs0,d0,ds0,p0,q0,hargs,rfl,rfl,h0,r0⟩:=trodAll_cons hA
 obtain ⟨v1,vs1,d1,ds1,p1,q1,rfl,rfl,rfl,h1,r1⟩:=trodAll_cons r0
 obtain ⟨v2,vs2,d2,ds2,p2,q2,rfl,rfl,rfl,h2,r2⟩:=trodAll_cons r1
 obtain ⟨rfl,rfl,rfl⟩:=trodAll_nil r2
 obtain rfl:args=#[v0,v1,v2]:=by cases args;simp_all
 obtain ⟨rfl,rfl⟩:=trodVars_none hV
 have lt0 : ∀ x∈p0,x.block<W.heap.size:=by obtain ⟨m,hm⟩:=h0;exact DataW.trod_lt m _ _ _ hm
 have k0:=h0
 have lt1 : ∀ x∈p1,x.block<W.heap.size:=by obtain ⟨m,hm⟩:=h1;exact DataW.trod_lt m _ _ _ hm
 have k1:=h1
 have lt2 : ∀ x∈p2,x.block<W.heap.size:=by obtain ⟨m,hm⟩:=h2;exact DataW.trod_lt m _ _ _ hm
 have k2:=h2
 obtain ⟨ps0,pv0,rfl,nd0⟩:=tT (hval 0 24 v0 rfl rfl) h0
 obtain ⟨wi1,ts1,in1,ma1,on1,rfl,nd1⟩:=tU (hval 1 46 v1 rfl rfl) h1
 obtain ⟨ms2,nd2⟩:=vQ (hval 2 25 v2 rfl rfl) h2
 clear hA0
 rw [MakeChecks.laidMetH_plain _ _ _ (by kernel_rfl)] at hL
 have hE:Env W:=xI hL (by simp [Rows.validLessRow]) (by simp [Rows.validLessRow]) (by simp [Rows.validLessRow]) (by simp [Rows.validLessRow])
 have hM:eN W:=vH hsh
 refine (lM (fun b=>b<W.heap.size) ps0 wi1 ms2 pv0 ts1 in1 ma1 on1 v2 W (fun _ h=>h) nd0 nd1 nd2 hE hM).mono fun e W' ⟨he,bel⟩=> ?_
 subst he
 exact ⟨_,rfl,_,_,_,[],_,[],hW',trodAll_mk1 (shut_bool Tryz.underlying4 _),
  (trodAll_cons_mk (Below.trod nR (by kernel_rfl) (of_decide_eq_true (by kernel_rfl)) k0 bel lt0) (trodAll_cons_mk (Below.trod nR (by kernel_rfl) (of_decide_eq_true (by kernel_rfl)) k1 bel lt1) (trodAll_cons_mk (Below.trod nR (by kernel_rfl) (of_decide_eq_true (by kernel_rfl)) k2 bel lt2) trodAll_mk0))),rfl,bel.frame _,fun h=>by cases h⟩
set_option maxRecDepth 100000 in
theorem lifted (os:Os) (started:os.Started) (H:Type) (enc:TypeId × Value->H) :
  ReturnsInHanded {} Tryz.checked os 7 .any (fun w args=>(Rows.validLessSpec.pre enc Tryz.prog Tryz.f7 Rows.validLessRow.domain false w args/\laidMetH Tryz.prog Rows.validLessRow.laid w)/\sizedMet enc Tryz.prog Tryz.f7 (OpenSpec.ofChange Rows.validLessSpec) false w args)
   (Rows.validLessSpec.post enc Tryz.prog Tryz.f7 false true false false):=by
 refine mD (C:=Tryz.checked) (X:=fun w _=>laidMetH Tryz.prog Rows.validLessRow.laid w) (fun _ _ _ hh h=>h.of_heap hh) own started (by kernel_rfl) Tryz.func7
  (ChangeSpec.witness_shaped (enc:=enc) (C:=Tryz.checked) (os:=os) (X:=fun w _=>laidMetH Tryz.prog Rows.validLessRow.laid w) false (World.laidAll Tryz.prog os Rows.validLessRow.laid) #[.agg #[.slice none 0 0],.agg #[.slice none 0 0,.slice none 0 0,.slice none 0 0,.slice none 0 0],.slice none 0 0] 8 (World.laidAll_os _ _ _)
   (World.shaped_of_ZipB (by kernel_rfl) (by kernel_rfl)) (by kernel_rfl) (by kernel_rfl) (by kernel_rfl)
   (by rw [MakeChecks.laidMetH_plain _ _ _ (by kernel_rfl)];exact laidMet_laidAll _ (by kernel_rfl) (by kernel_rfl))) ?_
 intro W base args ds gs before hval hW hL hsh
 exact kK H enc W base args ds gs before hval hW hL hsh
theorem yD:Rows.validLessRow.wf (OpenSpec.ofChange Rows.validLessSpec)=true:=by kernel_rfl
theorem yE:laidOutB Tryz.pinned.checked.prog=true:=by kernel_rfl
theorem yF:mapsRowed Tryz.pinned.checked.prog=true:=by kernel_rfl
theorem yG:(Rows.validLessRow.inPlace==Tryz.pinned.checked.prog.inPlace 7)=true:=by kernel_rfl
theorem yH:(Rows.validLessRow.unfollowed==Tryz.pinned.checked.prog.unfollowed 7)=true:=by kernel_rfl
theorem yI:(Rows.validLessRow.recurses==Tryz.pinned.checked.prog.recurses 7)=true:=by kernel_rfl
theorem yJ:(Rows.validLessRow.named==Tryz.pinned.checked.prog.varsNamed 7)=true:=by kernel_rfl
theorem yK:(Rows.validLessRow.plainKeys==Tryz.pinned.checked.prog.plainKeys)=true:=by kernel_rfl
theorem yL:Tryz.pinned.checked.prog.stopsHeard=true:=by kernel_rfl
theorem yM:Tryz.pinned.checked.prog.mayEnter=true:=by kernel_rfl
theorem xJ:(Rows.validLessRow.lifted==Tryz.pinned.checked.prog.liftsFinal)=true:=by kernel_rfl
theorem xL:joinedFacts Tryz.pinned.checked.prog 7 Tryz.f7 Rows.validLessSpec Rows.validLessRow=true:=by
 unfold joinedFacts
 rw [yD,yE,yF,yG,yH,yI,yJ,yK,yL,yM,xJ]
 kernel_rfl
theorem zA:Rows.ValidLessSaid:=
 OpenClaim.holds_of_wide 7 Tryz.f7 rfl rfl rfl rfl rfl rfl rfl ⟨rfl,rfl,rfl,rfl,rfl⟩ rfl rfl rfl rfl rfl (by kernel_rfl) Tryz.func7 xL
  (of_decide_eq_true (by kernel_rfl)) (by unfold Func.isWrapper;first | (rw [if_pos (by decide +kernel)];kernel_rfl) | (rw [if_neg (by decide +kernel)];exact ⟨rfl,rfl⟩))
  (fun os started H enc _=>lifted os started H enc)
theorem plain (f : FuncId) (fn : Func) (hf : Tryz.pinned.checked.prog.funcNamed "quartermaster/quartermasterlaw.ValidLess" = some f) (hfn : Tryz.pinned.checked.prog.funcs[f]? = some fn) :
  true=Tryz.pinned.checked.prog.looks []/\∀ (j:Nat) t,fn.params[j]? = some t->Tryz.pinned.checked.prog.wantsStandIn t=false:=by
 obtain rfl : f = 7 := Option.some.inj ((show Tryz.prog.funcNamed "quartermaster/quartermasterlaw.ValidLess" = some 7 by kernel_rfl).symm.trans hf) |>.symm
 obtain rfl:fn=Tryz.f7:=(Option.some.inj (Tryz.func7.symm.trans hfn)).symm
 refine ⟨by kernel_rfl,fun j t ht=> ?_⟩
 rw [Tryz.params7] at ht
 have hm:t ∈ [24,46,25]:=by simpa using Array.mem_of_getElem? ht
 have hall:([24,46,25].all fun u=> !Tryz.prog.wantsStandIn u)=true:=by kernel_rfl
 exact (show Tryz.prog.wantsStandIn t=false by simpa using List.all_eq_true.1 hall t hm)
theorem yC:Tryz.pinned.checked.prog.mainIs=some (Rows.validLessCard.stood.harness.1,Rows.validLessCard.stood.harness.2.toList):=by kernel_rfl
theorem yB:false=Rows.validLessRow.goesBy Tryz.pinned.checked.prog:=by kernel_rfl
theorem card:Rows.ValidLessCardSaid:=
 Claim7.holds_tied_plain_at .later [] _ _ _ _ zA (fun _ h=>by cases h) (by kernel_rfl) (fun _ h=>by cases h) validLess_row_tie rfl ⟨rfl,rfl⟩ yC rfl plain yB
end Go.Proofs.YthaaaecmeafofaaGreatDoor.validLess
namespace Go.Proofs.YthaaaecmeafofaaGreatDoor
theorem validLess_holds:Rows.ValidLessCardSaid:=validLess.card
#print axioms validLess_holds
end Go.Proofs.YthaaaecmeafofaaGreatDoor
