/- ValidSays's card: of any tree, wish, set and number the law returns true; what the program lays at its start is the premise that the card ties. -/
import Derived.Test.YthaaaecmeafofaaGreatDoorCards
import Derived.Test.YthaaaecmeafofaaGreatDoorTie
import Derived.Test.YthaaaecmeafofaaGreatDoorVs16
import Derived.Test.YthaaaecmeafofaaGreatDoorVs17
import Derived.Lay
namespace Go.Proofs.YthaaaecmeafofaaGreatDoor.validSays
open Go.ChangeShapes Go.WideShapes Go.ChangeAt Go.RowKit
open Go.ChangeMaps (open_string shut_string)
theorem own:ownKnob Tryz.prog.godebug=none:=by kernel_rfl
theorem mD:laidOutB Tryz.prog=true:=by kernel_rfl
set_option maxRecDepth 100000 in
theorem mJ (H:Type) (enc:TypeId × Value->H) (W:World) (base:Nat) (args:Array Value) (ds gs:List (DataW H)) (before:List MemPlace)
  (hval : ∀ (j:Nat) t v,Tryz.f6.params[j]? = some t->args[j]? = some v->Value.okWide Tryz.prog W .any base t v)
  (hW:DataW.Whole enc Tryz.prog Tryz.f6.params.toList Rows.validSaysSpec.vars false W args.toList ds gs before) (hL:laidMetH Tryz.prog Rows.validSaysRow.laid W) (hsh:W.ShapedOpen Tryz.prog) :
  Calls Tryz.prog 6 args W fun e W'=> ∃ v,e=.returned v/\Rows.validSaysSpec.post enc Tryz.prog Tryz.f6 false true false false W args v W':=by
 have hW':=hW
 obtain ⟨p,q,hA0,hV,rfl,hfz,hnd⟩:=hW
 have hA:DataW.TrodAll enc Tryz.prog W 0 (fun _=>true) true Tryz.f6.params.toList args.toList ds p:=hA0
 rw [Tryz.params6] at hA hval
 obtain ⟨v0,vs0,d0,ds0,p0,q0,hargs,rfl,rfl,h0,r0⟩:=trodAll_cons hA
 obtain ⟨v1,vs1,d1,ds1,p1,q1,rfl,rfl,rfl,h1,r1⟩:=trodAll_cons r0
 obtain ⟨v2,vs2,d2,ds2,p2,q2,rfl,rfl,rfl,h2,r2⟩:=trodAll_cons r1
 obtain ⟨v3,vs3,d3,ds3,p3,q3,rfl,rfl,rfl,h3,r3⟩:=trodAll_cons r2
 obtain ⟨rfl,rfl,rfl⟩:=trodAll_nil r3
 obtain rfl:args=#[v0,v1,v2,v3]:=by cases args;simp_all
 obtain ⟨rfl,rfl⟩:=trodVars_none hV
 have lt0 : ∀ x∈p0,x.block<W.heap.size:=by obtain ⟨m,hm⟩:=h0;exact DataW.trod_lt m _ _ _ hm
 have k0:=h0
 have lt1 : ∀ x∈p1,x.block<W.heap.size:=by obtain ⟨m,hm⟩:=h1;exact DataW.trod_lt m _ _ _ hm
 have k1:=h1
 have lt2 : ∀ x∈p2,x.block<W.heap.size:=by obtain ⟨m,hm⟩:=h2;exact DataW.trod_lt m _ _ _ hm
 have k2:=h2
 have lt3 : ∀ x∈p3,x.block<W.heap.size:=by obtain ⟨m,hm⟩:=h3;exact DataW.trod_lt m _ _ _ hm
 have k3:=h3
 obtain ⟨ps0,pv0,rfl,nd0⟩:=wU (hval 0 24 v0 rfl rfl) h0
 obtain ⟨wi1,ts1,in1,ma1,on1,rfl,nd1⟩:=wV (hval 1 46 v1 rfl rfl) h1
 obtain ⟨ms2,nd2⟩:=yZ (hval 2 25 v2 rfl rfl) h2
 obtain ⟨i3,rfl,_,_,hi3⟩:=open_int Tryz.underlying3 (hval 3 3 v3 rfl rfl) h3
 clear hA0
 rw [MakeChecks.laidMetH_plain _ _ _ (by kernel_rfl)] at hL
 have hE:Env W:=aAw hL (by simp [Rows.validSaysRow]) (by simp [Rows.validSaysRow]) (by simp [Rows.validSaysRow]) (by simp [Rows.validSaysRow])
 have hM:fS W:=yP hsh
 refine (nS (fun b=>b<W.heap.size) ps0 wi1 ms2 i3 pv0 ts1 in1 ma1 on1 v2 W (fun _ h=>h) nd0 nd1 nd2 hE hM).mono fun e W' ⟨he,bel⟩=> ?_
 subst he
 exact ⟨_,rfl,_,_,_,[],_,[],hW',trodAll_mk1 (shut_bool Tryz.underlying4 _),
  (trodAll_cons_mk (Below.trod mD (by kernel_rfl) (of_decide_eq_true (by kernel_rfl)) k0 bel lt0) (trodAll_cons_mk (Below.trod mD (by kernel_rfl) (of_decide_eq_true (by kernel_rfl)) k1 bel lt1) (trodAll_cons_mk (Below.trod mD (by kernel_rfl) (of_decide_eq_true (by kernel_rfl)) k2 bel lt2) (trodAll_cons_mk (Below.trod mD (by kernel_rfl) (of_decide_eq_true (by kernel_rfl)) k3 bel lt3) trodAll_mk0)))),rfl,bel.frame _,fun h=>by cases h⟩
set_option maxRecDepth 100000 in
theorem lifted (os:Os) (started:os.Started) (H:Type) (enc:TypeId × Value->H) :
  ReturnsInHanded {} Tryz.checked os 6 .any (fun w args=>(Rows.validSaysSpec.pre enc Tryz.prog Tryz.f6 Rows.validSaysRow.domain false w args/\laidMetH Tryz.prog Rows.validSaysRow.laid w)/\sizedMet enc Tryz.prog Tryz.f6 (OpenSpec.ofChange Rows.validSaysSpec) false w args)
   (Rows.validSaysSpec.post enc Tryz.prog Tryz.f6 false true false false):=by
 refine oG (C:=Tryz.checked) (X:=fun w _=>laidMetH Tryz.prog Rows.validSaysRow.laid w) (fun _ _ _ hh h=>h.of_heap hh) own started (by kernel_rfl) Tryz.func6
  (ChangeSpec.witness_shaped (enc:=enc) (C:=Tryz.checked) (os:=os) (X:=fun w _=>laidMetH Tryz.prog Rows.validSaysRow.laid w) false (World.laidAll Tryz.prog os Rows.validSaysRow.laid) #[.agg #[.slice none 0 0],.agg #[.slice none 0 0,.slice none 0 0,.slice none 0 0,.slice none 0 0],.slice none 0 0,.int .i64 0] 8 (World.laidAll_os _ _ _)
   (World.shaped_of_ZipB (by kernel_rfl) (by kernel_rfl)) (by kernel_rfl) (by kernel_rfl) (by kernel_rfl)
   (by rw [MakeChecks.laidMetH_plain _ _ _ (by kernel_rfl)];exact laidMet_laidAll _ (by kernel_rfl) (by kernel_rfl))) ?_
 intro W base args ds gs before hval hW hL hsh
 exact mJ H enc W base args ds gs before hval hW hL hsh
theorem aBr:Rows.validSaysRow.wf (OpenSpec.ofChange Rows.validSaysSpec)=true:=by kernel_rfl
theorem aBs:laidOutB Tryz.pinned.checked.prog=true:=by kernel_rfl
theorem aBt:mapsRowed Tryz.pinned.checked.prog=true:=by kernel_rfl
theorem aBu:(Rows.validSaysRow.inPlace==Tryz.pinned.checked.prog.inPlace 6)=true:=by kernel_rfl
theorem aBv:(Rows.validSaysRow.unfollowed==Tryz.pinned.checked.prog.unfollowed 6)=true:=by kernel_rfl
theorem aBw:(Rows.validSaysRow.recurses==Tryz.pinned.checked.prog.recurses 6)=true:=by kernel_rfl
theorem aBx:(Rows.validSaysRow.named==Tryz.pinned.checked.prog.varsNamed 6)=true:=by kernel_rfl
theorem aBy:(Rows.validSaysRow.plainKeys==Tryz.pinned.checked.prog.plainKeys)=true:=by kernel_rfl
theorem aBz:Tryz.pinned.checked.prog.stopsHeard=true:=by kernel_rfl
theorem aCa:Tryz.pinned.checked.prog.mayEnter=true:=by kernel_rfl
theorem aAx:(Rows.validSaysRow.lifted==Tryz.pinned.checked.prog.liftsFinal)=true:=by kernel_rfl
theorem aAz:joinedFacts Tryz.pinned.checked.prog 6 Tryz.f6 Rows.validSaysSpec Rows.validSaysRow=true:=by
 unfold joinedFacts
 rw [aBr,aBs,aBt,aBu,aBv,aBw,aBx,aBy,aBz,aCa,aAx]
 kernel_rfl
theorem aCo:Rows.ValidSaysSaid:=
 OpenClaim.holds_of_wide 6 Tryz.f6 rfl rfl rfl rfl rfl rfl rfl ⟨rfl,rfl,rfl,rfl,rfl⟩ rfl rfl rfl rfl rfl (by kernel_rfl) Tryz.func6 aAz
  (of_decide_eq_true (by kernel_rfl)) (by unfold Func.isWrapper;first | (rw [if_pos (by decide +kernel)];kernel_rfl) | (rw [if_neg (by decide +kernel)];exact ⟨rfl,rfl⟩))
  (fun os started H enc _=>lifted os started H enc)
theorem plain (f : FuncId) (fn : Func) (hf : Tryz.pinned.checked.prog.funcNamed "quartermaster/quartermasterlaw.ValidSays" = some f) (hfn : Tryz.pinned.checked.prog.funcs[f]? = some fn) :
  true=Tryz.pinned.checked.prog.looks []/\∀ (j:Nat) t,fn.params[j]? = some t->Tryz.pinned.checked.prog.wantsStandIn t=false:=by
 obtain rfl : f = 6 := Option.some.inj ((show Tryz.prog.funcNamed "quartermaster/quartermasterlaw.ValidSays" = some 6 by kernel_rfl).symm.trans hf) |>.symm
 obtain rfl:fn=Tryz.f6:=(Option.some.inj (Tryz.func6.symm.trans hfn)).symm
 refine ⟨by kernel_rfl,fun j t ht=> ?_⟩
 rw [Tryz.params6] at ht
 have hm:t ∈ [24,46,25,3]:=by simpa using Array.mem_of_getElem? ht
 have hall:([24,46,25,3].all fun u=> !Tryz.prog.wantsStandIn u)=true:=by kernel_rfl
 exact (show Tryz.prog.wantsStandIn t=false by simpa using List.all_eq_true.1 hall t hm)
theorem aBp:Tryz.pinned.checked.prog.mainIs=some (Rows.validSaysCard.stood.harness.1,Rows.validSaysCard.stood.harness.2.toList):=by kernel_rfl
theorem aBo:false=Rows.validSaysRow.goesBy Tryz.pinned.checked.prog:=by kernel_rfl
theorem card:Rows.ValidSaysCardSaid:=
 Claim7.holds_tied_plain_at .later [] _ _ _ _ aCo (fun _ h=>by cases h) (by kernel_rfl) (fun _ h=>by cases h) validSays_row_tie rfl ⟨rfl,rfl⟩ aBp rfl plain aBo
end Go.Proofs.YthaaaecmeafofaaGreatDoor.validSays
namespace Go.Proofs.YthaaaecmeafofaaGreatDoor
theorem validSays_holds:Rows.ValidSaysCardSaid:=validSays.card
#print axioms validSays_holds
end Go.Proofs.YthaaaecmeafofaaGreatDoor
