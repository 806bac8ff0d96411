/- ResolveBest's card: of any tree, wish and set the law returns true; what the program lays at its start is the premise that the card ties. -/
import Derived.Test.YthaaaecmeafofaaGreatDoorCards
import Derived.Test.YthaaaecmeafofaaGreatDoorTie
import Derived.Test.YthaaaecmeafofaaGreatDoorRb32
import Derived.Lay
namespace Go.Proofs.YthaaaecmeafofaaGreatDoor.resolveBest
open Go.ChangeShapes Go.WideShapes Go.ChangeAt Go.RowKit
open Go.ChangeMaps (open_string shut_string)
theorem own:ownKnob Tryz.prog.godebug=none:=by kernel_rfl
theorem zE:laidOutB Tryz.prog=true:=by kernel_rfl
set_option maxRecDepth 100000 in
theorem tU (H:Type) (enc:TypeId × Value->H) (W:World) (base:Nat) (args:Array Value) (ds gs:List (DataW H)) (before:List MemPlace)
  (hval : ∀ (j:Nat) t v,Tryz.f5.params[j]? = some t->args[j]? = some v->Value.okWide Tryz.prog W .any base t v)
  (hW:DataW.Whole enc Tryz.prog Tryz.f5.params.toList Rows.resolveBestSpec.vars false W args.toList ds gs before) (hL:laidMetH Tryz.prog Rows.resolveBestRow.laid W) (hsh:W.ShapedOpen Tryz.prog) :
  Calls Tryz.prog 5 args W fun e W'=> ∃ v,e=.returned v/\Rows.resolveBestSpec.post enc Tryz.prog Tryz.f5 false true false false W args v W':=by
 have hW':=hW
 obtain ⟨p,q,hA0,hV,rfl,hfz,hnd⟩:=hW
 have hA:DataW.TrodAll enc Tryz.prog W 0 (fun _=>true) true Tryz.f5.params.toList args.toList ds p:=hA0
 rw [Tryz.params5] at hA hval
 obtain ⟨v0,vs0,d0,ds0,p0,q0,hargs,rfl,rfl,h0,r0⟩:=trodAll_cons hA
 obtain ⟨v1,vs1,d1,ds1,p1,q1,rfl,rfl,rfl,h1,r1⟩:=trodAll_cons r0
 obtain ⟨v2,vs2,d2,ds2,p2,q2,rfl,rfl,rfl,h2,r2⟩:=trodAll_cons r1
 obtain ⟨rfl,rfl,rfl⟩:=trodAll_nil r2
 obtain rfl:args=#[v0,v1,v2]:=by cases args;simp_all
 obtain ⟨rfl,rfl⟩:=trodVars_none hV
 have lt0 : ∀ x∈p0,x.block<W.heap.size:=by obtain ⟨m,hm⟩:=h0;exact DataW.trod_lt m _ _ _ hm
 have k0:=h0
 have lt1 : ∀ x∈p1,x.block<W.heap.size:=by obtain ⟨m,hm⟩:=h1;exact DataW.trod_lt m _ _ _ hm
 have k1:=h1
 have lt2 : ∀ x∈p2,x.block<W.heap.size:=by obtain ⟨m,hm⟩:=h2;exact DataW.trod_lt m _ _ _ hm
 have k2:=h2
 obtain ⟨ps0,pv0,rfl,nd0⟩:=aKj (hval 0 24 v0 rfl rfl) h0
 obtain ⟨wi1,ts1,in1,ma1,on1,rfl,nd1⟩:=aKk (hval 1 46 v1 rfl rfl) h1
 obtain ⟨ms2,nd2⟩:=aNx (hval 2 25 v2 rfl rfl) h2
 clear hA0
 rw [MakeChecks.laidMetH_plain _ _ _ (by kernel_rfl)] at hL
 have hE:Env W:=aRt hL (by simp [Rows.resolveBestRow]) (by simp [Rows.resolveBestRow]) (by simp [Rows.resolveBestRow]) (by simp [Rows.resolveBestRow])
 have hM:kX W:=aNh hsh
 have hcap:kV pv0:=aNw h0
 refine (zS (fun b=>b<W.heap.size) ps0 wi1 ms2 pv0 ts1 in1 ma1 on1 v2 W (fun _ h=>h) nd0 nd1 nd2 hcap hE hM).mono fun e W' ⟨he,bel⟩=> ?_
 subst he
 exact ⟨_,rfl,_,_,_,[],_,[],hW',trodAll_mk1 (shut_bool Tryz.underlying4 _),
  (trodAll_cons_mk (Below.trod zE (by kernel_rfl) (of_decide_eq_true (by kernel_rfl)) k0 bel lt0) (trodAll_cons_mk (Below.trod zE (by kernel_rfl) (of_decide_eq_true (by kernel_rfl)) k1 bel lt1) (trodAll_cons_mk (Below.trod zE (by kernel_rfl) (of_decide_eq_true (by kernel_rfl)) k2 bel lt2) trodAll_mk0))),rfl,bel.frame _,fun h=>by cases h⟩
set_option maxRecDepth 100000 in
theorem lifted (os:Os) (started:os.Started) (H:Type) (enc:TypeId × Value->H) :
  ReturnsInHanded {} Tryz.checked os 5 .any (fun w args=>(Rows.resolveBestSpec.pre enc Tryz.prog Tryz.f5 Rows.resolveBestRow.domain false w args/\laidMetH Tryz.prog Rows.resolveBestRow.laid w)/\sizedMet enc Tryz.prog Tryz.f5 (OpenSpec.ofChange Rows.resolveBestSpec) false w args)
   (Rows.resolveBestSpec.post enc Tryz.prog Tryz.f5 false true false false):=by
 refine wK (C:=Tryz.checked) (X:=fun w _=>laidMetH Tryz.prog Rows.resolveBestRow.laid w) (fun _ _ _ hh h=>h.of_heap hh) own started (by kernel_rfl) Tryz.func5
  (ChangeSpec.witness_shaped (enc:=enc) (C:=Tryz.checked) (os:=os) (X:=fun w _=>laidMetH Tryz.prog Rows.resolveBestRow.laid w) false (World.laidAll Tryz.prog os Rows.resolveBestRow.laid) #[.agg #[.slice none 0 0],.agg #[.slice none 0 0,.slice none 0 0,.slice none 0 0,.slice none 0 0],.slice none 0 0] 8 (World.laidAll_os _ _ _)
   (World.shaped_of_ZipB (by kernel_rfl) (by kernel_rfl)) (by kernel_rfl) (by kernel_rfl) (by kernel_rfl)
   (by rw [MakeChecks.laidMetH_plain _ _ _ (by kernel_rfl)];exact laidMet_laidAll _ (by kernel_rfl) (by kernel_rfl))) ?_
 intro W base args ds gs before hval hW hL hsh
 exact tU H enc W base args ds gs before hval hW hL hsh
theorem aTc:Rows.resolveBestRow.wf (OpenSpec.ofChange Rows.resolveBestSpec)=true:=by kernel_rfl
theorem aTd:laidOutB Tryz.pinned.checked.prog=true:=by kernel_rfl
theorem aTe:mapsRowed Tryz.pinned.checked.prog=true:=by kernel_rfl
theorem aTf:(Rows.resolveBestRow.inPlace==Tryz.pinned.checked.prog.inPlace 5)=true:=by kernel_rfl
theorem aTg:(Rows.resolveBestRow.unfollowed==Tryz.pinned.checked.prog.unfollowed 5)=true:=by kernel_rfl
theorem aTh:(Rows.resolveBestRow.recurses==Tryz.pinned.checked.prog.recurses 5)=true:=by kernel_rfl
theorem aTi:(Rows.resolveBestRow.named==Tryz.pinned.checked.prog.varsNamed 5)=true:=by kernel_rfl
theorem aTj:(Rows.resolveBestRow.plainKeys==Tryz.pinned.checked.prog.plainKeys)=true:=by kernel_rfl
theorem aTk:Tryz.pinned.checked.prog.stopsHeard=true:=by kernel_rfl
theorem aTl:Tryz.pinned.checked.prog.mayEnter=true:=by kernel_rfl
theorem aRu:(Rows.resolveBestRow.lifted==Tryz.pinned.checked.prog.liftsFinal)=true:=by kernel_rfl
theorem aSb:joinedFacts Tryz.pinned.checked.prog 5 Tryz.f5 Rows.resolveBestSpec Rows.resolveBestRow=true:=by
 unfold joinedFacts
 rw [aTc,aTd,aTe,aTf,aTg,aTh,aTi,aTj,aTk,aTl,aRu]
 kernel_rfl
theorem aUc:Rows.ResolveBestSaid:=
 OpenClaim.holds_of_wide 5 Tryz.f5 rfl rfl rfl rfl rfl rfl rfl ⟨rfl,rfl,rfl,rfl,rfl⟩ rfl rfl rfl rfl rfl (by kernel_rfl) Tryz.func5 aSb
  (of_decide_eq_true (by kernel_rfl)) (by unfold Func.isWrapper;first | (rw [if_pos (by decide +kernel)];kernel_rfl) | (rw [if_neg (by decide +kernel)];exact ⟨rfl,rfl⟩))
  (fun os started H enc _=>lifted os started H enc)
theorem plain (f : FuncId) (fn : Func) (hf : Tryz.pinned.checked.prog.funcNamed "quartermaster/quartermasterlaw.ResolveBest" = some f) (hfn : Tryz.pinned.checked.prog.funcs[f]? = some fn) :
  true=Tryz.pinned.checked.prog.looks []/\∀ (j:Nat) t,fn.params[j]? = some t->Tryz.pinned.checked.prog.wantsStandIn t=false:=by
 obtain rfl : f = 5 := Option.some.inj ((show Tryz.prog.funcNamed "quartermaster/quartermasterlaw.ResolveBest" = some 5 by kernel_rfl).symm.trans hf) |>.symm
 obtain rfl:fn=Tryz.f5:=(Option.some.inj (Tryz.func5.symm.trans hfn)).symm
 refine ⟨by kernel_rfl,fun j t ht=> ?_⟩
 rw [Tryz.params5] at ht
 have hm:t ∈ [24,46,25]:=by simpa using Array.mem_of_getElem? ht
 have hall:([24,46,25].all fun u=> !Tryz.prog.wantsStandIn u)=true:=by kernel_rfl
 exact (show Tryz.prog.wantsStandIn t=false by simpa using List.all_eq_true.1 hall t hm)
theorem aTa:Tryz.pinned.checked.prog.mainIs=some (Rows.resolveBestCard.stood.harness.1,Rows.resolveBestCard.stood.harness.2.toList):=by kernel_rfl
theorem aSz:false=Rows.resolveBestRow.goesBy Tryz.pinned.checked.prog:=by kernel_rfl
theorem card:Rows.ResolveBestCardSaid:=
 Claim7.holds_tied_plain_at .later [] _ _ _ _ aUc (fun _ h=>by cases h) (by kernel_rfl) (fun _ h=>by cases h) resolveBest_row_tie rfl ⟨rfl,rfl⟩ aTa rfl plain aSz
end Go.Proofs.YthaaaecmeafofaaGreatDoor.resolveBest
namespace Go.Proofs.YthaaaecmeafofaaGreatDoor
theorem resolveBest_holds:Rows.ResolveBestCardSaid:=resolveBest.card
#print axioms resolveBest_holds
end Go.Proofs.YthaaaecmeafofaaGreatDoor
