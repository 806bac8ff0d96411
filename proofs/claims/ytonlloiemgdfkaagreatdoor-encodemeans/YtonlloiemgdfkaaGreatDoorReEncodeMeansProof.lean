/- EncodeMeans's card: of any tree, wish, set and numbers the law returns true; what the program lays at its start is the premise that the card ties. -/
import Derived.Test.YtonlloiemgdfkaaGreatDoorCards
import Derived.Test.YtonlloiemgdfkaaGreatDoorTie
import Derived.Test.YtonlloiemgdfkaaGreatDoorRe47
import Derived.Lay
namespace Go.Proofs.YtonlloiemgdfkaaGreatDoor.encodeMeans
open Go.ChangeShapes Go.WideShapes Go.ChangeAt Go.RowKit
open Go.ChangeMaps (open_string shut_string)
theorem own:ownKnob Tryz.prog.godebug=none:=by kernel_rfl
theorem dO:laidOutB Tryz.prog=true:=by kernel_rfl
set_option maxRecDepth 100000 in
theorem fI (H:Type) (enc:TypeId × Value->H) (W:World) (base:Nat) (args:Array Value) (ds gs:List (DataW H)) (before:List MemPlace)
  (hval : ∀ (j:Nat) t v,Tryz.f14.params[j]? = some t->args[j]? = some v->Value.okWide Tryz.prog W .any base t v)
  (hW:DataW.Whole enc Tryz.prog Tryz.f14.params.toList Rows.encodeMeansSpec.vars false W args.toList ds gs before) (hL:laidMetH Tryz.prog Rows.encodeMeansRow.laid W) (hsh:W.ShapedOpen Tryz.prog) :
  Calls Tryz.prog 14 args W fun e W'=> ∃ v,e=.returned v/\Rows.encodeMeansSpec.post enc Tryz.prog Tryz.f14 false true false false W args v W':=by
 have hW':=hW
 obtain ⟨p,q,hA0,hV,rfl,hfz,hnd⟩:=hW
 have hA:DataW.TrodAll enc Tryz.prog W 0 (fun _=>true) true Tryz.f14.params.toList args.toList ds p:=hA0
 rw [Tryz.params14] at hA hval
 obtain ⟨v0,vs0,d0,ds0,p0,q0,hargs,rfl,rfl,h0,r0⟩:=trodAll_cons hA
 obtain ⟨v1,vs1,d1,ds1,p1,q1,rfl,rfl,rfl,h1,r1⟩:=trodAll_cons r0
 obtain ⟨v2,vs2,d2,ds2,p2,q2,rfl,rfl,rfl,h2,r2⟩:=trodAll_cons r1
 obtain ⟨v3,vs3,d3,ds3,p3,q3,rfl,rfl,rfl,h3,r3⟩:=trodAll_cons r2
 obtain ⟨rfl,rfl,rfl⟩:=trodAll_nil r3
 obtain rfl:args=#[v0,v1,v2,v3]:=by cases args;simp_all
 obtain ⟨rfl,rfl⟩:=trodVars_none hV
 have lt0 : ∀ x∈p0,x.block<W.heap.size:=by obtain ⟨m,hm⟩:=h0;exact DataW.trod_lt m _ _ _ hm
 have k0:=h0
 have lt1 : ∀ x∈p1,x.block<W.heap.size:=by obtain ⟨m,hm⟩:=h1;exact DataW.trod_lt m _ _ _ hm
 have k1:=h1
 have lt2 : ∀ x∈p2,x.block<W.heap.size:=by obtain ⟨m,hm⟩:=h2;exact DataW.trod_lt m _ _ _ hm
 have k2:=h2
 have lt3 : ∀ x∈p3,x.block<W.heap.size:=by obtain ⟨m,hm⟩:=h3;exact DataW.trod_lt m _ _ _ hm
 have k3:=h3
 obtain ⟨ps0,pv0,rfl,nd0⟩:=mG (hval 0 24 v0 rfl rfl) h0
 obtain ⟨wi1,ts1,in1,ma1,on1,rfl,nd1⟩:=pJ (hval 1 30 v1 rfl rfl) h1
 obtain ⟨ms2,nd2⟩:=sV (hval 2 26 v2 rfl rfl) h2
 obtain ⟨zs3,nd3,cp3⟩:=aNo (hval 3 27 v3 rfl rfl) h3
 clear hA0
 rw [MakeChecks.laidMetH_plain _ _ _ (by kernel_rfl)] at hL
 have hE:Env W:=wN hL (by simp [Rows.encodeMeansRow]) (by simp [Rows.encodeMeansRow]) (by simp [Rows.encodeMeansRow]) (by simp [Rows.encodeMeansRow])
 have hM:fQ W:=oI hsh
 have hcap:fB pv0:=oO h0
 refine (zK (fun b=>b<W.heap.size) ps0 wi1 ms2 zs3 pv0 ts1 in1 ma1 on1 v2 v3 W (fun _ h=>h) nd0 nd1 nd2 nd3 hcap cp3 hE hM).mono fun e W' ⟨he,bel⟩=> ?_
 subst he
 exact ⟨_,rfl,_,_,_,[],_,[],hW',trodAll_mk1 (shut_bool Tryz.underlying4 _),
  (trodAll_cons_mk (Below.trod dO (by kernel_rfl) (of_decide_eq_true (by kernel_rfl)) k0 bel lt0) (trodAll_cons_mk (Below.trod dO (by kernel_rfl) (of_decide_eq_true (by kernel_rfl)) k1 bel lt1) (trodAll_cons_mk (Below.trod dO (by kernel_rfl) (of_decide_eq_true (by kernel_rfl)) k2 bel lt2) (trodAll_cons_mk (Below.trod dO (by kernel_rfl) (of_decide_eq_true (by kernel_rfl)) k3 bel lt3) trodAll_mk0)))),rfl,bel.frame _,fun h=>by cases h⟩
set_option maxRecDepth 100000 in
theorem lifted (os:Os) (started:os.Started) (H:Type) (enc:TypeId × Value->H) :
  ReturnsInHanded {} Tryz.checked os 14 .any (fun w args=>(Rows.encodeMeansSpec.pre enc Tryz.prog Tryz.f14 Rows.encodeMeansRow.domain false w args/\laidMetH Tryz.prog Rows.encodeMeansRow.laid w)/\sizedMet enc Tryz.prog Tryz.f14 (OpenSpec.ofChange Rows.encodeMeansSpec) false w args)
   (Rows.encodeMeansSpec.post enc Tryz.prog Tryz.f14 false true false false):=by
 refine fW (C:=Tryz.checked) (X:=fun w _=>laidMetH Tryz.prog Rows.encodeMeansRow.laid w) (fun _ _ _ hh h=>h.of_heap hh) own started (by kernel_rfl) Tryz.func14
  (ChangeSpec.witness_shaped (enc:=enc) (C:=Tryz.checked) (os:=os) (X:=fun w _=>laidMetH Tryz.prog Rows.encodeMeansRow.laid w) false (World.laidAll Tryz.prog os Rows.encodeMeansRow.laid) #[.agg #[.slice none 0 0],.agg #[.slice none 0 0,.slice none 0 0,.slice none 0 0,.slice none 0 0],.slice none 0 0,.slice none 0 0] 8 (World.laidAll_os _ _ _)
   (World.shaped_of_ZipB (by kernel_rfl) (by kernel_rfl)) (by kernel_rfl) (by kernel_rfl) (by kernel_rfl)
   (by rw [MakeChecks.laidMetH_plain _ _ _ (by kernel_rfl)];exact laidMet_laidAll _ (by kernel_rfl) (by kernel_rfl))) ?_
 intro W base args ds gs before hval hW hL hsh
 exact fI H enc W base args ds gs before hval hW hL hsh
theorem rV:Rows.encodeMeansRow.wf (OpenSpec.ofChange Rows.encodeMeansSpec)=true:=by kernel_rfl
theorem rW:laidOutB Tryz.pinned.checked.prog=true:=by kernel_rfl
theorem rX:mapsRowed Tryz.pinned.checked.prog=true:=by kernel_rfl
theorem rY:(Rows.encodeMeansRow.inPlace==Tryz.pinned.checked.prog.inPlace 14)=true:=by kernel_rfl
theorem rZ:(Rows.encodeMeansRow.unfollowed==Tryz.pinned.checked.prog.unfollowed 14)=true:=by kernel_rfl
theorem sC:(Rows.encodeMeansRow.recurses==Tryz.pinned.checked.prog.recurses 14)=true:=by kernel_rfl
theorem sD:(Rows.encodeMeansRow.named==Tryz.pinned.checked.prog.varsNamed 14)=true:=by kernel_rfl
theorem sE:(Rows.encodeMeansRow.plainKeys==Tryz.pinned.checked.prog.plainKeys)=true:=by kernel_rfl
theorem sF:Tryz.pinned.checked.prog.stopsHeard=true:=by kernel_rfl
theorem sG:Tryz.pinned.checked.prog.mayEnter=true:=by kernel_rfl
theorem mU:(Rows.encodeMeansRow.lifted==Tryz.pinned.checked.prog.liftsFinal)=true:=by kernel_rfl
theorem mY:joinedFacts Tryz.pinned.checked.prog 14 Tryz.f14 Rows.encodeMeansSpec Rows.encodeMeansRow=true:=by
 unfold joinedFacts
 rw [rV,rW,rX,rY,rZ,sC,sD,sE,sF,sG,mU]
 kernel_rfl
theorem aCv:Rows.EncodeMeansSaid:=
 OpenClaim.holds_of_wide 14 Tryz.f14 rfl rfl rfl rfl rfl rfl rfl ⟨rfl,rfl,rfl,rfl,rfl⟩ rfl rfl rfl rfl rfl (by kernel_rfl) Tryz.func14 mY
  (of_decide_eq_true (by kernel_rfl)) (by unfold Func.isWrapper;first | (rw [if_pos (by decide +kernel)];kernel_rfl) | (rw [if_neg (by decide +kernel)];exact ⟨rfl,rfl⟩))
  (fun os started H enc _=>lifted os started H enc)
theorem plain (f : FuncId) (fn : Func) (hf : Tryz.pinned.checked.prog.funcNamed "quartermaster/quartermasterlaw.EncodeMeans" = some f) (hfn : Tryz.pinned.checked.prog.funcs[f]? = some fn) :
  true=Tryz.pinned.checked.prog.looks []/\∀ (j:Nat) t,fn.params[j]? = some t->Tryz.pinned.checked.prog.wantsStandIn t=false:=by
 obtain rfl : f = 14 := Option.some.inj ((show Tryz.prog.funcNamed "quartermaster/quartermasterlaw.EncodeMeans" = some 14 by kernel_rfl).symm.trans hf) |>.symm
 obtain rfl:fn=Tryz.f14:=(Option.some.inj (Tryz.func14.symm.trans hfn)).symm
 refine ⟨by kernel_rfl,fun j t ht=> ?_⟩
 rw [Tryz.params14] at ht
 have hm:t ∈ [24,30,26,27]:=by simpa using Array.mem_of_getElem? ht
 have hall:([24,30,26,27].all fun u=> !Tryz.prog.wantsStandIn u)=true:=by kernel_rfl
 exact (show Tryz.prog.wantsStandIn t=false by simpa using List.all_eq_true.1 hall t hm)
theorem rM:Tryz.pinned.checked.prog.mainIs=some (Rows.encodeMeansCard.stood.harness.1,Rows.encodeMeansCard.stood.harness.2.toList):=by kernel_rfl
theorem rL:false=Rows.encodeMeansRow.goesBy Tryz.pinned.checked.prog:=by kernel_rfl
theorem card:Rows.EncodeMeansCardSaid:=
 Claim7.holds_tied_plain_at .later [] _ _ _ _ aCv (fun _ h=>by cases h) (by kernel_rfl) (fun _ h=>by cases h) encodeMeans_row_tie rfl ⟨rfl,rfl⟩ rM rfl plain rL
end Go.Proofs.YtonlloiemgdfkaaGreatDoor.encodeMeans
namespace Go.Proofs.YtonlloiemgdfkaaGreatDoor
theorem encodeMeans_holds:Rows.EncodeMeansCardSaid:=encodeMeans.card
#print axioms encodeMeans_holds
end Go.Proofs.YtonlloiemgdfkaaGreatDoor
