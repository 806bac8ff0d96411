/- OrderLeans's card: of any tree and set the law returns true; what the program lays at its start is the premise that the card ties. -/
import Derived.Test.YtonlloiemgdfkaaGreatDoorCards
import Derived.Test.YtonlloiemgdfkaaGreatDoorTie
import Derived.Test.YtonlloiemgdfkaaGreatDoorOn22
import Derived.Test.YtonlloiemgdfkaaGreatDoorOn19
import Derived.Lay
namespace Go.Proofs.YtonlloiemgdfkaaGreatDoor.orderLeans
open Go.ChangeShapes Go.WideShapes Go.ChangeAt Go.RowKit
open Go.ChangeMaps (open_string shut_string)
theorem own:ownKnob Tryz.prog.godebug=none:=by kernel_rfl
theorem kD:laidOutB Tryz.prog=true:=by kernel_rfl
set_option maxRecDepth 100000 in
theorem hN (H:Type) (enc:TypeId × Value->H) (W:World) (base:Nat) (args:Array Value) (ds gs:List (DataW H)) (before:List MemPlace)
  (hval : ∀ (j:Nat) t v,Tryz.f8.params[j]? = some t->args[j]? = some v->Value.okWide Tryz.prog W .any base t v)
  (hW:DataW.Whole enc Tryz.prog Tryz.f8.params.toList Rows.orderLeansSpec.vars false W args.toList ds gs before) (hL:laidMetH Tryz.prog Rows.orderLeansRow.laid W) (hsh:W.ShapedOpen Tryz.prog) :
  Calls Tryz.prog 8 args W fun e W'=> ∃ v,e=.returned v/\Rows.orderLeansSpec.post enc Tryz.prog Tryz.f8 false true false false W args v W':=by
 have hW':=hW
 obtain ⟨p,q,hA0,hV,rfl,hfz,hnd⟩:=hW
 have hA:DataW.TrodAll enc Tryz.prog W 0 (fun _=>true) true Tryz.f8.params.toList args.toList ds p:=hA0
 rw [Tryz.params8] at hA hval
 obtain ⟨v0,vs0,d0,ds0,p0,q0,hargs,rfl,rfl,h0,r0⟩:=trodAll_cons hA
 obtain ⟨v1,vs1,d1,ds1,p1,q1,rfl,rfl,rfl,h1,r1⟩:=trodAll_cons r0
 obtain ⟨rfl,rfl,rfl⟩:=trodAll_nil r1
 obtain rfl:args=#[v0,v1]:=by cases args;simp_all
 obtain ⟨rfl,rfl⟩:=trodVars_none hV
 have lt0 : ∀ x∈p0,x.block<W.heap.size:=by obtain ⟨m,hm⟩:=h0;exact DataW.trod_lt m _ _ _ hm
 have k0:=h0
 have lt1 : ∀ x∈p1,x.block<W.heap.size:=by obtain ⟨m,hm⟩:=h1;exact DataW.trod_lt m _ _ _ hm
 have k1:=h1
 obtain ⟨ps0,pv0,rfl,nd0⟩:=pN (hval 0 24 v0 rfl rfl) h0
 obtain ⟨ms1,nd1⟩:=sP (hval 1 26 v1 rfl rfl) h1
 clear hA0
 rw [MakeChecks.laidMetH_plain _ _ _ (by kernel_rfl)] at hL
 have hE:Env W:=zD hL (by simp [Rows.orderLeansRow]) (by simp [Rows.orderLeansRow]) (by simp [Rows.orderLeansRow]) (by simp [Rows.orderLeansRow])
 have hM:eK W:=sI hsh
 refine (oR (fun b=>b<W.heap.size) ps0 ms1 pv0 v1 W (fun _ h=>h) nd0 nd1 hE hM).mono fun e W' ⟨he,bel⟩=> ?_
 subst he
 exact ⟨_,rfl,_,_,_,[],_,[],hW',trodAll_mk1 (shut_bool Tryz.underlying4 _),
  (trodAll_cons_mk (Below.trod kD (by kernel_rfl) (of_decide_eq_true (by kernel_rfl)) k0 bel lt0) (trodAll_cons_mk (Below.trod kD (by kernel_rfl) (of_decide_eq_true (by kernel_rfl)) k1 bel lt1) trodAll_mk0)),rfl,bel.frame _,fun h=>by cases h⟩
set_option maxRecDepth 100000 in
theorem lifted (os:Os) (started:os.Started) (H:Type) (enc:TypeId × Value->H) :
  ReturnsInHanded {} Tryz.checked os 8 .any (fun w args=>(Rows.orderLeansSpec.pre enc Tryz.prog Tryz.f8 Rows.orderLeansRow.domain false w args/\laidMetH Tryz.prog Rows.orderLeansRow.laid w)/\sizedMet enc Tryz.prog Tryz.f8 (OpenSpec.ofChange Rows.orderLeansSpec) false w args)
   (Rows.orderLeansSpec.post enc Tryz.prog Tryz.f8 false true false false):=by
 refine jC (C:=Tryz.checked) (X:=fun w _=>laidMetH Tryz.prog Rows.orderLeansRow.laid w) (fun _ _ _ hh h=>h.of_heap hh) own started (by kernel_rfl) Tryz.func8
  (ChangeSpec.witness_shaped (enc:=enc) (C:=Tryz.checked) (os:=os) (X:=fun w _=>laidMetH Tryz.prog Rows.orderLeansRow.laid w) false (World.laidAll Tryz.prog os Rows.orderLeansRow.laid) #[.agg #[.slice none 0 0],.slice none 0 0] 8 (World.laidAll_os _ _ _)
   (World.shaped_of_ZipB (by kernel_rfl) (by kernel_rfl)) (by kernel_rfl) (by kernel_rfl) (by kernel_rfl)
   (by rw [MakeChecks.laidMetH_plain _ _ _ (by kernel_rfl)];exact laidMet_laidAll _ (by kernel_rfl) (by kernel_rfl))) ?_
 intro W base args ds gs before hval hW hL hsh
 exact hN H enc W base args ds gs before hval hW hL hsh
theorem zF:Rows.orderLeansRow.wf (OpenSpec.ofChange Rows.orderLeansSpec)=true:=by kernel_rfl
theorem zG:laidOutB Tryz.pinned.checked.prog=true:=by kernel_rfl
theorem zH:mapsRowed Tryz.pinned.checked.prog=true:=by kernel_rfl
theorem zI:(Rows.orderLeansRow.inPlace==Tryz.pinned.checked.prog.inPlace 8)=true:=by kernel_rfl
theorem zJ:(Rows.orderLeansRow.unfollowed==Tryz.pinned.checked.prog.unfollowed 8)=true:=by kernel_rfl
theorem zK:(Rows.orderLeansRow.recurses==Tryz.pinned.checked.prog.recurses 8)=true:=by kernel_rfl
theorem zL:(Rows.orderLeansRow.named==Tryz.pinned.checked.prog.varsNamed 8)=true:=by kernel_rfl
theorem zM:(Rows.orderLeansRow.plainKeys==Tryz.pinned.checked.prog.plainKeys)=true:=by kernel_rfl
theorem zN:Tryz.pinned.checked.prog.stopsHeard=true:=by kernel_rfl
theorem zO:Tryz.pinned.checked.prog.mayEnter=true:=by kernel_rfl
theorem uD:(Rows.orderLeansRow.lifted==Tryz.pinned.checked.prog.liftsFinal)=true:=by kernel_rfl
theorem uM:joinedFacts Tryz.pinned.checked.prog 8 Tryz.f8 Rows.orderLeansSpec Rows.orderLeansRow=true:=by
 unfold joinedFacts
 rw [zF,zG,zH,zI,zJ,zK,zL,zM,zN,zO,uD]
 kernel_rfl
theorem aDl:Rows.OrderLeansSaid:=
 OpenClaim.holds_of_wide 8 Tryz.f8 rfl rfl rfl rfl rfl rfl rfl ⟨rfl,rfl,rfl,rfl,rfl⟩ rfl rfl rfl rfl rfl (by kernel_rfl) Tryz.func8 uM
  (of_decide_eq_true (by kernel_rfl)) (by unfold Func.isWrapper;first | (rw [if_pos (by decide +kernel)];kernel_rfl) | (rw [if_neg (by decide +kernel)];exact ⟨rfl,rfl⟩))
  (fun os started H enc _=>lifted os started H enc)
theorem plain (f : FuncId) (fn : Func) (hf : Tryz.pinned.checked.prog.funcNamed "quartermaster/quartermasterlaw.OrderLeans" = some f) (hfn : Tryz.pinned.checked.prog.funcs[f]? = some fn) :
  true=Tryz.pinned.checked.prog.looks []/\∀ (j:Nat) t,fn.params[j]? = some t->Tryz.pinned.checked.prog.wantsStandIn t=false:=by
 obtain rfl : f = 8 := Option.some.inj ((show Tryz.prog.funcNamed "quartermaster/quartermasterlaw.OrderLeans" = some 8 by kernel_rfl).symm.trans hf) |>.symm
 obtain rfl:fn=Tryz.f8:=(Option.some.inj (Tryz.func8.symm.trans hfn)).symm
 refine ⟨by kernel_rfl,fun j t ht=> ?_⟩
 rw [Tryz.params8] at ht
 have hm:t ∈ [24,26]:=by simpa using Array.mem_of_getElem? ht
 have hall:([24,26].all fun u=> !Tryz.prog.wantsStandIn u)=true:=by kernel_rfl
 exact (show Tryz.prog.wantsStandIn t=false by simpa using List.all_eq_true.1 hall t hm)
theorem yX:Tryz.pinned.checked.prog.mainIs=some (Rows.orderLeansCard.stood.harness.1,Rows.orderLeansCard.stood.harness.2.toList):=by kernel_rfl
theorem yW:false=Rows.orderLeansRow.goesBy Tryz.pinned.checked.prog:=by kernel_rfl
theorem card:Rows.OrderLeansCardSaid:=
 Claim7.holds_tied_plain_at .later [] _ _ _ _ aDl (fun _ h=>by cases h) (by kernel_rfl) (fun _ h=>by cases h) orderLeans_row_tie rfl ⟨rfl,rfl⟩ yX rfl plain yW
end Go.Proofs.YtonlloiemgdfkaaGreatDoor.orderLeans
namespace Go.Proofs.YtonlloiemgdfkaaGreatDoor
theorem orderLeans_holds:Rows.OrderLeansCardSaid:=orderLeans.card
#print axioms orderLeans_holds
end Go.Proofs.YtonlloiemgdfkaaGreatDoor
