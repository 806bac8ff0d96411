/- OrderSays's card: of any tree and two sets the law returns true; what the program lays at its start is the premise that the card ties. -/
import Derived.Test.YthaaaecmeafofaaGreatDoorCards
import Derived.Test.YthaaaecmeafofaaGreatDoorTie
import Derived.Test.YthaaaecmeafofaaGreatDoorOs22
import Derived.Test.YthaaaecmeafofaaGreatDoorOs23
import Derived.Lay
namespace Go.Proofs.YthaaaecmeafofaaGreatDoor.orderSays
open Go.ChangeShapes Go.WideShapes Go.ChangeAt Go.RowKit
open Go.ChangeMaps (open_string shut_string)
theorem own:ownKnob Tryz.prog.godebug=none:=by kernel_rfl
theorem tE:laidOutB Tryz.prog=true:=by kernel_rfl
set_option maxRecDepth 100000 in
theorem pC (H:Type) (enc:TypeId × Value->H) (W:World) (base:Nat) (args:Array Value) (ds gs:List (DataW H)) (before:List MemPlace)
  (hval : ∀ (j:Nat) t v,Tryz.f3.params[j]? = some t->args[j]? = some v->Value.okWide Tryz.prog W .any base t v)
  (hW:DataW.Whole enc Tryz.prog Tryz.f3.params.toList Rows.orderSaysSpec.vars false W args.toList ds gs before) (hL:laidMetH Tryz.prog Rows.orderSaysRow.laid W) (hsh:W.ShapedOpen Tryz.prog) :
  Calls Tryz.prog 3 args W fun e W'=> ∃ v,e=.returned v/\Rows.orderSaysSpec.post enc Tryz.prog Tryz.f3 false true false false W args v W':=by
 have hW':=hW
 obtain ⟨p,q,hA0,hV,rfl,hfz,hnd⟩:=hW
 have hA:DataW.TrodAll enc Tryz.prog W 0 (fun _=>true) true Tryz.f3.params.toList args.toList ds p:=hA0
 rw [Tryz.params3] at hA hval
 obtain ⟨v0,vs0,d0,ds0,p0,q0,hargs,rfl,rfl,h0,r0⟩:=trodAll_cons hA
 obtain ⟨v1,vs1,d1,ds1,p1,q1,rfl,rfl,rfl,h1,r1⟩:=trodAll_cons r0
 obtain ⟨v2,vs2,d2,ds2,p2,q2,rfl,rfl,rfl,h2,r2⟩:=trodAll_cons r1
 obtain ⟨rfl,rfl,rfl⟩:=trodAll_nil r2
 obtain rfl:args=#[v0,v1,v2]:=by cases args;simp_all
 obtain ⟨rfl,rfl⟩:=trodVars_none hV
 have lt0 : ∀ x∈p0,x.block<W.heap.size:=by obtain ⟨m,hm⟩:=h0;exact DataW.trod_lt m _ _ _ hm
 have k0:=h0
 have lt1 : ∀ x∈p1,x.block<W.heap.size:=by obtain ⟨m,hm⟩:=h1;exact DataW.trod_lt m _ _ _ hm
 have k1:=h1
 have lt2 : ∀ x∈p2,x.block<W.heap.size:=by obtain ⟨m,hm⟩:=h2;exact DataW.trod_lt m _ _ _ hm
 have k2:=h2
 obtain ⟨ps0,pv0,rfl,nd0⟩:=aAr (hval 0 24 v0 rfl rfl) h0
 obtain ⟨ms1,nd1⟩:=vE (hval 1 25 v1 rfl rfl) h1
 obtain ⟨ms2,nd2⟩:=vE (hval 2 25 v2 rfl rfl) h2
 clear hA0
 rw [MakeChecks.laidMetH_plain _ _ _ (by kernel_rfl)] at hL
 have hE:Env W:=aGj hL (by simp [Rows.orderSaysRow]) (by simp [Rows.orderSaysRow]) (by simp [Rows.orderSaysRow]) (by simp [Rows.orderSaysRow])
 have hM:gX W:=aDb hsh
 refine (tJ (fun b=>b<W.heap.size) ps0 ms1 ms2 pv0 v1 v2 W (fun _ h=>h) nd0 nd1 nd2 hE hM).mono fun e W' ⟨he,bel⟩=> ?_
 subst he
 exact ⟨_,rfl,_,_,_,[],_,[],hW',trodAll_mk1 (shut_bool Tryz.underlying4 _),
  (trodAll_cons_mk (Below.trod tE (by kernel_rfl) (of_decide_eq_true (by kernel_rfl)) k0 bel lt0) (trodAll_cons_mk (Below.trod tE (by kernel_rfl) (of_decide_eq_true (by kernel_rfl)) k1 bel lt1) (trodAll_cons_mk (Below.trod tE (by kernel_rfl) (of_decide_eq_true (by kernel_rfl)) k2 bel lt2) trodAll_mk0))),rfl,bel.frame _,fun h=>by cases h⟩
set_option maxRecDepth 100000 in
theorem lifted (os:Os) (started:os.Started) (H:Type) (enc:TypeId × Value->H) :
  ReturnsInHanded {} Tryz.checked os 3 .any (fun w args=>(Rows.orderSaysSpec.pre enc Tryz.prog Tryz.f3 Rows.orderSaysRow.domain false w args/\laidMetH Tryz.prog Rows.orderSaysRow.laid w)/\sizedMet enc Tryz.prog Tryz.f3 (OpenSpec.ofChange Rows.orderSaysSpec) false w args)
   (Rows.orderSaysSpec.post enc Tryz.prog Tryz.f3 false true false false):=by
 refine rB (C:=Tryz.checked) (X:=fun w _=>laidMetH Tryz.prog Rows.orderSaysRow.laid w) (fun _ _ _ hh h=>h.of_heap hh) own started (by kernel_rfl) Tryz.func3
  (ChangeSpec.witness_shaped (enc:=enc) (C:=Tryz.checked) (os:=os) (X:=fun w _=>laidMetH Tryz.prog Rows.orderSaysRow.laid w) false (World.laidAll Tryz.prog os Rows.orderSaysRow.laid) #[.agg #[.slice none 0 0],.slice none 0 0,.slice none 0 0] 8 (World.laidAll_os _ _ _)
   (World.shaped_of_ZipB (by kernel_rfl) (by kernel_rfl)) (by kernel_rfl) (by kernel_rfl) (by kernel_rfl)
   (by rw [MakeChecks.laidMetH_plain _ _ _ (by kernel_rfl)];exact laidMet_laidAll _ (by kernel_rfl) (by kernel_rfl))) ?_
 intro W base args ds gs before hval hW hL hsh
 exact pC H enc W base args ds gs before hval hW hL hsh
theorem aHj:Rows.orderSaysRow.wf (OpenSpec.ofChange Rows.orderSaysSpec)=true:=by kernel_rfl
theorem aHk:laidOutB Tryz.pinned.checked.prog=true:=by kernel_rfl
theorem aHl:mapsRowed Tryz.pinned.checked.prog=true:=by kernel_rfl
theorem aHm:(Rows.orderSaysRow.inPlace==Tryz.pinned.checked.prog.inPlace 3)=true:=by kernel_rfl
theorem aHn:(Rows.orderSaysRow.unfollowed==Tryz.pinned.checked.prog.unfollowed 3)=true:=by kernel_rfl
theorem aHo:(Rows.orderSaysRow.recurses==Tryz.pinned.checked.prog.recurses 3)=true:=by kernel_rfl
theorem aHp:(Rows.orderSaysRow.named==Tryz.pinned.checked.prog.varsNamed 3)=true:=by kernel_rfl
theorem aHq:(Rows.orderSaysRow.plainKeys==Tryz.pinned.checked.prog.plainKeys)=true:=by kernel_rfl
theorem aHr:Tryz.pinned.checked.prog.stopsHeard=true:=by kernel_rfl
theorem aHs:Tryz.pinned.checked.prog.mayEnter=true:=by kernel_rfl
theorem aGk:(Rows.orderSaysRow.lifted==Tryz.pinned.checked.prog.liftsFinal)=true:=by kernel_rfl
theorem aGp:joinedFacts Tryz.pinned.checked.prog 3 Tryz.f3 Rows.orderSaysSpec Rows.orderSaysRow=true:=by
 unfold joinedFacts
 rw [aHj,aHk,aHl,aHm,aHn,aHo,aHp,aHq,aHr,aHs,aGk]
 kernel_rfl
theorem aId:Rows.OrderSaysSaid:=
 OpenClaim.holds_of_wide 3 Tryz.f3 rfl rfl rfl rfl rfl rfl rfl ⟨rfl,rfl,rfl,rfl,rfl⟩ rfl rfl rfl rfl rfl (by kernel_rfl) Tryz.func3 aGp
  (of_decide_eq_true (by kernel_rfl)) (by unfold Func.isWrapper;first | (rw [if_pos (by decide +kernel)];kernel_rfl) | (rw [if_neg (by decide +kernel)];exact ⟨rfl,rfl⟩))
  (fun os started H enc _=>lifted os started H enc)
theorem plain (f : FuncId) (fn : Func) (hf : Tryz.pinned.checked.prog.funcNamed "quartermaster/quartermasterlaw.OrderSays" = some f) (hfn : Tryz.pinned.checked.prog.funcs[f]? = some fn) :
  true=Tryz.pinned.checked.prog.looks []/\∀ (j:Nat) t,fn.params[j]? = some t->Tryz.pinned.checked.prog.wantsStandIn t=false:=by
 obtain rfl : f = 3 := Option.some.inj ((show Tryz.prog.funcNamed "quartermaster/quartermasterlaw.OrderSays" = some 3 by kernel_rfl).symm.trans hf) |>.symm
 obtain rfl:fn=Tryz.f3:=(Option.some.inj (Tryz.func3.symm.trans hfn)).symm
 refine ⟨by kernel_rfl,fun j t ht=> ?_⟩
 rw [Tryz.params3] at ht
 have hm:t ∈ [24,25,25]:=by simpa using Array.mem_of_getElem? ht
 have hall:([24,25,25].all fun u=> !Tryz.prog.wantsStandIn u)=true:=by kernel_rfl
 exact (show Tryz.prog.wantsStandIn t=false by simpa using List.all_eq_true.1 hall t hm)
theorem aHh:Tryz.pinned.checked.prog.mainIs=some (Rows.orderSaysCard.stood.harness.1,Rows.orderSaysCard.stood.harness.2.toList):=by kernel_rfl
theorem aHg:false=Rows.orderSaysRow.goesBy Tryz.pinned.checked.prog:=by kernel_rfl
theorem card:Rows.OrderSaysCardSaid:=
 Claim7.holds_tied_plain_at .later [] _ _ _ _ aId (fun _ h=>by cases h) (by kernel_rfl) (fun _ h=>by cases h) orderSays_row_tie rfl ⟨rfl,rfl⟩ aHh rfl plain aHg
end Go.Proofs.YthaaaecmeafofaaGreatDoor.orderSays
namespace Go.Proofs.YthaaaecmeafofaaGreatDoor
theorem orderSays_holds:Rows.OrderSaysCardSaid:=orderSays.card
#print axioms orderSays_holds
end Go.Proofs.YthaaaecmeafofaaGreatDoor
