/- ResolveNothing's card: of any tree and set the law returns true; what the program lays at its start is the premise that the card ties. -/
import Derived.Test.YtonlloiemgdfkaaGreatDoorCards
import Derived.Test.YtonlloiemgdfkaaGreatDoorTie
import Derived.Test.YtonlloiemgdfkaaGreatDoorRn30
import Derived.Test.YtonlloiemgdfkaaGreatDoorRn31
import Derived.Lay
namespace Go.Proofs.YtonlloiemgdfkaaGreatDoor.resolveNothing
open Go.ChangeShapes Go.WideShapes Go.ChangeAt Go.RowKit
open Go.ChangeMaps (open_string shut_string)
theorem own:ownKnob Tryz.prog.godebug=none:=by kernel_rfl
theorem aHe:laidOutB Tryz.prog=true:=by kernel_rfl
set_option maxRecDepth 100000 in
theorem tG (H:Type) (enc:TypeId × Value->H) (W:World) (base:Nat) (args:Array Value) (ds gs:List (DataW H)) (before:List MemPlace)
  (hval : ∀ (j:Nat) t v,Tryz.f13.params[j]? = some t->args[j]? = some v->Value.okWide Tryz.prog W .any base t v)
  (hW:DataW.Whole enc Tryz.prog Tryz.f13.params.toList Rows.resolveNothingSpec.vars false W args.toList ds gs before) (hL:laidMetH Tryz.prog Rows.resolveNothingRow.laid W) (hsh:W.ShapedOpen Tryz.prog) :
  Calls Tryz.prog 13 args W fun e W'=> ∃ v,e=.returned v/\Rows.resolveNothingSpec.post enc Tryz.prog Tryz.f13 false true false false W args v W':=by
 have hW':=hW
 obtain ⟨p,q,hA0,hV,rfl,hfz,hnd⟩:=hW
 have hA:DataW.TrodAll enc Tryz.prog W 0 (fun _=>true) true Tryz.f13.params.toList args.toList ds p:=hA0
 rw [Tryz.params13] at hA hval
 obtain ⟨v0,vs0,d0,ds0,p0,q0,hargs,rfl,rfl,h0,r0⟩:=trodAll_cons hA
 obtain ⟨v1,vs1,d1,ds1,p1,q1,rfl,rfl,rfl,h1,r1⟩:=trodAll_cons r0
 obtain ⟨rfl,rfl,rfl⟩:=trodAll_nil r1
 obtain rfl:args=#[v0,v1]:=by cases args;simp_all
 obtain ⟨rfl,rfl⟩:=trodVars_none hV
 have lt0 : ∀ x∈p0,x.block<W.heap.size:=by obtain ⟨m,hm⟩:=h0;exact DataW.trod_lt m _ _ _ hm
 have k0:=h0
 have lt1 : ∀ x∈p1,x.block<W.heap.size:=by obtain ⟨m,hm⟩:=h1;exact DataW.trod_lt m _ _ _ hm
 have k1:=h1
 obtain ⟨ps0,pv0,rfl,nd0⟩:=aJp (hval 0 24 v0 rfl rfl) h0
 obtain ⟨ms1,nd1⟩:=aNb (hval 1 26 v1 rfl rfl) h1
 clear hA0
 rw [MakeChecks.laidMetH_plain _ _ _ (by kernel_rfl)] at hL
 have hE:Env W:=aQv hL (by simp [Rows.resolveNothingRow]) (by simp [Rows.resolveNothingRow]) (by simp [Rows.resolveNothingRow]) (by simp [Rows.resolveNothingRow])
 have hM:kM W:=aMl hsh
 have hcap:kL pv0:=aNa h0
 refine (sC (fun b=>b<W.heap.size) ps0 ms1 pv0 v1 W (fun _ h=>h) nd0 nd1 hcap hE hM).mono fun e W' ⟨he,bel⟩=> ?_
 subst he
 exact ⟨_,rfl,_,_,_,[],_,[],hW',trodAll_mk1 (shut_bool Tryz.underlying4 _),
  (trodAll_cons_mk (Below.trod aHe (by kernel_rfl) (of_decide_eq_true (by kernel_rfl)) k0 bel lt0) (trodAll_cons_mk (Below.trod aHe (by kernel_rfl) (of_decide_eq_true (by kernel_rfl)) k1 bel lt1) trodAll_mk0)),rfl,bel.frame _,fun h=>by cases h⟩
set_option maxRecDepth 100000 in
theorem lifted (os:Os) (started:os.Started) (H:Type) (enc:TypeId × Value->H) :
  ReturnsInHanded {} Tryz.checked os 13 .any (fun w args=>(Rows.resolveNothingSpec.pre enc Tryz.prog Tryz.f13 Rows.resolveNothingRow.domain false w args/\laidMetH Tryz.prog Rows.resolveNothingRow.laid w)/\sizedMet enc Tryz.prog Tryz.f13 (OpenSpec.ofChange Rows.resolveNothingSpec) false w args)
   (Rows.resolveNothingSpec.post enc Tryz.prog Tryz.f13 false true false false):=by
 refine vW (C:=Tryz.checked) (X:=fun w _=>laidMetH Tryz.prog Rows.resolveNothingRow.laid w) (fun _ _ _ hh h=>h.of_heap hh) own started (by kernel_rfl) Tryz.func13
  (ChangeSpec.witness_shaped (enc:=enc) (C:=Tryz.checked) (os:=os) (X:=fun w _=>laidMetH Tryz.prog Rows.resolveNothingRow.laid w) false (World.laidAll Tryz.prog os Rows.resolveNothingRow.laid) #[.agg #[.slice none 0 0],.slice none 0 0] 8 (World.laidAll_os _ _ _)
   (World.shaped_of_ZipB (by kernel_rfl) (by kernel_rfl)) (by kernel_rfl) (by kernel_rfl) (by kernel_rfl)
   (by rw [MakeChecks.laidMetH_plain _ _ _ (by kernel_rfl)];exact laidMet_laidAll _ (by kernel_rfl) (by kernel_rfl))) ?_
 intro W base args ds gs before hval hW hL hsh
 exact tG H enc W base args ds gs before hval hW hL hsh
theorem aSd:Rows.resolveNothingRow.wf (OpenSpec.ofChange Rows.resolveNothingSpec)=true:=by kernel_rfl
theorem aSe:laidOutB Tryz.pinned.checked.prog=true:=by kernel_rfl
theorem aSf:mapsRowed Tryz.pinned.checked.prog=true:=by kernel_rfl
theorem aSg:(Rows.resolveNothingRow.inPlace==Tryz.pinned.checked.prog.inPlace 13)=true:=by kernel_rfl
theorem aSh:(Rows.resolveNothingRow.unfollowed==Tryz.pinned.checked.prog.unfollowed 13)=true:=by kernel_rfl
theorem aSi:(Rows.resolveNothingRow.recurses==Tryz.pinned.checked.prog.recurses 13)=true:=by kernel_rfl
theorem aSj:(Rows.resolveNothingRow.named==Tryz.pinned.checked.prog.varsNamed 13)=true:=by kernel_rfl
theorem aSk:(Rows.resolveNothingRow.plainKeys==Tryz.pinned.checked.prog.plainKeys)=true:=by kernel_rfl
theorem aSl:Tryz.pinned.checked.prog.stopsHeard=true:=by kernel_rfl
theorem aSm:Tryz.pinned.checked.prog.mayEnter=true:=by kernel_rfl
theorem aQw:(Rows.resolveNothingRow.lifted==Tryz.pinned.checked.prog.liftsFinal)=true:=by kernel_rfl
theorem aRd:joinedFacts Tryz.pinned.checked.prog 13 Tryz.f13 Rows.resolveNothingSpec Rows.resolveNothingRow=true:=by
 unfold joinedFacts
 rw [aSd,aSe,aSf,aSg,aSh,aSi,aSj,aSk,aSl,aSm,aQw]
 kernel_rfl
theorem aTc:Rows.ResolveNothingSaid:=
 OpenClaim.holds_of_wide 13 Tryz.f13 rfl rfl rfl rfl rfl rfl rfl ⟨rfl,rfl,rfl,rfl,rfl⟩ rfl rfl rfl rfl rfl (by kernel_rfl) Tryz.func13 aRd
  (of_decide_eq_true (by kernel_rfl)) (by unfold Func.isWrapper;first | (rw [if_pos (by decide +kernel)];kernel_rfl) | (rw [if_neg (by decide +kernel)];exact ⟨rfl,rfl⟩))
  (fun os started H enc _=>lifted os started H enc)
theorem plain (f : FuncId) (fn : Func) (hf : Tryz.pinned.checked.prog.funcNamed "quartermaster/quartermasterlaw.ResolveNothing" = some f) (hfn : Tryz.pinned.checked.prog.funcs[f]? = some fn) :
  true=Tryz.pinned.checked.prog.looks []/\∀ (j:Nat) t,fn.params[j]? = some t->Tryz.pinned.checked.prog.wantsStandIn t=false:=by
 obtain rfl : f = 13 := Option.some.inj ((show Tryz.prog.funcNamed "quartermaster/quartermasterlaw.ResolveNothing" = some 13 by kernel_rfl).symm.trans hf) |>.symm
 obtain rfl:fn=Tryz.f13:=(Option.some.inj (Tryz.func13.symm.trans hfn)).symm
 refine ⟨by kernel_rfl,fun j t ht=> ?_⟩
 rw [Tryz.params13] at ht
 have hm:t ∈ [24,26]:=by simpa using Array.mem_of_getElem? ht
 have hall:([24,26].all fun u=> !Tryz.prog.wantsStandIn u)=true:=by kernel_rfl
 exact (show Tryz.prog.wantsStandIn t=false by simpa using List.all_eq_true.1 hall t hm)
theorem aSb:Tryz.pinned.checked.prog.mainIs=some (Rows.resolveNothingCard.stood.harness.1,Rows.resolveNothingCard.stood.harness.2.toList):=by kernel_rfl
theorem aSa:false=Rows.resolveNothingRow.goesBy Tryz.pinned.checked.prog:=by kernel_rfl
theorem card:Rows.ResolveNothingCardSaid:=
 Claim7.holds_tied_plain_at .later [] _ _ _ _ aTc (fun _ h=>by cases h) (by kernel_rfl) (fun _ h=>by cases h) resolveNothing_row_tie rfl ⟨rfl,rfl⟩ aSb rfl plain aSa
end Go.Proofs.YtonlloiemgdfkaaGreatDoor.resolveNothing
namespace Go.Proofs.YtonlloiemgdfkaaGreatDoor
theorem resolveNothing_holds:Rows.ResolveNothingCardSaid:=resolveNothing.card
#print axioms resolveNothing_holds
end Go.Proofs.YtonlloiemgdfkaaGreatDoor
