/- EncodeSays's card: of any tree, wish, set and model the law returns true; what the program lays at its start is the premise that the card ties. -/
import Derived.Test.YthaaaecmeafofaaGreatDoorCards
import Derived.Test.YthaaaecmeafofaaGreatDoorTie
import Derived.Test.YthaaaecmeafofaaGreatDoorEs26
import Derived.Test.YthaaaecmeafofaaGreatDoorEs27
import Derived.Lay
namespace Go.Proofs.YthaaaecmeafofaaGreatDoor.encodeSays
open Go.ChangeShapes Go.WideShapes Go.ChangeAt Go.RowKit
open Go.ChangeMaps (open_string shut_string)
theorem own:ownKnob Tryz.prog.godebug=none:=by kernel_rfl
theorem pV:laidOutB Tryz.prog=true:=by kernel_rfl
set_option maxRecDepth 100000 in
theorem qK (H:Type) (enc:TypeId × Value->H) (W:World) (base:Nat) (args:Array Value) (ds gs:List (DataW H)) (before:List MemPlace)
  (hval : ∀ (j:Nat) t v,Tryz.f8.params[j]? = some t->args[j]? = some v->Value.okWide Tryz.prog W .any base t v)
  (hW:DataW.Whole enc Tryz.prog Tryz.f8.params.toList Rows.encodeSaysSpec.vars false W args.toList ds gs before) (hL:laidMetH Tryz.prog Rows.encodeSaysRow.laid W) (hsh:W.ShapedOpen Tryz.prog) :
  Calls Tryz.prog 8 args W fun e W'=> ∃ v,e=.returned v/\Rows.encodeSaysSpec.post enc Tryz.prog Tryz.f8 false true false false W args v W':=by
 have hW':=hW
 obtain ⟨p,q,hA0,hV,rfl,hfz,hnd⟩:=hW
 have hA:DataW.TrodAll enc Tryz.prog W 0 (fun _=>true) true Tryz.f8.params.toList args.toList ds p:=hA0
 rw [Tryz.params8] at hA hval
 obtain ⟨v0,vs0,d0,ds0,p0,q0,hargs,rfl,rfl,h0,r0⟩:=trodAll_cons hA
 obtain ⟨v1,vs1,d1,ds1,p1,q1,rfl,rfl,rfl,h1,r1⟩:=trodAll_cons r0
 obtain ⟨v2,vs2,d2,ds2,p2,q2,rfl,rfl,rfl,h2,r2⟩:=trodAll_cons r1
 obtain ⟨v3,vs3,d3,ds3,p3,q3,rfl,rfl,rfl,h3,r3⟩:=trodAll_cons r2
 obtain ⟨rfl,rfl,rfl⟩:=trodAll_nil r3
 obtain rfl:args=#[v0,v1,v2,v3]:=by cases args;simp_all
 obtain ⟨rfl,rfl⟩:=trodVars_none hV
 have lt0 : ∀ x∈p0,x.block<W.heap.size:=by obtain ⟨m,hm⟩:=h0;exact DataW.trod_lt m _ _ _ hm
 have k0:=h0
 have lt1 : ∀ x∈p1,x.block<W.heap.size:=by obtain ⟨m,hm⟩:=h1;exact DataW.trod_lt m _ _ _ hm
 have k1:=h1
 have lt2 : ∀ x∈p2,x.block<W.heap.size:=by obtain ⟨m,hm⟩:=h2;exact DataW.trod_lt m _ _ _ hm
 have k2:=h2
 have lt3 : ∀ x∈p3,x.block<W.heap.size:=by obtain ⟨m,hm⟩:=h3;exact DataW.trod_lt m _ _ _ hm
 have k3:=h3
 obtain ⟨ps0,pv0,rfl,nd0⟩:=aEp (hval 0 24 v0 rfl rfl) h0
 obtain ⟨wi1,ts1,in1,ma1,on1,rfl,nd1⟩:=aEq (hval 1 46 v1 rfl rfl) h1
 obtain ⟨ms2,nd2⟩:=aHv (hval 2 25 v2 rfl rfl) h2
 obtain ⟨bs3,nd3⟩:=aAx (hval 3 62 v3 rfl rfl) h3
 clear hA0
 rw [MakeChecks.laidMetH_plain _ _ _ (by kernel_rfl)] at hL
 have hE:Env W:=aLb hL (by simp [Rows.encodeSaysRow]) (by simp [Rows.encodeSaysRow]) (by simp [Rows.encodeSaysRow]) (by simp [Rows.encodeSaysRow])
 have hM:iZ W:=aHj hsh
 have hcap:lX pv0:=aHu h0
 refine (vB (fun b=>b<W.heap.size) ps0 wi1 ms2 bs3 pv0 ts1 in1 ma1 on1 v2 v3 W (fun _ h=>h) nd0 nd1 nd2 nd3 hcap hE hM).mono fun e W' ⟨he,bel⟩=> ?_
 subst he
 exact ⟨_,rfl,_,_,_,[],_,[],hW',trodAll_mk1 (shut_bool Tryz.underlying4 _),
  (trodAll_cons_mk (Below.trod pV (by kernel_rfl) (of_decide_eq_true (by kernel_rfl)) k0 bel lt0) (trodAll_cons_mk (Below.trod pV (by kernel_rfl) (of_decide_eq_true (by kernel_rfl)) k1 bel lt1) (trodAll_cons_mk (Below.trod pV (by kernel_rfl) (of_decide_eq_true (by kernel_rfl)) k2 bel lt2) (trodAll_cons_mk (Below.trod pV (by kernel_rfl) (of_decide_eq_true (by kernel_rfl)) k3 bel lt3) trodAll_mk0)))),rfl,bel.frame _,fun h=>by cases h⟩
set_option maxRecDepth 100000 in
theorem lifted (os:Os) (started:os.Started) (H:Type) (enc:TypeId × Value->H) :
  ReturnsInHanded {} Tryz.checked os 8 .any (fun w args=>(Rows.encodeSaysSpec.pre enc Tryz.prog Tryz.f8 Rows.encodeSaysRow.domain false w args/\laidMetH Tryz.prog Rows.encodeSaysRow.laid w)/\sizedMet enc Tryz.prog Tryz.f8 (OpenSpec.ofChange Rows.encodeSaysSpec) false w args)
   (Rows.encodeSaysSpec.post enc Tryz.prog Tryz.f8 false true false false):=by
 refine tC (C:=Tryz.checked) (X:=fun w _=>laidMetH Tryz.prog Rows.encodeSaysRow.laid w) (fun _ _ _ hh h=>h.of_heap hh) own started (by kernel_rfl) Tryz.func8
  (ChangeSpec.witness_shaped (enc:=enc) (C:=Tryz.checked) (os:=os) (X:=fun w _=>laidMetH Tryz.prog Rows.encodeSaysRow.laid w) false (World.laidAll Tryz.prog os Rows.encodeSaysRow.laid) #[.agg #[.slice none 0 0],.agg #[.slice none 0 0,.slice none 0 0,.slice none 0 0,.slice none 0 0],.slice none 0 0,.slice none 0 0] 8 (World.laidAll_os _ _ _)
   (World.shaped_of_ZipB (by kernel_rfl) (by kernel_rfl)) (by kernel_rfl) (by kernel_rfl) (by kernel_rfl)
   (by rw [MakeChecks.laidMetH_plain _ _ _ (by kernel_rfl)];exact laidMet_laidAll _ (by kernel_rfl) (by kernel_rfl))) ?_
 intro W base args ds gs before hval hW hL hsh
 exact qK H enc W base args ds gs before hval hW hL hsh
theorem aMe:Rows.encodeSaysRow.wf (OpenSpec.ofChange Rows.encodeSaysSpec)=true:=by kernel_rfl
theorem aMf:laidOutB Tryz.pinned.checked.prog=true:=by kernel_rfl
theorem aMg:mapsRowed Tryz.pinned.checked.prog=true:=by kernel_rfl
theorem aMh:(Rows.encodeSaysRow.inPlace==Tryz.pinned.checked.prog.inPlace 8)=true:=by kernel_rfl
theorem aMi:(Rows.encodeSaysRow.unfollowed==Tryz.pinned.checked.prog.unfollowed 8)=true:=by kernel_rfl
theorem aMj:(Rows.encodeSaysRow.recurses==Tryz.pinned.checked.prog.recurses 8)=true:=by kernel_rfl
theorem aMk:(Rows.encodeSaysRow.named==Tryz.pinned.checked.prog.varsNamed 8)=true:=by kernel_rfl
theorem aMl:(Rows.encodeSaysRow.plainKeys==Tryz.pinned.checked.prog.plainKeys)=true:=by kernel_rfl
theorem aMm:Tryz.pinned.checked.prog.stopsHeard=true:=by kernel_rfl
theorem aMn:Tryz.pinned.checked.prog.mayEnter=true:=by kernel_rfl
theorem aLc:(Rows.encodeSaysRow.lifted==Tryz.pinned.checked.prog.liftsFinal)=true:=by kernel_rfl
theorem aLg:joinedFacts Tryz.pinned.checked.prog 8 Tryz.f8 Rows.encodeSaysSpec Rows.encodeSaysRow=true:=by
 unfold joinedFacts
 rw [aMe,aMf,aMg,aMh,aMi,aMj,aMk,aMl,aMm,aMn,aLc]
 kernel_rfl
theorem aNh:Rows.EncodeSaysSaid:=
 OpenClaim.holds_of_wide 8 Tryz.f8 rfl rfl rfl rfl rfl rfl rfl ⟨rfl,rfl,rfl,rfl,rfl⟩ rfl rfl rfl rfl rfl (by kernel_rfl) Tryz.func8 aLg
  (of_decide_eq_true (by kernel_rfl)) (by unfold Func.isWrapper;first | (rw [if_pos (by decide +kernel)];kernel_rfl) | (rw [if_neg (by decide +kernel)];exact ⟨rfl,rfl⟩))
  (fun os started H enc _=>lifted os started H enc)
theorem plain (f : FuncId) (fn : Func) (hf : Tryz.pinned.checked.prog.funcNamed "quartermaster/quartermasterlaw.EncodeSays" = some f) (hfn : Tryz.pinned.checked.prog.funcs[f]? = some fn) :
  true=Tryz.pinned.checked.prog.looks []/\∀ (j:Nat) t,fn.params[j]? = some t->Tryz.pinned.checked.prog.wantsStandIn t=false:=by
 obtain rfl : f = 8 := Option.some.inj ((show Tryz.prog.funcNamed "quartermaster/quartermasterlaw.EncodeSays" = some 8 by kernel_rfl).symm.trans hf) |>.symm
 obtain rfl:fn=Tryz.f8:=(Option.some.inj (Tryz.func8.symm.trans hfn)).symm
 refine ⟨by kernel_rfl,fun j t ht=> ?_⟩
 rw [Tryz.params8] at ht
 have hm:t ∈ [24,46,25,62]:=by simpa using Array.mem_of_getElem? ht
 have hall:([24,46,25,62].all fun u=> !Tryz.prog.wantsStandIn u)=true:=by kernel_rfl
 exact (show Tryz.prog.wantsStandIn t=false by simpa using List.all_eq_true.1 hall t hm)
theorem aMc:Tryz.pinned.checked.prog.mainIs=some (Rows.encodeSaysCard.stood.harness.1,Rows.encodeSaysCard.stood.harness.2.toList):=by kernel_rfl
theorem aMb:false=Rows.encodeSaysRow.goesBy Tryz.pinned.checked.prog:=by kernel_rfl
theorem card:Rows.EncodeSaysCardSaid:=
 Claim7.holds_tied_plain_at .later [] _ _ _ _ aNh (fun _ h=>by cases h) (by kernel_rfl) (fun _ h=>by cases h) encodeSays_row_tie rfl ⟨rfl,rfl⟩ aMc rfl plain aMb
end Go.Proofs.YthaaaecmeafofaaGreatDoor.encodeSays
namespace Go.Proofs.YthaaaecmeafofaaGreatDoor
theorem encodeSays_holds:Rows.EncodeSaysCardSaid:=encodeSays.card
#print axioms encodeSays_holds
end Go.Proofs.YthaaaecmeafofaaGreatDoor
