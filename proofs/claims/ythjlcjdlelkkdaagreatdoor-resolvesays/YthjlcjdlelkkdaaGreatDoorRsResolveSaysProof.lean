/- ResolveSays's card: of any tree and wish the law returns true; what the program lays at its start is the premise that the card ties. -/
import Derived.Test.YthjlcjdlelkkdaaGreatDoorCards
import Derived.Test.YthjlcjdlelkkdaaGreatDoorTie
import Derived.Test.YthjlcjdlelkkdaaGreatDoorRs19
import Derived.Lay
namespace Go.Proofs.YthjlcjdlelkkdaaGreatDoor.resolveSays
open Go.ChangeShapes Go.WideShapes Go.ChangeAt Go.RowKit
open Go.ChangeMaps (open_string shut_string)
theorem own:ownKnob Tryz.prog.godebug=none:=by kernel_rfl
theorem aKh:laidOutB Tryz.prog=true:=by kernel_rfl
set_option maxRecDepth 100000 in
theorem uU(H:Type)(enc:TypeId × Value->H)(W:World)(base:Nat)(args:Array Value)(ds gs:List (DataW H))(before:List MemPlace)
  (hval:∀(j:Nat) t v,Tryz.f3.params[j]? = some t->args[j]? = some v->Value.okWide Tryz.prog W .any base t v)
  (hW:DataW.Whole enc Tryz.prog Tryz.f3.params.toList Rows.resolveSaysSpec.vars false W args.toList ds gs before) (hL:laidMetH Tryz.prog Rows.resolveSaysRow.laid W) (hsh:W.ShapedOpen Tryz.prog):
  Calls Tryz.prog 3 args W fun e W'=> ∃v,e=.returned v/\Rows.resolveSaysSpec.post enc Tryz.prog Tryz.f3 false true false false W args v W':=by
 have a7:=hW;obtain⟨p,q,a1,hV,rfl,b7,b8⟩:=hW;have hA:DataW.TrodAll enc Tryz.prog W 0 (fun _=>true) true Tryz.f3.params.toList args.toList ds p:=a1;rw[Tryz.params3] at hA hval;obtain⟨v0,b9,d0,c0,p0,q0,a3,rfl,rfl,h0,r0⟩:=trodAll_cons hA;obtain⟨v1,b5,d1,b6,p1,q1,rfl,rfl,rfl,h1,r1⟩:=trodAll_cons r0;obtain⟨rfl,rfl,rfl⟩:=trodAll_nil r1;obtain rfl:args=#[v0,v1]:=by cases args;simp_all
 obtain⟨rfl,rfl⟩:=trodVars_none hV;have a9:∀x∈p0,x.block<W.heap.size:=by obtain⟨m,hm⟩:=h0;exact DataW.trod_lt m _ _ _ hm
 have k0:=h0;have a8:∀x∈p1,x.block<W.heap.size:=by obtain⟨m,hm⟩:=h1;exact DataW.trod_lt m _ _ _ hm
 have k1:=h1;obtain⟨b0,a2,rfl,a6⟩:=aNc (hval 0 24 v0 rfl rfl) h0;obtain⟨b3,a5,b2,a4,b1,rfl,b4⟩:=aNd (hval 1 30 v1 rfl rfl) h1;clear a1;rw[MakeChecks.laidMetH_plain _ _ _ (by kernel_rfl)] at hL;have hE:Env W:=aVi hL (by simp[Rows.resolveSaysRow]) (by simp[Rows.resolveSaysRow]) (by simp[Rows.resolveSaysRow]) (by simp[Rows.resolveSaysRow]);have hM:lN W:=aQm hsh;have a0:lM a2:=aRa h0;refine (aBl (fun b=>b<W.heap.size) b0 b3 a2 a5 b2 a4 b1 W (fun _ h=>h) a6 b4 a0 hE hM).mono fun e W' ⟨he,bel⟩=>?_;subst he;exact⟨_,rfl,_,_,_,[],_,[],a7,trodAll_mk1 (shut_bool Tryz.underlying4 _),
  (trodAll_cons_mk (Below.trod aKh (by kernel_rfl) (of_decide_eq_true (by kernel_rfl)) k0 bel a9) (trodAll_cons_mk (Below.trod aKh (by kernel_rfl) (of_decide_eq_true (by kernel_rfl)) k1 bel a8) trodAll_mk0)),rfl,bel.frame _,fun h=>by cases h⟩
set_option maxRecDepth 100000 in
theorem lifted(os:Os)(started:os.Started)(H:Type)(enc:TypeId × Value->H):
  ReturnsInHanded {} Tryz.checked os 3 .any (fun w args=>(Rows.resolveSaysSpec.pre enc Tryz.prog Tryz.f3 Rows.resolveSaysRow.domain false w args/\laidMetH Tryz.prog Rows.resolveSaysRow.laid w)/\sizedMet enc Tryz.prog Tryz.f3 (OpenSpec.ofChange Rows.resolveSaysSpec) false w args)
   (Rows.resolveSaysSpec.post enc Tryz.prog Tryz.f3 false true false false):=by
 refine xY (C:=Tryz.checked) (X:=fun w _=>laidMetH Tryz.prog Rows.resolveSaysRow.laid w) (fun _ _ _ hh h=>h.of_heap hh) own started (by kernel_rfl) Tryz.func3
  (ChangeSpec.witness_shaped (enc:=enc) (C:=Tryz.checked) (os:=os) (X:=fun w _=>laidMetH Tryz.prog Rows.resolveSaysRow.laid w) false (World.laidAll Tryz.prog os Rows.resolveSaysRow.laid) #[.agg #[.slice none 0 0],.agg #[.slice none 0 0,.slice none 0 0,.slice none 0 0,.slice none 0 0]] 8 (World.laidAll_os _ _ _)
   (World.shaped_of_ZipB (by kernel_rfl) (by kernel_rfl)) (by kernel_rfl) (by kernel_rfl) (by kernel_rfl)
   (by rw[MakeChecks.laidMetH_plain _ _ _ (by kernel_rfl)];exact laidMet_laidAll _ (by kernel_rfl) (by kernel_rfl))) ?_
 intro W base args ds gs a0 a1 hW hL a2;exact uU H enc W base args ds gs a0 a1 hW hL a2
theorem aWq:Rows.resolveSaysRow.wf (OpenSpec.ofChange Rows.resolveSaysSpec)=true:=by kernel_rfl
theorem aWr:laidOutB Tryz.pinned.checked.prog=true:=by kernel_rfl
theorem aWs:mapsRowed Tryz.pinned.checked.prog=true:=by kernel_rfl
theorem aWt:(Rows.resolveSaysRow.inPlace==Tryz.pinned.checked.prog.inPlace 3)=true:=by kernel_rfl
theorem aWu:(Rows.resolveSaysRow.unfollowed==Tryz.pinned.checked.prog.unfollowed 3)=true:=by kernel_rfl
theorem aWv:(Rows.resolveSaysRow.recurses==Tryz.pinned.checked.prog.recurses 3)=true:=by kernel_rfl
theorem aWw:(Rows.resolveSaysRow.named==Tryz.pinned.checked.prog.varsNamed 3)=true:=by kernel_rfl
theorem aWx:(Rows.resolveSaysRow.plainKeys==Tryz.pinned.checked.prog.plainKeys)=true:=by kernel_rfl
theorem aWy:Tryz.pinned.checked.prog.stopsHeard=true:=by kernel_rfl
theorem aWz:Tryz.pinned.checked.prog.mayEnter=true:=by kernel_rfl
theorem aVj:(Rows.resolveSaysRow.lifted==Tryz.pinned.checked.prog.liftsFinal)=true:=by kernel_rfl
theorem aVm:joinedFacts Tryz.pinned.checked.prog 3 Tryz.f3 Rows.resolveSaysSpec Rows.resolveSaysRow=true:=by
 unfold joinedFacts;rw[aWq,aWr,aWs,aWt,aWu,aWv,aWw,aWx,aWy,aWz,aVj];kernel_rfl
theorem aXo:Rows.ResolveSaysSaid:=
 OpenClaim.holds_of_wide 3 Tryz.f3 rfl rfl rfl rfl rfl rfl rfl ⟨rfl,rfl,rfl,rfl,rfl⟩ rfl rfl rfl rfl rfl (by kernel_rfl) Tryz.func3 aVm
  (of_decide_eq_true (by kernel_rfl)) (by unfold Func.isWrapper;first | (rw[if_pos (by decide +kernel)];kernel_rfl) | (rw[if_neg (by decide +kernel)];exact⟨rfl,rfl⟩))
  (fun os started H enc _=>lifted os started H enc)
theorem plain (f : FuncId) (fn : Func) (hf : Tryz.pinned.checked.prog.funcNamed "quartermaster/quartermasterlaw.ResolveSays" = some f) (hfn : Tryz.pinned.checked.prog.funcs[f]? = some fn):
  true=Tryz.pinned.checked.prog.looks []/\∀(j:Nat) t,fn.params[j]? = some t->Tryz.pinned.checked.prog.wantsStandIn t=false:=by
 obtain rfl : f = 3 := Option.some.inj ((show Tryz.prog.funcNamed "quartermaster/quartermasterlaw.ResolveSays" = some 3 by kernel_rfl).symm.trans hf) |>.symm
 obtain rfl:fn=Tryz.f3:=(Option.some.inj (Tryz.func3.symm.trans hfn)).symm;refine⟨by kernel_rfl,fun j t ht=>?_⟩;rw[Tryz.params3] at ht;have hm:t ∈ [24,30]:=by simpa using Array.mem_of_getElem? ht
 have a0:([24,30].all fun u=> !Tryz.prog.wantsStandIn u)=true:=by kernel_rfl
 exact (show Tryz.prog.wantsStandIn t=false by simpa using List.all_eq_true.1 a0 t hm)
theorem aWn:Tryz.pinned.checked.prog.mainIs=some (Rows.resolveSaysCard.stood.harness.1,Rows.resolveSaysCard.stood.harness.2.toList):=by kernel_rfl
theorem aWm:false=Rows.resolveSaysRow.goesBy Tryz.pinned.checked.prog:=by kernel_rfl
theorem card:Rows.ResolveSaysCardSaid:=
 Claim7.holds_tied_plain_at .later [] _ _ _ _ aXo (fun _ h=>by cases h) (by kernel_rfl) (fun _ h=>by cases h) resolveSays_row_tie rfl ⟨rfl,rfl⟩ aWn rfl plain aWm
end Go.Proofs.YthjlcjdlelkkdaaGreatDoor.resolveSays
namespace Go.Proofs.YthjlcjdlelkkdaaGreatDoor
theorem resolveSays_holds:Rows.ResolveSaysCardSaid:=resolveSays.card
#print axioms resolveSays_holds
end Go.Proofs.YthjlcjdlelkkdaaGreatDoor
