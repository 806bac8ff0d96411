/- tree.Check answers as the plain function chkT says, of any tree that lies in memory; nothing that was there is changed. -/
import Derived.Test.YtkckkjpkidcbnaaGreatDoorTreePack
import Derived.Lib.QuietBelow
namespace Go.Proofs.YtkckkjpkidcbnaaGreatDoor
open Go.RowKit Go.Sort

theorem cells14 {w : World} {b o : Nat} {v0 v1 v2 v3 v4 v5 v6 v7 v8 v9 v10 v11 v12 v13 : Value} (h : ∀ (m : Nat) (v : Value), [v0, v1, v2, v3, v4, v5, v6, v7, v8, v9, v10, v11, v12, v13][m]? = some v → w.cell? ⟨b, o + m, none⟩ = some v) :
    w.cell? ⟨b, o, none⟩ = some v0 ∧ w.cell? ⟨b, o + 1, none⟩ = some v1 ∧ w.cell? ⟨b, o + 2, none⟩ = some v2 ∧ w.cell? ⟨b, o + 3, none⟩ = some v3 ∧ w.cell? ⟨b, o + 4, none⟩ = some v4 ∧ w.cell? ⟨b, o + 5, none⟩ = some v5 ∧ w.cell? ⟨b, o + 6, none⟩ = some v6 ∧ w.cell? ⟨b, o + 7, none⟩ = some v7 ∧ w.cell? ⟨b, o + 8, none⟩ = some v8 ∧ w.cell? ⟨b, o + 9, none⟩ = some v9
      ∧ w.cell? ⟨b, o + 10, none⟩ = some v10 ∧ w.cell? ⟨b, o + 11, none⟩ = some v11 ∧ w.cell? ⟨b, o + 12, none⟩ = some v12 ∧ w.cell? ⟨b, o + 13, none⟩ = some v13 :=
  ⟨h 0 _ rfl, h 1 _ rfl, h 2 _ rfl, h 3 _ rfl, h 4 _ rfl, h 5 _ rfl, h 6 _ rfl, h 7 _ rfl, h 8 _ rfl, h 9 _ rfl, h 10 _ rfl, h 11 _ rfl, h 12 _ rfl, h 13 _ rfl⟩
/-- Where Check's closure is asked for place k. -/
structure ChkAt (S : Nat → Prop) (ct cc : Nat) (ps : List PK) (v : Value) (k : Nat) (w : World) : Prop where
  tree : VarAt ct 44 v w
  sum : VarAt cc 3 (.int .i64 (ps.length + sumF ps k : Nat)) w
  row : PkgsIs S w ps v
  old : ∀ b, S b → b < ct ∧ b < cc
  part : ct ≠ cc
  small : sumF ps k ≤ 2 * k
theorem ChkAt.keep {S : Nat → Prop} {ct cc : Nat} {ps : List PK} {v : Value} {k : Nat} {w w' : World} (h : ChkAt S ct cc ps v k w) (k' : Keep w w') : ChkAt S ct cc ps v k w' :=
  ⟨h.tree.keep k' h.tree.facts.2.2, h.sum.keep k' h.sum.facts.2.2, h.row.keep (fun b hb => Nat.lt_trans (h.old b hb).1 h.tree.facts.2.2) k', h.old, h.part, h.small⟩
theorem ChkAt.next {S : Nat → Prop} {ct cc : Nat} {ps : List PK} {v : Value} {k : Nat} {w w' : World} (h : ChkAt S ct cc ps v k w) (ha : Apart (One cc) w w') (hs : VarAt cc 3 (.int .i64 (ps.length + sumF ps (k + 1) : Nat)) w') (hm : sumF ps (k + 1) ≤ 2 * (k + 1)) : ChkAt S ct cc ps v (k + 1) w' := by
  refine ⟨?_, hs, h.row.mono (fun p hp => ha.cell p (Nat.lt_trans (h.old _ hp).1 h.tree.facts.2.2) fun e => ?_) (fun _ h => h), h.old, h.part, hm⟩
  · have := h.tree
    unfold VarAt at this ⊢
    rw [ha.block ct h.tree.facts.2.2 fun e => h.part e]; exact this
  · have e' : p.block = cc := e
    have := (h.old _ hp).2; omega
theorem Boxed.apart {b c : Nat} {cs : Array Value} {w w' : World} (h : Boxed b cs w) (ha : Apart (One c) w w') (hb : b ≠ c) : Boxed b cs w' :=
  ⟨Nat.lt_of_lt_of_le h.1 ha.size, fun o => (ha.cell ⟨b, o, none⟩ h.1 (fun e => hb e)).trans (h.2 o)⟩
theorem at_calls {P : Program} {F : FuncId} {args : Array Value} {W : World} {Q : Ending → World → Prop} (R : World → Prop) (hR : R W) (h : ∀ W', R W' → Calls P F args W' Q) : Calls P F args W Q := h W hR
theorem at_wp {P : Program} {c : Code} {Q : Exit → Act → World → Prop} {a : Act} {W : World} (R : World → Prop) (hR : R W) (h : ∀ W', R W' → c.wp P Q a W') : c.wp P Q a W := h W hR

set_option maxHeartbeats 4000000 in
set_option maxRecDepth 100000 in
theorem check1_any (S : Nat → Prop) (ct cc : Nat) (ps : List PK) (v : Value) (k : Nat) (w : World) (hk : k < ps.length) (h8 : ps.length ≤ 8) (h : ChkAt S ct cc ps v k w) :
    Calls Tryz.prog 87 #[.int .i64 k, .pointer (some ⟨ct, 0, none⟩), .pointer (some ⟨cc, 0, none⟩)] w fun e w' => e = .returned (.int .i64 (pkE ps k)) ∧ (pkE ps k = 0 → ChkAt S ct cc ps v (k + 1) w') ∧ Apart (One cc) w w' := by
  have HH := hid h
  obtain ⟨b, off, cap, rfl, hb, hlen, hrow⟩ := h.row.get hk
  obtain ⟨cs, hcs, hp⟩ := hrow k hk
  obtain ⟨ht0, -, htl⟩ := h.tree.facts
  obtain ⟨hs0, hsz, hsl⟩ := h.sum.facts
  have HP := hid hp
  generalize hpk : ps[k] = p at hp HP
  have HPE : Hid (pkE ps k = if chkP p ≠ 0 then chkP p else if 0 < k ∧ behindB p (ps.getD (k - 1) PK.zero) = false then 6 else if 14 < ps.length + sumF ps (k + 1) then 2 else 0) := by
    show _ = _
    unfold pkE
    rw [List.getD_eq_getElem?_getD, List.getElem?_eq_getElem hk, Option.getD_some, hpk]
  have HSU : Hid (sumF ps (k + 1) = sumF ps k + p.fl.length) := by show _ = _; rw [sumF_succ hk, hpk]
  obtain ⟨kk, a, fl, nt, kids, kp, fp, kc, fc, hnd, hfl, rfl, hf, hn⟩ := hp.spelt
  obtain ⟨c0, c1, c2, c3, c4, c5, c6, c7, c8, c9, c10, c11, c12, c13⟩ := cells14 hcs
  have hbo := h.old b hb
  clear hcs hp hf hn hnd hpk h
  rcases p with ⟨n, v, sl, fs, nd⟩
  simp only at hfl c0 c1 c2 c3
  have hS : ∀ b, S b → b < w.heap.size := fun b hb => Nat.lt_trans (HH.out.old b hb).1 htl
  have HSM : Hid (sumF ps k ≤ 2 * k) := HH.out.small
  go_enter Tryz.func87, Tryz.ntmps87
  go_wp2_with fail
  refine at_calls (fun W' => Keep w W' ∧ Boxed w.heap.size #[.string n, .int .i64 v, .int .i64 sl, .slice fp fs.length fc, .int .i64 kk, .string a.n, .int .i64 a.op, .int .i64 a.v, .int .i64 a.sl, .string a.f, .bool a.on, .string fl, .bool nt, .slice kp kids.length kc] W') ⟨Keep.alloc _ _, Boxed.new _ _ _⟩ ?_
  rintro W0 ⟨k0, b0⟩
  refine (package_any S _ _ W0 (fun b hb => Nat.lt_of_lt_of_le (hS b hb) k0.size) (HP.out.keep hS k0)).mono ?_
  rintro e w1 ⟨rfl, k1⟩
  have K1 := hid (k0.trans k1)
  have B1 := hid (b0.keep k1 b0.1)
  have H1 := hid (HH.out.keep K1.out)
  clear k1 k0 b0 c0 c1 c2 c3 c4 c5 c6 c7 c8 c9 c10 c11 c12 c13 ht0 hs0 hsz
  generalize hcp : chkP ⟨n, v, sl, fs, nd⟩ = cp at HPE ⊢
  by_cases hz : cp = 0
  · subst hz
    have h2 := (chkFs_get (chkP_get hcp).2.2.1).1
    simp only at h2
    have hsm := HSM.out
    clear hcp
    obtain ⟨hs1, hsz1, hsl1⟩ := H1.out.sum.facts
    have hc1 := B1.out.2
    have hl1 := B1.out.1
    go_wp2_with fail
    clear hs1 hsz1 hc1
    refine at_wp (fun W' => VarAt cc 3 (.int .i64 (((ps.length + sumF ps k : Nat) : Int) + (fs.length : Int))) W' ∧ Apart (One cc) w1 W') ⟨H1.out.sum.set _, one_set _ _ _⟩ ?_
    rintro W2 ⟨v2, a2⟩
    have e2 : ((ps.length + sumF ps k : Nat) : Int) + (fs.length : Int) = ((ps.length + sumF ps (k + 1) : Nat) : Int) := by have := HSU.out; omega
    rw [e2] at v2
    have hsm2 : sumF ps (k + 1) ≤ 2 * (k + 1) := by have := HSU.out; omega
    have V2 := hid v2
    have H2 := hid (H1.out.next a2 v2 hsm2)
    have A2 := hid ((one_keep K1.out : Apart (One cc) w w1).trans a2)
    have B2 := hid (B1.out.apart a2 (by omega))
    have P2 : Hid (PkgIs S W2 ⟨n, v, sl, fs, nd⟩ [.string n, .int .i64 v, .int .i64 sl, .slice fp fs.length fc, .int .i64 kk, .string a.n, .int .i64 a.op, .int .i64 a.v, .int .i64 a.sl, .string a.f, .bool a.on, .string fl, .bool nt, .slice kp kids.length kc]) := HP.out.mono (fun p hp => A2.out.cell p (hS _ hp) fun e => by have e' : p.block = cc := e; have := (HH.out.old _ hp).2; omega) (fun _ h => h)
    clear v2 a2 e2 B1 H1 K1 HSM hsm
    by_cases h0 : 0 < k
    · obtain ⟨m, rfl⟩ : ∃ m, k = m + 1 := ⟨k - 1, by omega⟩
      have hm : m < ps.length := by omega
      obtain ⟨b2, off2, cap2, hv2, hb2, -, hrow2⟩ := H2.out.row.get hm
      cases hv2
      obtain ⟨cs1, hcs1, hp1⟩ := hrow2 m hm
      have HQ : Hid (ps.getD (m + 1 - 1) PK.zero = ps[m]) := by show _ = _; rw [List.getD_eq_getElem?_getD, Nat.add_sub_cancel, List.getElem?_eq_getElem hm, Option.getD_some]
      rw [HQ.out] at HPE
      generalize ps[m] = q at hp1 HPE
      obtain ⟨k1, a1, fl1, nt1, kids1, kp1, fp1, kc1, fc1, -, hfl1, rfl, -, -⟩ := hp1.spelt
      have HP1 := hid hp1
      rcases q with ⟨n1, v1, sl1, fs1, nd1⟩
      have hblt : b < W2.heap.size := Nat.lt_trans hbo.1 H2.out.tree.facts.2.2
      have cb : ∀ (d : Nat) (os : Array Obj) (o : Nat) (x : Value), W2.cell? ⟨b, o, none⟩ = some x → (grow (redrawn W2 d) os).cell? ⟨b, o, none⟩ = some x := fun d os o x hx => ((below_regrown W2 d os).cell (p := ⟨b, o, none⟩) hblt).trans hx
      obtain ⟨c0, c1, c2, c3, c4, c5, c6, c7, c8, c9, c10, c11, c12, c13⟩ := cells14 hcs1
      have d0 := fun d os => cb d os _ _ c0
      have d1 := fun d os => cb d os _ _ c1
      have d2 := fun d os => cb d os _ _ c2
      have d3 := fun d os => cb d os _ _ c3
      have d4 := fun d os => cb d os _ _ c4
      have d5 := fun d os => cb d os _ _ c5
      have d6 := fun d os => cb d os _ _ c6
      have d7 := fun d os => cb d os _ _ c7
      have d8 := fun d os => cb d os _ _ c8
      have d9 := fun d os => cb d os _ _ c9
      have d10 := fun d os => cb d os _ _ c10
      have d11 := fun d os => cb d os _ _ c11
      have d12 := fun d os => cb d os _ _ c12
      have d13 := fun d os => cb d os _ _ c13
      have dt : ∀ d os, (grow (redrawn W2 d) os).cell? ⟨ct, 0, none⟩ = some (.slice (some ⟨b, off, none⟩) ps.length cap) := fun d os => ((below_regrown W2 d os).cell (p := ⟨ct, 0, none⟩) H2.out.tree.facts.2.2).trans H2.out.tree.facts.1
      have db : ∀ o d os, (grow (redrawn W2 d) os).cell? ⟨w.heap.size, o, none⟩ = (#[.string n, .int .i64 v, .int .i64 sl, .slice fp fs.length fc, .int .i64 kk, .string a.n, .int .i64 a.op, .int .i64 a.v, .int .i64 a.sl, .string a.f, .bool a.on, .string fl, .bool nt, .slice kp kids.length kc] : Array Value)[o]? := fun o d os => (B2.out.keep (below_regrown W2 d os) B2.out.1).2 o
      have hS2 : ∀ b, S b → b < W2.heap.size := fun b hb => Nat.lt_of_lt_of_le (hS b hb) A2.out.size
      generalize hbe : behindB ⟨n, v, sl, fs, nd⟩ ⟨n1, v1, sl1, fs1, nd1⟩ = β at HPE
      have cBeh := hid (show ∀ d os, Calls Tryz.prog 89 #[.agg #[.string n, .int .i64 v, .int .i64 sl, .slice fp fs.length fc, .int .i64 kk, .string a.n, .int .i64 a.op, .int .i64 a.v, .int .i64 a.sl, .string a.f, .bool a.on, .string fl, .bool nt, .slice kp kids.length kc], .agg #[.string n1, .int .i64 v1, .int .i64 sl1, .slice fp1 fs1.length fc1, .int .i64 k1, .string a1.n, .int .i64 a1.op, .int .i64 a1.v, .int .i64 a1.sl, .string a1.f, .bool a1.on, .string fl1, .bool nt1, .slice kp1 kids1.length kc1]] (grow (redrawn W2 d) os) fun e w'' => e = .returned (.bool β) ∧ ∃ p : Regrown, w'' = grow (redrawn W2 p.d) p.os from fun d os => by rw [← hbe]; exact Calls.regrown_of (behind_any S _ _ _ _ _ (P2.out.keep hS2 (below_regrown W2 d os)) (HP1.out.keep hS2 (below_regrown W2 d os))))
      have h0' : (0 : Int) < ((m + 1 : Nat) : Int) := by omega
      have hd : decide ((0 : Int) < ((m + 1 : Nat) : Int)) = true := decide_eq_true h0'
      have e1 : ((m + 1 : Nat) : Int) - 1 = (m : Int) := by omega
      clear hcs1 hp1 hrow2 c0 c1 c2 c3 c4 c5 c6 c7 c8 c9 c10 c11 c12 c13 cb hbe
      refine wp_region_quiet_below (by kernel_rfl) (by kernel_rfl) ?_
      repeat (first | go_big_quiet_step (exact cBeh.out _ _) | quiet_step (exact cBeh.out _ _))
      refine wpQuiet_nil ?_
      intro _ hw'
      obtain ⟨⟨dq, osq⟩, hw''⟩ := hw'
      subst hw''
      have k4 := below_regrown W2 dq osq
      generalize grow (redrawn W2 dq) osq = W4 at k4 ⊢
      have K4 := hid k4
      have H4 := hid (H2.out.keep k4)
      have A4 := hid (A2.out.trans (one_keep k4))
      obtain ⟨hs4, -, hsl4⟩ := H4.out.sum.facts
      clear d0 d1 d2 d3 d4 d5 d6 d7 d8 d9 d10 d11 d12 d13 dt db cBeh k4
      cases β
      · have HY : Hid (pkE ps (m + 1) = 6) := by show _ = _; rw [HPE.out]; simp
        clear HPE
        go_wp2_with fail
        go_ret
        exact ⟨ret_int HY.out.symm, fun h => absurd (HY.out.symm.trans h) (by decide), A4.out⟩
      have HX : Hid (pkE ps (m + 1) = if 14 < ps.length + sumF ps (m + 1 + 1) then 2 else 0) := by show _ = _; rw [HPE.out]; simp
      clear HPE
      by_cases h14 : 14 < ps.length + sumF ps (m + 1 + 1)
      · have h14' : (14 : Int) < ((ps.length + sumF ps (m + 1 + 1) : Nat) : Int) := by omega
        have HY : Hid (pkE ps (m + 1) = 2) := by show _ = _; rw [HX.out, if_pos h14]
        clear h14 HX
        go_wp2_with fail
        go_ret
        exact ⟨ret_int HY.out.symm, fun h => absurd (HY.out.symm.trans h) (by decide), A4.out⟩
      · have h14' : ¬ (14 : Int) < ((ps.length + sumF ps (m + 1 + 1) : Nat) : Int) := by omega
        have HY : Hid (pkE ps (m + 1) = 0) := by show _ = _; rw [HX.out, if_neg h14]
        clear h14 HX
        go_wp2_with fail
        go_ret
        exact ⟨ret_int HY.out.symm, fun _ => H4.out, A4.out⟩
    · have hd : decide ((0 : Int) < (k : Int)) = false := decide_eq_false (by omega)
      have HX : Hid (pkE ps k = if 14 < ps.length + sumF ps (k + 1) then 2 else 0) := by show _ = _; rw [HPE.out]; simp [h0]
      clear HPE
      go_quiet (fail)
      have k4 : Keep W2 (W2.drewN nq) := Keep.drewN (Keep.refl _) _
      generalize W2.drewN nq = W4 at k4 ⊢
      have K4 := hid k4
      have H4 := hid (H2.out.keep k4)
      have A4 := hid (A2.out.trans (one_keep k4))
      obtain ⟨hs4, -, hsl4⟩ := H4.out.sum.facts
      have h14 : ¬ 14 < ps.length + sumF ps (k + 1) := by omega
      have h14' : ¬ (14 : Int) < ((ps.length + sumF ps (k + 1) : Nat) : Int) := by omega
      have HY : Hid (pkE ps (k) = 0) := by show _ = _; rw [HX.out, if_neg h14]
      clear h14 HX
      go_wp2_with fail
      go_ret
      exact ⟨ret_int HY.out.symm, fun _ => H4.out, A4.out⟩
  · have HX : Hid (pkE ps k = cp) := by show _ = _; rw [HPE.out, if_pos hz]
    have hz1 : (cp == 0) = false := by simp [hz]
    have hz2 : (cp != 0) = true := by simp [hz]
    have HZ := hid hz
    clear hz HPE hcp
    go_wp2_with fail
    go_ret
    exact ⟨ret_int HX.out.symm, fun h => absurd (HX.out.symm.trans h) HZ.out, one_keep K1.out⟩

theorem enter_check1 (args : Array Value) (w : World) : (callFunc 87 args).run Tryz.prog w = .ok (.enter 87 args) w := enters_of Tryz.func87 (by kernel_rfl) rfl args w

set_option maxHeartbeats 4000000 in
set_option maxRecDepth 100000 in
theorem treeCheck_any (S : Nat → Prop) (ps : List PK) (v : Value) (w : World) (hS : ∀ b, S b → b < w.heap.size) (hp : PkgsIs S w ps v) :
    Calls Tryz.prog 27 #[.agg #[v]] w fun e w' => e = .returned (.int .i64 (chkT ps)) ∧ Keep w w' := by
  have HP := hid hp
  obtain ⟨p, cap, rfl, hlen⟩ := hp.len
  have hmf : ∀ (fn : Fn) (first cap : Array Value) (w : World), (Instr.makeFunc fn first cap).run Tryz.prog w = .ok (.func fn first cap) w := fun _ _ _ _ => rfl
  have hent := enter_check1
  clear hp
  by_cases h8 : 8 < ps.length
  · have h8' : (8 : Int) < (ps.length : Int) := by omega
    have HX : Hid (chkT ps = 2) := by show _ = _; unfold chkT; rw [if_pos h8]
    have k0 := hid (Keep.alloc w (.cells #[.slice p ps.length cap] 44))
    go_enter Tryz.func27, Tryz.ntmps27
    go_wp2_with fail
    go_ret
    exact ⟨ret_int HX.out.symm, k0.out⟩
  · have h8' : ¬ (8 : Int) < (ps.length : Int) := by omega
    have HX : Hid (chkT ps = firstE (pkE ps) 0 ps.length) := by show _ = _; unfold chkT; rw [if_neg h8]
    have hcall : ∀ (k : Nat) (W' : World), k < ps.length → ChkAt S w.heap.size (w.heap.size + 1) ps (.slice p ps.length cap) k W' → Calls Tryz.prog 87 (#[.int .i64 k] ++ #[.pointer (some ⟨w.heap.size, 0, none⟩), .pointer (some ⟨w.heap.size + 1, 0, none⟩)]) W' fun e w' => e = .returned (.int .i64 (pkE ps k)) ∧ (pkE ps k = 0 → ChkAt S w.heap.size (w.heap.size + 1) ps (.slice p ps.length cap) (k + 1) w') ∧ Apart (One (w.heap.size + 1)) W' w' := by
      intro k W' hk h1
      exact check1_any S _ _ ps _ k W' hk (by omega) h1
    have hone := hid (fun W h => oneByOne_any ps.length (pkE ps) (ChkAt S w.heap.size (w.heap.size + 1) ps (.slice p ps.length cap)) (w.heap.size + 1) hlen enter_check1 hcall W h)
    clear hcall h8
    go_enter Tryz.func27, Tryz.ntmps27
    go_wp2_with fail
    refine at_calls (fun W' => Keep w W' ∧ ChkAt S w.heap.size (w.heap.size + 1) ps (.slice p ps.length cap) 0 W') ⟨(Keep.alloc _ _).alloc' _, ?_⟩ ?_
    · have hz := alloc_size w (.cells #[.slice p ps.length cap] 44)
      refine ⟨(VarAt.new w 44 (.slice p ps.length cap)).keep (Keep.alloc _ _) (by rw [hz]; omega), ?_, HP.out.keep hS ((Keep.alloc _ _).alloc' _), fun b hb => ⟨hS b hb, Nat.lt_succ_of_lt (hS b hb)⟩, by omega, by simp [sumF]⟩
      have := VarAt.new (w.alloc (.cells #[.slice p ps.length cap] 44)) 3 (.int .i64 ps.length)
      rw [hz] at this
      have e0 : (ps.length + sumF ps 0 : Nat) = ps.length := by simp [sumF]
      rw [e0]; exact this
    rintro W1 ⟨k1, h1⟩
    refine (hone.out W1 h1).mono ?_
    rintro e w2 ⟨rfl, ha2⟩
    have K2 : Hid (Keep w w2) := Below.trans k1 (ha2.below k1.size fun b hb e => by have : b = w.heap.size + 1 := e; omega)
    clear ha2 hone k1 h1
    go_wp2_with fail
    go_ret
    exact ⟨ret_int HX.out.symm, K2.out⟩
end Go.Proofs.YtkckkjpkidcbnaaGreatDoor
