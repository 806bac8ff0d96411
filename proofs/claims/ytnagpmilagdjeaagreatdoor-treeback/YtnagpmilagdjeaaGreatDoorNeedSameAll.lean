/- need.Same answers whether two needs that lie in memory are alike. -/
import Derived.Test.YtnagpmilagdjeaaGreatDoorNeedPairs
import Derived.BigRegion
import Derived.Deep.CutRange
namespace Go.Proofs.YtnagpmilagdjeaaGreatDoor
open Go.RowKit

theorem infoPair : (Tryz.prog.info? 91).map (fun i => (i.zero, i.size, i.bytes)) = some (some (.agg #[.int .i64 0, .string ⟨#[]⟩, .int .i64 0, .int .i64 0, .int .i64 0, .string ⟨#[]⟩, .bool false, .string ⟨#[]⟩, .bool false, .slice none 0 0, .int .i64 0, .string ⟨#[]⟩, .int .i64 0, .int .i64 0, .int .i64 0, .string ⟨#[]⟩, .bool false, .string ⟨#[]⟩, .bool false, .slice none 0 0]), 20, 240) := by kernel_rfl
theorem cells20 {w : World} {g o : Nat} {v0 v1 v2 v3 v4 v5 v6 v7 v8 v9 v10 v11 v12 v13 v14 v15 v16 v17 v18 v19 : Value} (h : ∀ (j : Nat) (u : Value), ([v0, v1, v2, v3, v4, v5, v6, v7, v8, v9] ++ [v10, v11, v12, v13, v14, v15, v16, v17, v18, v19])[j]? = some u → w.cell? ⟨g, o + j, none⟩ = some u) : w.cell? ⟨g, o, none⟩ = some v0 ∧ w.cell? ⟨g, o + 1, none⟩ = some v1 ∧ w.cell? ⟨g, o + 2, none⟩ = some v2 ∧ w.cell? ⟨g, o + 3, none⟩ = some v3 ∧ w.cell? ⟨g, o + 4, none⟩ = some v4 ∧ w.cell? ⟨g, o + 5, none⟩ = some v5 ∧ w.cell? ⟨g, o + 6, none⟩ = some v6 ∧ w.cell? ⟨g, o + 7, none⟩ = some v7 ∧ w.cell? ⟨g, o + 8, none⟩ = some v8 ∧ w.cell? ⟨g, o + 9, none⟩ = some v9 ∧ w.cell? ⟨g, o + 10, none⟩ = some v10 ∧ w.cell? ⟨g, o + 11, none⟩ = some v11 ∧ w.cell? ⟨g, o + 12, none⟩ = some v12 ∧ w.cell? ⟨g, o + 13, none⟩ = some v13 ∧ w.cell? ⟨g, o + 14, none⟩ = some v14 ∧ w.cell? ⟨g, o + 15, none⟩ = some v15 ∧ w.cell? ⟨g, o + 16, none⟩ = some v16 ∧ w.cell? ⟨g, o + 17, none⟩ = some v17 ∧ w.cell? ⟨g, o + 18, none⟩ = some v18 ∧ w.cell? ⟨g, o + 19, none⟩ = some v19 := ⟨h 0 _ rfl, h 1 _ rfl, h 2 _ rfl, h 3 _ rfl, h 4 _ rfl, h 5 _ rfl, h 6 _ rfl, h 7 _ rfl, h 8 _ rfl, h 9 _ rfl, h 10 _ rfl, h 11 _ rfl, h 12 _ rfl, h 13 _ rfl, h 14 _ rfl, h 15 _ rfl, h 16 _ rfl, h 17 _ rfl, h 18 _ rfl, h 19 _ rfl⟩

theorem PairRow.shape {B : Nat} {S : Nat → Prop} {w0 : World} {v : Value} {ps : List (NT × NT)} {w : World} (h : PairRow B S w0 v ps w) : ∃ p cap, v = .slice p ps.length cap := by
  obtain ⟨csl, -, -, ⟨-, ⟨rfl, h0⟩ | ⟨g, cap, cur, e1, -⟩⟩, -⟩ := h
  · exact ⟨none, 0, by rw [h0]⟩
  · exact ⟨_, _, e1⟩
theorem grown_undrew {w w' : World} {row : Option Nat} (h : w.drew.grownBy w' row) : w.grownBy w' row := ⟨h.os, h.tape, h.output, h.size, h.block⟩
theorem two_boxes (w : World) (c1 c2 : Array Value) : NBox w.heap.size c1 ((w.alloc (.cells c1 26)).alloc (.cells c2 26)).drew ∧ NBox (w.heap.size + 1) c2 ((w.alloc (.cells c1 26)).alloc (.cells c2 26)).drew ∧ Keep w ((w.alloc (.cells c1 26)).alloc (.cells c2 26)).drew := by
  have h1 := NBox.new w c1
  have h2 := NBox.new (w.alloc (.cells c1 26)) c2
  rw [alloc_size] at h2
  have a := h1.keep (Keep.alloc (w.alloc (.cells c1 26)) (.cells c2 26)) h1.facts.2.2
  exact ⟨a, h2, ((Keep.alloc _ _).alloc' _).drew⟩

set_option maxHeartbeats 1000000 in
set_option maxRecDepth 100000 in
theorem needSame_any (t u : NT) (cs1 cs2 : List Value) (w : World) (S : Nat → Prop) (hS : ∀ b, S b → b < w.heap.size) (h1 : NeedIs S w t cs1) (h2 : NeedIs S w u cs2) (hsz : t.size ≤ 2097152) :
    Calls Tryz.prog 14 #[.agg cs1.toArray, .agg cs2.toArray] w fun e w' => (∃ b : Bool, e = .returned (.bool b) ∧ (b = true ↔ t = u)) ∧ Keep w w' := by
  obtain ⟨i0, hi, hz0, hz1, hz2⟩ := info_parts infoPair
  have H1 := hid h1
  have H2 := hid h2
  cases ht : t with
  | node k1 a1 fl1 nt1 ks1 =>
  cases hu : u with
  | node k2 a2 fl2 nt2 ks2 =>
  rw [ht, NeedIs] at h1
  rw [hu, NeedIs] at h2
  obtain ⟨kp1, kc1, rfl, -, -, -⟩ := h1
  obtain ⟨kp2, kc2, rfl, -, -, -⟩ := h2
  rw [← ht, ← hu]
  clear ht hu
  have K0 : Hid (Keep w (((w.alloc (.cells #[.int .i64 k1, .string a1.n, .int .i64 a1.op, .int .i64 a1.v, .int .i64 a1.sl, .string a1.f, .bool a1.on, .string fl1, .bool nt1, .slice kp1 ks1.length kc1] 26)).alloc (.cells #[.int .i64 k2, .string a2.n, .int .i64 a2.op, .int .i64 a2.v, .int .i64 a2.sl, .string a2.f, .bool a2.on, .string fl2, .bool nt2, .slice kp2 ks2.length kc2] 26)).alloc (.cells #[.int .i64 k1, .string a1.n, .int .i64 a1.op, .int .i64 a1.v, .int .i64 a1.sl, .string a1.f, .bool a1.on, .string fl1, .bool nt1, .slice kp1 ks1.length kc1, .int .i64 k2, .string a2.n, .int .i64 a2.op, .int .i64 a2.v, .int .i64 a2.sl, .string a2.f, .bool a2.on, .string fl2, .bool nt2, .slice kp2 ks2.length kc2] 91))) := ((Keep.alloc _ _).alloc' _).alloc' _
  have P0 : Hid (PairRow w.heap.size S w (.slice (some ⟨w.heap.size + 2, 0, none⟩) 1 1) [(t, u)] (((w.alloc (.cells #[.int .i64 k1, .string a1.n, .int .i64 a1.op, .int .i64 a1.v, .int .i64 a1.sl, .string a1.f, .bool a1.on, .string fl1, .bool nt1, .slice kp1 ks1.length kc1] 26)).alloc (.cells #[.int .i64 k2, .string a2.n, .int .i64 a2.op, .int .i64 a2.v, .int .i64 a2.sl, .string a2.f, .bool a2.on, .string fl2, .bool nt2, .slice kp2 ks2.length kc2] 26)).alloc (.cells #[.int .i64 k1, .string a1.n, .int .i64 a1.op, .int .i64 a1.v, .int .i64 a1.sl, .string a1.f, .bool a1.on, .string fl1, .bool nt1, .slice kp1 ks1.length kc1, .int .i64 k2, .string a2.n, .int .i64 a2.op, .int .i64 a2.v, .int .i64 a2.sl, .string a2.f, .bool a2.on, .string fl2, .bool nt2, .slice kp2 ks2.length kc2] 91))) := by
    refine ⟨[[.int .i64 k1, .string a1.n, .int .i64 a1.op, .int .i64 a1.v, .int .i64 a1.sl, .string a1.f, .bool a1.on, .string fl1, .bool nt1, .slice kp1 ks1.length kc1] ++ [.int .i64 k2, .string a2.n, .int .i64 a2.op, .int .i64 a2.v, .int .i64 a2.sl, .string a2.f, .bool a2.on, .string fl2, .bool nt2, .slice kp2 ks2.length kc2]], rfl, by simp, ⟨by simp, Or.inr ⟨w.heap.size + 2, 1, #[.int .i64 k1, .string a1.n, .int .i64 a1.op, .int .i64 a1.v, .int .i64 a1.sl, .string a1.f, .bool a1.on, .string fl1, .bool nt1, .slice kp1 ks1.length kc1, .int .i64 k2, .string a2.n, .int .i64 a2.op, .int .i64 a2.v, .int .i64 a2.sl, .string a2.f, .bool a2.on, .string fl2, .bool nt2, .slice kp2 ks2.length kc2], rfl, by omega, ?_, Nat.le_refl _, by unfold maxLen; omega, rfl, rfl⟩⟩, ?_⟩
    · have e : ((w.alloc (.cells #[.int .i64 k1, .string a1.n, .int .i64 a1.op, .int .i64 a1.v, .int .i64 a1.sl, .string a1.f, .bool a1.on, .string fl1, .bool nt1, .slice kp1 ks1.length kc1] 26)).alloc (.cells #[.int .i64 k2, .string a2.n, .int .i64 a2.op, .int .i64 a2.v, .int .i64 a2.sl, .string a2.f, .bool a2.on, .string fl2, .bool nt2, .slice kp2 ks2.length kc2] 26)).heap.size = w.heap.size + 2 := by rw [alloc_size, alloc_size]
      show (((w.alloc (.cells #[.int .i64 k1, .string a1.n, .int .i64 a1.op, .int .i64 a1.v, .int .i64 a1.sl, .string a1.f, .bool a1.on, .string fl1, .bool nt1, .slice kp1 ks1.length kc1] 26)).alloc (.cells #[.int .i64 k2, .string a2.n, .int .i64 a2.op, .int .i64 a2.v, .int .i64 a2.sl, .string a2.f, .bool a2.on, .string fl2, .bool nt2, .slice kp2 ks2.length kc2] 26)).heap.push _)[w.heap.size + 2]? = _
      rw [← e, Array.getElem?_push, if_pos rfl]
    · intro i p c hp hc
      match i, hp, hc with
      | 0, hp, hc =>
        cases hp; cases hc
        exact ⟨_, _, rfl, H1.out, H2.out⟩
  go_enter Tryz.func14, Tryz.ntmps14
  go_wp2_with fail
  generalize (((w.alloc (.cells #[.int .i64 k1, .string a1.n, .int .i64 a1.op, .int .i64 a1.v, .int .i64 a1.sl, .string a1.f, .bool a1.on, .string fl1, .bool nt1, .slice kp1 ks1.length kc1] 26)).alloc (.cells #[.int .i64 k2, .string a2.n, .int .i64 a2.op, .int .i64 a2.v, .int .i64 a2.sl, .string a2.f, .bool a2.on, .string fl2, .bool nt2, .slice kp2 ks2.length kc2] 26)).alloc (.cells #[.int .i64 k1, .string a1.n, .int .i64 a1.op, .int .i64 a1.v, .int .i64 a1.sl, .string a1.f, .bool a1.on, .string fl1, .bool nt1, .slice kp1 ks1.length kc1, .int .i64 k2, .string a2.n, .int .i64 a2.op, .int .i64 a2.v, .int .i64 a2.sl, .string a2.f, .bool a2.on, .string fl2, .bool nt2, .slice kp2 ks2.length kc2] 91)) = W0 at K0 P0 ⊢
  have HQ0 : Hid ((t = u) ↔ AllEq [(t, u)]) := ⟨fun e p hp => by rw [List.mem_singleton.1 hp]; exact e, fun h => h _ (List.mem_singleton.2 rfl)⟩
  have HZ0 : Hid (sizeP [(t, u)] = t.size) := by show _ = _; simp [sizeP]
  go_loopg [5] (t.size) (fun gk lv wr => ∃ ps : List (NT × NT), PairRow w.heap.size S w lv ps wr ∧ (t = u ↔ AllEq ps) ∧ sizeP ps = gk ∧ gk ≤ 2097152 ∧ Keep w wr)
  case atStart => exact ⟨_, P0.out, HQ0.out, HZ0.out, hsz, K0.out⟩
  case round =>
    obtain ⟨ps, hrow, heq, hsp, hgk, hkeep⟩ := hrel
    have HROW := hid hrow
    have HEQ := hid heq
    have HSP := hid hsp
    have HKP := hid hkeep
    clear hrow heq hsp hkeep P0 HQ0 HZ0 K0
    rcases List.eq_nil_or_concat ps with rfl | ⟨init, xy, hps⟩
    · obtain ⟨p0, cap0, hv0⟩ := HROW.out.shape
      subst hv0
      go_wp2_with fail
      go_ret
      exact ⟨⟨true, rfl, by simp only [true_iff]; exact HEQ.out.2 (fun p hp => by simp at hp)⟩, HKP.out⟩
    · subst hps
      obtain ⟨x, y⟩ := xy
      rw [List.concat_eq_append] at HROW HEQ HSP
      obtain ⟨g, cap, c1, c2, rfl, hcap, hBg, hglt, hx, hy, hcell, hrow'⟩ := HROW.out.pop
      have HX := hid hx
      have HY := hid hy
      have HRW := hid hrow'
      have hlen := sizeP_len (init ++ [(x, y)])
      rw [HSP.out] at hlen
      simp only [List.length_append, List.length_cons, List.length_nil] at hlen
      obtain ⟨k3, a3, fl3, nt3, ks3⟩ := x
      obtain ⟨k4, a4, fl4, nt4, ks4⟩ := y
      rw [NeedIs] at hx hy
      obtain ⟨kp3, kc3, rfl, hc3, hm3, hk3⟩ := hx
      obtain ⟨kp4, kc4, rfl, hc4, hm4, hk4⟩ := hy
      obtain ⟨q0, q1, q2, q3, q4, q5, q6, q7, q8, q9, q10, q11, q12, q13, q14, q15, q16, q17, q18, q19⟩ := cells20 hcell
      have HK3 := hid hk3
      have HK4 := hid hk4
      clear hcell hk3 hk4 hrow' HROW
      go_upto_region 4 with fail
      go_cut [7, 8] from 15 to 56 (fun p7 p8 wx => ∃ b7 b8 : Nat, p7 = .pointer (some ⟨b7, 0, none⟩) ∧ p8 = .pointer (some ⟨b8, 0, none⟩) ∧ wr.heap.size ≤ b7 ∧ wr.heap.size ≤ b8 ∧ NBox b7 #[.int .i64 k3, .string a3.n, .int .i64 a3.op, .int .i64 a3.v, .int .i64 a3.sl, .string a3.f, .bool a3.on, .string fl3, .bool nt3, .slice kp3 ks3.length kc3] wx ∧ NBox b8 #[.int .i64 k4, .string a4.n, .int .i64 a4.op, .int .i64 a4.v, .int .i64 a4.sl, .string a4.f, .bool a4.on, .string fl4, .bool nt4, .slice kp4 ks4.length kc4] wx ∧ Keep wr wx)
      case first =>
        go_region
        · go_wp2_with fail
          go_meet
          exact ⟨_, _, rfl, rfl, Nat.le_refl _, Nat.le_succ _, (two_boxes wr _ _).1, (two_boxes wr _ _).2.1, (two_boxes wr _ _).2.2⟩
        · go_wp2_with fail
          go_meet
          exact ⟨_, _, rfl, rfl, Nat.le_succ _, Nat.le_refl _, (two_boxes wr _ _).2.1, (two_boxes wr _ _).1, (two_boxes wr _ _).2.2⟩
      case rest =>
      obtain ⟨b7, b8, rfl, rfl, hb7, hb8, hn7, hn8, hkw⟩ := hcut
      clear q0 q1 q2 q3 q4 q5 q6 q7 q8 q9 q10 q11 q12 q13 q14 q15 q16 q17 q18 q19
      have N7 := hid hn7
      have N8 := hid hn8
      have KW := hid hkw
      obtain ⟨hc7, hz7, hl7⟩ := hn7.facts
      obtain ⟨hc8, hz8, hl8⟩ := hn8.facts
      clear hn7 hn8 hkw
      go_wp2_with fail
      refine (sameNode_any _ _ _ _ _ _ _ _ _ _ _ _ _ _ _).mono ?_
      rintro e w5 ⟨rfl, k5⟩
      have N7b := hid (N7.out.keep k5 N7.out.facts.2.2)
      have N8b := hid (N8.out.keep k5 N8.out.facts.2.2)
      have K5 := hid (HKP.out.trans (KW.out.trans k5))
      have RW5 := hid (HRW.out.keep (KW.out.trans k5))
      clear k5 hc7 hz7 hc8 hz8 N7 N8 KW HRW
      obtain ⟨hc7, -, hl7b⟩ := N7b.out.facts
      cases hsame : headB2 k3 a3 fl3 nt3 ks3.length k4 a4 fl4 nt4 ks4.length
      · have HNO := hid (allEq_not (init := init) hsame)
        clear hsame
        go_wp2_with fail
        go_ret
        exact ⟨⟨false, rfl, by simp only [Bool.false_eq_true, false_iff]; exact fun e => HNO.out (HEQ.out.1 e)⟩, K5.out⟩
      · have HYES := hid (allEq_last (init := init) hsame)
        obtain ⟨-, -, -, -, hll⟩ := headB2_true.1 hsame
        have HLL := hid hll
        have HSZ : Hid (sizeP (init ++ ks3.zip ks4) < gk) := by
          show _ < _
          rw [← HSP.out, sizeP_app, sizeP_app, sizeP_zip _ _ hll, sizeP, sizeP, NT.size]; omega
        have hb8w : w.heap.size ≤ b8 := Nat.le_trans HKP.out.size hb8
        have hvb : Hid ((Value.slice (some ⟨g, 0, none⟩) init.length cap).ownBlock ≠ some b8) := fun e => by
          have : g = b8 := Option.some.inj e
          omega
        clear hsame hll
        go_wp2_with fail
        clear hc7
        go_loopg [5, 41] ks3.length (fun gj lv i wq => ∃ j : Nat, j + gj = ks3.length ∧ i = .int .i64 j ∧ PairRow w.heap.size S w lv (init ++ (ks3.zip ks4).take j) wq ∧ lv.ownBlock ≠ some b8 ∧ NBox b8 #[.int .i64 k4, .string a4.n, .int .i64 a4.op, .int .i64 a4.v, .int .i64 a4.sl, .string a4.f, .bool a4.on, .string fl4, .bool nt4, .slice kp4 ks4.length kc4] wq ∧ Keep w wq)
        case atStart => exact ⟨0, by simp, rfl, by simpa using RW5.out, hvb.out, N8b.out, K5.out⟩
        case round =>
          obtain ⟨j, hj, rfl, hpr, hob, hnb, hkq⟩ := hrel
          have HPR := hid hpr
          have HOB := hid hob
          have HNB := hid hnb
          have HKQ := hid hkq
          clear hpr hob hnb hkq RW5 N7b N8b K5 hvb
          by_cases hlt : j < ks3.length
          · have hlt4 : j < ks4.length := by have := HLL.out; omega
            obtain ⟨p3, d3, hp3, hs3, hcell3, hneed3⟩ := kidsIs_get HK3.out j hlt
            obtain ⟨p4, d4, hp4, hs4, hcell4, hneed4⟩ := kidsIs_get HK4.out j hlt4
            subst hp3
            subst hp4
            rw [Nat.zero_add] at hcell3 hcell4
            have HN3 := hid hneed3
            have HN4 := hid hneed4
            have HTK : Hid ((ks3.zip ks4).take (j + 1) = (ks3.zip ks4).take j ++ [(ks3[j], ks4[j])]) := by
              show _ = _
              rw [List.take_succ_eq_append_getElem (by simp; omega)]
              simp
            have hlp : (init ++ (ks3.zip ks4).take j).length ≤ 2097152 := by
              have h1 := sizeP_len (init ++ ks3.zip ks4)
              have h2 := HSZ.out
              have h3 : ((ks3.zip ks4).take j).length ≤ (ks3.zip ks4).length := List.length_take_le' _ _
              rw [List.length_append] at h1 ⊢
              omega
            cases hkid3 : ks3[j] with
            | node k5 a5 fl5 nt5 ks5 =>
            cases hkid4 : ks4[j] with
            | node k6 a6 fl6 nt6 ks6 =>
            rw [hkid3, NeedIs] at hneed3
            rw [hkid4, NeedIs] at hneed4
            obtain ⟨kp5, kc5, rfl, -, -, -⟩ := hneed3
            obtain ⟨kp6, kc6, rfl, -, -, -⟩ := hneed4
            have hcell3' : ∀ m v, ([.int .i64 k5, .string a5.n, .int .i64 a5.op, .int .i64 a5.v, .int .i64 a5.sl, .string a5.f, .bool a5.on, .string fl5, .bool nt5, .slice kp5 ks5.length kc5] : List Value)[m]? = some v → wr.cell? ((p3.add (j * 10)).add m) = some v := fun m v hv => (HKQ.out.cell (by rw [add_block, add_block]; exact hS _ hs3)).trans (hcell3 m v hv)
            obtain ⟨c0, c1, c2, c3, c4, c5, c6, c7, c8, c9⟩ := cells10 hcell3'
            have HC4 := hid hcell4
            have K6 := hid (Keep.alloc wr (.cells #[.int .i64 k5, .string a5.n, .int .i64 a5.op, .int .i64 a5.v, .int .i64 a5.sl, .string a5.f, .bool a5.on, .string fl5, .bool nt5, .slice kp5 ks5.length kc5] 26))
            have M6 : Hid (NBox wr.heap.size #[.int .i64 k5, .string a5.n, .int .i64 a5.op, .int .i64 a5.v, .int .i64 a5.sl, .string a5.f, .bool a5.on, .string fl5, .bool nt5, .slice kp5 ks5.length kc5] (wr.alloc (.cells #[.int .i64 k5, .string a5.n, .int .i64 a5.op, .int .i64 a5.v, .int .i64 a5.sl, .string a5.f, .bool a5.on, .string fl5, .bool nt5, .slice kp5 ks5.length kc5] 26))) := NBox.new _ _
            have hbq := HNB.out.facts.2.2
            clear hcell3 hcell4 hcell3' hkid3 hkid4
            go_upto_region 11 with fail
            clear c0 c1 c2 c3 c4 c5 c6 c7 c8 c9
            have N6 := hid (HNB.out.keep K6.out hbq)
            have KQ6 := hid (HKQ.out.trans K6.out)
            have PR6 := hid (HPR.out.keep K6.out)
            generalize wr.alloc (.cells #[.int .i64 k5, .string a5.n, .int .i64 a5.op, .int .i64 a5.v, .int .i64 a5.sl, .string a5.f, .bool a5.on, .string fl5, .bool nt5, .slice kp5 ks5.length kc5] 26) = W6 at K6 M6 N6 KQ6 PR6 ⊢
            have hcell4' : ∀ m v, ([.int .i64 k6, .string a6.n, .int .i64 a6.op, .int .i64 a6.v, .int .i64 a6.sl, .string a6.f, .bool a6.on, .string fl6, .bool nt6, .slice kp6 ks6.length kc6] : List Value)[m]? = some v → W6.cell? ((p4.add (j * 10)).add m) = some v := fun m v hv => (KQ6.out.cell (by rw [add_block, add_block]; exact hS _ hs4)).trans (HC4.out m v hv)
            obtain ⟨c0, c1, c2, c3, c4, c5, c6, c7, c8, c9⟩ := cells10 hcell4'
            obtain ⟨hcm, -, hlm⟩ := M6.out.facts
            obtain ⟨hcn, -, hln⟩ := N6.out.facts
            obtain ⟨csl, s1, s2, s3, s4⟩ := PR6.out
            have HO6 := hid s3
            have HR6 := hid s4
            have hs6 := KQ6.out.size
            clear hcell4' s3 s4
            go_region_law (refine step_append_own rfl _ _ 92 rfl w.heap.size 91 i0 (.agg #[.int .i64 0, .string ⟨#[]⟩, .int .i64 0, .int .i64 0, .int .i64 0, .string ⟨#[]⟩, .bool false, .string ⟨#[]⟩, .bool false, .slice none 0 0, .int .i64 0, .string ⟨#[]⟩, .int .i64 0, .int .i64 0, .int .i64 0, .string ⟨#[]⟩, .bool false, .string ⟨#[]⟩, .bool false, .slice none 0 0]) 20 240 Tryz.underlying92 hi hz0 hz1 hz2 rfl (by decide) u5 (init ++ (ks3.zip ks4).take j).length csl.flatten rfl (HO6.out.alloc _) ⟨W6.heap.size, 0, none⟩ 1 1 ([.int .i64 k5, .string a5.n, .int .i64 a5.op, .int .i64 a5.v, .int .i64 a5.sl, .string a5.f, .bool a5.on, .string fl5, .bool nt5, .slice kp5 ks5.length kc5] ++ [.int .i64 k6, .string a6.n, .int .i64 a6.op, .int .i64 a6.v, .int .i64 a6.sl, .string a6.f, .bool a6.on, .string fl6, .bool nt6, .slice kp6 ks6.length kc6]) rfl rfl many_news (by intro uu hu; simp at hu; rcases hu with rfl | rfl | rfl | rfl | rfl | rfl | rfl | rfl | rfl | rfl | rfl | rfl | rfl | rfl | rfl | rfl | rfl | rfl | rfl | rfl <;> rfl) (by unfold maxLen; omega) (by omega) (by have := alloc_size W6 (.cells #[] 0); show _ ≤ (W6.heap.push _).size; simp; omega) ?_; intro v7 w7 h71 h72 h73)
            all_goals
              have h74 : (W6.alloc (.cells #[.int .i64 k5, .string a5.n, .int .i64 a5.op, .int .i64 a5.v, .int .i64 a5.sl, .string a5.f, .bool a5.on, .string fl5, .bool nt5, .slice kp5 ks5.length kc5, .int .i64 k6, .string a6.n, .int .i64 a6.op, .int .i64 a6.v, .int .i64 a6.sl, .string a6.f, .bool a6.on, .string fl6, .bool nt6, .slice kp6 ks6.length kc6] 91)).grownBy w7 u5.ownBlock := grown_undrew h72
              have P7 := hid (PairRow.push (x := ks3[j]) (y := ks4[j]) s1 s2 HR6.out rfl HN3.out HN4.out h71)
              have N7 := hid (N6.out.grown h74 HOB.out)
              have L7 : Below w.heap.size W6 w7 := ((Below.refl _ W6).alloc hs6 _).grown h74 (by have := alloc_size W6 (.cells #[.int .i64 k5, .string a5.n, .int .i64 a5.op, .int .i64 a5.v, .int .i64 a5.sl, .string a5.f, .bool a5.on, .string fl5, .bool nt5, .slice kp5 ks5.length kc5, .int .i64 k6, .string a6.n, .int .i64 a6.op, .int .i64 a6.v, .int .i64 a6.sl, .string a6.f, .bool a6.on, .string fl6, .bool nt6, .slice kp6 ks6.length kc6] 91); omega) (fun g' hg' => (owns_lt HO6.out hg').1)
              have K7 := hid (Below.trans KQ6.out L7)
              have O7 : Hid (v7.ownBlock ≠ some b8) := by
                rcases h73 with h73 | h73
                · show _ ≠ _; rw [h73]; exact HOB.out
                · show _ ≠ _
                  rw [h73]
                  intro e
                  have e2 : (W6.alloc (.cells #[.int .i64 k5, .string a5.n, .int .i64 a5.op, .int .i64 a5.v, .int .i64 a5.sl, .string a5.f, .bool a5.on, .string fl5, .bool nt5, .slice kp5 ks5.length kc5, .int .i64 k6, .string a6.n, .int .i64 a6.op, .int .i64 a6.v, .int .i64 a6.sl, .string a6.f, .bool a6.on, .string fl6, .bool nt6, .slice kp6 ks6.length kc6] 91)).heap.size = b8 := Option.some.inj e
                  rw [alloc_size] at e2
                  omega
              clear h71 h72 h73 h74 L7 c0 c1 c2 c3 c4 c5 c6 c7 c8 c9 hcm hcn
              go_wp2_with fail
              go_roundg (ks3.length - (j + 1))
              case measure => omega
              case rel => exact ⟨j + 1, by omega, by go_num, by rw [HTK.out, ← List.append_assoc]; exact P7.out, O7.out, N7.out, K7.out⟩
          · have hj2 : Hid ((ks3.zip ks4).take j = ks3.zip ks4) := by
              show _ = _
              rw [List.take_of_length_le]
              rw [List.length_zip]
              omega
            have P9 := hid HPR.out
            go_wp2_with fail
            go_roundg (sizeP (init ++ ks3.zip ks4))
            case measure => exact HSZ.out
            case rel => exact ⟨init ++ ks3.zip ks4, by have := P9.out; rw [hj2.out] at this; exact this, HEQ.out.trans HYES.out, rfl, by have := HSZ.out; omega, HKQ.out⟩
end Go.Proofs.YtnagpmilagdjeaaGreatDoor
