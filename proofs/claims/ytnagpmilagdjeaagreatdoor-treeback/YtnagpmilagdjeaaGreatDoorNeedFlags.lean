/- need.Flags gathers the flags, sorts them, and strikes what is there twice. -/
import Derived.Test.YtnagpmilagdjeaaGreatDoorNeedCount
namespace Go.Proofs.YtnagpmilagdjeaaGreatDoor
open Go.RowKit

mutual
/-- The flags of all Ifs, in the order of the walk. -/
def NT.flags : NT → List ByteArray
  | .node k _ fl _ kids => (if k = 5 then [fl] else []) ++ flagsL kids
def flagsL : List NT → List ByteArray
  | [] => []
  | t :: ts => t.flags ++ flagsL ts
end
def fF (s : List ByteArray) (t : NT) (_ : Int) : List ByteArray × Bool := match t with
  | .node k _ fl _ _ => (if k = 5 then s ++ [fl] else s, true)
mutual
theorem walkF (inc : Int → Int) : ∀ (t : NT) (s : List ByteArray) (d : Int), walkS inc fF s t d = (s ++ t.flags, true)
  | .node k a fl nt kids, s, d => by
    have e : (fF s (.node k a fl nt kids) d).2 = true := rfl
    rw [walkS, if_pos e, kidsF, NT.flags]
    show ((if k = 5 then s ++ [fl] else s) ++ flagsL kids, true) = _
    split <;> simp
theorem kidsF (inc : Int → Int) : ∀ (ts : List NT) (s : List ByteArray) (d : Int), kidsS inc fF s ts d = (s ++ flagsL ts, true)
  | [], s, d => by rw [kidsS, flagsL, List.append_nil]
  | t :: ts, s, d => by rw [kidsS, walkF, if_pos rfl, kidsF, flagsL, List.append_assoc]
end
mutual
theorem flags_len : ∀ t : NT, t.flags.length ≤ t.size
  | .node k a fl nt kids => by
    have := flagsL_len kids
    rw [NT.flags, NT.size, List.length_append]
    split <;> simp <;> omega
theorem flagsL_len : ∀ ts : List NT, (flagsL ts).length ≤ sizeL ts
  | [] => Nat.zero_le _
  | t :: ts => by
    have := flags_len t
    have := flagsL_len ts
    rw [flagsL, sizeL, List.length_append]; omega
end

/-- The variable of the flags, and the row that it leads to. -/
def OwnF (c : Nat) (w : World) (b : Nat) : Prop := b = c ∨ ∃ a l k, w.cell? ⟨c, 0, none⟩ = some (.slice (some a) l k) ∧ a.block = b
def FlagsIs (c : Nat) (s : List ByteArray) (w : World) : Prop := ∃ v, VarAt c 32 v w ∧ WordsAt (c + 1) v s w
theorem FlagsIs.keep {c : Nat} {s : List ByteArray} {w w' : World} (h : FlagsIs c s w) (k : Keep w w') : FlagsIs c s w' := by
  obtain ⟨v, h1, h2⟩ := h
  exact ⟨v, h1.keep k h1.facts.2.2, h2.keep k⟩
theorem FlagsIs.own {c : Nat} {s : List ByteArray} {w : World} (h : FlagsIs c s w) {b : Nat} (ho : OwnF c w b) : c ≤ b ∧ b < w.heap.size := by
  obtain ⟨v, h1, h2⟩ := h
  rcases ho with rfl | ⟨a, l, k, e, rfl⟩
  · exact ⟨Nat.le_refl _, h1.facts.2.2⟩
  · have hv : v = .slice (some a) l k := Option.some.inj (h1.facts.1.symm.trans e)
    have := owns_lt h2 (g := a.block) (by rw [hv]; rfl)
    omega
theorem flags_apart {c : Nat} {s : List ByteArray} {w w' : World} (h : FlagsIs c s w) (k : Keep w w') : Apart (OwnF c) w w' ∧ ∀ b, OwnF c w' b → OwnF c w b := by
  obtain ⟨v, h1, h2⟩ := h
  have hc : w'.cell? ⟨c, 0, none⟩ = w.cell? ⟨c, 0, none⟩ := k.cell (p := ⟨c, 0, none⟩) h1.facts.2.2
  have ho : ∀ b, OwnF c w' b → OwnF c w b := fun b hb => by
    rcases hb with hb | ⟨a, l, kk, e, hb⟩
    · exact Or.inl hb
    · exact Or.inr ⟨a, l, kk, hc.symm.trans e, hb⟩
  exact ⟨⟨k.os, k.tape, k.output, k.size, fun b hb _ => k.block b hb, fun b _ hb => ho b hb⟩, ho⟩
/-- What an append to the flags, and the store of it, leave. -/
theorem flags_push {c : Nat} {s : List ByteArray} {fl : ByteArray} {w w1 w2 : World} {v v' : Value} {o : Obj} (hv : VarAt c 32 v w) (hw : WordsAt (c + 1) v s w) (k : Keep w w1) (h1 : w2.ownsRow (c + 1) 9 1 v' (s.length + 1) (s.map Value.string ++ [.string fl])) (h2 : (w1.alloc o).grownBy w2 v.ownBlock)
    (h3 : v'.ownBlock = v.ownBlock ∨ v'.ownBlock = some (w1.alloc o).heap.size) : FlagsIs c (s ++ [fl]) (w2.setCell ⟨c, 0, none⟩ v') ∧ Apart (OwnF c) w (w2.setCell ⟨c, 0, none⟩ v') := by
  have hlt := hv.facts.2.2
  have e := alloc_size w1 o
  have hv1 : VarAt c 32 v w1 := hv.keep k hlt
  have hne : v.ownBlock ≠ some c := fun e => by have := owns_lt hw e; omega
  have k2 : Below (c + 1) (w1.alloc o) w2 := (Below.refl _ _).grown h2 (by have := k.size; omega) (fun g hg => (owns_lt hw hg).1)
  have hv2 : VarAt c 32 v w2 := (hv1.keep (Keep.alloc w1 o) hv1.facts.2.2).keep k2 (Nat.lt_succ_self c)
  have hset := hv2.set v'
  have hbl : ∀ b, b ≠ c → (w2.setCell ⟨c, 0, none⟩ v').heap[b]? = w2.heap[b]? := set_other w2 c 0 v'
  have hsz : w.heap.size ≤ w2.heap.size := by have := k.size; have := h2.size; omega
  refine ⟨⟨v', hset, ?_⟩, ?_⟩
  · have hw2 : WordsAt (c + 1) v' (s ++ [fl]) w2 := by unfold WordsAt; simpa using h1
    obtain ⟨a1, a2⟩ := hw2
    refine ⟨a1, a2.imp id ?_⟩
    rintro ⟨g, cap, cur, e1, e2, e3, e4⟩
    exact ⟨g, cap, cur, e1, e2, by rw [hbl g (by omega)]; exact e3, e4⟩
  · have hs := one_set c w2 v'
    refine ⟨(hs.os.trans h2.os).trans k.os, (hs.tape.trans h2.tape).trans k.tape, (hs.output.trans h2.output).trans k.output, by have := hs.size; omega, fun b hb ho => ?_, fun b hb ho => ?_⟩
    · have hbc : b ≠ c := fun e => ho (Or.inl e)
      have hbv : v.ownBlock ≠ some b := fun e => by
        refine ho (Or.inr ?_)
        obtain ⟨-, ⟨rfl, -⟩ | ⟨g, cap, cur, rfl, -⟩⟩ := hw
        · cases e
        · exact ⟨_, _, _, hv.facts.1, Option.some.inj e⟩
      rw [hbl b hbc, h2.block b (by have := k.size; omega) (fun e => hbv e.symm), (Keep.alloc w1 o).block b (by have := k.size; omega), k.block b hb]
    · rcases ho with ho | ⟨a, l, kk, e2, rfl⟩
      · exact Or.inl ho
      · have e3 : v' = .slice (some a) l kk := Option.some.inj (hset.facts.1.symm.trans e2)
        rcases h3 with h3 | h3
        · refine Or.inr ?_
          have : v.ownBlock = some a.block := by rw [← h3, e3]; rfl
          obtain ⟨-, ⟨rfl, -⟩ | ⟨g, cap, cur, rfl, -⟩⟩ := hw
          · cases this
          · exact ⟨_, _, _, hv.facts.1, Option.some.inj this⟩
        · have : some a.block = some (w1.alloc o).heap.size := by rw [← h3, e3]; rfl
          have := Option.some.inj this
          have := k.size
          omega

theorem keep_undrew {w w' : World} (k : Keep w.drew w') : Keep w w' := ⟨k.os, k.tape, k.output, k.size, k.block⟩
theorem VarAt.grown {c : Nat} {T : TypeId} {v : Value} {w w' : World} {o : Obj} {row : Option Nat} (h : VarAt c T v w) (hg : (w.alloc o).grownBy w' row) (hne : row ≠ some c) : VarAt c T v w' := by
  have h1 := h.keep (Keep.alloc w o) h.facts.2.2
  have hl := h1.facts.2.2
  unfold VarAt at *; rw [hg.block c hl (fun e => hne e.symm)]; exact h1
set_option maxHeartbeats 1000000 in
set_option maxRecDepth 100000 in
theorem flags_call (n c : Nat) (s : List ByteArray) (k : Int) (a : At) (fl : ByteArray) (nt : Bool) (kp : Option Addr) (len kc : Nat) (d : Int) (kids : List NT) (w : World) (hi : FlagsIs c s w) (hl : s.length + (n + 1) ≤ 1000) (hfl : k = 5 → fl.size ≤ 8) :
    Calls Tryz.prog 50 #[.agg #[.int .i64 k, .string a.n, .int .i64 a.op, .int .i64 a.v, .int .i64 a.sl, .string a.f, .bool a.on, .string fl, .bool nt, .slice kp len kc], .int .i64 d, .pointer (some ⟨c, 0, none⟩)] w
      fun e w' => CountPost (FlagsIs c) (fun s n => s.length + n ≤ 1000) (OwnF c) n w (fF s (.node k a fl nt kids) d) e w' := by
  obtain ⟨i0, hi0, hz0, hz1, hz2⟩ := info_parts infoStr
  have k0 := hid (Keep.alloc w (.cells #[.int .i64 k, .string a.n, .int .i64 a.op, .int .i64 a.v, .int .i64 a.sl, .string a.f, .bool a.on, .string fl, .bool nt, .slice kp len kc] 26))
  have hb0 : Hid (Boxed w.heap.size #[.int .i64 k, .string a.n, .int .i64 a.op, .int .i64 a.v, .int .i64 a.sl, .string a.f, .bool a.on, .string fl, .bool nt, .slice kp len kc] (w.alloc (.cells #[.int .i64 k, .string a.n, .int .i64 a.op, .int .i64 a.v, .int .i64 a.sl, .string a.f, .bool a.on, .string fl, .bool nt, .slice kp len kc] 26))) := Boxed.new w #[.int .i64 k, .string a.n, .int .i64 a.op, .int .i64 a.v, .int .i64 a.sl, .string a.f, .bool a.on, .string fl, .bool nt, .slice kp len kc] 26
  have HI := hid hi
  by_cases h5 : k = 5
  · have h5' : (k == 5) = true := by simp [h5]
    have hfl8 := hfl h5
    have HF : Hid (fF s (.node k a fl nt kids) d = (s ++ [fl], true)) := by show _ = _; unfold fF; simp [h5]
    obtain ⟨v, hv, hw⟩ := hi
    clear h5 hfl
    go_enter Tryz.func50, Tryz.ntmps50
    go_upto_region 2 with fail
    generalize w.alloc (.cells #[.int .i64 k, .string a.n, .int .i64 a.op, .int .i64 a.v, .int .i64 a.sl, .string a.f, .bool a.on, .string fl, .bool nt, .slice kp len kc] 26) = W0 at k0 hb0 ⊢
    have HV := hid hv
    have HW := hid hw
    have hv0 := hv.keep k0.out hv.facts.2.2
    obtain ⟨hc0, hz00, hl0⟩ := hv0.facts
    have hbc := hb0.out.2
    have hbl := hb0.out.1
    have HV0 := hid hv0
    have HW0 := hid (hw.keep k0.out)
    have HNE : Hid (v.ownBlock ≠ some c) := fun e => by have := owns_lt hw e; omega
    clear hv hw hv0
    go_region_law (first | (refine step_append_own rfl _ _ 32 rfl (c + 1) 9 i0 (.string ByteArray.empty) 1 16 Tryz.underlying32 hi0 hz0 hz1 hz2 rfl (by decide) v s.length (s.map Value.string) rfl (HW1.out.alloc _) ⟨w1.heap.size, 0, none⟩ 1 1 [.string fl] rfl rfl one_news one_cell (by unfold maxLen; omega) (by omega) (by have := alloc_size w1 (.cells #[.string fl] 9); omega) ?_; intro v2 w2 h1 h2 h3; obtain ⟨g5, cap5, rfl⟩ := owns_shape h1 (Nat.succ_pos _); obtain ⟨hc2, hz20, hl2⟩ := (HV1.out.grown h2 HNE.out).facts) | (go_simp; go_at_call 51; refine (clone_any fl _ (by omega)).mono ?_; rintro e w1 ⟨rfl, k1⟩; have HK1 := hid (keep_undrew k1); have HV1 := hid (HV0.out.keep HK1.out HV0.out.facts.2.2); have HW1 := hid (HW0.out.keep HK1.out); obtain ⟨hc1, hz10, hl1⟩ := HV1.out.facts; have hkl := HK1.out.size; go_simp))
    all_goals
      have HP := hid (flags_push (fl := fl) (w1 := w1) (w2 := w2) (o := .cells #[.string fl] 9) HV.out HW.out (k0.out.trans HK1.out) h1 h2 (by first | exact h3 | (rw [alloc_size]; exact h3)))
      go_wp2_with fail
      go_ret
      show CountPost _ _ _ _ w (fF s (.node k a fl nt kids) d) _ _
      rw [HF.out]
      exact ⟨rfl, HP.out.1, fun _ => by show (s ++ [fl]).length + n ≤ 1000; simp; omega, HP.out.2⟩
  · have h5' : (k == 5) = false := by simp [h5]
    have HF : Hid (fF s (.node k a fl nt kids) d = (s, true)) := by show _ = _; unfold fF; simp [h5]
    clear h5 hfl hi
    go_enter Tryz.func50, Tryz.ntmps50
    go_wp2_with fail
    go_ret
    show CountPost _ _ _ _ w (fF s (.node k a fl nt kids) d) _ _
    rw [HF.out]
    exact ⟨rfl, HI.out.keep k0.out, fun _ => by show s.length + n ≤ 1000; omega, (flags_apart HI.out k0.out).1⟩
end Go.Proofs.YtnagpmilagdjeaaGreatDoor
