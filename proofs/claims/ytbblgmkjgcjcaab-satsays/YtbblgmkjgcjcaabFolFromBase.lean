/- follow's New and From. -/
import Derived.Test.YtbblgmkjgcjcaabFolAdd
import Derived.Test.YtbblgmkjgcjcaabShelf
import Derived.Lib.OwnBridge
import Derived.Lib.SliceRun
namespace Go.Proofs.Ytbblgmkjgcjcaab
open Go.RowKit Go.Lib Go.Sort

theorem nums_vals {S : Nat → Prop} {w : World} {zs : List Int} {ad : Addr} {n cap : Nat} (h : NumsIs S w zs (.slice (some ad) n cap)) (o : Obj) (hS : ∀ b, S b → b < w.heap.size) : ∀ j u, (zs.map (Value.int .i64))[j]? = some u → (w.alloc o).cell? (ad.add j) = some u := by
  intro j u hu
  rw [List.getElem?_map, Option.map_eq_some_iff] at hu
  obtain ⟨z, hz, rfl⟩ := hu
  obtain ⟨b, off, hp, hb, hc⟩ := h.nth (List.getElem?_eq_some_iff.1 hz).1
  have had := Option.some.inj hp
  subst had
  rw [Addr.add_mid]
  exact ((Keep.alloc w o).cell (p := ⟨b, off + j, none⟩) (hS b hb)).trans (hc j z hz)
set_option maxHeartbeats 1000000 in
theorem cloneI_any (S : Nat → Prop) (zs : List Int) (p : Option Addr) (cap : Nat) (w : World) (hS : ∀ b, S b → b < w.heap.size) (hz : NumsIs S w zs (.slice p zs.length cap)) (hb : zs.length * 8 ≤ 140737488355328) :
    Calls Try.prog 22 #[.slice p zs.length cap] w fun e w' => ∃ v, e = .returned v ∧ IntsOwn w.heap.size v zs w' ∧ Keep w w' := by
  obtain ⟨i0, hi, hz0, hz1, hz2⟩ := info_parts infoInt
  have q22 : ∀ (w : World) (a : Option Addr) (n c n' c' : Nat), (binOp .eql 26 (.slice a n c) (.slice none n' c')).run Try.prog w = .ok (.bool a.isNone) w := fun w a n c n' c' => Lib.run_eql_slice_nil w _ _ a n c n' c' Try.underlying26
  have HZ := hid hz
  cases p with
  | none =>
    have h0 : zs = [] := List.length_eq_zero_iff.1 (Decidable.byContradiction fun hne => by
      obtain ⟨b, off, hp, -⟩ := hz.nth (k := 0) (by omega)
      cases hp)
    subst h0
    clear hz
    go_enter Try.func22, Try.ntmps22
    go_wp2_with fail
    go_ret
    exact ⟨_, rfl, World.ownsRow_nil _ _ _ _, Keep.refl _⟩
  | some ad =>
    obtain ⟨vs, hvs⟩ : ∃ vs, vs = zs.map (Value.int .i64) := ⟨_, rfl⟩
    have HVL := hid (show vs.length = zs.length by rw [hvs]; simp)
    have HNW := hid (show ∀ j u, vs[j]? = some u → (w.alloc (.cells #[] 3)).cell? (ad.add j) = some u by rw [hvs]; exact nums_vals HZ.out _ hS)
    have HONE := hid (show ∀ u ∈ vs, u.oneCell' = true by rw [hvs]; intro u hu; obtain ⟨z, -, rfl⟩ := List.mem_map.1 hu; rfl)
    have HVS := hid hvs
    clear hvs
    clear hz
    go_enter Try.func22, Try.ntmps22
    go_wp2_with (at_builtin; refine wpList_append_own_at _ rfl _ _ 26 rfl w.heap.size 3 i0 (.int .i64 0) 1 8 Try.underlying26 hi hz0 hz1 hz2 rfl (by decide) (.slice (some ⟨w.heap.size, 0, none⟩) 0 0) 0 [] rfl (World.ownsRow_made w #[] 0 (Nat.le_refl _) (Nat.zero_le _) rfl) ad zs.length cap vs rfl (by rw [HVL.out, Nat.mul_one]) HNW.out HONE.out (by unfold maxLen; omega) (by omega) (by rw [alloc_size]; omega) ?_; intro v5 w5 h1 h2 _ _)
    have k5 : Keep w w5 := Below.grown ((Below.refl w.heap.size w).alloc (Nat.le_refl _) _) h2 (by rw [alloc_size]; omega) (fun g hg => by cases hg; exact Nat.le_refl _)
    go_ret
    refine ⟨_, rfl, ?_, k5⟩
    rw [Nat.zero_add, List.nil_append] at h1
    rw [HVS.out] at h1
    exact h1
theorem enter_from1 (args : Array Value) (w : World) : (callFunc 66 args).run Try.prog w = .ok (.enter 66 args) w := enters_of Try.func66 (by kernel_rfl) rfl args w
set_option maxHeartbeats 1000000 in
theorem from1_any (x : Int) (w : World) : Calls Try.prog 66 #[.int .i64 x] w fun e w' => e = .returned (.bool (x == 0)) ∧ ∃ q, w' = w.drewN q := by
  go_enter Try.func66, Try.ntmps66
  go_wp2_with fail
  go_ret
  exact ⟨rfl, 0, rfl⟩
theorem turn_putRow (w : World) (q bg : Nat) (d : Array Int) : Turn (fun b => b = bg) (fun b => b = bg) w (putRow (Value.int .i64) (Sort.ahead w q) bg 0 d) := by
  refine ⟨rfl, rfl, rfl, by simp [Sort.ahead], fun b hb hne => ?_, fun _ h => .inl h⟩
  have hne' : ¬ bg = b := fun e => hne e.symm
  simp [putRow, mapBlock, Sort.ahead, Array.getElem?_modify, hne']
theorem deleted_any (bg n kc : Nat) (J : List Value) (K : List Int) (w : World) (hl : K.length = n + 1) (hn : n ≤ 1000) (hkc : n + 1 ≤ kc) (hb : BoxAt bg 3 (K.map (Value.int .i64) ++ J).toArray w) :
    Calls Try.prog 65 #[.slice (some ⟨bg, 0, none⟩) (n + 1) kc, .func (.func 66) #[] #[]] w fun e w' => ∃ v, e = .returned v ∧ NumsIs (fun b => b = bg) w' (known K) v ∧ Turn (fun b => b = bg) (fun b => b = bg) w w' := by
  have hH : Holds (Value.int .i64) w bg 0 K.toArray := by
    intro j hj
    have hj' : j < K.length := by simpa using hj
    refine ⟨?_, hb.facts.2.1 _⟩
    rw [Nat.zero_add, hb.facts.1, kbox_get J hj']
    simp [hj']
  have hsz : K.toArray.size = n + 1 := by simp [hl]
  have := Try.slices_DeleteFunc (Value.int .i64) (fun _ => rfl) (fun x => x == 0) 66 #[] enter_from1 0 Try.zeroValue3 bg 0 kc K.toArray w (fun W x _ => from1_any x W) (fun k os dk x _ => from1_any x _) hH (by omega) (by omega)
  rw [hsz] at this
  refine this.mono ?_
  rintro e w' ⟨rfl, q, rfl⟩
  have hkl : (known K).length ≤ n + 1 := by rw [← hl]; exact known_len K
  refine ⟨_, rfl, ⟨_, kc, rfl, by show (known K).length ≤ _; omega, fun _ => ⟨bg, 0, rfl, rfl, fun j x hx => ?_⟩⟩, turn_putRow w q bg _⟩
  have hsz2 : ((known K) ++ List.replicate (n + 1 - (known K).length) 0).toArray.size = K.toArray.size := by simp; omega
  have hH2 := holds_putRow (Value.int .i64) (Sort.ahead w q) bg 0 K.toArray ((known K) ++ List.replicate (n + 1 - (known K).length) 0).toArray hH hsz2
  have hj : j < (known K).length := (List.getElem?_eq_some_iff.1 hx).1
  have := (hH2 j (by rw [hsz2, hsz]; omega)).1
  have hx2 : (known K)[j] = x := by
    have := List.getElem?_eq_getElem hj
    rw [hx] at this
    exact (Option.some.inj this).symm
  have e2 : (((known K) ++ List.replicate (n + 1 - (known K).length) 0).toArray)[j]! = x := by
    rw [getElem!_pos _ j (by rw [hsz2, hsz]; omega)]
    simp [hj, hx2]
  rw [e2] at this
  exact this
theorem step_make {P : Program} {ops : Array Oper} {o : Oper} {a : Act} {w : World} {K : Act → World → Prop} {Q : Exit → Act → World → Prop} {E : Prop} (hg : o.guard = none) (l c : Operand) (t : TypeId) (hop : o.op = Op.makeSlice t l c)
    (base : Nat) (e : TypeId) (i : TypeInfo) (z : Value) (size : Nat) (h1 : P.underlying t = some (.slice e)) (h2 : P.info? e = some i) (h3 : i.zero = some z) (h4 : i.size = size)
    (kl kc : IntKind) (L C : Int) (n : Nat) (hl : a.eval l = .int kl L) (hc : a.eval c = .int kc C) (hL : L = (n : Int)) (hC : C = (n : Int)) (b2 : i.bytes * n ≤ 281474976710656) (b3 : n ≤ maxLen) (b4 : base ≤ w.heap.size)
    (hK : ∀ w', w'.ownsRow base e size (.slice (some ⟨w.heap.size, 0, none⟩) n n) n (madeCells z.cells (n * size)).toList → w.grownBy w' none → K (a.put o.dst (.slice (some ⟨w.heap.size, 0, none⟩) n n)) w') :
    if Region.wanted o (yielded ops a.tmps) = true then Oper.wp P o a w K Q else E := by
  have hw : Region.wanted o (yielded ops a.tmps) = true := by simp [Region.wanted, hg]
  rw [if_pos hw]
  obtain ⟨w', hrun, r1, r2⟩ := run_make_full (P := P) w base t e i z size h1 h2 h3 h4 kl kc n b2 b3 b4
  subst hL
  subst hC
  unfold Oper.wp
  simp [execOp, hop, hl, hc, hrun, Result.andThen]
  exact hK w' r1 r2
/-- The table with no clauses. -/
theorem new_done {w w3 : World} {bk bw n : Nat} (k : Keep w w3) (h1 : BoxAt bk 3 (List.replicate (n + 1) (Value.int .i64 0)).toArray w3) (h2 : BoxAt bw 26 (List.replicate (2 * n + 1) (Value.slice none 0 0)).toArray w3) (hne : bk ≠ bw) (hb : w.heap.size ≤ bk ∧ w.heap.size ≤ bw) {w4 : World} (h4 : Keep w3 w4) (hs : w4.heap.size = w3.heap.size + 1)
    (hx : BoxAt w3.heap.size 91 #[.int .i64 n, .bool false, .slice (some ⟨bk, 0, none⟩) (n + 1) (n + 1), .slice none 0 0, .slice (some ⟨bw, 0, none⟩) (2 * n + 1) (2 * n + 1)] w4) :
    ∃ x B, x.bx = w3.heap.size ∧ x.n = n ∧ XF x B (List.replicate (n + 1) 0) [] w4 ∧ Keep w w4 ∧ ∀ b, x.all b → w.heap.size ≤ b := by
  have l1 := h1.facts.2.2
  have l2 := h2.facts.2.2
  have hnone : ∀ v ∈ (⟨w3.heap.size, bk, bw, n, false, .slice none 0 0, List.replicate (2 * n + 1) (.slice none 0 0), [], [], List.replicate (2 * n + 1) []⟩ : XD).vs, v = .slice none 0 0 := by
    intro v hv
    simp only [XD.vs, List.mem_cons, List.append_nil] at hv
    rcases hv with hv | hv
    · exact hv
    · exact List.eq_of_mem_replicate hv
  refine ⟨⟨w3.heap.size, bk, bw, n, false, .slice none 0 0, List.replicate (2 * n + 1) (.slice none 0 0), [], [], List.replicate (2 * n + 1) []⟩, w4.heap.size, rfl, rfl, ⟨⟨hx, h2.keep h4 l2, ?_, by simp, by simp, by simp, by show w3.heap.size < _; omega, by show bk < _; omega, by show bw < _; omega, by show w3.heap.size ≠ bk; omega, by show w3.heap.size ≠ bw; omega, hne, Nat.le_refl _⟩, ?_, xi_none n, by simp⟩, k.trans h4, ?_⟩
  · refine ⟨by simp [XD.vs, XD.rs], fun i v r hv hr => ?_, fun i j a b g _ ha _ hg => ?_⟩
    · rw [hnone v (List.mem_of_getElem? hv)]
      have hr2 := List.mem_of_getElem? hr
      simp only [XD.rs, List.mem_cons, List.map_nil, List.append_nil, List.map_replicate] at hr2
      rcases hr2 with hr2 | hr2
      · rw [hr2]; exact World.ownsRow_nil _ _ _ _
      · rw [List.eq_of_mem_replicate hr2]; exact World.ownsRow_nil _ _ _ _
    · rw [hnone a (List.mem_of_getElem? ha)] at hg; cases hg
  · have := h1.keep h4 l1
    rwa [show (List.replicate (n + 1) (Value.int .i64 0)) = (List.replicate (n + 1) (0 : Int)).map (Value.int .i64) by simp] at this
  · rintro b ((e | e | ⟨v, hv, hg⟩) | e)
    · rw [e]; exact k.size
    · rw [e]; exact hb.2
    · rw [hnone v hv] at hg; cases hg
    · rw [e]; exact hb.1
end Go.Proofs.Ytbblgmkjgcjcaab
