/- slices.IsSorted finds a rising row of numbers sorted. -/
import Derived.Test.YtlfonjngbpfelaaGreatDoorTreeIn1
import Derived.Shelf.Spec.SlicesGrow
import Derived.Laws.AppendOwnNone
import Derived.Sort.OwnSortedInts
namespace Go.Proofs.YtlfonjngbpfelaaGreatDoor
open Go.RowKit Go.Lib

set_option maxHeartbeats 1000000 in
theorem isNaN_any (x : Int) (w : World) : Calls Tryz.prog 150 #[.int .i64 x] w fun e w' => e = .returned (.bool false) ∧ w' = w := by
  have h1 : (x == x) = true := by simp
  have h2 : (x != x) = false := by simp
  go_enter Tryz.func150, Tryz.ntmps150
  go_wp2_with fail
  go_ret
  exact ⟨rfl, rfl⟩
set_option maxHeartbeats 1000000 in
theorem less_any (x y : Int) (w : World) : Calls Tryz.prog 101 #[.int .i64 x, .int .i64 y] w fun e w' => e = .returned (.bool (decide (x < y))) ∧ w' = w := by
  go_enter Tryz.func101, Tryz.ntmps101
  go_wp2_with fail
  refine (isNaN_any x w).mono ?_
  rintro e w1 ⟨rfl, hw⟩
  rw [hw]
  clear hw
  go_wp2_with fail
  go_ret
  exact ⟨ret_bool (by simp), rfl⟩

set_option maxHeartbeats 2000000 in
set_option maxRecDepth 100000 in
theorem isSorted_any (v : Value) (zs : List Int) (w : World) (h : IntsAt v zs w) (hl : zs.length ≤ 1000) (hr : zs.Pairwise (· < ·)) :
    Calls Tryz.prog 43 #[v] w fun e w' => e = .returned (.bool true) ∧ Keep w w' := by
  have H := hid h
  have HR := hid hr
  obtain ⟨p, cap, rfl⟩ := h.len
  clear h hr
  go_enter Tryz.func43, Tryz.ntmps43
  go_wp2_with fail
  go_loopg [3] zs.length (fun gk i wr => ∃ j : Int, j = (gk : Int) - 1 ∧ (gk : Int) ≤ zs.length ∧ i = .int .i64 j ∧ Keep w wr)
  case atStart => exact ⟨_, rfl, by omega, rfl, Keep.refl _⟩
  case round =>
    obtain ⟨j, hj, hgl, rfl, hkp⟩ := hrel
    have HK := hid hkp
    clear hkp
    by_cases hgt : 0 < j
    · obtain ⟨m, rfl⟩ : ∃ m : Nat, j = (m + 1 : Nat) := ⟨(j - 1).toNat, by omega⟩
      have hm1 : m + 1 < zs.length := by omega
      have hlt : zs[m] < zs[m + 1] := List.pairwise_iff_getElem.1 HR.out m (m + 1) (by omega) hm1 (by omega)
      obtain ⟨g, cap2, hv, hgl2, hc⟩ := (H.out.keep HK.out).getD (by omega)
      cases hv
      have c1 : wr.cell? ⟨g, m + 1, none⟩ = some (.int .i64 zs[m + 1]) := by
        have := hc (m + 1) hm1
        rwa [Nat.zero_add, List.getD_eq_getElem?_getD, List.getElem?_eq_getElem hm1, Option.getD_some] at this
      have c0 : wr.cell? ⟨g, m, none⟩ = some (.int .i64 zs[m]) := by
        have := hc m (by omega)
        rwa [Nat.zero_add, List.getD_eq_getElem?_getD, List.getElem?_eq_getElem (by omega), Option.getD_some] at this
      have hnl : decide (zs[m + 1] < zs[m]) = false := decide_eq_false (by omega)
      generalize zs[m + 1] = a at c1 hnl
      generalize zs[m] = b at c0 hnl
      have e1 : ((m + 1 : Nat) : Int) - 1 = (m : Int) := by omega
      have hls := hid (show ∀ n, Calls Tryz.prog 101 #[.int .i64 a, .int .i64 b] (wr.drewN n) fun e w'' => e = .returned (.bool false) ∧ ∃ n', w'' = wr.drewN n' from fun n => by
        refine (less_any a b (wr.drewN n)).mono ?_
        rintro e w' ⟨rfl, rfl⟩
        exact ⟨ret_bool hnl, n, rfl⟩)
      have HJ := hid hj
      clear hc hlt hnl hj
      go_wp2_with fail
      go_quiet ((go_at_call 101; exact hls.out _))
      have k3 : Keep wr (wr.drewN nq) := Keep.drewN (Keep.refl _) _
      have K3 := hid (HK.out.trans k3)
      generalize wr.drewN nq = W3 at K3
      clear k3
      go_wp2_with fail
      go_roundg (gk - 1)
      case rel => exact ⟨(m : Int), by have := HJ.out; omega, by omega, by go_num, K3.out⟩
      case measure => have := HJ.out; omega
    · have hg' : ¬ (0 : Int) < j := hgt
      go_wp2_with fail
      go_ret
      exact ⟨rfl, HK.out⟩
end Go.Proofs.YtlfonjngbpfelaaGreatDoor
/- slices.Grow of no row of ints: what it leaves. -/
namespace Go.Proofs.YtlfonjngbpfelaaGreatDoor
open Go.RowKit Go.Lib

def growRen : Go.Shelf.Ren := ⟨fun | 4 => 102 | n => n, fun | 0 => 0 | 3 => 3 | 4 => 4 | 9 => 9 | 20 => 20 | 22 => 49 | 25 => 3 | n => n, fun | n => n⟩
theorem growLays : Go.Proofs.Lays8.n4 Tryz.prog growRen where
  mixed := by kernel_rfl
  f4 := ⟨ "slices.Grow[[]int,int]", by decide, Tryz.func102.trans (congrArg some (by kernel_rfl))⟩
  t0 := Tryz.underlying0
  a0 := Tryz.isAgg0
  z0 := Tryz.sizeOf0
  v0 := Tryz.zeroValue0
  t3 := Tryz.underlying3
  a3 := Tryz.isAgg3
  z3 := Tryz.sizeOf3
  v3 := Tryz.zeroValue3
  t4 := Tryz.underlying4
  a4 := Tryz.isAgg4
  z4 := Tryz.sizeOf4
  v4 := Tryz.zeroValue4
  t9 := Tryz.underlying9
  a9 := Tryz.isAgg9
  z9 := Tryz.sizeOf9
  v9 := Tryz.zeroValue9
  t20 := Tryz.underlying20
  a20 := Tryz.isAgg20
  z20 := Tryz.sizeOf20
  v20 := Tryz.zeroValue20
  t22 := Tryz.underlying49
  a22 := Tryz.isAgg49
  z22 := Tryz.sizeOf49
  v22 := Tryz.zeroValue49
end Go.Proofs.YtlfonjngbpfelaaGreatDoor
/- slices.Concat of rows of numbers, and slices.Sort and slices.Equal of them. -/
namespace Go.Proofs.YtlfonjngbpfelaaGreatDoor
open Go.RowKit Go.Lib Go.Sort

/-- A row of rows of numbers. -/
def RowsAt (b : Nat) (rs : List (Value × List Int)) (w : World) : Prop := b < w.heap.size ∧ ∀ (j : Nat) r, rs[j]? = some r → w.cell? ⟨b, j, none⟩ = some r.1 ∧ IntsAt r.1 r.2 w
theorem RowsAt.keep {b : Nat} {rs : List (Value × List Int)} {w w' : World} (h : RowsAt b rs w) (k : Keep w w') : RowsAt b rs w' :=
  ⟨Nat.lt_of_lt_of_le h.1 k.size, fun j r hr => ⟨(k.cell (p := ⟨b, j, none⟩) h.1).trans (h.2 j r hr).1, (h.2 j r hr).2.keep k⟩⟩
def catI (rs : List (Value × List Int)) (j : Nat) : List Int := ((rs.take j).map (·.2)).flatten
theorem catI_succ {rs : List (Value × List Int)} {j : Nat} (h : j < rs.length) : catI rs (j + 1) = catI rs j ++ rs[j].2 := by
  unfold catI
  rw [List.take_succ_eq_append_getElem h, List.map_append, List.flatten_append, List.map_cons, List.map_nil, List.flatten_cons, List.flatten_nil, List.append_nil]
theorem catI_len (rs : List (Value × List Int)) : ∀ (i j : Nat), i + j ≤ rs.length → (catI rs i).length ≤ (catI rs (i + j)).length
  | i, 0, _ => Nat.le_refl _
  | i, j + 1, h => by
    have := catI_len rs i j (by omega)
    rw [← Nat.add_assoc, catI_succ (by omega), List.length_append]
    omega
theorem zeroI_size (n : Nat) : (Builtin.zeroCells (Value.int .i64 0).cells n).size = n := by
  simp [Builtin.zeroCells, Value.cells]
theorem heap_new (w : World) (X : Array Value) (t : TypeId) : (w.drew.alloc (.cells X t)).heap[w.heap.size]? = some (.cells X t (0, 0)) := by
  show (w.heap.push _)[w.heap.size]? = _
  rw [Array.getElem?_push, if_pos rfl]
theorem grow0_any (n : Nat) (w : World) (hn : n ≤ 2000) :
    Calls Tryz.prog 102 #[.slice none 0 0, .int .i64 n] w fun e w' => ∃ v, e = .returned v ∧ IntsOwn w.heap.size v [] w' ∧ Keep w w' := by
  obtain ⟨i0, hi, hz0, hz1, hz2⟩ := info_parts infoInt
  by_cases h0 : n = 0
  · subst h0
    refine (Any8.slices_Grow_room growLays none 0 0 0 w (by omega) (by omega) (by omega) (by omega)).mono ?_
    rintro e w' ⟨rfl, rfl⟩
    exact ⟨_, rfl, ⟨rfl, Or.inl ⟨rfl, rfl⟩⟩, Keep.refl _⟩
  · refine (Any8.slices_Grow_grow growLays i0 (.int .i64 0) hi hz0 (by rw [hz1]; decide) none 0 0 n [] w (by omega) (by omega) (by rw [hz2]; omega) (by omega) (by simp) (fun _ => rfl) (fun a h => by cases h)).mono ?_
    rintro e w' ⟨rfl, rfl⟩
    refine ⟨_, rfl, ⟨rfl, Or.inr ⟨w.heap.size, _, _, rfl, Nat.le_refl _, heap_new w _ _, Nat.zero_le _, grownCap_le_maxLen w (0 + n) 0 _ (by unfold maxLen; omega), ?_, ?_⟩⟩, ?_⟩
    · have := grownCap_ge w (0 + n) 0 (growRen.t 25)
      simp only [Array.size_append, zeroI_size, List.size_toArray, List.length_nil]
      omega
    · simp
    · exact (Keep.drewN (Keep.refl w) 1).alloc' _
section
variable {w : World}
theorem wp_append_ints {ops : Array Oper} {rest : List Oper} {o : Oper} {a : Act} {Q : Exit → Act → World → Prop} (hgd : o.guard = none) (s x : Operand)
    (ho : o.op = .call { callee := .builtin .append, args := #[s, x], argTypes := #[49, 49] }) (B : Nat) (v : Value) (xs : List Int) (hs : a.eval s = v) (hown : IntsOwn B v xs w)
    (y : Value) (ys : List Int) (hx : a.eval x = y) (hy : IntsAt y ys w) (hl : xs.length + ys.length ≤ 2000) (hB : B ≤ w.heap.size)
    (h : ∀ v' w', IntsOwn B v' (xs ++ ys) w' → Below B w w' → wpList Tryz.prog ops Q rest (a.put o.dst v') w') : wpList Tryz.prog ops Q (o :: rest) a w := by
  obtain ⟨i0, hi, hz0, hz1, hz2⟩ := info_parts infoInt
  rcases hy with ⟨rfl, rfl⟩ | ⟨g, cap, rfl, hg, hc⟩
  · exact wpList_append_own_none hgd s x 49 ho B 3 i0 1 Tryz.underlying49 hi v xs.length (xs.map (Value.int .i64)) hs hown hx (h v w (by simpa using hown) (Below.refl _ _))
  · refine wpList_append_own_at _ hgd s x 49 ho B 3 i0 (.int .i64 0) 1 8 Tryz.underlying49 hi hz0 hz1 hz2 rfl (by decide) v xs.length (xs.map (Value.int .i64)) hs hown ⟨g, 0, none⟩ ys.length cap (ys.map (Value.int .i64)) hx (by simp) ?_ ?_ (by unfold maxLen; omega) (by omega) hB ?_
    · intro j u hj
      rw [List.getElem?_map, Option.map_eq_some_iff] at hj
      obtain ⟨z, hz, rfl⟩ := hj
      have := hc j z hz
      cases j with
      | zero => simpa [Addr.add] using this
      | succ j => simpa [Addr.add] using this
    · intro u hu
      obtain ⟨z, -, rfl⟩ := List.mem_map.1 hu
      rfl
    · intro v' w' h1 h2 _ _
      refine h v' w' ?_ (Below.grown (Below.refl B w) h2 hB fun k hk => (owns_lt hown hk).1)
      unfold IntsOwn
      rw [List.length_append, List.map_append]
      exact h1
end
theorem sortI_any (B : Nat) (v : Value) (zs : List Int) (w : World) (h : IntsOwn B v zs w) (hB : B ≤ w.heap.size) (hl : zs.length ≤ 2000) :
    Calls Tryz.prog 45 #[v] w fun e w' => e = .returned (.tuple #[]) ∧ IntsOwn B v (zs.mergeSort fun x y => decide (x ≤ y)) w' ∧ Below B w w' := by
  have hown := h
  obtain ⟨hlen, ⟨rfl, h0⟩ | ⟨g, cap, cur, rfl, hbase, hb, hn1, hn2, hn3, hn4⟩⟩ := h
  · have hz : zs = [] := List.length_eq_zero_iff.1 h0
    subst hz
    refine (Tryz.slices_Sort_int_none none 0 w).mono ?_
    rintro e w' ⟨rfl, rfl⟩
    exact ⟨rfl, by rw [List.mergeSort_nil]; exact hown, Below.refl _ _⟩
  · rw [Nat.mul_one] at hn4
    have hgl := (Array.getElem?_eq_some_iff.1 hb).1
    have hH : Holds (Value.int .i64) w g 0 zs.toArray := holds_of_blockI hb hn4
    refine (Tryz.slices_Sort_int g 0 cap zs w hH hgl (by omega)).mono ?_
    rintro e w' ⟨rfl, nn, os, rfl⟩
    have hml : (zs.mergeSort fun x y => decide (x ≤ y)).length = zs.length := by simp
    refine ⟨rfl, ?_, Below.grown (Below.refl B w) (grownBy_sortedI _) hB fun k hk => by cases hk; exact hbase⟩
    unfold IntsOwn
    rw [hml]
    exact ownsRow_sortedI hml hbase hb hn1 hn2 hn3
theorem equalI_any (v u : Value) (xs ys : List Int) (w : World) (h : IntsAt v xs w) (h' : IntsAt u ys w) (hl : xs.length ≤ 2000) (hl' : ys.length ≤ 2000) :
    Calls Tryz.prog 36 #[v, u] w fun e w' => e = .returned (.bool (xs == ys)) ∧ ∃ q, w' = w.drewN q := by
  obtain ⟨q, d, rfl⟩ := h'.len
  obtain ⟨p, c, rfl⟩ := h.len
  by_cases hne : xs.length = ys.length
  · by_cases h0 : xs = []
    · subst h0
      have hy : ys = [] := List.length_eq_zero_iff.1 hne.symm
      subst hy
      refine (Tryz.slices_Equal_int_empty p q c 0 d w (by omega)).mono ?_
      rintro e w' ⟨rfl, rfl⟩
      exact ⟨rfl, 0, rfl⟩
    · have hp := List.length_pos_iff.2 h0
      obtain ⟨g, cap, e1, -, hc⟩ := h.getD hp
      obtain ⟨g', cap', e2, -, hc'⟩ := h'.getD (by omega)
      cases e1
      cases e2
      refine (Tryz.slices_Equal_int g 0 xs.length c g' 0 ys.length d xs ys w (Nat.le_refl _) (Nat.le_refl _) (by omega) (by omega) hc hc').mono ?_
      rintro e w' ⟨rfl, q, rfl⟩
      exact ⟨ret_bool (by rw [List.take_length, List.take_length]), q, rfl⟩
  · refine (Tryz.slices_Equal_int_lens p q xs.length c ys.length d w hne).mono ?_
    rintro e w' ⟨rfl, rfl⟩
    refine ⟨ret_bool ?_, 0, rfl⟩
    symm
    exact beq_eq_false_iff_ne.2 fun e => hne (by rw [e])

set_option maxHeartbeats 2000000 in
set_option maxRecDepth 100000 in
theorem concat_any (b cap : Nat) (rs : List (Value × List Int)) (w : World) (h : RowsAt b rs w) (hn : rs.length ≤ 1000) (hl : (catI rs rs.length).length ≤ 2000) :
    Calls Tryz.prog 44 #[.slice (some ⟨b, 0, none⟩) rs.length cap] w fun e w' => ∃ v, e = .returned v ∧ IntsOwn w.heap.size v (catI rs rs.length) w' ∧ Keep w w' := by
  have H := hid h
  have HL := hid hl
  clear h hl
  go_enter Tryz.func44, Tryz.ntmps44
  go_wp2_with fail
  go_loopg [3, 11] rs.length (fun gk sz i wr => ∃ j : Nat, j + gk = rs.length ∧ sz = .int .i64 ((catI rs j).length : Nat) ∧ i = .int .i64 j ∧ Keep w wr)
  case atStart => exact ⟨0, by simp, rfl, rfl, Keep.refl _⟩
  case round =>
    obtain ⟨j, hj, rfl, rfl, hk⟩ := hrel
    have HK := hid hk
    clear hk
    by_cases hlt : j < rs.length
    · have hcl := HL.out
      have hle := catI_len rs (j + 1) (rs.length - (j + 1)) (by omega)
      rw [show j + 1 + (rs.length - (j + 1)) = rs.length by omega] at hle
      have hs := congrArg List.length (catI_succ hlt)
      rw [List.length_append] at hs
      obtain ⟨hc, hi⟩ := (H.out.keep HK.out).2 j _ (List.getElem?_eq_getElem hlt)
      have hbl := (H.out.keep HK.out).1
      have HS : Hid ((catI rs (j + 1)).length = (catI rs j).length + rs[j].2.length) := hs
      rw [hs] at hle
      clear hs
      generalize rs[j] = r at hc hi HS hle
      obtain ⟨xv, xs⟩ := r
      obtain ⟨p, cp, hxv⟩ := hi.len
      simp only at hxv hle
      subst hxv
      generalize (catI rs j).length = m at HS hle
      have hm : m + xs.length ≤ 2000 := by omega
      have h0 : ¬ ((m : Int) + (xs.length : Int) < 0) := by omega
      clear hi hle hcl
      go_wp2_with fail
      go_roundg (rs.length - (j + 1))
      case rel => exact ⟨j + 1, by omega, by rw [HS.out]; go_num, by go_num, HK.out⟩
      case measure => omega
    · obtain rfl : j = rs.length := by omega
      have hcl := HL.out
      generalize hm : (catI rs rs.length).length = m at hcl
      have HM := hid hm
      clear hm hlt hj
      go_wp2_with fail
      refine (grow0_any m wr hcl).mono ?_
      rintro e w1 ⟨v1, rfl, ho1, k1⟩
      have O1 : Hid (IntsOwn w.heap.size v1 [] w1) := by
        obtain ⟨h1, h2⟩ := ho1
        refine ⟨h1, h2.imp id ?_⟩
        rintro ⟨g, cap, cur, e1, e2, e3⟩
        exact ⟨g, cap, cur, e1, Nat.le_trans HK.out.size e2, e3⟩
      have K1 := hid (HK.out.trans k1)
      clear ho1 k1
      go_wp2_with fail
      go_loopg [6, 27] rs.length (fun gk nv i wr' => ∃ j : Nat, j + gk = rs.length ∧ IntsOwn w.heap.size nv (catI rs j) wr' ∧ i = .int .i64 j ∧ Keep w wr')
      case atStart => exact ⟨0, by simp, O1.out, rfl, K1.out⟩
      case round =>
        obtain ⟨j, hj, ho, rfl, hk2⟩ := hrel
        have HO := hid ho
        have HK2 := hid hk2
        clear ho hk2
        by_cases hlt : j < rs.length
        · have hle := catI_len rs (j + 1) (rs.length - (j + 1)) (by omega)
          rw [show j + 1 + (rs.length - (j + 1)) = rs.length by omega, HM.out] at hle
          have hs := catI_succ hlt
          obtain ⟨hc, hi⟩ := (H.out.keep HK2.out).2 j _ (List.getElem?_eq_getElem hlt)
          have hbl := (H.out.keep HK2.out).1
          have HS : Hid (catI rs (j + 1) = catI rs j ++ rs[j].2) := hs
          rw [hs, List.length_append] at hle
          clear hs
          generalize rs[j] = r at hc hi HS hle
          obtain ⟨xv, xs⟩ := r
          simp only at hc hi HS hle
          have HI := hid hi
          obtain ⟨p, cp, hxv⟩ := hi.len
          subst hxv
          clear hi
          have hsz := HK2.out.size
          go_wp2_with (at_builtin; refine wp_append_ints rfl _ _ rfl w.heap.size _ _ rfl HO.out _ xs rfl HI.out (by omega) hsz ?_)
          intro v' w3 ho3 hb3
          have O3 := hid ho3
          have K3 : Hid (Keep w w3) := Below.trans HK2.out hb3
          clear ho3 hb3
          go_wp2_with fail
          go_roundg (rs.length - (j + 1))
          case rel => exact ⟨j + 1, by omega, by rw [HS.out]; exact O3.out, by go_num, K3.out⟩
          case measure => omega
        · obtain rfl : j = rs.length := by omega
          go_wp2_with fail
          go_ret
          exact ⟨_, rfl, HO.out, HK2.out⟩
end Go.Proofs.YtlfonjngbpfelaaGreatDoor
