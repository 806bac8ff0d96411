/- The closure put of quartermasterref.ReadNeed: a need that was read is whole, or a kid of the innermost one that is open. -/
import Derived.Test.YtkckkjpkidcbnaaGreatDoorRefStack
namespace Go.Proofs.YtkckkjpkidcbnaaGreatDoor
open Go.RowKit

theorem enter_put (args : Array Value) (w : World) : (callFunc 74 args).run Tryz.prog w = .ok (.enter 74 args) w := enters_of Tryz.func74 (by kernel_rfl) rfl args w
theorem NBox.out_set {b c o : Nat} {cs : Array Value} {w : World} (h : NBox b cs w) (hne : b ≠ c) (x : Value) : NBox b cs (w.setCell ⟨c, o, none⟩ x) := by
  unfold NBox at *; rw [set_other w c o x b hne]; exact h

set_option maxHeartbeats 2000000 in
set_option maxRecDepth 100000 in
theorem putE_any {S : Nat → Prop} (t : NT) (cs : List Value) (ob wb : Nat) (p : Option Addr) (cap : Nat) (w : World) (hn : NeedIs S w t cs) (ho : VarAt ob 24 (.slice p 0 cap) w) (hw : VarAt wb 111 (.pointer none) w) :
    Calls Tryz.prog 74 #[.agg cs.toArray, .pointer (some ⟨ob, 0, none⟩), .pointer (some ⟨wb, 0, none⟩)] w fun e w' => e = .returned (.bool true) ∧ VarAt wb 111 (.pointer (some ⟨w.heap.size, 0, none⟩)) w' ∧ NBox w.heap.size cs.toArray w' ∧ Apart (One wb) w w' := by
  rcases t with ⟨k, a, fl, nt, kids⟩
  rw [NeedIs] at hn
  obtain ⟨kp, kc, rfl, -, -, -⟩ := hn
  go_enter Tryz.func74, Tryz.ntmps74
  go_upto_region 1 with fail
  refine at_wp (fun W' => Keep w W' ∧ NBox w.heap.size #[.int .i64 k, .string a.n, .int .i64 a.op, .int .i64 a.v, .int .i64 a.sl, .string a.f, .bool a.on, .string fl, .bool nt, .slice kp kids.length kc] W') ⟨Keep.alloc _ _, NBox.new _ _⟩ ?_
  rintro W0 ⟨k0, b0⟩
  have K0 := hid k0
  have B0 := hid b0
  have O0 := hid (ho.keep k0 ho.facts.2.2)
  have V0 := hid (hw.keep k0 hw.facts.2.2)
  obtain ⟨hoc, hof, hol⟩ := O0.out.facts
  obtain ⟨hwc, hwf, hwl⟩ := V0.out.facts
  have hwl0 := hw.facts.2.2
  clear k0 b0 ho hw
  go_wp2_with fail
  go_ret
  exact ⟨rfl, V0.out.set _, B0.out.out_set (by omega) _, (one_keep K0.out).trans (one_set wb W0 _)⟩

theorem st_row {B g cap : Nat} {st : List NT} {kvs : List Value} {p : NT} {kv : Value} {w : World} (h : Stk B (.slice (some ⟨g, 0, none⟩) (st.length + 1) cap) (st ++ [p]) (kvs ++ [kv]) w) : w.ownsRow B 26 10 (.slice (some ⟨g, 0, none⟩) (st.length + 1) cap) (st.length + 1) ((stCells st kvs).flatten ++ (p.head9 ++ [kv])) := by
  have hlen : kvs.length = st.length := by have := h.len; simpa using this
  have := h.row
  rw [stCells_app hlen, List.flatten_append] at this
  simpa using this
theorem st_flat {st : List NT} {kvs : List Value} (hlen : kvs.length = st.length) : (stCells st kvs).flatten.length = st.length * 10 := by rw [flat_len _ stCells_10, stCells_len hlen]
theorem st_set {st : List NT} {kvs : List Value} (hlen : kvs.length = st.length) (p : NT) (kv x : Value) : ((stCells st kvs).flatten ++ (p.head9 ++ [kv])).set (st.length * 10 + 9) x = (stCells st kvs).flatten ++ (p.head9 ++ [x]) := by
  rw [List.set_append, if_neg (by rw [st_flat hlen]; omega), st_flat hlen, Nat.add_sub_cancel_left, List.set_append, if_neg (by rw [head9_len]; omega), head9_len]; rfl
/-- What stands behind the append of a kid. -/
structure PutRow (B g cap : Nat) (st : List NT) (kvs : List Value) (p : NT) (kv kv1 : Value) (xs : List Value) (w w5 : World) : Prop where
  row : w5.ownsRow B 26 10 (.slice (some ⟨g, 0, none⟩) (st.length + 1) cap) (st.length + 1) ((stCells st kvs).flatten ++ (p.head9 ++ [kv]))
  kid : w5.ownsRow B 26 10 kv1 (p.kids.length + 1) xs
  ne : kv1.ownBlock ≠ some g
  or : kv1.ownBlock = kv.ownBlock ∨ ∃ g', kv1.ownBlock = some g' ∧ w.heap.size ≤ g'
  rest : ∀ b, b < w.heap.size → kv.ownBlock ≠ some b → w5.heap[b]? = w.heap[b]?
  low : Below B w w5
theorem put_grown {B g cap : Nat} {st : List NT} {kvs : List Value} {p : NT} {kv kv1 : Value} {xs : List Value} {w W1 w5 : World} {o : Obj} (h : Stk B (.slice (some ⟨g, 0, none⟩) (st.length + 1) cap) (st ++ [p]) (kvs ++ [kv]) w) (hB : B ≤ w.heap.size) (k1 : Keep w W1)
    (h1 : w5.ownsRow B 26 10 kv1 (p.kids.length + 1) xs) (h2 : (W1.alloc o).grownBy w5 kv.ownBlock) (h3 : kv1.ownBlock = kv.ownBlock ∨ kv1.ownBlock = some (W1.heap.size + 1)) : PutRow B g cap st kvs p kv kv1 xs w w5 := by
  have hkm : kv ∈ kvs ++ [kv] := List.mem_append_right _ (by simp)
  have hg := h.live (g := g) (Or.inl rfl)
  have hkg : kv.ownBlock ≠ some g := fun e => h.kv kv hkm g e rfl
  have hsz := k1.size
  have ha := alloc_size W1 o
  have hr : ∀ b, b < w.heap.size → kv.ownBlock ≠ some b → w5.heap[b]? = w.heap[b]? := fun b hb hn => by
    rw [h2.block b (by omega) (fun e => hn e.symm), (Keep.alloc W1 o).block b (by omega), k1.block b hb]
  refine ⟨owns_other (st_row h) fun b hb => ?_, h1, ?_, ?_, hr, ?_⟩
  · cases hb; exact hr g hg.2 hkg
  · rcases h3 with h3 | h3
    · rw [h3]; exact hkg
    · rw [h3]; intro e; have := Option.some.inj e; omega
  · rcases h3 with h3 | h3
    · exact Or.inl h3
    · exact Or.inr ⟨_, h3, by omega⟩
  · exact Below.trans (Below.mono k1 hB) (((Below.refl B W1).alloc (by omega) o).grown h2 (by omega) (fun g' hg' => (h.live (g := g') (Or.inr ⟨kv, hkm, hg'⟩)).1))
theorem PutRow.stored {B g cap : Nat} {st : List NT} {kvs : List Value} {p : NT} {kv kv1 : Value} {xs : List Value} {w w5 : World} (h : PutRow B g cap st kvs p kv kv1 xs w w5) (hlen : kvs.length = st.length) (hBg : B ≤ g) :
    (w5.setCell ⟨g, st.length * 10 + 9, none⟩ kv1).ownsRow B 26 10 (.slice (some ⟨g, 0, none⟩) (st.length + 1) cap) (st.length + 1) ((stCells st kvs).flatten ++ (p.head9 ++ [kv1])) ∧ (w5.setCell ⟨g, st.length * 10 + 9, none⟩ kv1).ownsRow B 26 10 kv1 (p.kids.length + 1) xs ∧
    (∀ b, b < w.heap.size → b ≠ g → kv.ownBlock ≠ some b → (w5.setCell ⟨g, st.length * 10 + 9, none⟩ kv1).heap[b]? = w.heap[b]?) ∧ Below B w (w5.setCell ⟨g, st.length * 10 + 9, none⟩ kv1) := by
  have r := (h.row.stored (st.length * 10 + 9) kv1).1
  rw [st_set hlen] at r
  exact ⟨r, ownsRow_setCell_other h.kid (a := ⟨g, st.length * 10 + 9, none⟩) h.ne kv1, fun b hb hn hk => by rw [set_other w5 g _ _ b hn]; exact h.rest b hb hk, h.low.setCell (p := ⟨g, st.length * 10 + 9, none⟩) hBg kv1⟩
theorem put_done {B g cap : Nat} {st : List NT} {kvs : List Value} {p t : NT} {kv kv1 : Value} {csl : List (List Value)} {cs : List Value} {w w' : World} (h : Stk B (.slice (some ⟨g, 0, none⟩) (st.length + 1) cap) (st ++ [p]) (kvs ++ [kv]) w) (c1 : csl.length = p.kids.length) (c2 : ∀ cs ∈ csl, cs.length = 10)
    (c4 : ∀ (i : Nat) t cs, p.kids[i]? = some t → csl[i]? = some cs → NeedIs (Dead B (.slice (some ⟨g, 0, none⟩) (st.length + 1) cap) (kvs ++ [kv]) w) w t cs) (hn : NeedIs (Dead B (.slice (some ⟨g, 0, none⟩) (st.length + 1) cap) (kvs ++ [kv]) w) w t cs) (hc : cs.length = 10)
    (r1 : w'.ownsRow B 26 10 (.slice (some ⟨g, 0, none⟩) (st.length + 1) cap) (st.length + 1) ((stCells st kvs).flatten ++ (p.head9 ++ [kv1]))) (r2 : w'.ownsRow B 26 10 kv1 (p.kids.length + 1) (csl.flatten ++ cs))
    (r3 : ∀ b, b < w.heap.size → b ≠ g → kv.ownBlock ≠ some b → w'.heap[b]? = w.heap[b]?) (r4 : Below B w w') (hs : w.heap.size ≤ w'.heap.size) (h3 : kv1.ownBlock = kv.ownBlock ∨ ∃ g', kv1.ownBlock = some g' ∧ w.heap.size ≤ g') :
    (∃ kv', Stk B (.slice (some ⟨g, 0, none⟩) (st.length + 1) cap) (st ++ [p.addKid t]) (kvs ++ [kv']) w') ∧ Below B w w' :=
  ⟨⟨kv1, h.put hs (fun b _ hb hv hk => r3 b hb (fun e => hv (by rw [e]; rfl)) hk) h3 c1 c2 c4 hn hc r2 r1⟩, r4⟩

theorem put_fill {B g cap g5 cap5 : Nat} {st : List NT} {kvs : List Value} {p t : NT} {kv : Value} {csl : List (List Value)} {w w6 : World} {z0 z1 z2 z3 z4 z5 z6 z7 z8 z9 : Value} (v0 v1 v2 v3 v4 v5 v6 v7 v8 v9 : Value) (h : Stk B (.slice (some ⟨g, 0, none⟩) (st.length + 1) cap) (st ++ [p]) (kvs ++ [kv]) w) (c1 : csl.length = p.kids.length) (c2 : ∀ cs ∈ csl, cs.length = 10)
    (c4 : ∀ (i : Nat) t cs, p.kids[i]? = some t → csl[i]? = some cs → NeedIs (Dead B (.slice (some ⟨g, 0, none⟩) (st.length + 1) cap) (kvs ++ [kv]) w) w t cs) (hn : NeedIs (Dead B (.slice (some ⟨g, 0, none⟩) (st.length + 1) cap) (kvs ++ [kv]) w) w t [v0, v1, v2, v3, v4, v5, v6, v7, v8, v9])
    (r1 : w6.ownsRow B 26 10 (.slice (some ⟨g, 0, none⟩) (st.length + 1) cap) (st.length + 1) ((stCells st kvs).flatten ++ (p.head9 ++ [.slice (some ⟨g5, 0, none⟩) (p.kids.length + 1) cap5]))) (r2 : w6.ownsRow B 26 10 (.slice (some ⟨g5, 0, none⟩) (p.kids.length + 1) cap5) (p.kids.length + 1) (csl.flatten ++ [z0, z1, z2, z3, z4, z5, z6, z7, z8, z9]))
    (r3 : ∀ b, b < w.heap.size → b ≠ g → kv.ownBlock ≠ some b → w6.heap[b]? = w.heap[b]?) (r4 : Below B w w6) (hs : w.heap.size ≤ w6.heap.size) (h3 : (Value.slice (some ⟨g5, 0, none⟩) (p.kids.length + 1) cap5).ownBlock = kv.ownBlock ∨ ∃ g', (Value.slice (some ⟨g5, 0, none⟩) (p.kids.length + 1) cap5).ownBlock = some g' ∧ w.heap.size ≤ g') (hne : g5 ≠ g) :
    (∃ kv', Stk B (.slice (some ⟨g, 0, none⟩) (st.length + 1) cap) (st ++ [p.addKid t]) (kvs ++ [kv']) ((((((((((w6.setCell ⟨g5, p.kids.length * 10, none⟩ v0).setCell ⟨g5, p.kids.length * 10 + 1, none⟩ v1).setCell ⟨g5, p.kids.length * 10 + 2, none⟩ v2).setCell ⟨g5, p.kids.length * 10 + 3, none⟩ v3).setCell ⟨g5, p.kids.length * 10 + 4, none⟩ v4).setCell ⟨g5, p.kids.length * 10 + 5, none⟩ v5).setCell ⟨g5, p.kids.length * 10 + 6, none⟩ v6).setCell ⟨g5, p.kids.length * 10 + 7, none⟩ v7).setCell ⟨g5, p.kids.length * 10 + 8, none⟩ v8).setCell ⟨g5, p.kids.length * 10 + 9, none⟩ v9)) ∧ Below B w ((((((((((w6.setCell ⟨g5, p.kids.length * 10, none⟩ v0).setCell ⟨g5, p.kids.length * 10 + 1, none⟩ v1).setCell ⟨g5, p.kids.length * 10 + 2, none⟩ v2).setCell ⟨g5, p.kids.length * 10 + 3, none⟩ v3).setCell ⟨g5, p.kids.length * 10 + 4, none⟩ v4).setCell ⟨g5, p.kids.length * 10 + 5, none⟩ v5).setCell ⟨g5, p.kids.length * 10 + 6, none⟩ v6).setCell ⟨g5, p.kids.length * 10 + 7, none⟩ v7).setCell ⟨g5, p.kids.length * 10 + 8, none⟩ v8).setCell ⟨g5, p.kids.length * 10 + 9, none⟩ v9) := by
  have hfl : csl.flatten.length = p.kids.length * 10 := by rw [flat_len csl c2, c1]
  have hB5 : B ≤ g5 := (owns_in r2 (g := g5) rfl).1
  have hvn : ∀ o, (Value.slice (some ⟨g, 0, none⟩) (st.length + 1) cap).ownBlock ≠ some (⟨g5, o, none⟩ : Addr).block := fun o e => hne (Option.some.inj e).symm
  have so : ∀ (W : World) (o : Nat) (x : Value), W.ownsRow B 26 10 (.slice (some ⟨g, 0, none⟩) (st.length + 1) cap) (st.length + 1) ((stCells st kvs).flatten ++ (p.head9 ++ [.slice (some ⟨g5, 0, none⟩) (p.kids.length + 1) cap5])) → (W.setCell ⟨g5, o, none⟩ x).ownsRow B 26 10 (.slice (some ⟨g, 0, none⟩) (st.length + 1) cap) (st.length + 1) ((stCells st kvs).flatten ++ (p.head9 ++ [.slice (some ⟨g5, 0, none⟩) (p.kids.length + 1) cap5])) := fun W o x hr => ownsRow_setCell_other hr (hvn o) x
  have sb : ∀ (W : World) (o : Nat) (x : Value), Below B w W → Below B w (W.setCell ⟨g5, o, none⟩ x) := fun W o x hb => hb.setCell (p := ⟨g5, o, none⟩) hB5 x
  refine put_done h c1 c2 c4 hn rfl (so _ _ _ (so _ _ _ (so _ _ _ (so _ _ _ (so _ _ _ (so _ _ _ (so _ _ _ (so _ _ _ (so _ _ _ (so _ _ _ r1)))))))))) (own_fill r2 hfl v0 v1 v2 v3 v4 v5 v6 v7 v8 v9) (fun b hb hg hk => ?_) (sb _ _ _ (sb _ _ _ (sb _ _ _ (sb _ _ _ (sb _ _ _ (sb _ _ _ (sb _ _ _ (sb _ _ _ (sb _ _ _ (sb _ _ _ r4)))))))))) (by simp only [set_size]; exact hs) h3
  have hb5 : b ≠ g5 := by
    rcases h3 with h3 | ⟨g', e, hge⟩
    · intro e; rw [e] at hk; exact hk h3.symm
    · have := Option.some.inj e; simp only at this; omega
  simp only [set_other _ g5 _ _ b hb5]
  exact r3 b hb hg hk

set_option maxHeartbeats 4000000 in
set_option maxRecDepth 100000 in
theorem putK_any {B : Nat} {v kv : Value} {st : List NT} {kvs : List Value} {p t : NT} (cs : List Value) (ob wb : Nat) (w : World) (h : Stk B v (st ++ [p]) (kvs ++ [kv]) w) (hn : NeedIs (Dead B v (kvs ++ [kv]) w) w t cs) (ho : VarAt ob 24 v w) (hB : B ≤ w.heap.size) (hst : st.length ≤ 4) (hkl : p.kids.length ≤ 100000) :
    Calls Tryz.prog 74 #[.agg cs.toArray, .pointer (some ⟨ob, 0, none⟩), .pointer (some ⟨wb, 0, none⟩)] w fun e w' => e = .returned (.bool true) ∧ (∃ kv', Stk B v (st ++ [p.addKid t]) (kvs ++ [kv']) w') ∧ Below B w w' := by
  have hlen : kvs.length = st.length := by have := h.len; simpa using this
  have HSTK := hid h
  have HN := hid hn
  obtain ⟨g, cap, hv, hcap, hBg, hgl, hcell, -, -⟩ := h.pop
  obtain ⟨csl, c1, c2, c3, c4⟩ := h.kid st.length p kv (by simp) (by rw [← hlen]; simp)
  have HC3 := hid c3
  have HC4 := hid c4
  have hkg : ∀ g', kv.ownBlock = some g' → B ≤ g' ∧ g' < w.heap.size := fun g' e => owns_in c3 e
  obtain ⟨kp0, kc0, rfl⟩ : ∃ kp kc, kv = .slice kp p.kids.length kc := by
    obtain ⟨-, ⟨rfl, h0⟩ | ⟨g', cap', cur, rfl, -⟩⟩ := c3
    · exact ⟨none, 0, by rw [h0]⟩
    · exact ⟨_, _, rfl⟩
  subst hv
  have hc9 : w.cell? ⟨g, st.length * 10 + 9, none⟩ = some (.slice kp0 p.kids.length kc0) := hcell 9 _ (by cases p; rfl)
  rcases t with ⟨k, a, fl, nt, kids⟩
  rw [NeedIs] at hn
  obtain ⟨kp, kc, rfl, hkc1, hkc2, -⟩ := hn
  obtain ⟨i0, hi, hz0, hz1, hz2⟩ := info_parts infoNeed
  clear h c3 c4 hcell
  go_enter Tryz.func74, Tryz.ntmps74
  go_upto_region 1 with fail
  refine at_wp (fun W' => Keep w W' ∧ NBox w.heap.size #[.int .i64 k, .string a.n, .int .i64 a.op, .int .i64 a.v, .int .i64 a.sl, .string a.f, .bool a.on, .string fl, .bool nt, .slice kp kids.length kc] W') ⟨Keep.alloc _ _, NBox.new _ _⟩ ?_
  rintro W0 ⟨k0, b0⟩
  have K0 := hid k0
  have B0 := hid b0
  have O0 := hid (ho.keep k0 ho.facts.2.2)
  obtain ⟨hoc, hof, hol⟩ := O0.out.facts
  have e1 : ((st.length + 1 : Nat) : Int) - 1 = (st.length : Int) := by omega
  clear k0 b0 ho
  go_upto_region 5 with fail
  go_region
  · have k1 : Keep W0 ((W0.alloc (Obj.cells #[Value.bool false] 4)).drew) := (Keep.alloc _ _).drew
    generalize (W0.alloc (Obj.cells #[Value.bool false] 4)).drew = W1 at k1 ⊢
    have K1 := hid (K0.out.trans k1)
    have B1 := hid (B0.out.keep k1 B0.out.facts.2.2)
    have HC1 : Hid (W1.ownsRow B 26 10 (.slice kp0 p.kids.length kc0) p.kids.length csl.flatten) := owns_other HC3.out fun b hb => K1.out.block b (hkg b hb).2
    have hc91 : W1.cell? ⟨g, st.length * 10 + 9, none⟩ = some (.slice kp0 p.kids.length kc0) := (K1.out.cell (p := ⟨g, st.length * 10 + 9, none⟩) hgl).trans hc9
    have hgl1 : g < W1.heap.size := Nat.lt_of_lt_of_le hgl K1.out.size
    have hB1 : B ≤ W1.heap.size := Nat.le_trans hB K1.out.size
    obtain ⟨hbc, hbf, hbl⟩ := B1.out.facts
    have hwn : w.heap.size < W1.heap.size := hbl
    clear k1 K0 B0 hoc hof hol O0
    go_upto_region 8 with fail
    go_region_law (refine step_append_own rfl _ _ 24 rfl B 26 i0 (.agg #[.int .i64 0, .string ⟨#[]⟩, .int .i64 0, .int .i64 0, .int .i64 0, .string ⟨#[]⟩, .bool false, .string ⟨#[]⟩, .bool false, .slice none 0 0]) 10 120 Tryz.underlying24 hi hz0 hz1 hz2 rfl (by decide) (.slice kp0 p.kids.length kc0) p.kids.length csl.flatten rfl (HC1.out.alloc _) ⟨W1.heap.size, 0, none⟩ 1 1 [.int .i64 k, .string a.n, .int .i64 a.op, .int .i64 a.v, .int .i64 a.sl, .string a.f, .bool a.on, .string fl, .bool nt, .slice kp kids.length kc] rfl rfl many_news (by intro u hu; simp at hu; rcases hu with rfl | rfl | rfl | rfl | rfl | rfl | rfl | rfl | rfl | rfl <;> rfl) (by unfold maxLen; omega) (by omega) (show B ≤ (W1.alloc (.cells #[.int .i64 k, .string a.n, .int .i64 a.op, .int .i64 a.v, .int .i64 a.sl, .string a.f, .bool a.on, .string fl, .bool nt, .slice kp kids.length kc] 26)).heap.size by rw [alloc_size]; omega) ?_; intro v5 w5 h1 h2 h3; obtain ⟨g5, cap5, rfl⟩ := owns_shape h1 (Nat.succ_pos _); have PR := hid (put_grown (o := .cells #[.int .i64 k, .string a.n, .int .i64 a.op, .int .i64 a.v, .int .i64 a.sl, .string a.f, .bool a.on, .string fl, .bool nt, .slice kp kids.length kc] 26) HSTK.out hB K1.out h1 (grown_undrew h2) (by first | exact h3 | (rw [← alloc_size]; exact h3))); have hf5 : ∀ o, w5.frozen? ⟨g, o, none⟩ = false := (fun o => PR.out.row.frozenAt o); have hl5 : g < w5.heap.size := (owns_in PR.out.row (g := g) rfl).2; have hc5 : w5.cell? ⟨g, st.length * 10 + 9, none⟩ = some (.slice kp0 p.kids.length kc0) := (World.cell?_of_block (w := w) (PR.out.rest g hgl (fun e => HSTK.out.kv _ (List.mem_append_right _ (by simp)) g e rfl))).trans hc9)
    all_goals
      have HST := hid (PR.out.stored hlen hBg)
      have HOR := hid PR.out.or
      have hs6 : w.heap.size ≤ w5.heap.size := by have := h2.size; simp at this; omega
      clear hf5 hl5 hc5 h1 h2 h3
      go_wp2_with fail
      go_ret
      exact ⟨rfl, put_done HSTK.out c1 c2 HC4.out HN.out rfl HST.out.1 HST.out.2.1 HST.out.2.2.1 HST.out.2.2.2 (by rw [set_size]; exact hs6) HOR.out⟩
  · have k1 : Keep W0 ((W0.alloc (Obj.cells #[Value.bool true] 4)).drew) := (Keep.alloc _ _).drew
    generalize (W0.alloc (Obj.cells #[Value.bool true] 4)).drew = W1 at k1 ⊢
    have K1 := hid (K0.out.trans k1)
    have B1 := hid (B0.out.keep k1 B0.out.facts.2.2)
    have HC1 : Hid (W1.ownsRow B 26 10 (.slice kp0 p.kids.length kc0) p.kids.length csl.flatten) := owns_other HC3.out fun b hb => K1.out.block b (hkg b hb).2
    have hc91 : W1.cell? ⟨g, st.length * 10 + 9, none⟩ = some (.slice kp0 p.kids.length kc0) := (K1.out.cell (p := ⟨g, st.length * 10 + 9, none⟩) hgl).trans hc9
    have hgl1 : g < W1.heap.size := Nat.lt_of_lt_of_le hgl K1.out.size
    have hB1 : B ≤ W1.heap.size := Nat.le_trans hB K1.out.size
    obtain ⟨hbc, hbf, hbl⟩ := B1.out.facts
    have hwn : w.heap.size < W1.heap.size := hbl
    clear k1 K0 B0 hoc hof hol O0
    go_wp2_with (at_builtin; refine wpList_append_own_at _ rfl _ _ 24 rfl B 26 i0 (.agg #[.int .i64 0, .string ⟨#[]⟩, .int .i64 0, .int .i64 0, .int .i64 0, .string ⟨#[]⟩, .bool false, .string ⟨#[]⟩, .bool false, .slice none 0 0]) 10 120 Tryz.underlying24 hi hz0 hz1 hz2 rfl (by decide) (.slice kp0 p.kids.length kc0) p.kids.length csl.flatten rfl (HC1.out.alloc _) ⟨W1.heap.size, 0, none⟩ 1 1 [.int .i64 0, .string ⟨#[]⟩, .int .i64 0, .int .i64 0, .int .i64 0, .string ⟨#[]⟩, .bool false, .string ⟨#[]⟩, .bool false, .slice none 0 0] rfl rfl many_news (by intro u hu; simp at hu; rcases hu with rfl | rfl | rfl | rfl | rfl | rfl | rfl | rfl | rfl | rfl <;> rfl) (by unfold maxLen; omega) (by omega) (by have := alloc_size W1 (.cells #[.int .i64 0, .string ⟨#[]⟩, .int .i64 0, .int .i64 0, .int .i64 0, .string ⟨#[]⟩, .bool false, .string ⟨#[]⟩, .bool false, .slice none 0 0] 26); omega) ?_)
    intro v5 w5 h1 h2 _ h4
    obtain ⟨g5, cap5, rfl⟩ := owns_shape h1 (Nat.succ_pos _)
    have PR := hid (put_grown (xs := csl.flatten ++ [.int .i64 0, .string ⟨#[]⟩, .int .i64 0, .int .i64 0, .int .i64 0, .string ⟨#[]⟩, .bool false, .string ⟨#[]⟩, .bool false, .slice none 0 0]) HSTK.out hB K1.out h1 h2 h4)
    have hf5 : ∀ o, w5.frozen? ⟨g, o, none⟩ = false := fun o => PR.out.row.frozenAt o
    have hl5 : g < w5.heap.size := (owns_in PR.out.row (g := g) rfl).2
    have hc5 : w5.cell? ⟨g, st.length * 10 + 9, none⟩ = some (.slice kp0 p.kids.length kc0) := by
      rw [World.cell?_of_block (w := w) (PR.out.rest g hgl (fun e => HSTK.out.kv _ (List.mem_append_right _ (by simp)) g e rfl))]; exact hc9
    have N5 := hid (B1.out.grown h2 (fun e => by have := (hkg _ e).2; omega))
    have HST := hid (PR.out.stored hlen hBg)
    clear h1 h2 h4
    go_upto_region 7 with fail
    refine at_wp (fun W' => W'.ownsRow B 26 10 (.slice (some ⟨g, 0, none⟩) (st.length + 1) cap) (st.length + 1) ((stCells st kvs).flatten ++ (p.head9 ++ [.slice (some ⟨g5, 0, none⟩) (p.kids.length + 1) cap5])) ∧ W'.ownsRow B 26 10 (.slice (some ⟨g5, 0, none⟩) (p.kids.length + 1) cap5) (p.kids.length + 1) (csl.flatten ++ [.int .i64 0, .string ⟨#[]⟩, .int .i64 0, .int .i64 0, .int .i64 0, .string ⟨#[]⟩, .bool false, .string ⟨#[]⟩, .bool false, .slice none 0 0]) ∧ (∀ b, b < w.heap.size → b ≠ g → (Value.slice kp0 p.kids.length kc0).ownBlock ≠ some b → W'.heap[b]? = w.heap[b]?) ∧ Below B w W' ∧ NBox w.heap.size #[.int .i64 k, .string a.n, .int .i64 a.op, .int .i64 a.v, .int .i64 a.sl, .string a.f, .bool a.on, .string fl, .bool nt, .slice kp kids.length kc] W') ⟨HST.out.1, HST.out.2.1, HST.out.2.2.1, HST.out.2.2.2, N5.out.out_set (by omega) _⟩ ?_
    rintro w6 ⟨r1, r2, r3, r4, n6⟩
    have R1 := hid r1
    have R2 := hid r2
    have R3 := hid r3
    have R4 := hid r4
    have HNE : Hid (g5 ≠ g) := fun e => PR.out.ne (by rw [← e]; rfl)
    have HOR := hid PR.out.or
    obtain ⟨hbc6, hbf6, hbl6⟩ := n6.facts
    have hfl : csl.flatten.length = p.kids.length * 10 := by rw [flat_len csl c2, c1]
    have hcz : ∀ j u, ([.int .i64 0, .string ⟨#[]⟩, .int .i64 0, .int .i64 0, .int .i64 0, .string ⟨#[]⟩, .bool false, .string ⟨#[]⟩, .bool false, .slice none 0 0] : List Value)[j]? = some u → w6.cell? ⟨g5, p.kids.length * 10 + j, none⟩ = some u := fun j u hu => by
      have hj : j < 10 := (List.getElem?_eq_some_iff.1 hu).1
      rw [r2.cellAt (p.kids.length * 10 + j) (by omega), List.getElem?_append_right (by omega), hfl, Nat.add_sub_cancel_left]; exact hu
    have d0 : w6.cell? ⟨g5, p.kids.length * 10, none⟩ = some (.int .i64 0) := hcz 0 _ rfl
    have d1 := hcz 1 _ rfl
    have d2 := hcz 2 _ rfl
    have d3 := hcz 3 _ rfl
    have d4 := hcz 4 _ rfl
    have d5 := hcz 5 _ rfl
    have d6 := hcz 6 _ rfl
    have d7 := hcz 7 _ rfl
    have d8 := hcz 8 _ rfl
    have d9 := hcz 9 _ rfl
    have hf6 : ∀ o, w6.frozen? ⟨g5, o, none⟩ = false := fun o => r2.frozenAt o
    have hl6 : g5 < w6.heap.size := (owns_in r2 (g := g5) rfl).2
    have hs6 : w.heap.size ≤ w6.heap.size := by omega
    clear hcz r1 r2 r3 r4 n6 hf5 hl5 hc5 N5 HST PR
    go_wp2_with fail
    go_ret
    exact ⟨rfl, put_fill _ _ _ _ _ _ _ _ _ _ HSTK.out c1 c2 HC4.out HN.out R1.out R2.out R3.out R4.out hs6 HOR.out HNE.out⟩
end Go.Proofs.YtkckkjpkidcbnaaGreatDoor
