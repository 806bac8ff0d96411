/- follow's closure take: a literal is known, and found, if its variable isn't known yet. -/
import Derived.Test.YtbblgmkjgcjcaabFolMem
import Derived.Shelf.Abstract
namespace Go.Proofs.Ytbblgmkjgcjcaab
open Go.RowKit Go.Lib

theorem grown_alloc {w w' : World} {row : Option Nat} {o : Obj} (h : (w.alloc o).grownBy w' row) : w.grownBy w' row :=
  ⟨h.os, h.tape, h.output, Nat.le_trans (by rw [alloc_size]; omega) h.size, fun k hk hn => (h.block k (by rw [alloc_size]; omega) hn).trans (by
    show (w.heap.push _)[k]? = _
    rw [Array.getElem?_push, if_neg (by omega)])⟩
theorem heap_setO (w : World) (c o : Nat) (x : Value) {b : Nat} (h : b ≠ c) : (w.setCell ⟨c, o, none⟩ x).heap[b]? = w.heap[b]? := Below.heap_setCell _ _ _ _ (fun e => h e)
theorem cell_setO (w : World) (c o : Nat) (x : Value) {b o' : Nat} (h : b ≠ c) : (w.setCell ⟨c, o, none⟩ x).cell? ⟨b, o', none⟩ = w.cell? ⟨b, o', none⟩ := World.cell?_of_block (w := w) (heap_setO w c o x h)
theorem size_setO (w : World) (c o : Nat) (x : Value) : (w.setCell ⟨c, o, none⟩ x).heap.size = w.heap.size := by
  have k : Below c w (w.setCell ⟨c, o, none⟩ x) := below_set w c o x
  simp
theorem own_far {v v' : Value} {w : World} {o : Obj} (h : v'.ownBlock = v.ownBlock ∨ v'.ownBlock = some (w.alloc o).heap.size) : v'.ownBlock = v.ownBlock ∨ ∃ g, v'.ownBlock = some g ∧ w.heap.size ≤ g := by
  rcases h with h | h
  · exact .inl h
  · exact .inr ⟨_, h, by rw [alloc_size]; omega⟩
theorem one_newsC {w : World} {T : TypeId} {v : Value} : ∀ j u, [v][j]? = some u → (w.alloc (.cells #[v] T)).cell? ((⟨w.heap.size, 0, none⟩ : Addr).add j) = some u := by
  intro j u h
  cases j with
  | zero =>
    have : v = u := by simpa using h
    subst this
    simp [Addr.add]
  | succ j => simp at h
theorem one_cellC {p : Option Addr} {n c : Nat} (u : Value) (h : u ∈ [Value.slice p n c]) : u.oneCell' = true := by rw [List.mem_singleton.1 h]; rfl
set_option maxHeartbeats 1000000 in
theorem variable_any (x : Int) (w : World) (h : x.natAbs ≤ 1000) : Calls Try.prog 71 #[.int .i64 x] w fun e w' => e = .returned (.int .i64 (x.natAbs : Nat)) ∧ w' = w := by
  have h1 : x ≤ 1000 := by omega
  have h2 : -1000 ≤ x := by omega
  go_enter Try.func71, Try.ntmps71
  go_wp2_with fail
  all_goals
    go_ret
    exact ⟨ret_int (by omega), rfl⟩

theorem NumsIs.nth {S : Nat → Prop} {w : World} {zs : List Int} {p : Option Addr} {n cap : Nat} (h : NumsIs S w zs (.slice p n cap)) {k : Nat} (hk : k < zs.length) : ∃ b off, p = some ⟨b, off, none⟩ ∧ S b ∧ ∀ (j : Nat) (x : Int), zs[j]? = some x → w.cell? ⟨b, off + j, none⟩ = some (.int .i64 x) := by
  obtain ⟨p', cap', h1, h2, h3⟩ := h
  cases h1
  exact h3 (by omega)
theorem kbox_get {K : List Int} (J : List Value) {i : Nat} (h : i < K.length) : ((K.map (Value.int .i64) ++ J).toArray)[i]? = some (.int .i64 K[i]) := by
  rw [List.getElem?_toArray, List.getElem?_append_left (by simpa using h)]
  simp [h]
theorem box_nil {b : Nat} {T : TypeId} {l : List Value} {w : World} : BoxAt b T (l ++ []).toArray w ↔ BoxAt b T l.toArray w := by rw [List.append_nil]
/-- What is known, at bg, by the variable at bk; what was found, by the variable at bf, in a row of the call's own. -/
structure AskSt (kc : Nat) (J : List Value) (B bk bg bf n : Nat) (fv : Value) (K L : List Int) (w : World) : Prop where
  kv : VarAt bk 26 (.slice (some ⟨bg, 0, none⟩) (n + 1) kc) w
  kb : BoxAt bg 3 (K.map (Value.int .i64) ++ J).toArray w
  len : K.length = n + 1
  fd : VarAt bf 26 fv w
  own : IntsOwn B fv L w
  low : bk < B ∧ bg < B ∧ bf < B ∧ bg ≠ bk ∧ bg ≠ bf ∧ bk ≠ bf ∧ B ≤ w.heap.size
theorem AskSt.keep {kc : Nat} {J : List Value} {B bk bg bf n : Nat} {fv : Value} {K L : List Int} {w w' : World} (h : AskSt kc J B bk bg bf n fv K L w) (k : Keep w w') : AskSt kc J B bk bg bf n fv K L w' := by
  have hl := h.low
  exact ⟨h.kv.keep k h.kv.facts.2.2, h.kb.keep k h.kb.facts.2.2, h.len, h.fd.keep k h.fd.facts.2.2, owns_keep h.own k, hl.1, hl.2.1, hl.2.2.1, hl.2.2.2.1, hl.2.2.2.2.1, hl.2.2.2.2.2.1, Nat.le_trans hl.2.2.2.2.2.2 k.size⟩
/-- A literal is known. -/
theorem AskSt.know {kc : Nat} {J : List Value} {B bk bg bf n : Nat} {fv : Value} {K L : List Int} {w : World} (h : AskSt kc J B bk bg bf n fv K L w) {i : Nat} (hi : i < K.length) (x : Int) : AskSt kc J B bk bg bf n fv (K.set i x) L (w.setCell ⟨bg, i, none⟩ (.int .i64 x)) := by
  have hl := h.low
  have hso : ∀ b, b ≠ bg → (w.setCell ⟨bg, i, none⟩ (.int .i64 x)).heap[b]? = w.heap[b]? := fun b hb => heap_setO _ _ _ _ hb
  refine ⟨?_, ?_, by simp [h.len], ?_, ?_, ⟨hl.1, hl.2.1, hl.2.2.1, hl.2.2.2.1, hl.2.2.2.2.1, hl.2.2.2.2.2.1, by rw [size_setO]; exact hl.2.2.2.2.2.2⟩⟩
  · have := h.kv; unfold VarAt at *; rw [hso bk (Ne.symm hl.2.2.2.1)]; exact this
  · have := h.kb.set i (.int .i64 x)
    rwa [show (K.map (Value.int .i64) ++ J).toArray.setIfInBounds i (.int .i64 x) = ((K.set i x).map (Value.int .i64) ++ J).toArray by rw [List.setIfInBounds_toArray, List.set_append_left _ _ (by simpa using hi), List.map_set]] at this
  · have := h.fd; unfold VarAt at *; rw [hso bf (Ne.symm hl.2.2.2.2.1)]; exact this
  · exact owns_other h.own fun g hg => hso g (by have := (owns_in h.own hg).1; omega)
/-- A literal is found. -/
theorem AskSt.grew {kc : Nat} {J : List Value} {B bk bg bf n : Nat} {fv v' : Value} {K L : List Int} {x : Int} {w w5 : World} (h : AskSt kc J B bk bg bf n fv K L w) (hg : w.grownBy w5 fv.ownBlock) (h5 : w5.ownsRow B 3 1 v' (L.length + 1) (L.map (Value.int .i64) ++ [.int .i64 x])) :
    VarAt bf 26 fv w5 ∧ AskSt kc J B bk bg bf n v' K (L ++ [x]) (w5.setCell ⟨bf, 0, none⟩ v') := by
  have hl := h.low
  have hin : ∀ b, b < B → fv.ownBlock ≠ some b := fun b hb e => by have := (owns_in h.own e).1; omega
  have hlow : ∀ b, b < B → w5.heap[b]? = w.heap[b]? := fun b hb => hg.block b (by omega) (fun e => hin b hb e.symm)
  have hf5 : VarAt bf 26 fv w5 := by have := h.fd; unfold VarAt at *; rw [hlow bf hl.2.2.1]; exact this
  have hso : ∀ b, b ≠ bf → (w5.setCell ⟨bf, 0, none⟩ v').heap[b]? = w5.heap[b]? := fun b hb => heap_setO _ _ _ _ hb
  refine ⟨hf5, ?_, ?_, h.len, hf5.set v', ?_, ⟨hl.1, hl.2.1, hl.2.2.1, hl.2.2.2.1, hl.2.2.2.2.1, hl.2.2.2.2.2.1, by rw [size_setO]; exact Nat.le_trans hl.2.2.2.2.2.2 hg.size⟩⟩
  · have := h.kv; unfold VarAt at *; rw [hso bk hl.2.2.2.2.2.1, hlow bk hl.1]; exact this
  · have := h.kb; unfold BoxAt at *; rw [hso bg hl.2.2.2.2.1, hlow bg hl.2.1]; exact this
  · unfold IntsOwn
    rw [List.length_append, List.map_append]
    exact owns_other h5 fun g hg => hso g (by have := (owns_in h5 hg).1; omega)
theorem AskSt.turn {kc : Nat} {J : List Value} {B bk bg bf n : Nat} {fv : Value} {K L : List Int} {w w' : World} {O O' : Nat → Prop} (h : AskSt kc J B bk bg bf n fv K L w) (k : Turn O O' w w') (h1 : ¬ O bk) (h2 : ¬ O bg) (h3 : ¬ O bf) (h4 : ∀ b, fv.ownBlock = some b → ¬ O b) : AskSt kc J B bk bg bf n fv K L w' := by
  have hl := h.low
  exact ⟨h.kv.turn k h1, h.kb.turn k h2, h.len, h.fd.turn k h3, owns_other h.own fun g hg => k.block g (owns_in h.own hg).2 (h4 g hg), hl.1, hl.2.1, hl.2.2.1, hl.2.2.2.1, hl.2.2.2.2.1, hl.2.2.2.2.2.1, Nat.le_trans hl.2.2.2.2.2.2 k.size⟩
theorem enter_take (args : Array Value) (w : World) : (callFunc 73 args).run Try.prog w = .ok (.enter 73 args) w := enters_of Try.func73 (by kernel_rfl) rfl args w

set_option maxHeartbeats 4000000 in
set_option maxRecDepth 100000 in
theorem take_any (kc : Nat) (J : List Value) (B bk bg bf n : Nat) (fv : Value) (K L : List Int) (x : Int) (w : World) (h : AskSt kc J B bk bg bf n fv K L w) (hn : n ≤ 1000) (hx : Lit n x) (hL : L.length ≤ 1001) :
    Calls Try.prog 73 #[.int .i64 x, .pointer (some ⟨bk, 0, none⟩), .pointer (some ⟨bf, 0, none⟩)] w fun e w' => ∃ fv', e = .returned (.bool (kn (tkK K x) x == x)) ∧ AskSt kc J B bk bg bf n fv' (tkK K x) (tkL K L x) w' ∧ Turn (fun b => b = bg ∨ b = bf ∨ fv.ownBlock = some b) (fun b => b = bg ∨ b = bf ∨ fv'.ownBlock = some b) w w' := by
  obtain ⟨i0, hi, hz0, hz1, hz2⟩ := info_parts infoInt
  have HST := hid h
  have hxa : x.natAbs ≤ n := hx.2
  have hxK : x.natAbs < K.length := by rw [h.len]; omega
  obtain ⟨hkc, hkf, hkl⟩ := h.kv.facts
  obtain ⟨hgc, hgf, hgl⟩ := h.kb.facts
  obtain ⟨hfc, hff, hfl⟩ := h.fd.facts
  have hl1 := h.low
  have hkk : w.cell? ⟨bg, x.natAbs, none⟩ = some (.int .i64 K[x.natAbs]) := by rw [hgc]; exact kbox_get J hxK
  have HKN := hid (show kn K x = K[x.natAbs] by simp [kn, List.getD_eq_getElem?_getD, hxK])
  generalize K[x.natAbs] = y at hkk HKN
  have hxn : (x.natAbs : Int) < (n : Int) + 1 := by omega
  have hx1 : -1000 ≤ x := by omega
  have hx2 : x ≤ 1000 := by omega
  have hv := hid (variable_any x w (by omega))
  clear h hgc
  go_enter Try.func73, Try.ntmps73
  go_wp2_with fail
  refine hv.out.mono ?_
  rintro e w1 ⟨rfl, hw1⟩
  rw [hw1]
  clear hw1 hv
  by_cases hy : y = 0
  · have hy' : (y == 0) = true := by simp [hy]
    have HT := hid (show tkK K x = K.set x.natAbs x ∧ tkL K L x = L ++ [x] by unfold tkK tkL; rw [if_pos (HKN.out.trans hy), if_pos (HKN.out.trans hy)]; exact ⟨rfl, rfl⟩)
    have HEQ := hid (show (kn (tkK K x) x == x) = true by rw [HT.out.1, kn_set hxK, if_pos rfl]; simp)
    have hgfx := hgf x.natAbs
    have hbkg : bk ≠ bg := Ne.symm hl1.2.2.2.1
    clear hy
    go_upto_region 4 with fail
    have S3 := hid (HST.out.know hxK x)
    have T3 := hid (Turn.set (fun b => b = bg ∨ b = bf ∨ fv.ownBlock = some b) w bg x.natAbs (.int .i64 x) (.inl rfl))
    generalize w.setCell ⟨bg, x.natAbs, none⟩ (.int .i64 x) = W3 at S3 T3 ⊢
    clear hkc hkf hkl hgf hgl hfc hff hfl hkk hgfx HST
    obtain ⟨hfc, hff, hfl3⟩ := S3.out.fd.facts
    have HOW := hid S3.out.own
    obtain ⟨fp, fcap, hfv⟩ := S3.out.own.ints.len
    subst hfv
    have hl3 := S3.out.low
    go_upto_region 5 with (at_builtin; refine wpList_append_own_at _ rfl _ _ 26 rfl B 3 i0 (.int .i64 0) 1 8 Try.underlying26 hi hz0 hz1 hz2 rfl (by decide) (.slice fp L.length fcap) L.length (L.map (Value.int .i64)) rfl (HOW.out.alloc _) ⟨W3.heap.size, 0, none⟩ 1 1 [.int .i64 x] rfl rfl one_newsC one_cellI (by unfold maxLen; omega) (by omega) (by have := alloc_size W3 (.cells #[.int .i64 x] 3); omega) ?_; intro v5 w5 h1 h2 _ h4; obtain ⟨g5, cap5, rfl⟩ := owns_shape h1 (Nat.succ_pos _); have P5 := hid (S3.out.grew (grown_alloc h2) h1); obtain ⟨hfc5, hff5, hfl5⟩ := P5.out.1.facts; have G5 := hid (grown_alloc h2); have O5 := hid (own_far h4); clear h1 h2 h4)
    have S5 := hid P5.out.2
    have T5 := hid ((Turn.grown (O := fun b => b = bg ∨ b = bf ∨ (Value.slice fp L.length fcap).ownBlock = some b) G5.out (fun g hg => .inr (.inr hg)) O5.out).trans (Turn.set _ w5 bf 0 (.slice (some ⟨g5, 0, none⟩) (L.length + 1) cap5) (.inl (.inr (.inl rfl)))))
    generalize w5.setCell ⟨bf, 0, none⟩ (.slice (some ⟨g5, 0, none⟩) (L.length + 1) cap5) = W6 at S5 T5 ⊢
    clear hfc5 hff5 hfl5 P5 hfc hff hfl3
    obtain ⟨hkc, -, hkl⟩ := S5.out.kv.facts
    obtain ⟨hgc, -, hgl⟩ := S5.out.kb.facts
    have hxK2 : x.natAbs < (K.set x.natAbs x).length := by rw [List.length_set]; exact hxK
    have hkk : W6.cell? ⟨bg, x.natAbs, none⟩ = some (.int .i64 x) := by rw [hgc, kbox_get J hxK2]; simp
    clear hgc
    go_wp2_with fail
    go_ret
    refine ⟨_, by rw [HEQ.out]; simp, by rw [HT.out.1, HT.out.2]; exact S5.out, (T3.out.trans T5.out).less fun b hb => ?_⟩
    rcases hb with hb | hb | hb
    · exact .inl (.inl hb)
    · exact .inl (.inr (.inl hb))
    · exact .inr hb
  · have hy' : (y == 0) = false := by simp [hy]
    have HT := hid (show tkK K x = K ∧ tkL K L x = L by unfold tkK tkL; rw [if_neg (by rw [HKN.out]; exact hy), if_neg (by rw [HKN.out]; exact hy)]; exact ⟨rfl, rfl⟩)
    have HEQ := hid (show (kn (tkK K x) x == x) = (y == x) by rw [HT.out.1, HKN.out])
    clear hy
    go_wp2_with fail
    go_ret
    exact ⟨_, by rw [HEQ.out]; rfl, by rw [HT.out.1, HT.out.2]; exact HST.out, Turn.refl _ _⟩
end Go.Proofs.Ytbblgmkjgcjcaab
