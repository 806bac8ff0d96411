/- The closed facts of the law: two texts, what each is read as. -/
import Derived.Test.YtkckkjpkidcbnaaGreatDoorTreeParse
import Derived.Test.YtkckkjpkidcbnaaGreatDoorNeedNeeded
namespace Go.Proofs.YtkckkjpkidcbnaaGreatDoor

/-- A line is read as its package wherever the words may be written, whatever Check says of it. -/
theorem line_back2 {p : PK} (hn : nameB p.n.data.toList = true) (hv : 1 ≤ p.v ∧ p.v ≤ 99 ∧ 1 ≤ p.sl ∧ p.sl ≤ 9) (hf : ∀ f ∈ p.fl, nameB f.data.toList = true) (hc : chkN p.nd = 0) : lineE (lineL p) = 0 ∧ lineP (lineL p) = p ∧ ∀ c ∈ lineL p, c ≠ 10 := by
  obtain ⟨hv1, hv2, hs1, hs2⟩ := hv
  have hsm := (chkN_zero.1 hc)
  obtain ⟨iv1, iv2⟩ := itoa_num (i := p.v) (by omega) (by omega)
  obtain ⟨is1, is2⟩ := itoa_num (i := p.sl) (by omega) (by omega)
  obtain ⟨r1, r2⟩ := rdE_text hc
  have e1 : lineL p = p.n.data.toList ++ 32 :: (Lib.itoa p.v ++ 32 :: (Lib.itoa p.sl ++ 32 :: (Lib.join (p.fl.map (·.data.toList)) [44] ++ 32 :: p.nd.text))) := by
    unfold lineL
    rw [gjn_cons, gjn_cons, gjn_cons, gjn_cons, Lib.join_one]
  have e2 : Lib.splitN (lineL p) [32] 5 = [p.n.data.toList, Lib.itoa p.v, Lib.itoa p.sl, Lib.join (p.fl.map (·.data.toList)) [44], p.nd.text] := by
    unfold Lib.splitN
    rw [show min 5 ((lineL p).length + 1) - 1 = 4 by rw [e1]; simp; omega, e1]
    rw [gsplitK_at 32 3 _ _ (fun c hc => (name_no hn c hc).1), gsplitK_at 32 2 _ _ (fun c hc => (itoa_no (by omega) (by omega) c hc).1), gsplitK_at 32 1 _ _ (fun c hc => (itoa_no (by omega) (by omega) c hc).1), gsplitK_at 32 0 _ _ (fun c hc => (joinF_no hf c hc).1)]
    rfl
  refine ⟨?_, ?_, ?_⟩
  · unfold lineE
    rw [e2, wordsE, if_neg (by rw [iv1, is1]; simp)]
    exact r1
  · unfold lineP
    rw [e2, wordsP, iv2, is2, flags_backW hf, r2, bytes_back]
    rfl
  · rw [e1]
    intro c hc
    simp only [List.mem_append, List.mem_cons] at hc
    rcases hc with hc | rfl | hc | rfl | hc | rfl | hc | rfl | hc
    · exact (name_no hn c hc).2.1
    · decide
    · exact (itoa_no (by omega) (by omega) c hc).2
    · decide
    · exact (itoa_no (by omega) (by omega) c hc).2
    · decide
    · exact (joinF_no hf c hc).2
    · decide
    · exact words_no10 hsm.2 c hc

def nIf : NT := .node 5 At.zero ⟨#[120]⟩ false [kidW 98]
def nAll : NT := .node 3 At.zero ⟨#[]⟩ false [nIf]
def nNone : NT := .node 3 At.zero ⟨#[]⟩ false []
def pA (t : NT) : PK := ⟨⟨#[97]⟩, 1, 1, [⟨#[120]⟩, ⟨#[121]⟩], t⟩
def pB : PK := ⟨⟨#[98]⟩, 2, 1, [], nNone⟩
def F1 : List UInt8 := [97, 32, 49, 32, 49, 32, 120, 44, 121, 32, 120, 63, 32, 40, 32, 98, 32, 41, 10]
def F2 : List UInt8 := [97, 32, 49, 32, 49, 32, 120, 44, 121, 32, 40, 32, 120, 63, 32, 40, 32, 98, 32, 41, 32, 41, 10, 98, 32, 50, 32, 49, 32, 32, 40, 32, 41, 10]
theorem kidW_ok {c : UInt8} (h : nameB [c] = true) : (kidW c).ok := by
  unfold kidW
  rw [NT.ok]
  exact ⟨nodeE_leaf 1 _ (Or.inl rfl) (by show chk [c] 0 0 0 [] false = 0; unfold chk; rw [if_neg (by simp [h]), if_neg (by decide), if_neg (by decide)]), trivial⟩
theorem nIf_ok : nIf.ok := by
  unfold nIf
  rw [NT.ok, okL, okL]
  exact ⟨nodeE_if _ _ _ (by decide), kidW_ok (by decide), trivial⟩
theorem nAll_ok : nAll.ok := by
  unfold nAll
  rw [NT.ok, okL, okL]
  exact ⟨nodeE_group 3 _ (Or.inl rfl), nIf_ok, trivial⟩
theorem nNone_ok : nNone.ok := by
  unfold nNone
  rw [NT.ok, okL]
  exact ⟨nodeE_group 3 _ (Or.inl rfl), trivial⟩
theorem small_large : largeB nIf = false ∧ largeB nAll = false ∧ largeB nNone = false := by
  have i1 : inc64 1 = 2 := inc64_small (by decide) (by decide)
  have i2 : inc64 2 = 3 := inc64_small (by decide) (by decide)
  refine ⟨?_, ?_, ?_⟩ <;> simp [largeB, nIf, nAll, nNone, kidW, walkS, kidsS, fN, i1, i2]
theorem nIf_chk : chkN nIf = 0 := chkN_zero.2 ⟨small_large.1, nIf_ok⟩
theorem nAll_chk : chkN nAll = 0 := chkN_zero.2 ⟨small_large.2.1, nAll_ok⟩
theorem nNone_chk : chkN nNone = 0 := chkN_zero.2 ⟨small_large.2.2, nNone_ok⟩
theorem itoa1 : Lib.itoa 1 = [49] := itoa_one (k := 1) (by decide)
theorem itoa2 : Lib.itoa 2 = [50] := itoa_one (k := 2) (by decide)
theorem F1_text : textT [pA nIf] = F1 := by
  simp [textT, lineL, pA, nIf, NT.text, kidW, NT.words, wordsL, textA, textOf, gjn_cons, Lib.join_one, itoa1, F1]
theorem F2_text : textT [pA nAll, pB] = F2 := by
  simp [textT, lineL, pA, pB, nAll, nIf, nNone, NT.text, kidW, NT.words, wordsL, textA, textOf, itoa1, itoa2, F2, Lib.join]
theorem flags_fs : chkFs [(⟨#[120]⟩ : ByteArray), ⟨#[121]⟩] = 0 := by
  have h1 : leS ⟨#[121]⟩ ⟨#[120]⟩ = false := by unfold leS; rw [Lib.toList_data, Lib.toList_data]; decide
  have n1 : nameB [120] = true := by decide
  have n2 : nameB [121] = true := by decide
  simp [chkFs, firstE, flE, h1, n1, n2]
theorem sorted_nAll : nAll.sorted = [[120]] := by
  have : nAll.flags = [⟨#[120]⟩] := by simp [nAll, nIf, kidW, NT.flags, flagsL]
  unfold NT.sorted
  rw [this, List.map_cons, List.map_nil, List.mergeSort_singleton]
  rfl
theorem sorted_nNone : nNone.sorted = [] := by
  have : nNone.flags = [] := by simp [nNone, NT.flags, flagsL]
  unfold NT.sorted
  rw [this, List.map_nil, List.mergeSort_nil]; exact compact_nil
theorem has_x : hasF [(⟨#[120]⟩ : ByteArray), ⟨#[121]⟩] [120] = true := by unfold hasF; rw [Lib.containsS_iff]; simp
theorem has_y : hasF [(⟨#[120]⟩ : ByteArray), ⟨#[121]⟩] [121] = true := by unfold hasF; rw [Lib.containsS_iff]; simp
theorem name_a : nameB [97] = true := by decide
theorem name_b : nameB [98] = true := by decide
theorem chk_pAIf : chkP (pA nIf) = 4 := by
  simp [chkP, pA, name_a, flags_fs, chkNd, nIf, NT.kind]
theorem chk_pA : chkP (pA nAll) = 0 := by
  have hk : nAll.kind = 3 := rfl
  simp [chkP, pA, name_a, flags_fs, chkNd, hk, nAll_chk, sorted_nAll, has_x]
theorem chk_pB : chkP pB = 0 := by
  have hk : nNone.kind = 3 := rfl
  simp [chkP, pB, name_b, chkFs, firstE, chkNd, hk, nNone_chk, sorted_nNone]
theorem chkT_1 : chkT [pA nIf] = 4 := by
  simp [chkT, firstE, pkE, chk_pAIf]
theorem behind_ba (t : NT) : behindB pB (pA t) = true := by
  have h1 : leS ⟨#[98]⟩ ⟨#[97]⟩ = false := by unfold leS; rw [Lib.toList_data, Lib.toList_data]; decide
  simp [behindB, pB, pA, h1]
theorem chkT_2 : chkT [pA nAll, pB] = 0 := by
  have s1 : sumF [pA nAll, pB] 1 = 2 := rfl
  have s2 : sumF [pA nAll, pB] 2 = 2 := rfl
  simp [chkT, firstE, pkE, chk_pA, chk_pB, behind_ba, s1, s2]
theorem F1_read : rdT F1 = (4, 0, []) := by
  rw [← F1_text]
  obtain ⟨b1, b2, b3⟩ := line_back2 (p := pA nIf) name_a (by simp [pA]) (by intro f hf; exact (chkFs_get flags_fs).2 f hf) nIf_chk
  have hl : (textT [pA nIf]).length = 19 := by rw [F1_text]; rfl
  have e : rdLs ((textT [pA nIf]).length + 1) (textT [pA nIf]) 0 [] = (0, 1, [pA nIf]) := by
    rw [hl]
    have e0 : textT [pA nIf] = lineL (pA nIf) ++ 10 :: [] := rfl
    rw [rdLs, e0, gcut_at 10 _ _ b3, if_neg (by simp), if_neg (by simp), if_neg (by simp [b1]), rdLs, if_pos rfl, b2]
    rfl
  rw [rdT_end (by omega) e, chkT_1]
  rfl
theorem F2_read : rdT F2 = (0, 0, [pA nAll, pB]) := by
  rw [← F2_text]
  exact rdT_text chkT_2 (by rw [F2_text]; decide)
def aY : At := ⟨⟨#[97]⟩, 0, 0, 0, ⟨#[121]⟩, false⟩
theorem aY_means : meansE [pA nAll, pB] aY = 0 ∧ meansL [pA nAll, pB] aY 2 = [0] := by
  have hc : chkA aY = 0 := by decide
  have m1 : meantB (pA nAll) aY = true := by
    unfold meantB; rw [Lib.toList_data, Lib.toList_data, Lib.toList_data]
    simp [pA, aY, fitB, has_y]
  have m2 : meantB pB aY = false := by
    unfold meantB; rw [Lib.toList_data, Lib.toList_data, Lib.toList_data]
    simp [pB, aY]
  exact ⟨by simp [meansE, chkT_2, hc], by simp [meansL, m1, m2]⟩
end Go.Proofs.YtkckkjpkidcbnaaGreatDoor
/- The law's closed fact of trees holds. -/
namespace Go.Proofs.YtkckkjpkidcbnaaGreatDoor
open Go.RowKit

set_option maxHeartbeats 4000000 in
set_option maxRecDepth 100000 in
theorem forest_any (w : World) (hE : Env w) (hM : MaxAt w) :
    Calls Tryz.prog 26 #[] w fun e w' => e = .returned (.bool true) ∧ Keep w w' := by
  have HE := hid hE
  have HM := hid hM
  clear hE hM
  go_enter Tryz.func26, Tryz.ntmps26
  go_wp2_with fail
  refine (treeParse_any ⟨F1.toArray⟩ w HE.out HM.out).mono ?_
  rintro e w1 ⟨v1, rfl, hv1, -, k1⟩
  have HK1 := hid k1
  rw [show (⟨F1.toArray⟩ : ByteArray).data.toList = F1 by simp, F1_read] at hv1 ⊢
  obtain rfl := hv1 (by decide)
  clear hv1 k1
  go_wp2_with fail
  refine at_calls (fun W' => Keep w W') (HK1.out.alloc' _) ?_
  intro W2 k2
  have K2 := hid k2
  clear HK1 k2
  refine (treeParse_any ⟨F2.toArray⟩ W2 (HE.out.keep K2.out) (HM.out.keep K2.out)).mono ?_
  rintro e w3 ⟨v3, rfl, -, hp3, k3⟩
  rw [show (⟨F2.toArray⟩ : ByteArray).data.toList = F2 by simp, F2_read] at hp3 ⊢
  have K3 := hid (K2.out.trans k3)
  have P3 := hid hp3
  clear K2 k3
  obtain ⟨b, off, cap, rfl, hb, -, hrow⟩ := hp3.get (j := 0) (by decide)
  obtain ⟨cs, hcs, hpk⟩ := hrow 1 (by decide)
  obtain ⟨fv, nv, rfl, hf, -⟩ := hpk
  obtain ⟨fp, fc, rfl, -⟩ := hf.len
  have c3 := hcs 3 _ rfl
  have c3' : w3.cell? ⟨b, off + 14 + 3, none⟩ = some (.slice fp 0 fc) := c3
  have hbl := hb.2
  clear hrow hcs hf hp3 c3 hb
  go_wp2_with fail
  refine at_calls (fun W' => Keep w W' ∧ Keep w3 W' ∧ VarAt w3.heap.size 44 (.slice (some ⟨b, off, none⟩) 2 cap) W') ⟨K3.out.alloc' _, Keep.alloc _ _, VarAt.new _ _ _⟩ ?_
  rintro W4 ⟨k4, k34, v4⟩
  have hm := means_any _ [pA nAll, pB] _ ⟨#[97]⟩ ⟨#[121]⟩ 0 0 0 false W4 (fun b hb => Nat.lt_of_lt_of_le hb.2 k34.size) (P3.out.keep (fun _ h => h.2) k34)
  refine hm.mono ?_
  rintro e w5 ⟨v5, rfl, -, hi5, k5⟩
  have hme : meansE [pA nAll, pB] ⟨⟨#[97]⟩, 0, 0, 0, ⟨#[121]⟩, false⟩ = 0 := aY_means.1
  have hi5' : IntsAt v5 [0] w5 := by have := hi5 hme; rw [show meansL [pA nAll, pB] ⟨⟨#[97]⟩, 0, 0, 0, ⟨#[121]⟩, false⟩ [pA nAll, pB].length = [0] from aY_means.2] at this; exact this
  rw [hme]
  have K5 := hid (k4.trans k5)
  have V5 := hid (v4.keep k5 v4.facts.2.2)
  have c5 : w5.cell? ⟨b, off + 14 + 3, none⟩ = some (.slice fp 0 fc) := (k34.trans k5).cell (p := ⟨b, off + 14 + 3, none⟩) hbl |>.trans c3'
  have hbl5 : b < w5.heap.size := Nat.lt_of_lt_of_le hbl (k34.trans k5).size
  clear hm hi5 hme k4 k34 v4 k5 c3' P3 K3
  rcases hi5' with ⟨h, -⟩ | ⟨g, gc, rfl, hg, hgc⟩
  · cases h
  have hg0 := hgc 0 0 rfl
  obtain ⟨hcv, -, hlv⟩ := V5.out.facts
  go_wp2_with fail
  refine at_calls (fun W' => Keep w5 W' ∧ (∀ j, j < [(0 : Int)].length → W'.cell? ⟨g, 0 + j, none⟩ = some (.int .i64 ([(0 : Int)].getD j 0))) ∧ (∀ j, j < [(0 : Int)].length → W'.cell? ⟨w5.heap.size, 0 + j, none⟩ = some (.int .i64 ([(0 : Int)].getD j 0)))) ⟨Keep.alloc _ _, ?_, ?_⟩ ?_
  · intro j hj
    obtain rfl : j = 0 := by simp at hj; omega
    exact ((Keep.alloc w5 _).cell (p := ⟨g, 0 + 0, none⟩) hg).trans hg0
  · intro j hj
    obtain rfl : j = 0 := by simp at hj; omega
    have := one_news (w := w5) (x := .int .i64 0) (T := 3) 0 (.int .i64 0) rfl
    rwa [Addr.add_mid] at this
  rintro W6 ⟨k6, e1, e2⟩
  have K6 := hid (K5.out.trans k6)
  have V6 := hid (V5.out.keep k6 V5.out.facts.2.2)
  have c6 : W6.cell? ⟨b, off + 14 + 3, none⟩ = some (.slice fp 0 fc) := (k6.cell (p := ⟨b, off + 14 + 3, none⟩) hbl5).trans c5
  have hbl6 : b < W6.heap.size := Nat.lt_of_lt_of_le hbl5 k6.size
  refine (Tryz.slices_Equal_int g 0 1 gc w5.heap.size 0 1 1 [0] [0] W6 (by decide) (by decide) (by decide) (by decide) e1 e2).mono ?_
  rintro e w7 ⟨rfl, q, hw7⟩
  have k7 : Keep W6 w7 := by rw [hw7]; exact Keep.drewN (Keep.refl _) _
  have K7 := hid (K6.out.trans k7)
  have V7 := hid (V6.out.keep k7 V6.out.facts.2.2)
  have c7 : w7.cell? ⟨b, off + 14 + 3, none⟩ = some (.slice fp 0 fc) := (k7.cell (p := ⟨b, off + 14 + 3, none⟩) hbl6).trans c6
  clear hw7 k7 e1 e2 k6 hcv hg0 hgc c5 c6
  obtain ⟨hcv, -, hlv7⟩ := V7.out.facts
  rw [show (List.take 1 [(0 : Int)] == List.take 1 [0]) = true by decide]
  go_wp2_with fail
  go_ret
  exact ⟨rfl, K7.out⟩
end Go.Proofs.YtkckkjpkidcbnaaGreatDoor
