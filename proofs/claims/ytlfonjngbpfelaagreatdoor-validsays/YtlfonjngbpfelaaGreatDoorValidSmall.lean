/- The small tree of the laws' closed facts: its text, and which sets of it may be. -/
import Derived.Test.YtlfonjngbpfelaaGreatDoorValidValid
import Derived.Test.YtlfonjngbpfelaaGreatDoorTreeForest
namespace Go.Proofs.YtlfonjngbpfelaaGreatDoor

def nB1 : NT := .node 3 At.zero ⟨#[]⟩ false [kidW 98]
def kNot : NT := .node 2 ⟨⟨#[99]⟩, 0, 0, 0, ⟨#[]⟩, false⟩ ⟨#[]⟩ false []
def nNot : NT := .node 3 At.zero ⟨#[]⟩ false [kNot]
def q0 : PK := ⟨⟨#[97]⟩, 1, 1, [], nB1⟩
def q1 : PK := ⟨⟨#[97]⟩, 2, 1, [⟨#[120]⟩], nAll⟩
def q2 : PK := ⟨⟨#[98]⟩, 1, 1, [], nNot⟩
def q3 : PK := ⟨⟨#[99]⟩, 1, 1, [], nNone⟩
def smallT : List PK := [q0, q1, q2, q3]
def F3 : List UInt8 := [97, 32, 49, 32, 49, 32, 32, 40, 32, 98, 32, 41, 10, 97, 32, 50, 32, 49, 32, 120, 32, 40, 32, 120, 63, 32, 40, 32, 98, 32, 41, 32, 41, 10, 98, 32, 49, 32, 49, 32, 32, 40, 32, 33, 99, 32, 41, 10, 99, 32, 49, 32, 49, 32, 32, 40, 32, 41, 10]
theorem kNot_ok : kNot.ok := by
  unfold kNot
  rw [NT.ok]
  have h : nameB [99] = true := by decide
  exact ⟨nodeE_leaf 2 _ (Or.inr rfl) (by show chk [99] 0 0 0 [] false = 0; unfold chk; rw [if_neg (by simp [h]), if_neg (by decide), if_neg (by decide)]), trivial⟩
theorem nB1_ok : nB1.ok := by
  unfold nB1
  rw [NT.ok, okL, okL]
  exact ⟨nodeE_group 3 _ (Or.inl rfl), kidW_ok (by decide), trivial⟩
theorem nNot_ok : nNot.ok := by
  unfold nNot
  rw [NT.ok, okL, okL]
  exact ⟨nodeE_group 3 _ (Or.inl rfl), kNot_ok, trivial⟩
theorem small_large2 : largeB nB1 = false ∧ largeB nNot = false := by
  have i1 : inc64 1 = 2 := inc64_small (by decide) (by decide)
  refine ⟨?_, ?_⟩ <;> simp [largeB, nB1, nNot, kNot, kidW, walkS, kidsS, fN, i1]
theorem nB1_chk : chkN nB1 = 0 := chkN_zero.2 ⟨small_large2.1, nB1_ok⟩
theorem nNot_chk : chkN nNot = 0 := chkN_zero.2 ⟨small_large2.2, nNot_ok⟩
theorem F3_text : textT smallT = F3 := by
  simp [textT, lineL, smallT, q0, q1, q2, q3, nB1, nNot, kNot, nAll, nIf, nNone, NT.text, kidW, NT.words, wordsL, textA, textOf, itoa1, itoa2, F3, Lib.join]
theorem sorted_nB1 : nB1.sorted = [] := by
  have : nB1.flags = [] := by simp [nB1, kidW, NT.flags, flagsL]
  unfold NT.sorted
  rw [this, List.map_nil, List.mergeSort_nil]; exact compact_nil
theorem sorted_nNot : nNot.sorted = [] := by
  have : nNot.flags = [] := by simp [nNot, kNot, NT.flags, flagsL]
  unfold NT.sorted
  rw [this, List.map_nil, List.mergeSort_nil]; exact compact_nil
theorem flags_f1 : chkFs [(⟨#[120]⟩ : ByteArray)] = 0 := by
  have n1 : nameB [120] = true := by decide
  simp [chkFs, firstE, flE, n1]
theorem has_x1 : hasF [(⟨#[120]⟩ : ByteArray)] [120] = true := by unfold hasF; rw [Lib.containsS_iff]; simp
theorem name_c : nameB [99] = true := by decide
theorem chk_q0 : chkP q0 = 0 := by
  have hk : nB1.kind = 3 := rfl
  simp [chkP, q0, name_a, chkFs, firstE, chkNd, hk, nB1_chk, sorted_nB1]
theorem chk_q1 : chkP q1 = 0 := by
  have hk : nAll.kind = 3 := rfl
  simp [chkP, q1, name_a, flags_f1, chkNd, hk, nAll_chk, sorted_nAll, has_x1]
theorem chk_q2 : chkP q2 = 0 := by
  have hk : nNot.kind = 3 := rfl
  simp [chkP, q2, name_b, chkFs, firstE, chkNd, hk, nNot_chk, sorted_nNot]
theorem chk_q3 : chkP q3 = 0 := by
  have hk : nNone.kind = 3 := rfl
  simp [chkP, q3, name_c, chkFs, firstE, chkNd, hk, nNone_chk, sorted_nNone]
theorem behind_10 : behindB q1 q0 = true := by simp [behindB, q0, q1]
theorem behind_21 : behindB q2 q1 = true := by
  have h1 : leS ⟨#[98]⟩ ⟨#[97]⟩ = false := by unfold leS; rw [Lib.toList_data, Lib.toList_data]; decide
  simp [behindB, q1, q2, h1]
theorem behind_32 : behindB q3 q2 = true := by
  have h1 : leS ⟨#[99]⟩ ⟨#[98]⟩ = false := by unfold leS; rw [Lib.toList_data, Lib.toList_data]; decide
  simp [behindB, q3, q2, h1]
theorem chkT_small : chkT smallT = 0 := by
  have s1 : sumF smallT 1 = 0 := rfl
  have s2 : sumF smallT 2 = 1 := rfl
  have s3 : sumF smallT 3 = 1 := rfl
  have s4 : sumF smallT 4 = 1 := rfl
  have h8 : ¬ 8 < smallT.length := by decide
  have hl : smallT.length = 4 := rfl
  unfold chkT
  rw [if_neg h8]
  have e0 : pkE smallT 0 = 0 := by unfold pkE; rw [show smallT.getD 0 PK.zero = q0 from rfl, chk_q0]; simp [s1, hl]
  have e1 : pkE smallT 1 = 0 := by unfold pkE; rw [show smallT.getD 1 PK.zero = q1 from rfl, show smallT.getD (1 - 1) PK.zero = q0 from rfl, chk_q1, behind_10]; simp [s2, hl]
  have e2 : pkE smallT 2 = 0 := by unfold pkE; rw [show smallT.getD 2 PK.zero = q2 from rfl, show smallT.getD (2 - 1) PK.zero = q1 from rfl, chk_q2, behind_21]; simp [s3, hl]
  have e3 : pkE smallT 3 = 0 := by unfold pkE; rw [show smallT.getD 3 PK.zero = q3 from rfl, show smallT.getD (3 - 1) PK.zero = q2 from rfl, chk_q3, behind_32]; simp [s4, hl]
  rw [hl]
  simp [firstE, e0, e1, e2, e3]
theorem F3_read : rdT F3 = (0, 0, smallT) := by
  rw [← F3_text]
  exact rdT_text chkT_small (by rw [F3_text]; decide)
def atA : At := ⟨⟨#[97]⟩, 0, 0, 0, ⟨#[]⟩, false⟩
def wA : WI := ⟨[atA], [], [], []⟩
def mA : List MB := [⟨1, [false]⟩]
def mB : List MB := [⟨1, [true]⟩]
def mC : List MB := [⟨0, []⟩, ⟨2, []⟩, ⟨3, []⟩]
theorem chkW_A : chkW smallT wA = 0 := by
  have h1 : chkTS smallT [] = 0 := by unfold chkTS; rw [chkT_small]; rfl
  have h2 : taE [atA] = 0 := by
    have : chkA atA = 0 := by
      show chk [97] 0 0 0 [] false = 0
      unfold chk
      rw [if_neg (by simp [name_a]), if_neg (by decide), if_neg (by decide)]
    simp [taE, firstE, this]
  unfold chkW
  rw [show wA.ins = [] from rfl, show wA.ts = [atA] from rfl, show wA.ma = [] from rfl, show wA.on = [] from rfl, h1, h2]
  rfl
theorem set_A : chkTS smallT mA = 0 := by
  unfold chkTS; rw [chkT_small]
  show chkS smallT mA = 0
  decide
theorem set_B : chkTS smallT mB = 0 := by
  unfold chkTS; rw [chkT_small]
  show chkS smallT mB = 0
  decide
theorem set_C : chkTS smallT mC = 0 := by
  unfold chkTS; rw [chkT_small]
  show chkS smallT mC = 0
  decide
theorem valid_A : validE smallT wA mA = 0 ∧ validR smallT wA mA = true := by
  have h : validE smallT wA mA = 0 := by unfold validE; rw [chkW_A, set_A]; rfl
  refine ⟨h, ?_⟩
  unfold validR
  rw [h]
  simp [validB, targB, allM, memB, holdB, holdsB, allB, shareN, someB, someN, isB, pkOf, wA, mA, atA, smallT, q0, q1, q2, q3, nAll, nIf, kidW, flagAt, Lib.toList_data, fitB]
theorem valid_B : validE smallT wA mB = 0 ∧ validR smallT wA mB = false := by
  have h : validE smallT wA mB = 0 := by unfold validE; rw [chkW_A, set_B]; rfl
  refine ⟨h, ?_⟩
  unfold validR
  rw [h]
  simp [validB, targB, allM, memB, holdB, holdsB, allB, shareN, someB, someN, isB, pkOf, wA, mB, atA, smallT, q0, q1, q2, q3, nAll, nIf, kidW, flagAt, Lib.toList_data, fitB]
theorem valid_C : validE smallT wA mC = 0 ∧ validR smallT wA mC = false := by
  have h : validE smallT wA mC = 0 := by unfold validE; rw [chkW_A, set_C]; rfl
  refine ⟨h, ?_⟩
  unfold validR
  rw [h]
  simp [validB, targB, allM, memB, holdB, holdsB, allB, shareN, someB, someN, isB, pkOf, wA, mC, atA, smallT, q0, q1, q2, q3, nB1, nNot, kNot, nNone, kidW, flagAt, Lib.toList_data, fitB]
end Go.Proofs.YtlfonjngbpfelaaGreatDoor
