/- The closed fact needed holds wherever what the program lays is laid. -/
import Derived.Test.YtkckkjpkidcbnaaGreatDoorNeedFlagged
namespace Go.Proofs.YtkckkjpkidcbnaaGreatDoor
open Go.RowKit

def kidW (c : UInt8) : NT := .node 1 ⟨⟨#[c]⟩, 0, 0, 0, ⟨#[]⟩, false⟩ ⟨#[]⟩ false []
def kid0 : NT := kidW 98
def kid1 : NT := .node 4 At.zero ⟨#[]⟩ false [kidW 99, kidW 100]
def kid2 : NT := .node 5 At.zero ⟨#[120]⟩ true [.node 2 ⟨⟨#[101]⟩, 0, 0, 0, ⟨#[]⟩, false⟩ ⟨#[]⟩ false []]
/-- The need of the closed fact. -/
def T0 : NT := .node 3 At.zero ⟨#[]⟩ false [kid0, kid1, kid2]
def S0 : List UInt8 := [40, 32, 98, 32, 124, 124, 32, 40, 32, 99, 32, 100, 32, 41, 32, 33, 120, 63, 32, 40, 32, 33, 101, 32, 41, 32, 41]
theorem T0_text : T0.text = S0 := by
  simp [NT.text, T0, kid0, kid1, kid2, kidW, NT.words, wordsL, textA, textOf, jn_cons, jn_one, S0]
theorem T0_ok : T0.ok := by
  have w1 : ∀ c : UInt8, nameB [c] = true → (kidW c).ok := fun c h => by
    unfold kidW
    rw [NT.ok]
    exact ⟨nodeE_leaf 1 _ (Or.inl rfl) (by show chk [c] 0 0 0 [] false = 0; unfold chk; rw [if_neg (by simp [h]), if_neg (by decide), if_neg (by decide)]), trivial⟩
  have w2 : (NT.node 2 ⟨⟨#[101]⟩, 0, 0, 0, ⟨#[]⟩, false⟩ ⟨#[]⟩ false []).ok := by
    rw [NT.ok]
    exact ⟨nodeE_leaf 2 _ (Or.inr rfl) (by decide), trivial⟩
  unfold T0
  rw [NT.ok]
  refine ⟨nodeE_group 3 _ (Or.inl rfl), ?_⟩
  rw [okL, okL, okL, okL]
  refine ⟨w1 98 (by decide), ?_, ?_, trivial⟩
  · unfold kid1
    rw [NT.ok, okL, okL, okL]
    exact ⟨nodeE_group 4 _ (Or.inr rfl), w1 99 (by decide), w1 100 (by decide), trivial⟩
  · unfold kid2
    rw [NT.ok, okL, okL]
    exact ⟨nodeE_if _ _ _ (by decide), w2, trivial⟩
theorem T0_large : largeB T0 = false := by
  have i1 : inc64 1 = 2 := inc64_small (by decide) (by decide)
  have i2 : inc64 2 = 3 := inc64_small (by decide) (by decide)
  simp [largeB, T0, kid0, kid1, kid2, kidW, walkS, kidsS, fN, i1, i2]
theorem T0_chk : chkN T0 = 0 := chkN_zero.2 ⟨T0_large, T0_ok⟩
theorem T0_read : rdE S0 = 0 ∧ rdText S0 = some T0 := by rw [← T0_text]; exact rdE_text T0_chk
theorem T0_sorted : T0.sorted = [[120]] := by
  have : T0.flags = [⟨#[120]⟩] := by simp [T0, kid0, kid1, kid2, kidW, NT.flags, flagsL]
  unfold NT.sorted
  rw [this, List.map_cons, List.map_nil, List.mergeSort_singleton]
  rfl

set_option maxHeartbeats 2000000 in
set_option maxRecDepth 100000 in
theorem needed_any (w : World) (hE : Env w) (hM : MaxAt w) :
    Calls Tryz.prog 14 #[] w fun e w' => e = .returned (.bool true) ∧ Keep w w' := by
  have HE := hid hE
  have HM := hid hM
  clear hE hM
  go_enter Tryz.func14, Tryz.ntmps14
  go_wp2_with fail
  refine (needParse_any _ w HE.out HM.out).mono ?_
  rintro e w1 ⟨cs, rfl, h1, -, k1⟩
  rw [show (ByteArray.mk #[40, 32, 98, 32, 124, 124, 32, 40, 32, 99, 32, 100, 32, 41, 32, 33, 120, 63, 32, 40, 32, 33, 101, 32, 41, 32, 41]).data.toList = S0 from rfl] at h1 ⊢
  obtain ⟨tt, ht, hn1⟩ := h1 T0_read.1
  obtain rfl : tt = T0 := Option.some.inj (ht.symm.trans T0_read.2)
  rw [T0_read.1]
  have HN1 := hid hn1
  have hn2 := hn1
  clear h1 ht hn1
  unfold T0 at hn2
  rw [NeedIs] at hn2
  obtain ⟨kp, kc, hcs, hkc, -, hkids⟩ := hn2
  obtain ⟨p, d2, rfl, hSp, hcell, hneed⟩ := kidsIs_get hkids 2 (by decide)
  replace hcs : cs = [.int .i64 3, .string ⟨#[]⟩, .int .i64 0, .int .i64 0, .int .i64 0, .string ⟨#[]⟩, .bool false, .string ⟨#[]⟩, .bool false, .slice (some p) 3 kc] := hcs
  subst hcs
  rw [show ([kid0, kid1, kid2] : List NT)[2] = kid2 from rfl] at hneed
  unfold kid2 at hneed
  rw [NeedIs] at hneed
  obtain ⟨kp2, kc2, rfl, -, -, -⟩ := hneed
  obtain ⟨-, -, -, -, -, -, -, -, c8, -⟩ := cells10 hcell
  rw [Nat.zero_add] at c8
  have K2 := hid (k1.alloc' (.cells #[.int .i64 3, .string ⟨#[]⟩, .int .i64 0, .int .i64 0, .int .i64 0, .string ⟨#[]⟩, .bool false, .string ⟨#[]⟩, .bool false, .slice (some p) 3 kc] 26))
  have B2 : Hid (NBox w1.heap.size #[.int .i64 3, .string ⟨#[]⟩, .int .i64 0, .int .i64 0, .int .i64 0, .string ⟨#[]⟩, .bool false, .string ⟨#[]⟩, .bool false, .slice (some p) 3 kc] (w1.alloc (.cells #[.int .i64 3, .string ⟨#[]⟩, .int .i64 0, .int .i64 0, .int .i64 0, .string ⟨#[]⟩, .bool false, .string ⟨#[]⟩, .bool false, .slice (some p) 3 kc] 26))) := NBox.new _ _
  have N2 := hid (HN1.out.keep (fun b hb => hb.2) (Keep.alloc w1 (.cells #[.int .i64 3, .string ⟨#[]⟩, .int .i64 0, .int .i64 0, .int .i64 0, .string ⟨#[]⟩, .bool false, .string ⟨#[]⟩, .bool false, .slice (some p) 3 kc] 26)))
  have hs2 := hid (alloc_size w1 (.cells #[.int .i64 3, .string ⟨#[]⟩, .int .i64 0, .int .i64 0, .int .i64 0, .string ⟨#[]⟩, .bool false, .string ⟨#[]⟩, .bool false, .slice (some p) 3 kc] 26))
  have C2 : Hid ((w1.alloc (.cells #[.int .i64 3, .string ⟨#[]⟩, .int .i64 0, .int .i64 0, .int .i64 0, .string ⟨#[]⟩, .bool false, .string ⟨#[]⟩, .bool false, .slice (some p) 3 kc] 26)).cell? ⟨(p.add (2 * 10)).block, (p.add (2 * 10)).off + 8, none⟩ = some (.bool true)) := ((Keep.alloc w1 _).cell (p := ⟨(p.add (2 * 10)).block, (p.add (2 * 10)).off + 8, none⟩) (by show (p.add (2 * 10)).block < _; rw [add_block]; exact hSp.2)).trans c8
  have hSp2 := hSp.2
  clear hcell hkids c8 k1
  go_wp2_with fail
  generalize w1.alloc (.cells #[.int .i64 3, .string ⟨#[]⟩, .int .i64 0, .int .i64 0, .int .i64 0, .string ⟨#[]⟩, .bool false, .string ⟨#[]⟩, .bool false, .slice (some p) 3 kc] 26) = W2 at K2 B2 N2 hs2 C2 ⊢
  have hSS : ∀ b, (w.heap.size ≤ b ∧ b < w1.heap.size) → b < W2.heap.size := fun b hb => by have := hs2.out; omega
  refine (needPrint_any T0 _ W2 (fun b => w.heap.size ≤ b ∧ b < w1.heap.size) hSS N2.out (HE.out.keep K2.out).1).mono ?_
  rintro e w3 ⟨s3, rfl, hs3, -, k3⟩
  rw [T0_chk]
  have HS3 : Hid (s3.data.toList = S0) := (hs3 T0_chk).trans T0_text
  have K3 := hid (K2.out.trans k3)
  have B3 := hid (B2.out.keep k3 B2.out.facts.2.2)
  have N3 := hid (N2.out.keep hSS k3)
  have C3 := hid ((k3.cell (p := ⟨(p.add (2 * 10)).block, (p.add (2 * 10)).off + 8, none⟩) (by show (p.add (2 * 10)).block < _; rw [add_block]; have := hs2.out; omega)).trans C2.out)
  have hs23 := k3.size
  obtain ⟨hc3, -, hl3⟩ := B3.out.facts
  clear hs3 k3
  go_wp2_with fail
  refine (needFlags_any T0 _ w3 (fun b => w.heap.size ≤ b ∧ b < w1.heap.size) (fun b hb => Nat.lt_of_lt_of_le (hSS b hb) hs23) N3.out).mono ?_
  rintro e w4 ⟨v4, rfl, -, hv4, k4⟩
  rw [T0_chk]
  have hv5 := hv4 T0_chk
  rw [T0_sorted] at hv5
  obtain ⟨h, -⟩ | ⟨g, cap, rfl, hg, hgc⟩ := hv5
  · cases h
  have K4 := hid (K3.out.trans k4)
  have B4 := hid (B3.out.keep k4 B3.out.facts.2.2)
  have C4 : w4.cell? ⟨p.block, p.off + 20 + 8, none⟩ = some (.bool true) := (k4.cell (p := ⟨(p.add (2 * 10)).block, (p.add (2 * 10)).off + 8, none⟩) (by show (p.add (2 * 10)).block < _; rw [add_block]; have := hs2.out; omega)).trans C3.out
  have hlw4 : p.block < w4.heap.size := by have := k4.size; have := hs2.out; omega
  obtain ⟨hc4, -, hl4⟩ := B4.out.facts
  have hse : (s3.toList == [40, 32, 98, 32, 124, 124, 32, 40, 32, 99, 32, 100, 32, 41, 32, 33, 120, 63, 32, 40, 32, 33, 101, 32, 41, 32, 41]) = true := by rw [Lib.toList_data, HS3.out]; decide
  have G4 := hid (hgc 0 [120] rfl)
  clear hv4 hgc k4 hc3
  have K5 := hid (K4.out.alloc' (.cells #[.string ⟨#[120]⟩] 9))
  have e5 : ∀ j, j < [(⟨#[120]⟩ : ByteArray)].length → (w4.alloc (.cells #[.string ⟨#[120]⟩] 9)).cell? ⟨g, 0 + j, none⟩ = some (.string ([(⟨#[120]⟩ : ByteArray)].getD j ByteArray.empty)) := fun j hj => by
    obtain rfl : j = 0 := by simp at hj; exact hj
    exact ((Keep.alloc w4 _).cell (p := ⟨g, 0 + 0, none⟩) hg).trans G4.out
  have e6 : ∀ j, j < [(⟨#[120]⟩ : ByteArray)].length → (w4.alloc (.cells #[.string ⟨#[120]⟩] 9)).cell? ⟨w4.heap.size, 0 + j, none⟩ = some (.string ([(⟨#[120]⟩ : ByteArray)].getD j ByteArray.empty)) := fun j hj => by
    obtain rfl : j = 0 := by simp at hj; exact hj
    have := one_news (w := w4) (x := .string ⟨#[120]⟩) (T := 9) 0 (.string ⟨#[120]⟩) rfl
    rw [Addr.add_mid] at this
    exact this
  have HEQ := hid (Tryz.slices_Equal_string g 0 1 cap w4.heap.size 0 1 1 [⟨#[120]⟩] [⟨#[120]⟩] (w4.alloc (.cells #[.string ⟨#[120]⟩] 9)) (by decide) (by decide) (by decide) (by decide) e5 e6)
  clear e5 e6
  go_wp2_with fail
  refine HEQ.out.mono ?_
  rintro e w6 ⟨rfl, qq, hw6⟩
  rw [hw6, decide_true]
  have K6 := hid (Keep.drewN K5.out qq)
  clear hw6
  go_wp2_with fail
  go_ret
  exact ⟨rfl, K6.out⟩
end Go.Proofs.YtkckkjpkidcbnaaGreatDoor
