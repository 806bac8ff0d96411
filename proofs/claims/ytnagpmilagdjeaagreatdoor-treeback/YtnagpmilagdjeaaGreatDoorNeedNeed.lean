/- The reader's need reads what rdNeed reads, at every depth. -/
import Derived.Test.YtnagpmilagdjeaaGreatDoorNeedGroup
namespace Go.Proofs.YtnagpmilagdjeaaGreatDoor
open Go.RowKit

theorem rd_if {g : Nat} {wd : Word} {ws : List Word} (h : Lib.hasSuffix wd [63] = true) : rdNeed (g + 1) wd ws = rdGroup g 5 At.zero ⟨(flagW wd).toArray⟩ (notW wd) ws := by
  have e : (⟨(flagW wd).toArray⟩ : ByteArray).data.toList = flagW wd := by simp
  rw [rdNeed, if_pos h]
  unfold rdGroup
  rw [e]
  cases hn : nameB (flagW wd)
  · rw [if_neg (by decide), if_pos ⟨rfl, rfl⟩]
  · rw [if_pos rfl, if_neg (by simp)]
theorem rd_some {g : Nat} {wd : Word} {ws : List Word} (h : Lib.hasSuffix wd [63] = false) (h2 : wd = [124, 124]) : rdNeed (g + 1) wd ws = rdGroup g 4 At.zero ⟨#[]⟩ false ws := by
  rw [rdNeed, if_neg (by rw [h]; decide), if_pos h2]
  unfold rdGroup
  rw [if_neg (by simp)]
theorem rd_all {g : Nat} {wd : Word} {ws : List Word} (h : Lib.hasSuffix wd [63] = false) (h2 : wd ≠ [124, 124]) (h3 : wd = [40]) : rdNeed (g + 1) wd ws = kidsAll (rdNeed g) (.node 3 At.zero ⟨#[]⟩ false) ws := by
  rw [rdNeed, if_neg (by rw [h]; decide), if_neg h2, if_pos h3]
theorem rd_leaf {g : Nat} {wd : Word} {ws : List Word} (h : Lib.hasSuffix wd [63] = false) (h2 : wd ≠ [124, 124]) (h3 : wd ≠ [40]) : rdNeed (g + 1) wd ws = (rdLeaf wd).map fun t => (t, ws) := by
  rw [rdNeed, if_neg (by rw [h]; decide), if_neg h2, if_neg h3]

set_option maxHeartbeats 1000000 in
theorem need_zero : NeedReads 0 := by
  intro rb wd ws d w hd _ _ _ _ _
  have R1 : Hid (NBox w.heap.size #[.int .i64 0, .string ⟨#[]⟩, .int .i64 0, .int .i64 0, .int .i64 0, .string ⟨#[]⟩, .bool false, .string ⟨#[]⟩, .bool false, .slice none 0 0] (w.alloc (.cells #[.int .i64 0, .string ⟨#[]⟩, .int .i64 0, .int .i64 0, .int .i64 0, .string ⟨#[]⟩, .bool false, .string ⟨#[]⟩, .bool false, .slice none 0 0] 26))) := NBox.new _ _
  have A1 : Hid (Apart (One rb) w (w.alloc (.cells #[.int .i64 0, .string ⟨#[]⟩, .int .i64 0, .int .i64 0, .int .i64 0, .string ⟨#[]⟩, .bool false, .string ⟨#[]⟩, .bool false, .slice none 0 0] 26))) := apart_alloc _ _
  have hd5 : d = 5 := by omega
  subst hd5
  go_enter Tryz.func47, Tryz.ntmps47
  go_upto_region 1 with fail
  generalize w.alloc (.cells #[.int .i64 0, .string ⟨#[]⟩, .int .i64 0, .int .i64 0, .int .i64 0, .string ⟨#[]⟩, .bool false, .string ⟨#[]⟩, .bool false, .slice none 0 0] 26) = W1 at R1 A1 ⊢
  obtain ⟨hcr, hzr, hlr3⟩ := R1.out.facts
  go_wp2_with fail
  obtain ⟨b1, b2, b3, b4⟩ := R1.out.set rfl (.int .i64 0) (.string ⟨#[]⟩) (.int .i64 0) (.int .i64 0) (.int .i64 0) (.string ⟨#[]⟩) (.bool false) (.string ⟨#[]⟩) (.bool false) (.slice none 0 0)
  have BW : Hid (NBox (w.heap.size) #[.int .i64 0, .string ⟨#[]⟩, .int .i64 0, .int .i64 0, .int .i64 0, .string ⟨#[]⟩, .bool false, .string ⟨#[]⟩, .bool false, .slice none 0 0] ((((((((((W1.setCell ⟨w.heap.size, 0, none⟩ (.int .i64 0)).setCell ⟨w.heap.size, 1, none⟩ (.string ⟨#[]⟩)).setCell ⟨w.heap.size, 2, none⟩ (.int .i64 0)).setCell ⟨w.heap.size, 3, none⟩ (.int .i64 0)).setCell ⟨w.heap.size, 4, none⟩ (.int .i64 0)).setCell ⟨w.heap.size, 5, none⟩ (.string ⟨#[]⟩)).setCell ⟨w.heap.size, 6, none⟩ (.bool false)).setCell ⟨w.heap.size, 7, none⟩ (.string ⟨#[]⟩)).setCell ⟨w.heap.size, 8, none⟩ (.bool false)).setCell ⟨w.heap.size, 9, none⟩ (.slice none 0 0))) := b1
  have KW : Hid (Below (w.heap.size) W1 ((((((((((W1.setCell ⟨w.heap.size, 0, none⟩ (.int .i64 0)).setCell ⟨w.heap.size, 1, none⟩ (.string ⟨#[]⟩)).setCell ⟨w.heap.size, 2, none⟩ (.int .i64 0)).setCell ⟨w.heap.size, 3, none⟩ (.int .i64 0)).setCell ⟨w.heap.size, 4, none⟩ (.int .i64 0)).setCell ⟨w.heap.size, 5, none⟩ (.string ⟨#[]⟩)).setCell ⟨w.heap.size, 6, none⟩ (.bool false)).setCell ⟨w.heap.size, 7, none⟩ (.string ⟨#[]⟩)).setCell ⟨w.heap.size, 8, none⟩ (.bool false)).setCell ⟨w.heap.size, 9, none⟩ (.slice none 0 0))) := b2
  have SW : Hid (((((((((((W1.setCell ⟨w.heap.size, 0, none⟩ (.int .i64 0)).setCell ⟨w.heap.size, 1, none⟩ (.string ⟨#[]⟩)).setCell ⟨w.heap.size, 2, none⟩ (.int .i64 0)).setCell ⟨w.heap.size, 3, none⟩ (.int .i64 0)).setCell ⟨w.heap.size, 4, none⟩ (.int .i64 0)).setCell ⟨w.heap.size, 5, none⟩ (.string ⟨#[]⟩)).setCell ⟨w.heap.size, 6, none⟩ (.bool false)).setCell ⟨w.heap.size, 7, none⟩ (.string ⟨#[]⟩)).setCell ⟨w.heap.size, 8, none⟩ (.bool false)).setCell ⟨w.heap.size, 9, none⟩ (.slice none 0 0)).heap.size = W1.heap.size) := b3
  have OW : Hid (∀ bb, bb ≠ w.heap.size → ((((((((((W1.setCell ⟨w.heap.size, 0, none⟩ (.int .i64 0)).setCell ⟨w.heap.size, 1, none⟩ (.string ⟨#[]⟩)).setCell ⟨w.heap.size, 2, none⟩ (.int .i64 0)).setCell ⟨w.heap.size, 3, none⟩ (.int .i64 0)).setCell ⟨w.heap.size, 4, none⟩ (.int .i64 0)).setCell ⟨w.heap.size, 5, none⟩ (.string ⟨#[]⟩)).setCell ⟨w.heap.size, 6, none⟩ (.bool false)).setCell ⟨w.heap.size, 7, none⟩ (.string ⟨#[]⟩)).setCell ⟨w.heap.size, 8, none⟩ (.bool false)).setCell ⟨w.heap.size, 9, none⟩ (.slice none 0 0)).heap[bb]? = W1.heap[bb]?) := b4
  clear b1 b2 b3 b4 hcr hzr
  generalize ((((((((((W1.setCell ⟨w.heap.size, 0, none⟩ (.int .i64 0)).setCell ⟨w.heap.size, 1, none⟩ (.string ⟨#[]⟩)).setCell ⟨w.heap.size, 2, none⟩ (.int .i64 0)).setCell ⟨w.heap.size, 3, none⟩ (.int .i64 0)).setCell ⟨w.heap.size, 4, none⟩ (.int .i64 0)).setCell ⟨w.heap.size, 5, none⟩ (.string ⟨#[]⟩)).setCell ⟨w.heap.size, 6, none⟩ (.bool false)).setCell ⟨w.heap.size, 7, none⟩ (.string ⟨#[]⟩)).setCell ⟨w.heap.size, 8, none⟩ (.bool false)).setCell ⟨w.heap.size, 9, none⟩ (.slice none 0 0)) = W at BW KW SW OW ⊢
  obtain ⟨hcW, _, _⟩ := BW.out.facts
  refine bodyPost_ret (v := .tuple #[.agg #[.int .i64 0, .string ⟨#[]⟩, .int .i64 0, .int .i64 0, .int .i64 0, .string ⟨#[]⟩, .bool false, .string ⟨#[]⟩, .bool false, .slice none 0 0], .bool false]) ?_ rfl ?_
  · simp [results, Tryz.results47, go_sem, hcW]
  show NeedDone _ _ w _ W
  exact ⟨rfl, apart_set A1.out KW.out (Nat.le_refl _)⟩

set_option maxHeartbeats 2000000 in
set_option maxRecDepth 100000 in
theorem need_succ (g : Nat) (H : NeedReads g) : NeedReads (g + 1) := by
  intro rb wd ws d w hd hd1 hE hO hr hwd
  have hd4 : d + g = 4 := by omega
  have hlr := hr.1.lt
  have HE := hid hE
  have HO := hid hO
  have HH := hid H
  have R1 : Hid (NBox w.heap.size #[.int .i64 0, .string ⟨#[]⟩, .int .i64 0, .int .i64 0, .int .i64 0, .string ⟨#[]⟩, .bool false, .string ⟨#[]⟩, .bool false, .slice none 0 0] (w.alloc (.cells #[.int .i64 0, .string ⟨#[]⟩, .int .i64 0, .int .i64 0, .int .i64 0, .string ⟨#[]⟩, .bool false, .string ⟨#[]⟩, .bool false, .slice none 0 0] 26))) := NBox.new _ _
  have A1 : Hid (Apart (One rb) w (w.alloc (.cells #[.int .i64 0, .string ⟨#[]⟩, .int .i64 0, .int .i64 0, .int .i64 0, .string ⟨#[]⟩, .bool false, .string ⟨#[]⟩, .bool false, .slice none 0 0] 26))) := apart_alloc _ _
  have HR1 := hid (hr.keep (Keep.alloc w (.cells #[.int .i64 0, .string ⟨#[]⟩, .int .i64 0, .int .i64 0, .int .i64 0, .string ⟨#[]⟩, .bool false, .string ⟨#[]⟩, .bool false, .slice none 0 0] 26)))
  clear hE hO H hr hd
  go_enter Tryz.func47, Tryz.ntmps47
  go_wp2_with fail
  generalize w.alloc (.cells #[.int .i64 0, .string ⟨#[]⟩, .int .i64 0, .int .i64 0, .int .i64 0, .string ⟨#[]⟩, .bool false, .string ⟨#[]⟩, .bool false, .slice none 0 0] 26) = W1 at R1 A1 HR1 ⊢
  have hl1 := R1.out.facts.2.2
  refine (Tryz.strings_CutSuffix wd ⟨#[63]⟩ W1 (by omega)).mono ?_
  rintro e w2 ⟨rfl, hw2⟩
  rw [hw2, show (⟨#[63]⟩ : ByteArray).data.toList = [63] from rfl]
  clear hw2 w2
  cases hsuf : Lib.hasSuffix wd.data.toList [63]
  · have HSUF := hid hsuf
    clear hsuf
    go_upto_region 7 with fail
    rcases word_is wd [124, 124] with ⟨hw1, hw2, hw3⟩ | ⟨hw1, hw2, hw3⟩
    · have HRES := hid (rd_some (g := g) (ws := ws.map (·.data.toList)) HSUF.out hw1)
      clear hw1
      go_wp2_with fail
      refine (group_open g HH.out rb 4 ⟨#[]⟩ ⟨#[]⟩ 0 0 0 false ⟨#[]⟩ false ws d W1 hd4 hd1 (HE.out.apart HO.out hlr A1.out) HO.out HR1.out).mono ?_
      rintro e w3 hdone
      have hdone' : NeedDone rb (rdNeed (g + 1) wd.data.toList (ws.map (·.data.toList))) W1 e w3 := by rw [HRES.out]; exact hdone
      clear hdone
      cases hq : rdNeed (g + 1) wd.data.toList (ws.map (·.data.toList)) with
      | none =>
        rw [hq] at hdone'
        obtain ⟨rfl, ha3⟩ := hdone'
        have R3 := hid (R1.out.apart ha3 (by omega))
        have A3 := hid (A1.out.trans ha3)
        have HQ := hid hq
        clear ha3 hq
        unfold zeroV
        obtain ⟨hcr, hzr, hlr3⟩ := R3.out.facts
        go_wp2_with fail
        obtain ⟨b1, b2, b3, b4⟩ := R3.out.set rfl (.int .i64 0) (.string ⟨#[]⟩) (.int .i64 0) (.int .i64 0) (.int .i64 0) (.string ⟨#[]⟩) (.bool false) (.string ⟨#[]⟩) (.bool false) (.slice none 0 0)
        have BW : Hid (NBox (w.heap.size) #[.int .i64 0, .string ⟨#[]⟩, .int .i64 0, .int .i64 0, .int .i64 0, .string ⟨#[]⟩, .bool false, .string ⟨#[]⟩, .bool false, .slice none 0 0] ((((((((((w3.setCell ⟨w.heap.size, 0, none⟩ (.int .i64 0)).setCell ⟨w.heap.size, 1, none⟩ (.string ⟨#[]⟩)).setCell ⟨w.heap.size, 2, none⟩ (.int .i64 0)).setCell ⟨w.heap.size, 3, none⟩ (.int .i64 0)).setCell ⟨w.heap.size, 4, none⟩ (.int .i64 0)).setCell ⟨w.heap.size, 5, none⟩ (.string ⟨#[]⟩)).setCell ⟨w.heap.size, 6, none⟩ (.bool false)).setCell ⟨w.heap.size, 7, none⟩ (.string ⟨#[]⟩)).setCell ⟨w.heap.size, 8, none⟩ (.bool false)).setCell ⟨w.heap.size, 9, none⟩ (.slice none 0 0))) := b1
        have KW : Hid (Below (w.heap.size) w3 ((((((((((w3.setCell ⟨w.heap.size, 0, none⟩ (.int .i64 0)).setCell ⟨w.heap.size, 1, none⟩ (.string ⟨#[]⟩)).setCell ⟨w.heap.size, 2, none⟩ (.int .i64 0)).setCell ⟨w.heap.size, 3, none⟩ (.int .i64 0)).setCell ⟨w.heap.size, 4, none⟩ (.int .i64 0)).setCell ⟨w.heap.size, 5, none⟩ (.string ⟨#[]⟩)).setCell ⟨w.heap.size, 6, none⟩ (.bool false)).setCell ⟨w.heap.size, 7, none⟩ (.string ⟨#[]⟩)).setCell ⟨w.heap.size, 8, none⟩ (.bool false)).setCell ⟨w.heap.size, 9, none⟩ (.slice none 0 0))) := b2
        have SW : Hid (((((((((((w3.setCell ⟨w.heap.size, 0, none⟩ (.int .i64 0)).setCell ⟨w.heap.size, 1, none⟩ (.string ⟨#[]⟩)).setCell ⟨w.heap.size, 2, none⟩ (.int .i64 0)).setCell ⟨w.heap.size, 3, none⟩ (.int .i64 0)).setCell ⟨w.heap.size, 4, none⟩ (.int .i64 0)).setCell ⟨w.heap.size, 5, none⟩ (.string ⟨#[]⟩)).setCell ⟨w.heap.size, 6, none⟩ (.bool false)).setCell ⟨w.heap.size, 7, none⟩ (.string ⟨#[]⟩)).setCell ⟨w.heap.size, 8, none⟩ (.bool false)).setCell ⟨w.heap.size, 9, none⟩ (.slice none 0 0)).heap.size = w3.heap.size) := b3
        have OW : Hid (∀ bb, bb ≠ w.heap.size → ((((((((((w3.setCell ⟨w.heap.size, 0, none⟩ (.int .i64 0)).setCell ⟨w.heap.size, 1, none⟩ (.string ⟨#[]⟩)).setCell ⟨w.heap.size, 2, none⟩ (.int .i64 0)).setCell ⟨w.heap.size, 3, none⟩ (.int .i64 0)).setCell ⟨w.heap.size, 4, none⟩ (.int .i64 0)).setCell ⟨w.heap.size, 5, none⟩ (.string ⟨#[]⟩)).setCell ⟨w.heap.size, 6, none⟩ (.bool false)).setCell ⟨w.heap.size, 7, none⟩ (.string ⟨#[]⟩)).setCell ⟨w.heap.size, 8, none⟩ (.bool false)).setCell ⟨w.heap.size, 9, none⟩ (.slice none 0 0)).heap[bb]? = w3.heap[bb]?) := b4
        clear b1 b2 b3 b4 hcr hzr
        generalize ((((((((((w3.setCell ⟨w.heap.size, 0, none⟩ (.int .i64 0)).setCell ⟨w.heap.size, 1, none⟩ (.string ⟨#[]⟩)).setCell ⟨w.heap.size, 2, none⟩ (.int .i64 0)).setCell ⟨w.heap.size, 3, none⟩ (.int .i64 0)).setCell ⟨w.heap.size, 4, none⟩ (.int .i64 0)).setCell ⟨w.heap.size, 5, none⟩ (.string ⟨#[]⟩)).setCell ⟨w.heap.size, 6, none⟩ (.bool false)).setCell ⟨w.heap.size, 7, none⟩ (.string ⟨#[]⟩)).setCell ⟨w.heap.size, 8, none⟩ (.bool false)).setCell ⟨w.heap.size, 9, none⟩ (.slice none 0 0)) = W at BW KW SW OW ⊢
        obtain ⟨hcW, _, _⟩ := BW.out.facts
        refine bodyPost_ret (v := .tuple #[.agg #[.int .i64 0, .string ⟨#[]⟩, .int .i64 0, .int .i64 0, .int .i64 0, .string ⟨#[]⟩, .bool false, .string ⟨#[]⟩, .bool false, .slice none 0 0], .bool false]) ?_ rfl ?_
        · simp [results, Tryz.results47, go_sem, hcW]
        show NeedDone _ _ w _ W
        rw [HQ.out]
        exact ⟨rfl, apart_set A3.out KW.out (Nat.le_refl _)⟩
      | some r =>
        obtain ⟨t, rs⟩ := r
        rw [hq] at hdone'
        obtain ⟨cs, ws3, rfl, hn3, hr3, hm3, ha3⟩ := hdone'
        have R3 := hid (R1.out.apart ha3 (by omega))
        have A3 := hid (A1.out.trans ha3)
        have HQ := hid hq
        have HN3 := hid hn3
        have HR3 := hid hr3
        have HM3 := hid hm3
        clear ha3 hq hr3 hm3
        cases t with
        | node k' a' fl' nt' kids' =>
        rw [NeedIs] at hn3
        obtain ⟨kp', kc', rfl, -, -, -⟩ := hn3
        obtain ⟨hcr, hzr, hlr3⟩ := R3.out.facts
        go_wp2_with fail
        obtain ⟨b1, b2, b3, b4⟩ := R3.out.set rfl (.int .i64 k') (.string a'.n) (.int .i64 a'.op) (.int .i64 a'.v) (.int .i64 a'.sl) (.string a'.f) (.bool a'.on) (.string fl') (.bool nt') (.slice kp' kids'.length kc')
        have BW : Hid (NBox (w.heap.size) #[.int .i64 k', .string a'.n, .int .i64 a'.op, .int .i64 a'.v, .int .i64 a'.sl, .string a'.f, .bool a'.on, .string fl', .bool nt', .slice kp' kids'.length kc'] ((((((((((w3.setCell ⟨w.heap.size, 0, none⟩ (.int .i64 k')).setCell ⟨w.heap.size, 1, none⟩ (.string a'.n)).setCell ⟨w.heap.size, 2, none⟩ (.int .i64 a'.op)).setCell ⟨w.heap.size, 3, none⟩ (.int .i64 a'.v)).setCell ⟨w.heap.size, 4, none⟩ (.int .i64 a'.sl)).setCell ⟨w.heap.size, 5, none⟩ (.string a'.f)).setCell ⟨w.heap.size, 6, none⟩ (.bool a'.on)).setCell ⟨w.heap.size, 7, none⟩ (.string fl')).setCell ⟨w.heap.size, 8, none⟩ (.bool nt')).setCell ⟨w.heap.size, 9, none⟩ (.slice kp' kids'.length kc'))) := b1
        have KW : Hid (Below (w.heap.size) w3 ((((((((((w3.setCell ⟨w.heap.size, 0, none⟩ (.int .i64 k')).setCell ⟨w.heap.size, 1, none⟩ (.string a'.n)).setCell ⟨w.heap.size, 2, none⟩ (.int .i64 a'.op)).setCell ⟨w.heap.size, 3, none⟩ (.int .i64 a'.v)).setCell ⟨w.heap.size, 4, none⟩ (.int .i64 a'.sl)).setCell ⟨w.heap.size, 5, none⟩ (.string a'.f)).setCell ⟨w.heap.size, 6, none⟩ (.bool a'.on)).setCell ⟨w.heap.size, 7, none⟩ (.string fl')).setCell ⟨w.heap.size, 8, none⟩ (.bool nt')).setCell ⟨w.heap.size, 9, none⟩ (.slice kp' kids'.length kc'))) := b2
        have SW : Hid (((((((((((w3.setCell ⟨w.heap.size, 0, none⟩ (.int .i64 k')).setCell ⟨w.heap.size, 1, none⟩ (.string a'.n)).setCell ⟨w.heap.size, 2, none⟩ (.int .i64 a'.op)).setCell ⟨w.heap.size, 3, none⟩ (.int .i64 a'.v)).setCell ⟨w.heap.size, 4, none⟩ (.int .i64 a'.sl)).setCell ⟨w.heap.size, 5, none⟩ (.string a'.f)).setCell ⟨w.heap.size, 6, none⟩ (.bool a'.on)).setCell ⟨w.heap.size, 7, none⟩ (.string fl')).setCell ⟨w.heap.size, 8, none⟩ (.bool nt')).setCell ⟨w.heap.size, 9, none⟩ (.slice kp' kids'.length kc')).heap.size = w3.heap.size) := b3
        have OW : Hid (∀ bb, bb ≠ w.heap.size → ((((((((((w3.setCell ⟨w.heap.size, 0, none⟩ (.int .i64 k')).setCell ⟨w.heap.size, 1, none⟩ (.string a'.n)).setCell ⟨w.heap.size, 2, none⟩ (.int .i64 a'.op)).setCell ⟨w.heap.size, 3, none⟩ (.int .i64 a'.v)).setCell ⟨w.heap.size, 4, none⟩ (.int .i64 a'.sl)).setCell ⟨w.heap.size, 5, none⟩ (.string a'.f)).setCell ⟨w.heap.size, 6, none⟩ (.bool a'.on)).setCell ⟨w.heap.size, 7, none⟩ (.string fl')).setCell ⟨w.heap.size, 8, none⟩ (.bool nt')).setCell ⟨w.heap.size, 9, none⟩ (.slice kp' kids'.length kc')).heap[bb]? = w3.heap[bb]?) := b4
        clear b1 b2 b3 b4 hcr hzr
        generalize ((((((((((w3.setCell ⟨w.heap.size, 0, none⟩ (.int .i64 k')).setCell ⟨w.heap.size, 1, none⟩ (.string a'.n)).setCell ⟨w.heap.size, 2, none⟩ (.int .i64 a'.op)).setCell ⟨w.heap.size, 3, none⟩ (.int .i64 a'.v)).setCell ⟨w.heap.size, 4, none⟩ (.int .i64 a'.sl)).setCell ⟨w.heap.size, 5, none⟩ (.string a'.f)).setCell ⟨w.heap.size, 6, none⟩ (.bool a'.on)).setCell ⟨w.heap.size, 7, none⟩ (.string fl')).setCell ⟨w.heap.size, 8, none⟩ (.bool nt')).setCell ⟨w.heap.size, 9, none⟩ (.slice kp' kids'.length kc')) = W at BW KW SW OW ⊢
        obtain ⟨hcW, _, _⟩ := BW.out.facts
        refine bodyPost_ret (v := .tuple #[.agg #[.int .i64 k', .string a'.n, .int .i64 a'.op, .int .i64 a'.v, .int .i64 a'.sl, .string a'.f, .bool a'.on, .string fl', .bool nt', .slice kp' kids'.length kc'], .bool true]) ?_ rfl ?_
        · simp [results, Tryz.results47, go_sem, hcW]
        show NeedDone _ _ w _ W
        rw [HQ.out]
        obtain ⟨d1, d2⟩ := done_lift (X := w.heap.size) (w := w) (Nat.le_refl _) hl1 HN3.out HR3.out hlr OW.out SW.out
        exact ⟨_, ws3, rfl, d1, d2, HM3.out, apart_set A3.out KW.out (Nat.le_refl _)⟩
    · have HW1 := hid hw1
      clear hw1
      rcases word_is wd [40] with ⟨hv1, hv2, hv3⟩ | ⟨hv1, hv2, hv3⟩
      · have HRES := hid (rd_all (g := g) (ws := ws.map (·.data.toList)) HSUF.out HW1.out hv1)
        clear hv1
        go_wp2_with fail
        refine (kids_any g HH.out rb 3 ⟨#[]⟩ ⟨#[]⟩ 0 0 0 false ⟨#[]⟩ false ws d W1 hd4 hd1 (HE.out.apart HO.out hlr A1.out) HO.out HR1.out).mono ?_
        rintro e w3 hdone
        have hdone' : NeedDone rb (rdNeed (g + 1) wd.data.toList (ws.map (·.data.toList))) W1 e w3 := by rw [HRES.out]; exact hdone
        clear hdone
        cases hq : rdNeed (g + 1) wd.data.toList (ws.map (·.data.toList)) with
        | none =>
          rw [hq] at hdone'
          obtain ⟨rfl, ha3⟩ := hdone'
          have R3 := hid (R1.out.apart ha3 (by omega))
          have A3 := hid (A1.out.trans ha3)
          have HQ := hid hq
          clear ha3 hq
          unfold zeroV
          obtain ⟨hcr, hzr, hlr3⟩ := R3.out.facts
          go_wp2_with fail
          obtain ⟨b1, b2, b3, b4⟩ := R3.out.set rfl (.int .i64 0) (.string ⟨#[]⟩) (.int .i64 0) (.int .i64 0) (.int .i64 0) (.string ⟨#[]⟩) (.bool false) (.string ⟨#[]⟩) (.bool false) (.slice none 0 0)
          have BW : Hid (NBox (w.heap.size) #[.int .i64 0, .string ⟨#[]⟩, .int .i64 0, .int .i64 0, .int .i64 0, .string ⟨#[]⟩, .bool false, .string ⟨#[]⟩, .bool false, .slice none 0 0] ((((((((((w3.setCell ⟨w.heap.size, 0, none⟩ (.int .i64 0)).setCell ⟨w.heap.size, 1, none⟩ (.string ⟨#[]⟩)).setCell ⟨w.heap.size, 2, none⟩ (.int .i64 0)).setCell ⟨w.heap.size, 3, none⟩ (.int .i64 0)).setCell ⟨w.heap.size, 4, none⟩ (.int .i64 0)).setCell ⟨w.heap.size, 5, none⟩ (.string ⟨#[]⟩)).setCell ⟨w.heap.size, 6, none⟩ (.bool false)).setCell ⟨w.heap.size, 7, none⟩ (.string ⟨#[]⟩)).setCell ⟨w.heap.size, 8, none⟩ (.bool false)).setCell ⟨w.heap.size, 9, none⟩ (.slice none 0 0))) := b1
          have KW : Hid (Below (w.heap.size) w3 ((((((((((w3.setCell ⟨w.heap.size, 0, none⟩ (.int .i64 0)).setCell ⟨w.heap.size, 1, none⟩ (.string ⟨#[]⟩)).setCell ⟨w.heap.size, 2, none⟩ (.int .i64 0)).setCell ⟨w.heap.size, 3, none⟩ (.int .i64 0)).setCell ⟨w.heap.size, 4, none⟩ (.int .i64 0)).setCell ⟨w.heap.size, 5, none⟩ (.string ⟨#[]⟩)).setCell ⟨w.heap.size, 6, none⟩ (.bool false)).setCell ⟨w.heap.size, 7, none⟩ (.string ⟨#[]⟩)).setCell ⟨w.heap.size, 8, none⟩ (.bool false)).setCell ⟨w.heap.size, 9, none⟩ (.slice none 0 0))) := b2
          have SW : Hid (((((((((((w3.setCell ⟨w.heap.size, 0, none⟩ (.int .i64 0)).setCell ⟨w.heap.size, 1, none⟩ (.string ⟨#[]⟩)).setCell ⟨w.heap.size, 2, none⟩ (.int .i64 0)).setCell ⟨w.heap.size, 3, none⟩ (.int .i64 0)).setCell ⟨w.heap.size, 4, none⟩ (.int .i64 0)).setCell ⟨w.heap.size, 5, none⟩ (.string ⟨#[]⟩)).setCell ⟨w.heap.size, 6, none⟩ (.bool false)).setCell ⟨w.heap.size, 7, none⟩ (.string ⟨#[]⟩)).setCell ⟨w.heap.size, 8, none⟩ (.bool false)).setCell ⟨w.heap.size, 9, none⟩ (.slice none 0 0)).heap.size = w3.heap.size) := b3
          have OW : Hid (∀ bb, bb ≠ w.heap.size → ((((((((((w3.setCell ⟨w.heap.size, 0, none⟩ (.int .i64 0)).setCell ⟨w.heap.size, 1, none⟩ (.string ⟨#[]⟩)).setCell ⟨w.heap.size, 2, none⟩ (.int .i64 0)).setCell ⟨w.heap.size, 3, none⟩ (.int .i64 0)).setCell ⟨w.heap.size, 4, none⟩ (.int .i64 0)).setCell ⟨w.heap.size, 5, none⟩ (.string ⟨#[]⟩)).setCell ⟨w.heap.size, 6, none⟩ (.bool false)).setCell ⟨w.heap.size, 7, none⟩ (.string ⟨#[]⟩)).setCell ⟨w.heap.size, 8, none⟩ (.bool false)).setCell ⟨w.heap.size, 9, none⟩ (.slice none 0 0)).heap[bb]? = w3.heap[bb]?) := b4
          clear b1 b2 b3 b4 hcr hzr
          generalize ((((((((((w3.setCell ⟨w.heap.size, 0, none⟩ (.int .i64 0)).setCell ⟨w.heap.size, 1, none⟩ (.string ⟨#[]⟩)).setCell ⟨w.heap.size, 2, none⟩ (.int .i64 0)).setCell ⟨w.heap.size, 3, none⟩ (.int .i64 0)).setCell ⟨w.heap.size, 4, none⟩ (.int .i64 0)).setCell ⟨w.heap.size, 5, none⟩ (.string ⟨#[]⟩)).setCell ⟨w.heap.size, 6, none⟩ (.bool false)).setCell ⟨w.heap.size, 7, none⟩ (.string ⟨#[]⟩)).setCell ⟨w.heap.size, 8, none⟩ (.bool false)).setCell ⟨w.heap.size, 9, none⟩ (.slice none 0 0)) = W at BW KW SW OW ⊢
          obtain ⟨hcW, _, _⟩ := BW.out.facts
          refine bodyPost_ret (v := .tuple #[.agg #[.int .i64 0, .string ⟨#[]⟩, .int .i64 0, .int .i64 0, .int .i64 0, .string ⟨#[]⟩, .bool false, .string ⟨#[]⟩, .bool false, .slice none 0 0], .bool false]) ?_ rfl ?_
          · simp [results, Tryz.results47, go_sem, hcW]
          show NeedDone _ _ w _ W
          rw [HQ.out]
          exact ⟨rfl, apart_set A3.out KW.out (Nat.le_refl _)⟩
        | some r =>
          obtain ⟨t, rs⟩ := r
          rw [hq] at hdone'
          obtain ⟨cs, ws3, rfl, hn3, hr3, hm3, ha3⟩ := hdone'
          have R3 := hid (R1.out.apart ha3 (by omega))
          have A3 := hid (A1.out.trans ha3)
          have HQ := hid hq
          have HN3 := hid hn3
          have HR3 := hid hr3
          have HM3 := hid hm3
          clear ha3 hq hr3 hm3
          cases t with
          | node k' a' fl' nt' kids' =>
          rw [NeedIs] at hn3
          obtain ⟨kp', kc', rfl, -, -, -⟩ := hn3
          obtain ⟨hcr, hzr, hlr3⟩ := R3.out.facts
          go_wp2_with fail
          obtain ⟨b1, b2, b3, b4⟩ := R3.out.set rfl (.int .i64 k') (.string a'.n) (.int .i64 a'.op) (.int .i64 a'.v) (.int .i64 a'.sl) (.string a'.f) (.bool a'.on) (.string fl') (.bool nt') (.slice kp' kids'.length kc')
          have BW : Hid (NBox (w.heap.size) #[.int .i64 k', .string a'.n, .int .i64 a'.op, .int .i64 a'.v, .int .i64 a'.sl, .string a'.f, .bool a'.on, .string fl', .bool nt', .slice kp' kids'.length kc'] ((((((((((w3.setCell ⟨w.heap.size, 0, none⟩ (.int .i64 k')).setCell ⟨w.heap.size, 1, none⟩ (.string a'.n)).setCell ⟨w.heap.size, 2, none⟩ (.int .i64 a'.op)).setCell ⟨w.heap.size, 3, none⟩ (.int .i64 a'.v)).setCell ⟨w.heap.size, 4, none⟩ (.int .i64 a'.sl)).setCell ⟨w.heap.size, 5, none⟩ (.string a'.f)).setCell ⟨w.heap.size, 6, none⟩ (.bool a'.on)).setCell ⟨w.heap.size, 7, none⟩ (.string fl')).setCell ⟨w.heap.size, 8, none⟩ (.bool nt')).setCell ⟨w.heap.size, 9, none⟩ (.slice kp' kids'.length kc'))) := b1
          have KW : Hid (Below (w.heap.size) w3 ((((((((((w3.setCell ⟨w.heap.size, 0, none⟩ (.int .i64 k')).setCell ⟨w.heap.size, 1, none⟩ (.string a'.n)).setCell ⟨w.heap.size, 2, none⟩ (.int .i64 a'.op)).setCell ⟨w.heap.size, 3, none⟩ (.int .i64 a'.v)).setCell ⟨w.heap.size, 4, none⟩ (.int .i64 a'.sl)).setCell ⟨w.heap.size, 5, none⟩ (.string a'.f)).setCell ⟨w.heap.size, 6, none⟩ (.bool a'.on)).setCell ⟨w.heap.size, 7, none⟩ (.string fl')).setCell ⟨w.heap.size, 8, none⟩ (.bool nt')).setCell ⟨w.heap.size, 9, none⟩ (.slice kp' kids'.length kc'))) := b2
          have SW : Hid (((((((((((w3.setCell ⟨w.heap.size, 0, none⟩ (.int .i64 k')).setCell ⟨w.heap.size, 1, none⟩ (.string a'.n)).setCell ⟨w.heap.size, 2, none⟩ (.int .i64 a'.op)).setCell ⟨w.heap.size, 3, none⟩ (.int .i64 a'.v)).setCell ⟨w.heap.size, 4, none⟩ (.int .i64 a'.sl)).setCell ⟨w.heap.size, 5, none⟩ (.string a'.f)).setCell ⟨w.heap.size, 6, none⟩ (.bool a'.on)).setCell ⟨w.heap.size, 7, none⟩ (.string fl')).setCell ⟨w.heap.size, 8, none⟩ (.bool nt')).setCell ⟨w.heap.size, 9, none⟩ (.slice kp' kids'.length kc')).heap.size = w3.heap.size) := b3
          have OW : Hid (∀ bb, bb ≠ w.heap.size → ((((((((((w3.setCell ⟨w.heap.size, 0, none⟩ (.int .i64 k')).setCell ⟨w.heap.size, 1, none⟩ (.string a'.n)).setCell ⟨w.heap.size, 2, none⟩ (.int .i64 a'.op)).setCell ⟨w.heap.size, 3, none⟩ (.int .i64 a'.v)).setCell ⟨w.heap.size, 4, none⟩ (.int .i64 a'.sl)).setCell ⟨w.heap.size, 5, none⟩ (.string a'.f)).setCell ⟨w.heap.size, 6, none⟩ (.bool a'.on)).setCell ⟨w.heap.size, 7, none⟩ (.string fl')).setCell ⟨w.heap.size, 8, none⟩ (.bool nt')).setCell ⟨w.heap.size, 9, none⟩ (.slice kp' kids'.length kc')).heap[bb]? = w3.heap[bb]?) := b4
          clear b1 b2 b3 b4 hcr hzr
          generalize ((((((((((w3.setCell ⟨w.heap.size, 0, none⟩ (.int .i64 k')).setCell ⟨w.heap.size, 1, none⟩ (.string a'.n)).setCell ⟨w.heap.size, 2, none⟩ (.int .i64 a'.op)).setCell ⟨w.heap.size, 3, none⟩ (.int .i64 a'.v)).setCell ⟨w.heap.size, 4, none⟩ (.int .i64 a'.sl)).setCell ⟨w.heap.size, 5, none⟩ (.string a'.f)).setCell ⟨w.heap.size, 6, none⟩ (.bool a'.on)).setCell ⟨w.heap.size, 7, none⟩ (.string fl')).setCell ⟨w.heap.size, 8, none⟩ (.bool nt')).setCell ⟨w.heap.size, 9, none⟩ (.slice kp' kids'.length kc')) = W at BW KW SW OW ⊢
          obtain ⟨hcW, _, _⟩ := BW.out.facts
          refine bodyPost_ret (v := .tuple #[.agg #[.int .i64 k', .string a'.n, .int .i64 a'.op, .int .i64 a'.v, .int .i64 a'.sl, .string a'.f, .bool a'.on, .string fl', .bool nt', .slice kp' kids'.length kc'], .bool true]) ?_ rfl ?_
          · simp [results, Tryz.results47, go_sem, hcW]
          show NeedDone _ _ w _ W
          rw [HQ.out]
          obtain ⟨d1, d2⟩ := done_lift (X := w.heap.size) (w := w) (Nat.le_refl _) hl1 HN3.out HR3.out hlr OW.out SW.out
          exact ⟨_, ws3, rfl, d1, d2, HM3.out, apart_set A3.out KW.out (Nat.le_refl _)⟩
      · have HRES := hid (rd_leaf (g := g) (ws := ws.map (·.data.toList)) HSUF.out HW1.out hv1)
        clear hv1
        go_wp2_with fail
        refine (leaf_any wd W1 (HE.out.apart HO.out hlr A1.out)).mono ?_
        rintro e w3 hdone
        cases hq : rdLeaf wd.data.toList with
        | none =>
          unfold LeafDone at hdone
          rw [hq] at hdone
          obtain ⟨rfl, k3⟩ := hdone
          have HQ : Hid (rdNeed (g + 1) wd.data.toList (ws.map (·.data.toList)) = none) := by show _ = _; rw [HRES.out, hq]; rfl
          have R3 := hid (R1.out.keep k3 hl1)
          have A3 := hid (A1.out.trans (one_keep k3))
          clear hq k3
          unfold zeroV
          obtain ⟨hcr, hzr, hlr3⟩ := R3.out.facts
          go_wp2_with fail
          obtain ⟨b1, b2, b3, b4⟩ := R3.out.set rfl (.int .i64 0) (.string ⟨#[]⟩) (.int .i64 0) (.int .i64 0) (.int .i64 0) (.string ⟨#[]⟩) (.bool false) (.string ⟨#[]⟩) (.bool false) (.slice none 0 0)
          have BW : Hid (NBox (w.heap.size) #[.int .i64 0, .string ⟨#[]⟩, .int .i64 0, .int .i64 0, .int .i64 0, .string ⟨#[]⟩, .bool false, .string ⟨#[]⟩, .bool false, .slice none 0 0] ((((((((((w3.setCell ⟨w.heap.size, 0, none⟩ (.int .i64 0)).setCell ⟨w.heap.size, 1, none⟩ (.string ⟨#[]⟩)).setCell ⟨w.heap.size, 2, none⟩ (.int .i64 0)).setCell ⟨w.heap.size, 3, none⟩ (.int .i64 0)).setCell ⟨w.heap.size, 4, none⟩ (.int .i64 0)).setCell ⟨w.heap.size, 5, none⟩ (.string ⟨#[]⟩)).setCell ⟨w.heap.size, 6, none⟩ (.bool false)).setCell ⟨w.heap.size, 7, none⟩ (.string ⟨#[]⟩)).setCell ⟨w.heap.size, 8, none⟩ (.bool false)).setCell ⟨w.heap.size, 9, none⟩ (.slice none 0 0))) := b1
          have KW : Hid (Below (w.heap.size) w3 ((((((((((w3.setCell ⟨w.heap.size, 0, none⟩ (.int .i64 0)).setCell ⟨w.heap.size, 1, none⟩ (.string ⟨#[]⟩)).setCell ⟨w.heap.size, 2, none⟩ (.int .i64 0)).setCell ⟨w.heap.size, 3, none⟩ (.int .i64 0)).setCell ⟨w.heap.size, 4, none⟩ (.int .i64 0)).setCell ⟨w.heap.size, 5, none⟩ (.string ⟨#[]⟩)).setCell ⟨w.heap.size, 6, none⟩ (.bool false)).setCell ⟨w.heap.size, 7, none⟩ (.string ⟨#[]⟩)).setCell ⟨w.heap.size, 8, none⟩ (.bool false)).setCell ⟨w.heap.size, 9, none⟩ (.slice none 0 0))) := b2
          have SW : Hid (((((((((((w3.setCell ⟨w.heap.size, 0, none⟩ (.int .i64 0)).setCell ⟨w.heap.size, 1, none⟩ (.string ⟨#[]⟩)).setCell ⟨w.heap.size, 2, none⟩ (.int .i64 0)).setCell ⟨w.heap.size, 3, none⟩ (.int .i64 0)).setCell ⟨w.heap.size, 4, none⟩ (.int .i64 0)).setCell ⟨w.heap.size, 5, none⟩ (.string ⟨#[]⟩)).setCell ⟨w.heap.size, 6, none⟩ (.bool false)).setCell ⟨w.heap.size, 7, none⟩ (.string ⟨#[]⟩)).setCell ⟨w.heap.size, 8, none⟩ (.bool false)).setCell ⟨w.heap.size, 9, none⟩ (.slice none 0 0)).heap.size = w3.heap.size) := b3
          have OW : Hid (∀ bb, bb ≠ w.heap.size → ((((((((((w3.setCell ⟨w.heap.size, 0, none⟩ (.int .i64 0)).setCell ⟨w.heap.size, 1, none⟩ (.string ⟨#[]⟩)).setCell ⟨w.heap.size, 2, none⟩ (.int .i64 0)).setCell ⟨w.heap.size, 3, none⟩ (.int .i64 0)).setCell ⟨w.heap.size, 4, none⟩ (.int .i64 0)).setCell ⟨w.heap.size, 5, none⟩ (.string ⟨#[]⟩)).setCell ⟨w.heap.size, 6, none⟩ (.bool false)).setCell ⟨w.heap.size, 7, none⟩ (.string ⟨#[]⟩)).setCell ⟨w.heap.size, 8, none⟩ (.bool false)).setCell ⟨w.heap.size, 9, none⟩ (.slice none 0 0)).heap[bb]? = w3.heap[bb]?) := b4
          clear b1 b2 b3 b4 hcr hzr
          generalize ((((((((((w3.setCell ⟨w.heap.size, 0, none⟩ (.int .i64 0)).setCell ⟨w.heap.size, 1, none⟩ (.string ⟨#[]⟩)).setCell ⟨w.heap.size, 2, none⟩ (.int .i64 0)).setCell ⟨w.heap.size, 3, none⟩ (.int .i64 0)).setCell ⟨w.heap.size, 4, none⟩ (.int .i64 0)).setCell ⟨w.heap.size, 5, none⟩ (.string ⟨#[]⟩)).setCell ⟨w.heap.size, 6, none⟩ (.bool false)).setCell ⟨w.heap.size, 7, none⟩ (.string ⟨#[]⟩)).setCell ⟨w.heap.size, 8, none⟩ (.bool false)).setCell ⟨w.heap.size, 9, none⟩ (.slice none 0 0)) = W at BW KW SW OW ⊢
          obtain ⟨hcW, _, _⟩ := BW.out.facts
          refine bodyPost_ret (v := .tuple #[.agg #[.int .i64 0, .string ⟨#[]⟩, .int .i64 0, .int .i64 0, .int .i64 0, .string ⟨#[]⟩, .bool false, .string ⟨#[]⟩, .bool false, .slice none 0 0], .bool false]) ?_ rfl ?_
          · simp [results, Tryz.results47, go_sem, hcW]
          show NeedDone _ _ w _ W
          rw [HQ.out]
          exact ⟨rfl, apart_set A3.out KW.out (Nat.le_refl _)⟩
        | some tt =>
          unfold LeafDone at hdone
          rw [hq] at hdone
          obtain ⟨cs, rfl, hn3, k3⟩ := hdone
          have HQ : Hid (rdNeed (g + 1) wd.data.toList (ws.map (·.data.toList)) = some (tt, ws.map (·.data.toList))) := by show _ = _; rw [HRES.out, hq]; rfl
          have R3 := hid (R1.out.keep k3 hl1)
          have A3 := hid (A1.out.trans (one_keep k3))
          have HR3 := hid (HR1.out.keep k3)
          have HN3 := hid (hn3 (fun b => W1.heap.size ≤ b ∧ b < w3.heap.size))
          have hn4 := HN3.out
          clear hq k3 hn3
          cases tt with
          | node k' a' fl' nt' kids' =>
          rw [NeedIs] at hn4
          obtain ⟨kp', kc', rfl, -, -, -⟩ := hn4
          obtain ⟨hcr, hzr, hlr3⟩ := R3.out.facts
          go_wp2_with fail
          obtain ⟨b1, b2, b3, b4⟩ := R3.out.set rfl (.int .i64 k') (.string a'.n) (.int .i64 a'.op) (.int .i64 a'.v) (.int .i64 a'.sl) (.string a'.f) (.bool a'.on) (.string fl') (.bool nt') (.slice kp' kids'.length kc')
          have BW : Hid (NBox (w.heap.size) #[.int .i64 k', .string a'.n, .int .i64 a'.op, .int .i64 a'.v, .int .i64 a'.sl, .string a'.f, .bool a'.on, .string fl', .bool nt', .slice kp' kids'.length kc'] ((((((((((w3.setCell ⟨w.heap.size, 0, none⟩ (.int .i64 k')).setCell ⟨w.heap.size, 1, none⟩ (.string a'.n)).setCell ⟨w.heap.size, 2, none⟩ (.int .i64 a'.op)).setCell ⟨w.heap.size, 3, none⟩ (.int .i64 a'.v)).setCell ⟨w.heap.size, 4, none⟩ (.int .i64 a'.sl)).setCell ⟨w.heap.size, 5, none⟩ (.string a'.f)).setCell ⟨w.heap.size, 6, none⟩ (.bool a'.on)).setCell ⟨w.heap.size, 7, none⟩ (.string fl')).setCell ⟨w.heap.size, 8, none⟩ (.bool nt')).setCell ⟨w.heap.size, 9, none⟩ (.slice kp' kids'.length kc'))) := b1
          have KW : Hid (Below (w.heap.size) w3 ((((((((((w3.setCell ⟨w.heap.size, 0, none⟩ (.int .i64 k')).setCell ⟨w.heap.size, 1, none⟩ (.string a'.n)).setCell ⟨w.heap.size, 2, none⟩ (.int .i64 a'.op)).setCell ⟨w.heap.size, 3, none⟩ (.int .i64 a'.v)).setCell ⟨w.heap.size, 4, none⟩ (.int .i64 a'.sl)).setCell ⟨w.heap.size, 5, none⟩ (.string a'.f)).setCell ⟨w.heap.size, 6, none⟩ (.bool a'.on)).setCell ⟨w.heap.size, 7, none⟩ (.string fl')).setCell ⟨w.heap.size, 8, none⟩ (.bool nt')).setCell ⟨w.heap.size, 9, none⟩ (.slice kp' kids'.length kc'))) := b2
          have SW : Hid (((((((((((w3.setCell ⟨w.heap.size, 0, none⟩ (.int .i64 k')).setCell ⟨w.heap.size, 1, none⟩ (.string a'.n)).setCell ⟨w.heap.size, 2, none⟩ (.int .i64 a'.op)).setCell ⟨w.heap.size, 3, none⟩ (.int .i64 a'.v)).setCell ⟨w.heap.size, 4, none⟩ (.int .i64 a'.sl)).setCell ⟨w.heap.size, 5, none⟩ (.string a'.f)).setCell ⟨w.heap.size, 6, none⟩ (.bool a'.on)).setCell ⟨w.heap.size, 7, none⟩ (.string fl')).setCell ⟨w.heap.size, 8, none⟩ (.bool nt')).setCell ⟨w.heap.size, 9, none⟩ (.slice kp' kids'.length kc')).heap.size = w3.heap.size) := b3
          have OW : Hid (∀ bb, bb ≠ w.heap.size → ((((((((((w3.setCell ⟨w.heap.size, 0, none⟩ (.int .i64 k')).setCell ⟨w.heap.size, 1, none⟩ (.string a'.n)).setCell ⟨w.heap.size, 2, none⟩ (.int .i64 a'.op)).setCell ⟨w.heap.size, 3, none⟩ (.int .i64 a'.v)).setCell ⟨w.heap.size, 4, none⟩ (.int .i64 a'.sl)).setCell ⟨w.heap.size, 5, none⟩ (.string a'.f)).setCell ⟨w.heap.size, 6, none⟩ (.bool a'.on)).setCell ⟨w.heap.size, 7, none⟩ (.string fl')).setCell ⟨w.heap.size, 8, none⟩ (.bool nt')).setCell ⟨w.heap.size, 9, none⟩ (.slice kp' kids'.length kc')).heap[bb]? = w3.heap[bb]?) := b4
          clear b1 b2 b3 b4 hcr hzr
          generalize ((((((((((w3.setCell ⟨w.heap.size, 0, none⟩ (.int .i64 k')).setCell ⟨w.heap.size, 1, none⟩ (.string a'.n)).setCell ⟨w.heap.size, 2, none⟩ (.int .i64 a'.op)).setCell ⟨w.heap.size, 3, none⟩ (.int .i64 a'.v)).setCell ⟨w.heap.size, 4, none⟩ (.int .i64 a'.sl)).setCell ⟨w.heap.size, 5, none⟩ (.string a'.f)).setCell ⟨w.heap.size, 6, none⟩ (.bool a'.on)).setCell ⟨w.heap.size, 7, none⟩ (.string fl')).setCell ⟨w.heap.size, 8, none⟩ (.bool nt')).setCell ⟨w.heap.size, 9, none⟩ (.slice kp' kids'.length kc')) = W at BW KW SW OW ⊢
          obtain ⟨hcW, _, _⟩ := BW.out.facts
          refine bodyPost_ret (v := .tuple #[.agg #[.int .i64 k', .string a'.n, .int .i64 a'.op, .int .i64 a'.v, .int .i64 a'.sl, .string a'.f, .bool a'.on, .string fl', .bool nt', .slice kp' kids'.length kc'], .bool true]) ?_ rfl ?_
          · simp [results, Tryz.results47, go_sem, hcW]
          show NeedDone _ _ w _ W
          rw [HQ.out]
          obtain ⟨d1, d2⟩ := done_lift (X := w.heap.size) (w := w) (Nat.le_refl _) hl1 HN3.out HR3.out hlr OW.out SW.out
          exact ⟨_, ws, rfl, d1, d2, rfl, apart_set A3.out KW.out (Nat.le_refl _)⟩
  · have HRES := hid (rd_if (g := g) (ws := ws.map (·.data.toList)) hsuf)
    clear hsuf
    go_wp2_with fail
    refine (Tryz.strings_CutPrefix _ _ _).mono ?_
    rintro e w2 ⟨rfl, hw2⟩
    rw [hw2, show (⟨#[33]⟩ : ByteArray).data.toList = [33] from rfl, show (⟨(Lib.trimSuffix wd.data.toList [63]).toArray⟩ : ByteArray).data.toList = Lib.trimSuffix wd.data.toList [63] by simp]
    clear hw2 w2
    have hfl : (⟨(flagW wd.data.toList).toArray⟩ : ByteArray).size ≤ 20000 := by
      rw [mk_size]
      have h1 : (flagW wd.data.toList).length ≤ (Lib.trimSuffix wd.data.toList [63]).length := trim_len _ _
      have h2 : (Lib.trimSuffix wd.data.toList [63]).length ≤ wd.data.toList.length := by unfold Lib.trimSuffix; split <;> simp
      rw [size_list] at h2
      omega
    rw [show Lib.trimPrefix (Lib.trimSuffix wd.data.toList [63]) [33] = flagW wd.data.toList from rfl, show Lib.hasPrefix (Lib.trimSuffix wd.data.toList [63]) [33] = notW wd.data.toList from rfl]
    generalize (⟨(flagW wd.data.toList).toArray⟩ : ByteArray) = flx at HRES hfl ⊢
    generalize notW wd.data.toList = ntx at HRES ⊢
    go_wp2_with fail
    refine (clone_any flx W1 (by omega)).mono ?_
    rintro e w2 ⟨rfl, k2⟩
    have R2 := hid (R1.out.keep k2 hl1)
    have A2 := hid (A1.out.trans (one_keep k2))
    have HR2 := hid (HR1.out.keep k2)
    clear k2 hl1 R1 A1 HR1
    have hl1 := R2.out.facts.2.2
    go_wp2_with fail
    refine (group_open g HH.out rb 5 ⟨#[]⟩ ⟨#[]⟩ 0 0 0 false flx ntx ws d w2 hd4 hd1 (HE.out.apart HO.out hlr A2.out) HO.out HR2.out).mono ?_
    rintro e w3 hdone
    have hdone' : NeedDone rb (rdNeed (g + 1) wd.data.toList (ws.map (·.data.toList))) w2 e w3 := by rw [HRES.out]; exact hdone
    clear hdone
    cases hq : rdNeed (g + 1) wd.data.toList (ws.map (·.data.toList)) with
    | none =>
      rw [hq] at hdone'
      obtain ⟨rfl, ha3⟩ := hdone'
      have R3 := hid (R2.out.apart ha3 (by omega))
      have A3 := hid (A2.out.trans ha3)
      have HQ := hid hq
      clear ha3 hq
      unfold zeroV
      obtain ⟨hcr, hzr, hlr3⟩ := R3.out.facts
      go_wp2_with fail
      obtain ⟨b1, b2, b3, b4⟩ := R3.out.set rfl (.int .i64 0) (.string ⟨#[]⟩) (.int .i64 0) (.int .i64 0) (.int .i64 0) (.string ⟨#[]⟩) (.bool false) (.string ⟨#[]⟩) (.bool false) (.slice none 0 0)
      have BW : Hid (NBox (w.heap.size) #[.int .i64 0, .string ⟨#[]⟩, .int .i64 0, .int .i64 0, .int .i64 0, .string ⟨#[]⟩, .bool false, .string ⟨#[]⟩, .bool false, .slice none 0 0] ((((((((((w3.setCell ⟨w.heap.size, 0, none⟩ (.int .i64 0)).setCell ⟨w.heap.size, 1, none⟩ (.string ⟨#[]⟩)).setCell ⟨w.heap.size, 2, none⟩ (.int .i64 0)).setCell ⟨w.heap.size, 3, none⟩ (.int .i64 0)).setCell ⟨w.heap.size, 4, none⟩ (.int .i64 0)).setCell ⟨w.heap.size, 5, none⟩ (.string ⟨#[]⟩)).setCell ⟨w.heap.size, 6, none⟩ (.bool false)).setCell ⟨w.heap.size, 7, none⟩ (.string ⟨#[]⟩)).setCell ⟨w.heap.size, 8, none⟩ (.bool false)).setCell ⟨w.heap.size, 9, none⟩ (.slice none 0 0))) := b1
      have KW : Hid (Below (w.heap.size) w3 ((((((((((w3.setCell ⟨w.heap.size, 0, none⟩ (.int .i64 0)).setCell ⟨w.heap.size, 1, none⟩ (.string ⟨#[]⟩)).setCell ⟨w.heap.size, 2, none⟩ (.int .i64 0)).setCell ⟨w.heap.size, 3, none⟩ (.int .i64 0)).setCell ⟨w.heap.size, 4, none⟩ (.int .i64 0)).setCell ⟨w.heap.size, 5, none⟩ (.string ⟨#[]⟩)).setCell ⟨w.heap.size, 6, none⟩ (.bool false)).setCell ⟨w.heap.size, 7, none⟩ (.string ⟨#[]⟩)).setCell ⟨w.heap.size, 8, none⟩ (.bool false)).setCell ⟨w.heap.size, 9, none⟩ (.slice none 0 0))) := b2
      have SW : Hid (((((((((((w3.setCell ⟨w.heap.size, 0, none⟩ (.int .i64 0)).setCell ⟨w.heap.size, 1, none⟩ (.string ⟨#[]⟩)).setCell ⟨w.heap.size, 2, none⟩ (.int .i64 0)).setCell ⟨w.heap.size, 3, none⟩ (.int .i64 0)).setCell ⟨w.heap.size, 4, none⟩ (.int .i64 0)).setCell ⟨w.heap.size, 5, none⟩ (.string ⟨#[]⟩)).setCell ⟨w.heap.size, 6, none⟩ (.bool false)).setCell ⟨w.heap.size, 7, none⟩ (.string ⟨#[]⟩)).setCell ⟨w.heap.size, 8, none⟩ (.bool false)).setCell ⟨w.heap.size, 9, none⟩ (.slice none 0 0)).heap.size = w3.heap.size) := b3
      have OW : Hid (∀ bb, bb ≠ w.heap.size → ((((((((((w3.setCell ⟨w.heap.size, 0, none⟩ (.int .i64 0)).setCell ⟨w.heap.size, 1, none⟩ (.string ⟨#[]⟩)).setCell ⟨w.heap.size, 2, none⟩ (.int .i64 0)).setCell ⟨w.heap.size, 3, none⟩ (.int .i64 0)).setCell ⟨w.heap.size, 4, none⟩ (.int .i64 0)).setCell ⟨w.heap.size, 5, none⟩ (.string ⟨#[]⟩)).setCell ⟨w.heap.size, 6, none⟩ (.bool false)).setCell ⟨w.heap.size, 7, none⟩ (.string ⟨#[]⟩)).setCell ⟨w.heap.size, 8, none⟩ (.bool false)).setCell ⟨w.heap.size, 9, none⟩ (.slice none 0 0)).heap[bb]? = w3.heap[bb]?) := b4
      clear b1 b2 b3 b4 hcr hzr
      generalize ((((((((((w3.setCell ⟨w.heap.size, 0, none⟩ (.int .i64 0)).setCell ⟨w.heap.size, 1, none⟩ (.string ⟨#[]⟩)).setCell ⟨w.heap.size, 2, none⟩ (.int .i64 0)).setCell ⟨w.heap.size, 3, none⟩ (.int .i64 0)).setCell ⟨w.heap.size, 4, none⟩ (.int .i64 0)).setCell ⟨w.heap.size, 5, none⟩ (.string ⟨#[]⟩)).setCell ⟨w.heap.size, 6, none⟩ (.bool false)).setCell ⟨w.heap.size, 7, none⟩ (.string ⟨#[]⟩)).setCell ⟨w.heap.size, 8, none⟩ (.bool false)).setCell ⟨w.heap.size, 9, none⟩ (.slice none 0 0)) = W at BW KW SW OW ⊢
      obtain ⟨hcW, _, _⟩ := BW.out.facts
      refine bodyPost_ret (v := .tuple #[.agg #[.int .i64 0, .string ⟨#[]⟩, .int .i64 0, .int .i64 0, .int .i64 0, .string ⟨#[]⟩, .bool false, .string ⟨#[]⟩, .bool false, .slice none 0 0], .bool false]) ?_ rfl ?_
      · simp [results, Tryz.results47, go_sem, hcW]
      show NeedDone _ _ w _ W
      rw [HQ.out]
      exact ⟨rfl, apart_set A3.out KW.out (Nat.le_refl _)⟩
    | some r =>
      obtain ⟨t, rs⟩ := r
      rw [hq] at hdone'
      obtain ⟨cs, ws3, rfl, hn3, hr3, hm3, ha3⟩ := hdone'
      have R3 := hid (R2.out.apart ha3 (by omega))
      have A3 := hid (A2.out.trans ha3)
      have HQ := hid hq
      have HN3 := hid hn3
      have HR3 := hid hr3
      have HM3 := hid hm3
      clear ha3 hq hr3 hm3
      cases t with
      | node k' a' fl' nt' kids' =>
      rw [NeedIs] at hn3
      obtain ⟨kp', kc', rfl, -, -, -⟩ := hn3
      obtain ⟨hcr, hzr, hlr3⟩ := R3.out.facts
      go_wp2_with fail
      obtain ⟨b1, b2, b3, b4⟩ := R3.out.set rfl (.int .i64 k') (.string a'.n) (.int .i64 a'.op) (.int .i64 a'.v) (.int .i64 a'.sl) (.string a'.f) (.bool a'.on) (.string fl') (.bool nt') (.slice kp' kids'.length kc')
      have BW : Hid (NBox (w.heap.size) #[.int .i64 k', .string a'.n, .int .i64 a'.op, .int .i64 a'.v, .int .i64 a'.sl, .string a'.f, .bool a'.on, .string fl', .bool nt', .slice kp' kids'.length kc'] ((((((((((w3.setCell ⟨w.heap.size, 0, none⟩ (.int .i64 k')).setCell ⟨w.heap.size, 1, none⟩ (.string a'.n)).setCell ⟨w.heap.size, 2, none⟩ (.int .i64 a'.op)).setCell ⟨w.heap.size, 3, none⟩ (.int .i64 a'.v)).setCell ⟨w.heap.size, 4, none⟩ (.int .i64 a'.sl)).setCell ⟨w.heap.size, 5, none⟩ (.string a'.f)).setCell ⟨w.heap.size, 6, none⟩ (.bool a'.on)).setCell ⟨w.heap.size, 7, none⟩ (.string fl')).setCell ⟨w.heap.size, 8, none⟩ (.bool nt')).setCell ⟨w.heap.size, 9, none⟩ (.slice kp' kids'.length kc'))) := b1
      have KW : Hid (Below (w.heap.size) w3 ((((((((((w3.setCell ⟨w.heap.size, 0, none⟩ (.int .i64 k')).setCell ⟨w.heap.size, 1, none⟩ (.string a'.n)).setCell ⟨w.heap.size, 2, none⟩ (.int .i64 a'.op)).setCell ⟨w.heap.size, 3, none⟩ (.int .i64 a'.v)).setCell ⟨w.heap.size, 4, none⟩ (.int .i64 a'.sl)).setCell ⟨w.heap.size, 5, none⟩ (.string a'.f)).setCell ⟨w.heap.size, 6, none⟩ (.bool a'.on)).setCell ⟨w.heap.size, 7, none⟩ (.string fl')).setCell ⟨w.heap.size, 8, none⟩ (.bool nt')).setCell ⟨w.heap.size, 9, none⟩ (.slice kp' kids'.length kc'))) := b2
      have SW : Hid (((((((((((w3.setCell ⟨w.heap.size, 0, none⟩ (.int .i64 k')).setCell ⟨w.heap.size, 1, none⟩ (.string a'.n)).setCell ⟨w.heap.size, 2, none⟩ (.int .i64 a'.op)).setCell ⟨w.heap.size, 3, none⟩ (.int .i64 a'.v)).setCell ⟨w.heap.size, 4, none⟩ (.int .i64 a'.sl)).setCell ⟨w.heap.size, 5, none⟩ (.string a'.f)).setCell ⟨w.heap.size, 6, none⟩ (.bool a'.on)).setCell ⟨w.heap.size, 7, none⟩ (.string fl')).setCell ⟨w.heap.size, 8, none⟩ (.bool nt')).setCell ⟨w.heap.size, 9, none⟩ (.slice kp' kids'.length kc')).heap.size = w3.heap.size) := b3
      have OW : Hid (∀ bb, bb ≠ w.heap.size → ((((((((((w3.setCell ⟨w.heap.size, 0, none⟩ (.int .i64 k')).setCell ⟨w.heap.size, 1, none⟩ (.string a'.n)).setCell ⟨w.heap.size, 2, none⟩ (.int .i64 a'.op)).setCell ⟨w.heap.size, 3, none⟩ (.int .i64 a'.v)).setCell ⟨w.heap.size, 4, none⟩ (.int .i64 a'.sl)).setCell ⟨w.heap.size, 5, none⟩ (.string a'.f)).setCell ⟨w.heap.size, 6, none⟩ (.bool a'.on)).setCell ⟨w.heap.size, 7, none⟩ (.string fl')).setCell ⟨w.heap.size, 8, none⟩ (.bool nt')).setCell ⟨w.heap.size, 9, none⟩ (.slice kp' kids'.length kc')).heap[bb]? = w3.heap[bb]?) := b4
      clear b1 b2 b3 b4 hcr hzr
      generalize ((((((((((w3.setCell ⟨w.heap.size, 0, none⟩ (.int .i64 k')).setCell ⟨w.heap.size, 1, none⟩ (.string a'.n)).setCell ⟨w.heap.size, 2, none⟩ (.int .i64 a'.op)).setCell ⟨w.heap.size, 3, none⟩ (.int .i64 a'.v)).setCell ⟨w.heap.size, 4, none⟩ (.int .i64 a'.sl)).setCell ⟨w.heap.size, 5, none⟩ (.string a'.f)).setCell ⟨w.heap.size, 6, none⟩ (.bool a'.on)).setCell ⟨w.heap.size, 7, none⟩ (.string fl')).setCell ⟨w.heap.size, 8, none⟩ (.bool nt')).setCell ⟨w.heap.size, 9, none⟩ (.slice kp' kids'.length kc')) = W at BW KW SW OW ⊢
      obtain ⟨hcW, _, _⟩ := BW.out.facts
      refine bodyPost_ret (v := .tuple #[.agg #[.int .i64 k', .string a'.n, .int .i64 a'.op, .int .i64 a'.v, .int .i64 a'.sl, .string a'.f, .bool a'.on, .string fl', .bool nt', .slice kp' kids'.length kc'], .bool true]) ?_ rfl ?_
      · simp [results, Tryz.results47, go_sem, hcW]
      show NeedDone _ _ w _ W
      rw [HQ.out]
      obtain ⟨d1, d2⟩ := done_lift (X := w.heap.size) (w := w) (Nat.le_refl _) hl1 HN3.out HR3.out hlr OW.out SW.out
      exact ⟨_, ws3, rfl, d1, d2, HM3.out, apart_set A3.out KW.out (Nat.le_refl _)⟩

theorem need_reads : ∀ g : Nat, NeedReads g
  | 0 => need_zero
  | g + 1 => need_succ g (need_reads g)
end Go.Proofs.YtnagpmilagdjeaaGreatDoor
