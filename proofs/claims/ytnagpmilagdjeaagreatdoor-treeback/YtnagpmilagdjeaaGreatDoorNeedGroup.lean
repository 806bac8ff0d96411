/- group reads the word that opens a group, then its kids. -/
import Derived.Test.YtnagpmilagdjeaaGreatDoorNeedKids
namespace Go.Proofs.YtnagpmilagdjeaaGreatDoor
open Go.RowKit

/-- What was read stands, with the result's own block written. -/
theorem done_lift {rb X : Nat} {t : NT} {cs : List Value} {ws : List ByteArray} {w wk w3 W : World} (hX : w.heap.size ≤ X) (hXk : X < wk.heap.size) (hn : NeedIs (fun b => wk.heap.size ≤ b ∧ b < w3.heap.size) w3 t cs) (hr : RdS rb ws w3) (hrb : rb < w.heap.size)
    (hO : ∀ b, b ≠ X → W.heap[b]? = w3.heap[b]?) (hS : W.heap.size = w3.heap.size) : NeedIs (fun b => w.heap.size ≤ b ∧ b < W.heap.size) W t cs ∧ RdS rb ws W := by
  refine ⟨NeedIs.mono (fun p hp => World.cell?_of_block (w := w3) (hO _ (by omega))) (fun b hb => ⟨by omega, by omega⟩) t cs hn, hr.other (fun b hb => hO b (by omega))⟩

/-- What group reads. -/
def rdGroup (g : Nat) (k : Int) (a : At) (fl : ByteArray) (nt : Bool) (ws : List Word) : Option (NT × List Word) := if k = 5 ∧ nameB fl.data.toList = false then none else openBy (rdNeed g) (.node k a fl nt) ws

set_option maxHeartbeats 2000000 in
set_option maxRecDepth 100000 in
theorem group_open (g : Nat) (H : NeedReads g) (rb : Nat) (k : Int) (n f : ByteArray) (op v sl : Int) (on : Bool) (fl : ByteArray) (nt : Bool) (ws : List ByteArray) (d : Int) (w : World) (hd : d + g = 4) (hd1 : 1 ≤ d) (hE : Env w) (hO : Old rb) (hr : RdS rb ws w) :
    Calls Tryz.prog 102 #[.pointer (some ⟨rb, 0, none⟩), .agg #[.int .i64 k, .string n, .int .i64 op, .int .i64 v, .int .i64 sl, .string f, .bool on, .string fl, .bool nt, .slice none 0 0], .int .i64 d] w
      fun e w' => NeedDone rb (rdGroup g k ⟨n, op, v, sl, f, on⟩ fl nt (ws.map (·.data.toList))) w e w' := by
  have hlr := hr.1.lt
  have HE := hid hE
  have HO := hid hO
  have HH := hid H
  have HR0 := hid (hr.keep (Keep.alloc w (.cells #[.int .i64 k, .string n, .int .i64 op, .int .i64 v, .int .i64 sl, .string f, .bool on, .string fl, .bool nt, .slice none 0 0] 26)))
  have e0 := alloc_size w (.cells #[.int .i64 k, .string n, .int .i64 op, .int .i64 v, .int .i64 sl, .string f, .bool on, .string fl, .bool nt, .slice none 0 0] 26)
  have b0 := NBox.new w #[.int .i64 k, .string n, .int .i64 op, .int .i64 v, .int .i64 sl, .string f, .bool on, .string fl, .bool nt, .slice none 0 0]
  have r0 := NBox.new (w.alloc (.cells #[.int .i64 k, .string n, .int .i64 op, .int .i64 v, .int .i64 sl, .string f, .bool on, .string fl, .bool nt, .slice none 0 0] 26)) #[.int .i64 0, .string ⟨#[]⟩, .int .i64 0, .int .i64 0, .int .i64 0, .string ⟨#[]⟩, .bool false, .string ⟨#[]⟩, .bool false, .slice none 0 0]
  rw [e0] at r0
  have B1 := hid (b0.keep (Keep.alloc (w.alloc (.cells #[.int .i64 k, .string n, .int .i64 op, .int .i64 v, .int .i64 sl, .string f, .bool on, .string fl, .bool nt, .slice none 0 0] 26)) (.cells #[.int .i64 0, .string ⟨#[]⟩, .int .i64 0, .int .i64 0, .int .i64 0, .string ⟨#[]⟩, .bool false, .string ⟨#[]⟩, .bool false, .slice none 0 0] 26)) b0.facts.2.2)
  have R1 := hid r0
  have A1 : Hid (Apart (One rb) w ((w.alloc (.cells #[.int .i64 k, .string n, .int .i64 op, .int .i64 v, .int .i64 sl, .string f, .bool on, .string fl, .bool nt, .slice none 0 0] 26)).alloc (.cells #[.int .i64 0, .string ⟨#[]⟩, .int .i64 0, .int .i64 0, .int .i64 0, .string ⟨#[]⟩, .bool false, .string ⟨#[]⟩, .bool false, .slice none 0 0] 26))) := (apart_alloc _ _).trans (apart_alloc _ _)
  have HR1 := hid (HR0.out.keep (Keep.alloc _ (.cells #[.int .i64 0, .string ⟨#[]⟩, .int .i64 0, .int .i64 0, .int .i64 0, .string ⟨#[]⟩, .bool false, .string ⟨#[]⟩, .bool false, .slice none 0 0] 26)))
  clear hE hO H HR0 e0 b0 r0 hr
  by_cases hbad : k = 5 ∧ nameB fl.data.toList = false
  · have hk5 : (k == 5) = true := by simp [hbad.1]
    have HNM : Hid (nameB fl.data.toList = false) := hbad.2
    have HRES : Hid (rdGroup g k ⟨n, op, v, sl, f, on⟩ fl nt (ws.map (·.data.toList)) = none) := by show _ = _; unfold rdGroup; rw [if_pos hbad]
    clear hbad
    go_enter Tryz.func102, Tryz.ntmps102
    go_wp2_with fail
    generalize (w.alloc (.cells #[.int .i64 k, .string n, .int .i64 op, .int .i64 v, .int .i64 sl, .string f, .bool on, .string fl, .bool nt, .slice none 0 0] 26)).alloc (.cells #[.int .i64 0, .string ⟨#[]⟩, .int .i64 0, .int .i64 0, .int .i64 0, .string ⟨#[]⟩, .bool false, .string ⟨#[]⟩, .bool false, .slice none 0 0] 26) = W1 at B1 R1 A1 HR1 ⊢
    refine (name_any _ _).mono ?_
    rintro e w2 ⟨rfl, hw2⟩
    rw [HNM.out, hw2]
    clear hw2 w2
    obtain ⟨hcr, hzr, hlr3⟩ := R1.out.facts
    go_wp2_with fail
    obtain ⟨b1, b2, b3, b4⟩ := R1.out.set rfl (.int .i64 0) (.string ⟨#[]⟩) (.int .i64 0) (.int .i64 0) (.int .i64 0) (.string ⟨#[]⟩) (.bool false) (.string ⟨#[]⟩) (.bool false) (.slice none 0 0)
    have BW : Hid (NBox (w.heap.size + 1) #[.int .i64 0, .string ⟨#[]⟩, .int .i64 0, .int .i64 0, .int .i64 0, .string ⟨#[]⟩, .bool false, .string ⟨#[]⟩, .bool false, .slice none 0 0] ((((((((((W1.setCell ⟨w.heap.size + 1, 0, none⟩ (.int .i64 0)).setCell ⟨w.heap.size + 1, 1, none⟩ (.string ⟨#[]⟩)).setCell ⟨w.heap.size + 1, 2, none⟩ (.int .i64 0)).setCell ⟨w.heap.size + 1, 3, none⟩ (.int .i64 0)).setCell ⟨w.heap.size + 1, 4, none⟩ (.int .i64 0)).setCell ⟨w.heap.size + 1, 5, none⟩ (.string ⟨#[]⟩)).setCell ⟨w.heap.size + 1, 6, none⟩ (.bool false)).setCell ⟨w.heap.size + 1, 7, none⟩ (.string ⟨#[]⟩)).setCell ⟨w.heap.size + 1, 8, none⟩ (.bool false)).setCell ⟨w.heap.size + 1, 9, none⟩ (.slice none 0 0))) := b1
    have KW : Hid (Below (w.heap.size + 1) W1 ((((((((((W1.setCell ⟨w.heap.size + 1, 0, none⟩ (.int .i64 0)).setCell ⟨w.heap.size + 1, 1, none⟩ (.string ⟨#[]⟩)).setCell ⟨w.heap.size + 1, 2, none⟩ (.int .i64 0)).setCell ⟨w.heap.size + 1, 3, none⟩ (.int .i64 0)).setCell ⟨w.heap.size + 1, 4, none⟩ (.int .i64 0)).setCell ⟨w.heap.size + 1, 5, none⟩ (.string ⟨#[]⟩)).setCell ⟨w.heap.size + 1, 6, none⟩ (.bool false)).setCell ⟨w.heap.size + 1, 7, none⟩ (.string ⟨#[]⟩)).setCell ⟨w.heap.size + 1, 8, none⟩ (.bool false)).setCell ⟨w.heap.size + 1, 9, none⟩ (.slice none 0 0))) := b2
    have SW : Hid (((((((((((W1.setCell ⟨w.heap.size + 1, 0, none⟩ (.int .i64 0)).setCell ⟨w.heap.size + 1, 1, none⟩ (.string ⟨#[]⟩)).setCell ⟨w.heap.size + 1, 2, none⟩ (.int .i64 0)).setCell ⟨w.heap.size + 1, 3, none⟩ (.int .i64 0)).setCell ⟨w.heap.size + 1, 4, none⟩ (.int .i64 0)).setCell ⟨w.heap.size + 1, 5, none⟩ (.string ⟨#[]⟩)).setCell ⟨w.heap.size + 1, 6, none⟩ (.bool false)).setCell ⟨w.heap.size + 1, 7, none⟩ (.string ⟨#[]⟩)).setCell ⟨w.heap.size + 1, 8, none⟩ (.bool false)).setCell ⟨w.heap.size + 1, 9, none⟩ (.slice none 0 0)).heap.size = W1.heap.size) := b3
    have OW : Hid (∀ bb, bb ≠ w.heap.size + 1 → ((((((((((W1.setCell ⟨w.heap.size + 1, 0, none⟩ (.int .i64 0)).setCell ⟨w.heap.size + 1, 1, none⟩ (.string ⟨#[]⟩)).setCell ⟨w.heap.size + 1, 2, none⟩ (.int .i64 0)).setCell ⟨w.heap.size + 1, 3, none⟩ (.int .i64 0)).setCell ⟨w.heap.size + 1, 4, none⟩ (.int .i64 0)).setCell ⟨w.heap.size + 1, 5, none⟩ (.string ⟨#[]⟩)).setCell ⟨w.heap.size + 1, 6, none⟩ (.bool false)).setCell ⟨w.heap.size + 1, 7, none⟩ (.string ⟨#[]⟩)).setCell ⟨w.heap.size + 1, 8, none⟩ (.bool false)).setCell ⟨w.heap.size + 1, 9, none⟩ (.slice none 0 0)).heap[bb]? = W1.heap[bb]?) := b4
    clear b1 b2 b3 b4 hcr hzr
    generalize ((((((((((W1.setCell ⟨w.heap.size + 1, 0, none⟩ (.int .i64 0)).setCell ⟨w.heap.size + 1, 1, none⟩ (.string ⟨#[]⟩)).setCell ⟨w.heap.size + 1, 2, none⟩ (.int .i64 0)).setCell ⟨w.heap.size + 1, 3, none⟩ (.int .i64 0)).setCell ⟨w.heap.size + 1, 4, none⟩ (.int .i64 0)).setCell ⟨w.heap.size + 1, 5, none⟩ (.string ⟨#[]⟩)).setCell ⟨w.heap.size + 1, 6, none⟩ (.bool false)).setCell ⟨w.heap.size + 1, 7, none⟩ (.string ⟨#[]⟩)).setCell ⟨w.heap.size + 1, 8, none⟩ (.bool false)).setCell ⟨w.heap.size + 1, 9, none⟩ (.slice none 0 0)) = W at BW KW SW OW ⊢
    obtain ⟨hcW, _, _⟩ := BW.out.facts
    refine bodyPost_ret (v := .tuple #[.agg #[.int .i64 0, .string ⟨#[]⟩, .int .i64 0, .int .i64 0, .int .i64 0, .string ⟨#[]⟩, .bool false, .string ⟨#[]⟩, .bool false, .slice none 0 0], .bool false]) ?_ rfl ?_
    · simp [results, Tryz.results102, go_sem, hcW]
    show NeedDone _ _ w _ W
    rw [HRES.out]
    exact ⟨rfl, apart_set A1.out KW.out (by omega)⟩
  · have HRES : Hid (rdGroup g k ⟨n, op, v, sl, f, on⟩ fl nt (ws.map (·.data.toList)) = openBy (rdNeed g) (.node k ⟨n, op, v, sl, f, on⟩ fl nt) (ws.map (·.data.toList))) := by show _ = _; unfold rdGroup; rw [if_neg hbad]
    have hways : ((k == 5) = true ∧ Hid (nameB fl.data.toList = true)) ∨ (k == 5) = false := by
      by_cases e : k = 5
      · left
        refine ⟨by simp [e], ?_⟩
        cases hn : nameB fl.data.toList
        · exact absurd ⟨e, hn⟩ hbad
        · rfl
      · right; simp [e]
    clear hbad
    go_enter Tryz.func102, Tryz.ntmps102
    go_upto_region 1 with fail
    generalize (w.alloc (.cells #[.int .i64 k, .string n, .int .i64 op, .int .i64 v, .int .i64 sl, .string f, .bool on, .string fl, .bool nt, .slice none 0 0] 26)).alloc (.cells #[.int .i64 0, .string ⟨#[]⟩, .int .i64 0, .int .i64 0, .int .i64 0, .string ⟨#[]⟩, .bool false, .string ⟨#[]⟩, .bool false, .slice none 0 0] 26) = W1 at B1 R1 A1 HR1 ⊢
    obtain ⟨hcb, hzb, hlb⟩ := B1.out.facts
    rcases hways with ⟨hk5, HNM⟩ | hk5
    · go_wp2_with fail
      refine (name_any _ _).mono ?_
      rintro e w2 ⟨rfl, hw2⟩
      rw [HNM.out, hw2]
      clear hw2 w2
      go_wp2_with fail
      refine (rdS_next rb ws W1 HR1.out).mono ?_
      rintro e w2 ⟨rfl, hr2, hl2, ha2⟩
      have B2 := hid (B1.out.apart ha2 (by omega))
      have R2 := hid (R1.out.apart ha2 (by omega))
      have A2 := hid (A1.out.trans ha2)
      have HR2 := hid hr2
      have hlr2 := hr2.1.lt
      have HX2 : Hid (openBy (rdNeed g) (.node k ⟨n, op, v, sl, f, on⟩ fl nt) (ws.map (·.data.toList)) = if (ws.headD ⟨#[]⟩).data.toList = [40] then kidsAll (rdNeed g) (.node k ⟨n, op, v, sl, f, on⟩ fl nt) (ws.tail.map (·.data.toList)) else none) := by
        cases ws with
        | nil => rfl
        | cons x ws => rfl
      generalize ws.headD ⟨#[]⟩ = x0 at hl2 HX2 ⊢
      generalize ws.tail = tl at HR2 hr2 HX2
      clear hr2 hl2 ha2 hcb hzb
      obtain ⟨hcb, hzb, hlb⟩ := B2.out.facts
      rcases word_is x0 [40] with ⟨hw1, hw2, hw3⟩ | ⟨hw1, hw2, hw3⟩
      · have HRES2 : Hid (rdGroup g k ⟨n, op, v, sl, f, on⟩ fl nt (ws.map (·.data.toList)) = kidsAll (rdNeed g) (.node k ⟨n, op, v, sl, f, on⟩ fl nt) (tl.map (·.data.toList))) := by show _ = _; rw [HRES.out, HX2.out, if_pos hw1]
        clear hw1 HX2
        go_wp2_with fail
        refine (kids_any g HH.out rb k n f op v sl on fl nt tl d w2 hd hd1 (HE.out.apart HO.out hlr A2.out) HO.out HR2.out).mono ?_
        rintro e w3 hdone
        rw [← HRES2.out] at hdone
        clear hcb hzb
        cases hq : rdGroup g k ⟨n, op, v, sl, f, on⟩ fl nt (ws.map (·.data.toList)) with
        | none =>
          rw [hq] at hdone
          obtain ⟨rfl, ha3⟩ := hdone
          have R3 := hid (R2.out.apart ha3 (by omega))
          have A3 := hid (A2.out.trans ha3)
          have HQ := hid hq
          clear ha3 hq
          unfold zeroV
          obtain ⟨hcr, hzr, hlr3⟩ := R3.out.facts
          go_wp2_with fail
          obtain ⟨b1, b2, b3, b4⟩ := R3.out.set rfl (.int .i64 0) (.string ⟨#[]⟩) (.int .i64 0) (.int .i64 0) (.int .i64 0) (.string ⟨#[]⟩) (.bool false) (.string ⟨#[]⟩) (.bool false) (.slice none 0 0)
          have BW : Hid (NBox (w.heap.size + 1) #[.int .i64 0, .string ⟨#[]⟩, .int .i64 0, .int .i64 0, .int .i64 0, .string ⟨#[]⟩, .bool false, .string ⟨#[]⟩, .bool false, .slice none 0 0] ((((((((((w3.setCell ⟨w.heap.size + 1, 0, none⟩ (.int .i64 0)).setCell ⟨w.heap.size + 1, 1, none⟩ (.string ⟨#[]⟩)).setCell ⟨w.heap.size + 1, 2, none⟩ (.int .i64 0)).setCell ⟨w.heap.size + 1, 3, none⟩ (.int .i64 0)).setCell ⟨w.heap.size + 1, 4, none⟩ (.int .i64 0)).setCell ⟨w.heap.size + 1, 5, none⟩ (.string ⟨#[]⟩)).setCell ⟨w.heap.size + 1, 6, none⟩ (.bool false)).setCell ⟨w.heap.size + 1, 7, none⟩ (.string ⟨#[]⟩)).setCell ⟨w.heap.size + 1, 8, none⟩ (.bool false)).setCell ⟨w.heap.size + 1, 9, none⟩ (.slice none 0 0))) := b1
          have KW : Hid (Below (w.heap.size + 1) w3 ((((((((((w3.setCell ⟨w.heap.size + 1, 0, none⟩ (.int .i64 0)).setCell ⟨w.heap.size + 1, 1, none⟩ (.string ⟨#[]⟩)).setCell ⟨w.heap.size + 1, 2, none⟩ (.int .i64 0)).setCell ⟨w.heap.size + 1, 3, none⟩ (.int .i64 0)).setCell ⟨w.heap.size + 1, 4, none⟩ (.int .i64 0)).setCell ⟨w.heap.size + 1, 5, none⟩ (.string ⟨#[]⟩)).setCell ⟨w.heap.size + 1, 6, none⟩ (.bool false)).setCell ⟨w.heap.size + 1, 7, none⟩ (.string ⟨#[]⟩)).setCell ⟨w.heap.size + 1, 8, none⟩ (.bool false)).setCell ⟨w.heap.size + 1, 9, none⟩ (.slice none 0 0))) := b2
          have SW : Hid (((((((((((w3.setCell ⟨w.heap.size + 1, 0, none⟩ (.int .i64 0)).setCell ⟨w.heap.size + 1, 1, none⟩ (.string ⟨#[]⟩)).setCell ⟨w.heap.size + 1, 2, none⟩ (.int .i64 0)).setCell ⟨w.heap.size + 1, 3, none⟩ (.int .i64 0)).setCell ⟨w.heap.size + 1, 4, none⟩ (.int .i64 0)).setCell ⟨w.heap.size + 1, 5, none⟩ (.string ⟨#[]⟩)).setCell ⟨w.heap.size + 1, 6, none⟩ (.bool false)).setCell ⟨w.heap.size + 1, 7, none⟩ (.string ⟨#[]⟩)).setCell ⟨w.heap.size + 1, 8, none⟩ (.bool false)).setCell ⟨w.heap.size + 1, 9, none⟩ (.slice none 0 0)).heap.size = w3.heap.size) := b3
          have OW : Hid (∀ bb, bb ≠ w.heap.size + 1 → ((((((((((w3.setCell ⟨w.heap.size + 1, 0, none⟩ (.int .i64 0)).setCell ⟨w.heap.size + 1, 1, none⟩ (.string ⟨#[]⟩)).setCell ⟨w.heap.size + 1, 2, none⟩ (.int .i64 0)).setCell ⟨w.heap.size + 1, 3, none⟩ (.int .i64 0)).setCell ⟨w.heap.size + 1, 4, none⟩ (.int .i64 0)).setCell ⟨w.heap.size + 1, 5, none⟩ (.string ⟨#[]⟩)).setCell ⟨w.heap.size + 1, 6, none⟩ (.bool false)).setCell ⟨w.heap.size + 1, 7, none⟩ (.string ⟨#[]⟩)).setCell ⟨w.heap.size + 1, 8, none⟩ (.bool false)).setCell ⟨w.heap.size + 1, 9, none⟩ (.slice none 0 0)).heap[bb]? = w3.heap[bb]?) := b4
          clear b1 b2 b3 b4 hcr hzr
          generalize ((((((((((w3.setCell ⟨w.heap.size + 1, 0, none⟩ (.int .i64 0)).setCell ⟨w.heap.size + 1, 1, none⟩ (.string ⟨#[]⟩)).setCell ⟨w.heap.size + 1, 2, none⟩ (.int .i64 0)).setCell ⟨w.heap.size + 1, 3, none⟩ (.int .i64 0)).setCell ⟨w.heap.size + 1, 4, none⟩ (.int .i64 0)).setCell ⟨w.heap.size + 1, 5, none⟩ (.string ⟨#[]⟩)).setCell ⟨w.heap.size + 1, 6, none⟩ (.bool false)).setCell ⟨w.heap.size + 1, 7, none⟩ (.string ⟨#[]⟩)).setCell ⟨w.heap.size + 1, 8, none⟩ (.bool false)).setCell ⟨w.heap.size + 1, 9, none⟩ (.slice none 0 0)) = W at BW KW SW OW ⊢
          obtain ⟨hcW, _, _⟩ := BW.out.facts
          refine bodyPost_ret (v := .tuple #[.agg #[.int .i64 0, .string ⟨#[]⟩, .int .i64 0, .int .i64 0, .int .i64 0, .string ⟨#[]⟩, .bool false, .string ⟨#[]⟩, .bool false, .slice none 0 0], .bool false]) ?_ rfl ?_
          · simp [results, Tryz.results102, go_sem, hcW]
          show NeedDone _ _ w _ W
          rw [HQ.out]
          exact ⟨rfl, apart_set A3.out KW.out (by omega)⟩
        | some r =>
          obtain ⟨t, rs⟩ := r
          rw [hq] at hdone
          obtain ⟨cs, ws3, rfl, hn3, hr3, hm3, ha3⟩ := hdone
          have R3 := hid (R2.out.apart ha3 (by omega))
          have A3 := hid (A2.out.trans ha3)
          have HQ := hid hq
          have HN3 := hid hn3
          have HR3 := hid hr3
          have HM3 := hid hm3
          have hl2k := R2.out.facts.2.2
          clear ha3 hq hr3 hm3
          cases t with
          | node k' a' fl' nt' kids' =>
          rw [NeedIs] at hn3
          obtain ⟨kp', kc', rfl, -, -, -⟩ := hn3
          obtain ⟨hcr, hzr, hlr3⟩ := R3.out.facts
          go_wp2_with fail
          obtain ⟨b1, b2, b3, b4⟩ := R3.out.set rfl (.int .i64 k') (.string a'.n) (.int .i64 a'.op) (.int .i64 a'.v) (.int .i64 a'.sl) (.string a'.f) (.bool a'.on) (.string fl') (.bool nt') (.slice kp' kids'.length kc')
          have BW : Hid (NBox (w.heap.size + 1) #[.int .i64 k', .string a'.n, .int .i64 a'.op, .int .i64 a'.v, .int .i64 a'.sl, .string a'.f, .bool a'.on, .string fl', .bool nt', .slice kp' kids'.length kc'] ((((((((((w3.setCell ⟨w.heap.size + 1, 0, none⟩ (.int .i64 k')).setCell ⟨w.heap.size + 1, 1, none⟩ (.string a'.n)).setCell ⟨w.heap.size + 1, 2, none⟩ (.int .i64 a'.op)).setCell ⟨w.heap.size + 1, 3, none⟩ (.int .i64 a'.v)).setCell ⟨w.heap.size + 1, 4, none⟩ (.int .i64 a'.sl)).setCell ⟨w.heap.size + 1, 5, none⟩ (.string a'.f)).setCell ⟨w.heap.size + 1, 6, none⟩ (.bool a'.on)).setCell ⟨w.heap.size + 1, 7, none⟩ (.string fl')).setCell ⟨w.heap.size + 1, 8, none⟩ (.bool nt')).setCell ⟨w.heap.size + 1, 9, none⟩ (.slice kp' kids'.length kc'))) := b1
          have KW : Hid (Below (w.heap.size + 1) w3 ((((((((((w3.setCell ⟨w.heap.size + 1, 0, none⟩ (.int .i64 k')).setCell ⟨w.heap.size + 1, 1, none⟩ (.string a'.n)).setCell ⟨w.heap.size + 1, 2, none⟩ (.int .i64 a'.op)).setCell ⟨w.heap.size + 1, 3, none⟩ (.int .i64 a'.v)).setCell ⟨w.heap.size + 1, 4, none⟩ (.int .i64 a'.sl)).setCell ⟨w.heap.size + 1, 5, none⟩ (.string a'.f)).setCell ⟨w.heap.size + 1, 6, none⟩ (.bool a'.on)).setCell ⟨w.heap.size + 1, 7, none⟩ (.string fl')).setCell ⟨w.heap.size + 1, 8, none⟩ (.bool nt')).setCell ⟨w.heap.size + 1, 9, none⟩ (.slice kp' kids'.length kc'))) := b2
          have SW : Hid (((((((((((w3.setCell ⟨w.heap.size + 1, 0, none⟩ (.int .i64 k')).setCell ⟨w.heap.size + 1, 1, none⟩ (.string a'.n)).setCell ⟨w.heap.size + 1, 2, none⟩ (.int .i64 a'.op)).setCell ⟨w.heap.size + 1, 3, none⟩ (.int .i64 a'.v)).setCell ⟨w.heap.size + 1, 4, none⟩ (.int .i64 a'.sl)).setCell ⟨w.heap.size + 1, 5, none⟩ (.string a'.f)).setCell ⟨w.heap.size + 1, 6, none⟩ (.bool a'.on)).setCell ⟨w.heap.size + 1, 7, none⟩ (.string fl')).setCell ⟨w.heap.size + 1, 8, none⟩ (.bool nt')).setCell ⟨w.heap.size + 1, 9, none⟩ (.slice kp' kids'.length kc')).heap.size = w3.heap.size) := b3
          have OW : Hid (∀ bb, bb ≠ w.heap.size + 1 → ((((((((((w3.setCell ⟨w.heap.size + 1, 0, none⟩ (.int .i64 k')).setCell ⟨w.heap.size + 1, 1, none⟩ (.string a'.n)).setCell ⟨w.heap.size + 1, 2, none⟩ (.int .i64 a'.op)).setCell ⟨w.heap.size + 1, 3, none⟩ (.int .i64 a'.v)).setCell ⟨w.heap.size + 1, 4, none⟩ (.int .i64 a'.sl)).setCell ⟨w.heap.size + 1, 5, none⟩ (.string a'.f)).setCell ⟨w.heap.size + 1, 6, none⟩ (.bool a'.on)).setCell ⟨w.heap.size + 1, 7, none⟩ (.string fl')).setCell ⟨w.heap.size + 1, 8, none⟩ (.bool nt')).setCell ⟨w.heap.size + 1, 9, none⟩ (.slice kp' kids'.length kc')).heap[bb]? = w3.heap[bb]?) := b4
          clear b1 b2 b3 b4 hcr hzr
          generalize ((((((((((w3.setCell ⟨w.heap.size + 1, 0, none⟩ (.int .i64 k')).setCell ⟨w.heap.size + 1, 1, none⟩ (.string a'.n)).setCell ⟨w.heap.size + 1, 2, none⟩ (.int .i64 a'.op)).setCell ⟨w.heap.size + 1, 3, none⟩ (.int .i64 a'.v)).setCell ⟨w.heap.size + 1, 4, none⟩ (.int .i64 a'.sl)).setCell ⟨w.heap.size + 1, 5, none⟩ (.string a'.f)).setCell ⟨w.heap.size + 1, 6, none⟩ (.bool a'.on)).setCell ⟨w.heap.size + 1, 7, none⟩ (.string fl')).setCell ⟨w.heap.size + 1, 8, none⟩ (.bool nt')).setCell ⟨w.heap.size + 1, 9, none⟩ (.slice kp' kids'.length kc')) = W at BW KW SW OW ⊢
          obtain ⟨hcW, _, _⟩ := BW.out.facts
          refine bodyPost_ret (v := .tuple #[.agg #[.int .i64 k', .string a'.n, .int .i64 a'.op, .int .i64 a'.v, .int .i64 a'.sl, .string a'.f, .bool a'.on, .string fl', .bool nt', .slice kp' kids'.length kc'], .bool true]) ?_ rfl ?_
          · simp [results, Tryz.results102, go_sem, hcW]
          show NeedDone _ _ w _ W
          rw [HQ.out]
          obtain ⟨d1, d2⟩ := done_lift (X := w.heap.size + 1) (w := w) (by omega) hl2k HN3.out HR3.out hlr OW.out SW.out
          exact ⟨_, ws3, rfl, d1, d2, HM3.out, apart_set A3.out KW.out (by omega)⟩
      · have HRES2 : Hid (rdGroup g k ⟨n, op, v, sl, f, on⟩ fl nt (ws.map (·.data.toList)) = none) := by show _ = _; rw [HRES.out, HX2.out, if_neg hw1]
        clear hw1 HX2 hcb hzb
        obtain ⟨hcr, hzr, hlr3⟩ := R2.out.facts
        go_wp2_with fail
        obtain ⟨b1, b2, b3, b4⟩ := R2.out.set rfl (.int .i64 0) (.string ⟨#[]⟩) (.int .i64 0) (.int .i64 0) (.int .i64 0) (.string ⟨#[]⟩) (.bool false) (.string ⟨#[]⟩) (.bool false) (.slice none 0 0)
        have BW : Hid (NBox (w.heap.size + 1) #[.int .i64 0, .string ⟨#[]⟩, .int .i64 0, .int .i64 0, .int .i64 0, .string ⟨#[]⟩, .bool false, .string ⟨#[]⟩, .bool false, .slice none 0 0] ((((((((((w2.setCell ⟨w.heap.size + 1, 0, none⟩ (.int .i64 0)).setCell ⟨w.heap.size + 1, 1, none⟩ (.string ⟨#[]⟩)).setCell ⟨w.heap.size + 1, 2, none⟩ (.int .i64 0)).setCell ⟨w.heap.size + 1, 3, none⟩ (.int .i64 0)).setCell ⟨w.heap.size + 1, 4, none⟩ (.int .i64 0)).setCell ⟨w.heap.size + 1, 5, none⟩ (.string ⟨#[]⟩)).setCell ⟨w.heap.size + 1, 6, none⟩ (.bool false)).setCell ⟨w.heap.size + 1, 7, none⟩ (.string ⟨#[]⟩)).setCell ⟨w.heap.size + 1, 8, none⟩ (.bool false)).setCell ⟨w.heap.size + 1, 9, none⟩ (.slice none 0 0))) := b1
        have KW : Hid (Below (w.heap.size + 1) w2 ((((((((((w2.setCell ⟨w.heap.size + 1, 0, none⟩ (.int .i64 0)).setCell ⟨w.heap.size + 1, 1, none⟩ (.string ⟨#[]⟩)).setCell ⟨w.heap.size + 1, 2, none⟩ (.int .i64 0)).setCell ⟨w.heap.size + 1, 3, none⟩ (.int .i64 0)).setCell ⟨w.heap.size + 1, 4, none⟩ (.int .i64 0)).setCell ⟨w.heap.size + 1, 5, none⟩ (.string ⟨#[]⟩)).setCell ⟨w.heap.size + 1, 6, none⟩ (.bool false)).setCell ⟨w.heap.size + 1, 7, none⟩ (.string ⟨#[]⟩)).setCell ⟨w.heap.size + 1, 8, none⟩ (.bool false)).setCell ⟨w.heap.size + 1, 9, none⟩ (.slice none 0 0))) := b2
        have SW : Hid (((((((((((w2.setCell ⟨w.heap.size + 1, 0, none⟩ (.int .i64 0)).setCell ⟨w.heap.size + 1, 1, none⟩ (.string ⟨#[]⟩)).setCell ⟨w.heap.size + 1, 2, none⟩ (.int .i64 0)).setCell ⟨w.heap.size + 1, 3, none⟩ (.int .i64 0)).setCell ⟨w.heap.size + 1, 4, none⟩ (.int .i64 0)).setCell ⟨w.heap.size + 1, 5, none⟩ (.string ⟨#[]⟩)).setCell ⟨w.heap.size + 1, 6, none⟩ (.bool false)).setCell ⟨w.heap.size + 1, 7, none⟩ (.string ⟨#[]⟩)).setCell ⟨w.heap.size + 1, 8, none⟩ (.bool false)).setCell ⟨w.heap.size + 1, 9, none⟩ (.slice none 0 0)).heap.size = w2.heap.size) := b3
        have OW : Hid (∀ bb, bb ≠ w.heap.size + 1 → ((((((((((w2.setCell ⟨w.heap.size + 1, 0, none⟩ (.int .i64 0)).setCell ⟨w.heap.size + 1, 1, none⟩ (.string ⟨#[]⟩)).setCell ⟨w.heap.size + 1, 2, none⟩ (.int .i64 0)).setCell ⟨w.heap.size + 1, 3, none⟩ (.int .i64 0)).setCell ⟨w.heap.size + 1, 4, none⟩ (.int .i64 0)).setCell ⟨w.heap.size + 1, 5, none⟩ (.string ⟨#[]⟩)).setCell ⟨w.heap.size + 1, 6, none⟩ (.bool false)).setCell ⟨w.heap.size + 1, 7, none⟩ (.string ⟨#[]⟩)).setCell ⟨w.heap.size + 1, 8, none⟩ (.bool false)).setCell ⟨w.heap.size + 1, 9, none⟩ (.slice none 0 0)).heap[bb]? = w2.heap[bb]?) := b4
        clear b1 b2 b3 b4 hcr hzr
        generalize ((((((((((w2.setCell ⟨w.heap.size + 1, 0, none⟩ (.int .i64 0)).setCell ⟨w.heap.size + 1, 1, none⟩ (.string ⟨#[]⟩)).setCell ⟨w.heap.size + 1, 2, none⟩ (.int .i64 0)).setCell ⟨w.heap.size + 1, 3, none⟩ (.int .i64 0)).setCell ⟨w.heap.size + 1, 4, none⟩ (.int .i64 0)).setCell ⟨w.heap.size + 1, 5, none⟩ (.string ⟨#[]⟩)).setCell ⟨w.heap.size + 1, 6, none⟩ (.bool false)).setCell ⟨w.heap.size + 1, 7, none⟩ (.string ⟨#[]⟩)).setCell ⟨w.heap.size + 1, 8, none⟩ (.bool false)).setCell ⟨w.heap.size + 1, 9, none⟩ (.slice none 0 0)) = W at BW KW SW OW ⊢
        obtain ⟨hcW, _, _⟩ := BW.out.facts
        refine bodyPost_ret (v := .tuple #[.agg #[.int .i64 0, .string ⟨#[]⟩, .int .i64 0, .int .i64 0, .int .i64 0, .string ⟨#[]⟩, .bool false, .string ⟨#[]⟩, .bool false, .slice none 0 0], .bool false]) ?_ rfl ?_
        · simp [results, Tryz.results102, go_sem, hcW]
        show NeedDone _ _ w _ W
        rw [HRES2.out]
        exact ⟨rfl, apart_set A2.out KW.out (by omega)⟩
    · go_wp2_with fail
      refine (rdS_next rb ws W1 HR1.out).mono ?_
      rintro e w2 ⟨rfl, hr2, hl2, ha2⟩
      have B2 := hid (B1.out.apart ha2 (by omega))
      have R2 := hid (R1.out.apart ha2 (by omega))
      have A2 := hid (A1.out.trans ha2)
      have HR2 := hid hr2
      have hlr2 := hr2.1.lt
      have HX2 : Hid (openBy (rdNeed g) (.node k ⟨n, op, v, sl, f, on⟩ fl nt) (ws.map (·.data.toList)) = if (ws.headD ⟨#[]⟩).data.toList = [40] then kidsAll (rdNeed g) (.node k ⟨n, op, v, sl, f, on⟩ fl nt) (ws.tail.map (·.data.toList)) else none) := by
        cases ws with
        | nil => rfl
        | cons x ws => rfl
      generalize ws.headD ⟨#[]⟩ = x0 at hl2 HX2 ⊢
      generalize ws.tail = tl at HR2 hr2 HX2
      clear hr2 hl2 ha2 hcb hzb
      obtain ⟨hcb, hzb, hlb⟩ := B2.out.facts
      rcases word_is x0 [40] with ⟨hw1, hw2, hw3⟩ | ⟨hw1, hw2, hw3⟩
      · have HRES2 : Hid (rdGroup g k ⟨n, op, v, sl, f, on⟩ fl nt (ws.map (·.data.toList)) = kidsAll (rdNeed g) (.node k ⟨n, op, v, sl, f, on⟩ fl nt) (tl.map (·.data.toList))) := by show _ = _; rw [HRES.out, HX2.out, if_pos hw1]
        clear hw1 HX2
        go_wp2_with fail
        refine (kids_any g HH.out rb k n f op v sl on fl nt tl d w2 hd hd1 (HE.out.apart HO.out hlr A2.out) HO.out HR2.out).mono ?_
        rintro e w3 hdone
        rw [← HRES2.out] at hdone
        clear hcb hzb
        cases hq : rdGroup g k ⟨n, op, v, sl, f, on⟩ fl nt (ws.map (·.data.toList)) with
        | none =>
          rw [hq] at hdone
          obtain ⟨rfl, ha3⟩ := hdone
          have R3 := hid (R2.out.apart ha3 (by omega))
          have A3 := hid (A2.out.trans ha3)
          have HQ := hid hq
          clear ha3 hq
          unfold zeroV
          obtain ⟨hcr, hzr, hlr3⟩ := R3.out.facts
          go_wp2_with fail
          obtain ⟨b1, b2, b3, b4⟩ := R3.out.set rfl (.int .i64 0) (.string ⟨#[]⟩) (.int .i64 0) (.int .i64 0) (.int .i64 0) (.string ⟨#[]⟩) (.bool false) (.string ⟨#[]⟩) (.bool false) (.slice none 0 0)
          have BW : Hid (NBox (w.heap.size + 1) #[.int .i64 0, .string ⟨#[]⟩, .int .i64 0, .int .i64 0, .int .i64 0, .string ⟨#[]⟩, .bool false, .string ⟨#[]⟩, .bool false, .slice none 0 0] ((((((((((w3.setCell ⟨w.heap.size + 1, 0, none⟩ (.int .i64 0)).setCell ⟨w.heap.size + 1, 1, none⟩ (.string ⟨#[]⟩)).setCell ⟨w.heap.size + 1, 2, none⟩ (.int .i64 0)).setCell ⟨w.heap.size + 1, 3, none⟩ (.int .i64 0)).setCell ⟨w.heap.size + 1, 4, none⟩ (.int .i64 0)).setCell ⟨w.heap.size + 1, 5, none⟩ (.string ⟨#[]⟩)).setCell ⟨w.heap.size + 1, 6, none⟩ (.bool false)).setCell ⟨w.heap.size + 1, 7, none⟩ (.string ⟨#[]⟩)).setCell ⟨w.heap.size + 1, 8, none⟩ (.bool false)).setCell ⟨w.heap.size + 1, 9, none⟩ (.slice none 0 0))) := b1
          have KW : Hid (Below (w.heap.size + 1) w3 ((((((((((w3.setCell ⟨w.heap.size + 1, 0, none⟩ (.int .i64 0)).setCell ⟨w.heap.size + 1, 1, none⟩ (.string ⟨#[]⟩)).setCell ⟨w.heap.size + 1, 2, none⟩ (.int .i64 0)).setCell ⟨w.heap.size + 1, 3, none⟩ (.int .i64 0)).setCell ⟨w.heap.size + 1, 4, none⟩ (.int .i64 0)).setCell ⟨w.heap.size + 1, 5, none⟩ (.string ⟨#[]⟩)).setCell ⟨w.heap.size + 1, 6, none⟩ (.bool false)).setCell ⟨w.heap.size + 1, 7, none⟩ (.string ⟨#[]⟩)).setCell ⟨w.heap.size + 1, 8, none⟩ (.bool false)).setCell ⟨w.heap.size + 1, 9, none⟩ (.slice none 0 0))) := b2
          have SW : Hid (((((((((((w3.setCell ⟨w.heap.size + 1, 0, none⟩ (.int .i64 0)).setCell ⟨w.heap.size + 1, 1, none⟩ (.string ⟨#[]⟩)).setCell ⟨w.heap.size + 1, 2, none⟩ (.int .i64 0)).setCell ⟨w.heap.size + 1, 3, none⟩ (.int .i64 0)).setCell ⟨w.heap.size + 1, 4, none⟩ (.int .i64 0)).setCell ⟨w.heap.size + 1, 5, none⟩ (.string ⟨#[]⟩)).setCell ⟨w.heap.size + 1, 6, none⟩ (.bool false)).setCell ⟨w.heap.size + 1, 7, none⟩ (.string ⟨#[]⟩)).setCell ⟨w.heap.size + 1, 8, none⟩ (.bool false)).setCell ⟨w.heap.size + 1, 9, none⟩ (.slice none 0 0)).heap.size = w3.heap.size) := b3
          have OW : Hid (∀ bb, bb ≠ w.heap.size + 1 → ((((((((((w3.setCell ⟨w.heap.size + 1, 0, none⟩ (.int .i64 0)).setCell ⟨w.heap.size + 1, 1, none⟩ (.string ⟨#[]⟩)).setCell ⟨w.heap.size + 1, 2, none⟩ (.int .i64 0)).setCell ⟨w.heap.size + 1, 3, none⟩ (.int .i64 0)).setCell ⟨w.heap.size + 1, 4, none⟩ (.int .i64 0)).setCell ⟨w.heap.size + 1, 5, none⟩ (.string ⟨#[]⟩)).setCell ⟨w.heap.size + 1, 6, none⟩ (.bool false)).setCell ⟨w.heap.size + 1, 7, none⟩ (.string ⟨#[]⟩)).setCell ⟨w.heap.size + 1, 8, none⟩ (.bool false)).setCell ⟨w.heap.size + 1, 9, none⟩ (.slice none 0 0)).heap[bb]? = w3.heap[bb]?) := b4
          clear b1 b2 b3 b4 hcr hzr
          generalize ((((((((((w3.setCell ⟨w.heap.size + 1, 0, none⟩ (.int .i64 0)).setCell ⟨w.heap.size + 1, 1, none⟩ (.string ⟨#[]⟩)).setCell ⟨w.heap.size + 1, 2, none⟩ (.int .i64 0)).setCell ⟨w.heap.size + 1, 3, none⟩ (.int .i64 0)).setCell ⟨w.heap.size + 1, 4, none⟩ (.int .i64 0)).setCell ⟨w.heap.size + 1, 5, none⟩ (.string ⟨#[]⟩)).setCell ⟨w.heap.size + 1, 6, none⟩ (.bool false)).setCell ⟨w.heap.size + 1, 7, none⟩ (.string ⟨#[]⟩)).setCell ⟨w.heap.size + 1, 8, none⟩ (.bool false)).setCell ⟨w.heap.size + 1, 9, none⟩ (.slice none 0 0)) = W at BW KW SW OW ⊢
          obtain ⟨hcW, _, _⟩ := BW.out.facts
          refine bodyPost_ret (v := .tuple #[.agg #[.int .i64 0, .string ⟨#[]⟩, .int .i64 0, .int .i64 0, .int .i64 0, .string ⟨#[]⟩, .bool false, .string ⟨#[]⟩, .bool false, .slice none 0 0], .bool false]) ?_ rfl ?_
          · simp [results, Tryz.results102, go_sem, hcW]
          show NeedDone _ _ w _ W
          rw [HQ.out]
          exact ⟨rfl, apart_set A3.out KW.out (by omega)⟩
        | some r =>
          obtain ⟨t, rs⟩ := r
          rw [hq] at hdone
          obtain ⟨cs, ws3, rfl, hn3, hr3, hm3, ha3⟩ := hdone
          have R3 := hid (R2.out.apart ha3 (by omega))
          have A3 := hid (A2.out.trans ha3)
          have HQ := hid hq
          have HN3 := hid hn3
          have HR3 := hid hr3
          have HM3 := hid hm3
          have hl2k := R2.out.facts.2.2
          clear ha3 hq hr3 hm3
          cases t with
          | node k' a' fl' nt' kids' =>
          rw [NeedIs] at hn3
          obtain ⟨kp', kc', rfl, -, -, -⟩ := hn3
          obtain ⟨hcr, hzr, hlr3⟩ := R3.out.facts
          go_wp2_with fail
          obtain ⟨b1, b2, b3, b4⟩ := R3.out.set rfl (.int .i64 k') (.string a'.n) (.int .i64 a'.op) (.int .i64 a'.v) (.int .i64 a'.sl) (.string a'.f) (.bool a'.on) (.string fl') (.bool nt') (.slice kp' kids'.length kc')
          have BW : Hid (NBox (w.heap.size + 1) #[.int .i64 k', .string a'.n, .int .i64 a'.op, .int .i64 a'.v, .int .i64 a'.sl, .string a'.f, .bool a'.on, .string fl', .bool nt', .slice kp' kids'.length kc'] ((((((((((w3.setCell ⟨w.heap.size + 1, 0, none⟩ (.int .i64 k')).setCell ⟨w.heap.size + 1, 1, none⟩ (.string a'.n)).setCell ⟨w.heap.size + 1, 2, none⟩ (.int .i64 a'.op)).setCell ⟨w.heap.size + 1, 3, none⟩ (.int .i64 a'.v)).setCell ⟨w.heap.size + 1, 4, none⟩ (.int .i64 a'.sl)).setCell ⟨w.heap.size + 1, 5, none⟩ (.string a'.f)).setCell ⟨w.heap.size + 1, 6, none⟩ (.bool a'.on)).setCell ⟨w.heap.size + 1, 7, none⟩ (.string fl')).setCell ⟨w.heap.size + 1, 8, none⟩ (.bool nt')).setCell ⟨w.heap.size + 1, 9, none⟩ (.slice kp' kids'.length kc'))) := b1
          have KW : Hid (Below (w.heap.size + 1) w3 ((((((((((w3.setCell ⟨w.heap.size + 1, 0, none⟩ (.int .i64 k')).setCell ⟨w.heap.size + 1, 1, none⟩ (.string a'.n)).setCell ⟨w.heap.size + 1, 2, none⟩ (.int .i64 a'.op)).setCell ⟨w.heap.size + 1, 3, none⟩ (.int .i64 a'.v)).setCell ⟨w.heap.size + 1, 4, none⟩ (.int .i64 a'.sl)).setCell ⟨w.heap.size + 1, 5, none⟩ (.string a'.f)).setCell ⟨w.heap.size + 1, 6, none⟩ (.bool a'.on)).setCell ⟨w.heap.size + 1, 7, none⟩ (.string fl')).setCell ⟨w.heap.size + 1, 8, none⟩ (.bool nt')).setCell ⟨w.heap.size + 1, 9, none⟩ (.slice kp' kids'.length kc'))) := b2
          have SW : Hid (((((((((((w3.setCell ⟨w.heap.size + 1, 0, none⟩ (.int .i64 k')).setCell ⟨w.heap.size + 1, 1, none⟩ (.string a'.n)).setCell ⟨w.heap.size + 1, 2, none⟩ (.int .i64 a'.op)).setCell ⟨w.heap.size + 1, 3, none⟩ (.int .i64 a'.v)).setCell ⟨w.heap.size + 1, 4, none⟩ (.int .i64 a'.sl)).setCell ⟨w.heap.size + 1, 5, none⟩ (.string a'.f)).setCell ⟨w.heap.size + 1, 6, none⟩ (.bool a'.on)).setCell ⟨w.heap.size + 1, 7, none⟩ (.string fl')).setCell ⟨w.heap.size + 1, 8, none⟩ (.bool nt')).setCell ⟨w.heap.size + 1, 9, none⟩ (.slice kp' kids'.length kc')).heap.size = w3.heap.size) := b3
          have OW : Hid (∀ bb, bb ≠ w.heap.size + 1 → ((((((((((w3.setCell ⟨w.heap.size + 1, 0, none⟩ (.int .i64 k')).setCell ⟨w.heap.size + 1, 1, none⟩ (.string a'.n)).setCell ⟨w.heap.size + 1, 2, none⟩ (.int .i64 a'.op)).setCell ⟨w.heap.size + 1, 3, none⟩ (.int .i64 a'.v)).setCell ⟨w.heap.size + 1, 4, none⟩ (.int .i64 a'.sl)).setCell ⟨w.heap.size + 1, 5, none⟩ (.string a'.f)).setCell ⟨w.heap.size + 1, 6, none⟩ (.bool a'.on)).setCell ⟨w.heap.size + 1, 7, none⟩ (.string fl')).setCell ⟨w.heap.size + 1, 8, none⟩ (.bool nt')).setCell ⟨w.heap.size + 1, 9, none⟩ (.slice kp' kids'.length kc')).heap[bb]? = w3.heap[bb]?) := b4
          clear b1 b2 b3 b4 hcr hzr
          generalize ((((((((((w3.setCell ⟨w.heap.size + 1, 0, none⟩ (.int .i64 k')).setCell ⟨w.heap.size + 1, 1, none⟩ (.string a'.n)).setCell ⟨w.heap.size + 1, 2, none⟩ (.int .i64 a'.op)).setCell ⟨w.heap.size + 1, 3, none⟩ (.int .i64 a'.v)).setCell ⟨w.heap.size + 1, 4, none⟩ (.int .i64 a'.sl)).setCell ⟨w.heap.size + 1, 5, none⟩ (.string a'.f)).setCell ⟨w.heap.size + 1, 6, none⟩ (.bool a'.on)).setCell ⟨w.heap.size + 1, 7, none⟩ (.string fl')).setCell ⟨w.heap.size + 1, 8, none⟩ (.bool nt')).setCell ⟨w.heap.size + 1, 9, none⟩ (.slice kp' kids'.length kc')) = W at BW KW SW OW ⊢
          obtain ⟨hcW, _, _⟩ := BW.out.facts
          refine bodyPost_ret (v := .tuple #[.agg #[.int .i64 k', .string a'.n, .int .i64 a'.op, .int .i64 a'.v, .int .i64 a'.sl, .string a'.f, .bool a'.on, .string fl', .bool nt', .slice kp' kids'.length kc'], .bool true]) ?_ rfl ?_
          · simp [results, Tryz.results102, go_sem, hcW]
          show NeedDone _ _ w _ W
          rw [HQ.out]
          obtain ⟨d1, d2⟩ := done_lift (X := w.heap.size + 1) (w := w) (by omega) hl2k HN3.out HR3.out hlr OW.out SW.out
          exact ⟨_, ws3, rfl, d1, d2, HM3.out, apart_set A3.out KW.out (by omega)⟩
      · have HRES2 : Hid (rdGroup g k ⟨n, op, v, sl, f, on⟩ fl nt (ws.map (·.data.toList)) = none) := by show _ = _; rw [HRES.out, HX2.out, if_neg hw1]
        clear hw1 HX2 hcb hzb
        obtain ⟨hcr, hzr, hlr3⟩ := R2.out.facts
        go_wp2_with fail
        obtain ⟨b1, b2, b3, b4⟩ := R2.out.set rfl (.int .i64 0) (.string ⟨#[]⟩) (.int .i64 0) (.int .i64 0) (.int .i64 0) (.string ⟨#[]⟩) (.bool false) (.string ⟨#[]⟩) (.bool false) (.slice none 0 0)
        have BW : Hid (NBox (w.heap.size + 1) #[.int .i64 0, .string ⟨#[]⟩, .int .i64 0, .int .i64 0, .int .i64 0, .string ⟨#[]⟩, .bool false, .string ⟨#[]⟩, .bool false, .slice none 0 0] ((((((((((w2.setCell ⟨w.heap.size + 1, 0, none⟩ (.int .i64 0)).setCell ⟨w.heap.size + 1, 1, none⟩ (.string ⟨#[]⟩)).setCell ⟨w.heap.size + 1, 2, none⟩ (.int .i64 0)).setCell ⟨w.heap.size + 1, 3, none⟩ (.int .i64 0)).setCell ⟨w.heap.size + 1, 4, none⟩ (.int .i64 0)).setCell ⟨w.heap.size + 1, 5, none⟩ (.string ⟨#[]⟩)).setCell ⟨w.heap.size + 1, 6, none⟩ (.bool false)).setCell ⟨w.heap.size + 1, 7, none⟩ (.string ⟨#[]⟩)).setCell ⟨w.heap.size + 1, 8, none⟩ (.bool false)).setCell ⟨w.heap.size + 1, 9, none⟩ (.slice none 0 0))) := b1
        have KW : Hid (Below (w.heap.size + 1) w2 ((((((((((w2.setCell ⟨w.heap.size + 1, 0, none⟩ (.int .i64 0)).setCell ⟨w.heap.size + 1, 1, none⟩ (.string ⟨#[]⟩)).setCell ⟨w.heap.size + 1, 2, none⟩ (.int .i64 0)).setCell ⟨w.heap.size + 1, 3, none⟩ (.int .i64 0)).setCell ⟨w.heap.size + 1, 4, none⟩ (.int .i64 0)).setCell ⟨w.heap.size + 1, 5, none⟩ (.string ⟨#[]⟩)).setCell ⟨w.heap.size + 1, 6, none⟩ (.bool false)).setCell ⟨w.heap.size + 1, 7, none⟩ (.string ⟨#[]⟩)).setCell ⟨w.heap.size + 1, 8, none⟩ (.bool false)).setCell ⟨w.heap.size + 1, 9, none⟩ (.slice none 0 0))) := b2
        have SW : Hid (((((((((((w2.setCell ⟨w.heap.size + 1, 0, none⟩ (.int .i64 0)).setCell ⟨w.heap.size + 1, 1, none⟩ (.string ⟨#[]⟩)).setCell ⟨w.heap.size + 1, 2, none⟩ (.int .i64 0)).setCell ⟨w.heap.size + 1, 3, none⟩ (.int .i64 0)).setCell ⟨w.heap.size + 1, 4, none⟩ (.int .i64 0)).setCell ⟨w.heap.size + 1, 5, none⟩ (.string ⟨#[]⟩)).setCell ⟨w.heap.size + 1, 6, none⟩ (.bool false)).setCell ⟨w.heap.size + 1, 7, none⟩ (.string ⟨#[]⟩)).setCell ⟨w.heap.size + 1, 8, none⟩ (.bool false)).setCell ⟨w.heap.size + 1, 9, none⟩ (.slice none 0 0)).heap.size = w2.heap.size) := b3
        have OW : Hid (∀ bb, bb ≠ w.heap.size + 1 → ((((((((((w2.setCell ⟨w.heap.size + 1, 0, none⟩ (.int .i64 0)).setCell ⟨w.heap.size + 1, 1, none⟩ (.string ⟨#[]⟩)).setCell ⟨w.heap.size + 1, 2, none⟩ (.int .i64 0)).setCell ⟨w.heap.size + 1, 3, none⟩ (.int .i64 0)).setCell ⟨w.heap.size + 1, 4, none⟩ (.int .i64 0)).setCell ⟨w.heap.size + 1, 5, none⟩ (.string ⟨#[]⟩)).setCell ⟨w.heap.size + 1, 6, none⟩ (.bool false)).setCell ⟨w.heap.size + 1, 7, none⟩ (.string ⟨#[]⟩)).setCell ⟨w.heap.size + 1, 8, none⟩ (.bool false)).setCell ⟨w.heap.size + 1, 9, none⟩ (.slice none 0 0)).heap[bb]? = w2.heap[bb]?) := b4
        clear b1 b2 b3 b4 hcr hzr
        generalize ((((((((((w2.setCell ⟨w.heap.size + 1, 0, none⟩ (.int .i64 0)).setCell ⟨w.heap.size + 1, 1, none⟩ (.string ⟨#[]⟩)).setCell ⟨w.heap.size + 1, 2, none⟩ (.int .i64 0)).setCell ⟨w.heap.size + 1, 3, none⟩ (.int .i64 0)).setCell ⟨w.heap.size + 1, 4, none⟩ (.int .i64 0)).setCell ⟨w.heap.size + 1, 5, none⟩ (.string ⟨#[]⟩)).setCell ⟨w.heap.size + 1, 6, none⟩ (.bool false)).setCell ⟨w.heap.size + 1, 7, none⟩ (.string ⟨#[]⟩)).setCell ⟨w.heap.size + 1, 8, none⟩ (.bool false)).setCell ⟨w.heap.size + 1, 9, none⟩ (.slice none 0 0)) = W at BW KW SW OW ⊢
        obtain ⟨hcW, _, _⟩ := BW.out.facts
        refine bodyPost_ret (v := .tuple #[.agg #[.int .i64 0, .string ⟨#[]⟩, .int .i64 0, .int .i64 0, .int .i64 0, .string ⟨#[]⟩, .bool false, .string ⟨#[]⟩, .bool false, .slice none 0 0], .bool false]) ?_ rfl ?_
        · simp [results, Tryz.results102, go_sem, hcW]
        show NeedDone _ _ w _ W
        rw [HRES2.out]
        exact ⟨rfl, apart_set A2.out KW.out (by omega)⟩
end Go.Proofs.YtnagpmilagdjeaaGreatDoor
