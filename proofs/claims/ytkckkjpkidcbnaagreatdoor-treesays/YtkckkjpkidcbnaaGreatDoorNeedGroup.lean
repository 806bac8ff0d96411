/- kids reads the kids up to the word that ends them, as kidsAll does. -/
import Derived.Test.YtkckkjpkidcbnaaGreatDoorNeedRead
namespace Go.Proofs.YtkckkjpkidcbnaaGreatDoor
open Go.RowKit

theorem word_is (wd : ByteArray) (l : List UInt8) : (wd.data.toList = l ∧ (wd.toList == l) = true ∧ (wd.toList != l) = false) ∨ (wd.data.toList ≠ l ∧ (wd.toList == l) = false ∧ (wd.toList != l) = true) := by
  rw [Lib.toList_data]
  by_cases h : wd.data.toList = l
  · exact Or.inl ⟨h, by simp [h], by simp [h]⟩
  · exact Or.inr ⟨h, by simp [h], by simp [h]⟩
theorem owns_shape {B e sz n : Nat} {v : Value} {xs : List Value} {w : World} (h : w.ownsRow B e sz v n xs) (hn : 0 < n) : ∃ g cap, v = .slice (some ⟨g, 0, none⟩) n cap := by
  obtain ⟨-, ⟨-, h0⟩ | ⟨g, cap, cur, e1, -⟩⟩ := h
  · omega
  · exact ⟨g, cap, e1⟩
theorem apart_alloc {rb : Nat} (w : World) (o : Obj) : Apart (One rb) w (w.alloc o) := one_keep (Keep.alloc w o)
theorem alloc_other (w : World) (o : Obj) : ∀ b, b < w.heap.size → (w.alloc o).heap[b]? = w.heap[b]? := (Keep.alloc w o).block

set_option maxHeartbeats 1000000 in
set_option maxRecDepth 100000 in
theorem kids_any (g : Nat) (H : NeedReads g) (rb : Nat) (k : Int) (n f : ByteArray) (op v sl : Int) (on : Bool) (fl : ByteArray) (nt : Bool) (ws : List ByteArray) (d : Int) (w : World) (hd : d + g = 4) (hd1 : 1 ≤ d) (hE : Env w) (hO : Old rb) (hr : RdS rb ws w) :
    Calls Tryz.prog 123 #[.pointer (some ⟨rb, 0, none⟩), .agg #[.int .i64 k, .string n, .int .i64 op, .int .i64 v, .int .i64 sl, .string f, .bool on, .string fl, .bool nt, .slice none 0 0], .int .i64 d] w
      fun e w' => NeedDone rb (kidsAll (rdNeed g) (.node k ⟨n, op, v, sl, f, on⟩ fl nt) (ws.map (·.data.toList))) w e w' := by
  obtain ⟨i0, hi, hz0, hz1, hz2⟩ := info_parts infoNeed
  have hlr := hr.1.lt
  have hwl := hr.len
  have HE := hid hE
  have HO := hid hO
  have HH := hid H
  have HR0 := hid (hr.keep (Keep.alloc w (.cells #[.int .i64 k, .string n, .int .i64 op, .int .i64 v, .int .i64 sl, .string f, .bool on, .string fl, .bool nt, .slice none 0 0] 26)))
  have e0 := alloc_size w (.cells #[.int .i64 k, .string n, .int .i64 op, .int .i64 v, .int .i64 sl, .string f, .bool on, .string fl, .bool nt, .slice none 0 0] 26)
  have b0 := NBox.new w #[.int .i64 k, .string n, .int .i64 op, .int .i64 v, .int .i64 sl, .string f, .bool on, .string fl, .bool nt, .slice none 0 0]
  have r0 := NBox.new (w.alloc (.cells #[.int .i64 k, .string n, .int .i64 op, .int .i64 v, .int .i64 sl, .string f, .bool on, .string fl, .bool nt, .slice none 0 0] 26)) #[.int .i64 0, .string ⟨#[]⟩, .int .i64 0, .int .i64 0, .int .i64 0, .string ⟨#[]⟩, .bool false, .string ⟨#[]⟩, .bool false, .slice none 0 0]
  rw [e0] at r0
  have B1 := hid (b0.keep (Keep.alloc (w.alloc (.cells #[.int .i64 k, .string n, .int .i64 op, .int .i64 v, .int .i64 sl, .string f, .bool on, .string fl, .bool nt, .slice none 0 0] 26)) (.cells #[.int .i64 0, .string ⟨#[]⟩, .int .i64 0, .int .i64 0, .int .i64 0, .string ⟨#[]⟩, .bool false, .string ⟨#[]⟩, .bool false, .slice none 0 0] 26)) b0.facts.2.2)
  have R1 := hid r0
  have A1 : Hid (Apart (One rb) w ((w.alloc (.cells #[.int .i64 k, .string n, .int .i64 op, .int .i64 v, .int .i64 sl, .string f, .bool on, .string fl, .bool nt, .slice none 0 0] 26)).alloc (.cells #[.int .i64 0, .string ⟨#[]⟩, .int .i64 0, .int .i64 0, .int .i64 0, .string ⟨#[]⟩, .bool false, .string ⟨#[]⟩, .bool false, .slice none 0 0] 26))) := (apart_alloc _ _).trans (apart_alloc _ _)
  have HR1 := hid (HR0.out.keep (Keep.alloc _ (.cells #[.int .i64 0, .string ⟨#[]⟩, .int .i64 0, .int .i64 0, .int .i64 0, .string ⟨#[]⟩, .bool false, .string ⟨#[]⟩, .bool false, .slice none 0 0] 26)))
  have hs1 : ((w.alloc (.cells #[.int .i64 k, .string n, .int .i64 op, .int .i64 v, .int .i64 sl, .string f, .bool on, .string fl, .bool nt, .slice none 0 0] 26)).alloc (.cells #[.int .i64 0, .string ⟨#[]⟩, .int .i64 0, .int .i64 0, .int .i64 0, .string ⟨#[]⟩, .bool false, .string ⟨#[]⟩, .bool false, .slice none 0 0] 26)).heap.size = w.heap.size + 2 := by rw [alloc_size, alloc_size]
  have HS1 := hid hs1
  clear hE hO H HR0 e0 b0 r0 hs1 hr
  go_enter Tryz.func123, Tryz.ntmps123
  go_wp2_with fail
  generalize (w.alloc (.cells #[.int .i64 k, .string n, .int .i64 op, .int .i64 v, .int .i64 sl, .string f, .bool on, .string fl, .bool nt, .slice none 0 0] 26)).alloc (.cells #[.int .i64 0, .string ⟨#[]⟩, .int .i64 0, .int .i64 0, .int .i64 0, .string ⟨#[]⟩, .bool false, .string ⟨#[]⟩, .bool false, .slice none 0 0] 26) = W1 at B1 R1 A1 HR1 HS1 ⊢
  refine (rdS_next rb ws W1 HR1.out).mono ?_
  rintro e w2 ⟨rfl, hr2, hl2, ha2⟩
  have B2 : Hid (NBox w.heap.size #[.int .i64 k, .string n, .int .i64 op, .int .i64 v, .int .i64 sl, .string f, .bool on, .string fl, .bool nt, .slice none 0 0] w2) := B1.out.apart ha2 (by omega)
  have R2 : Hid (NBox (w.heap.size + 1) #[.int .i64 0, .string ⟨#[]⟩, .int .i64 0, .int .i64 0, .int .i64 0, .string ⟨#[]⟩, .bool false, .string ⟨#[]⟩, .bool false, .slice none 0 0] w2) := R1.out.apart ha2 (by omega)
  have A2 : Hid (Apart (One rb) w w2) := A1.out.trans ha2
  have HX2 := hid (kids_head g (ws.length + 1) [] ws)
  have HG2 : Hid (((ws.headD ⟨#[]⟩).data.toList = [] ∧ 1 ≤ ws.length + 1) ∨ ws.tail.length + 2 ≤ ws.length + 1) := by
    cases ws with
    | nil => exact Or.inl ⟨rfl, by simp⟩
    | cons x ws => exact Or.inr (by simp)
  have HR2 := hid hr2
  generalize ws.headD ⟨#[]⟩ = x0 at hl2 HX2 HG2 ⊢
  generalize ws.tail = tl at HR2 HX2 HG2
  have HL2 := hid hl2
  clear B1 R1 A1 HR1 HS1 hr2 hl2 ha2
  go_wp2_with fail
  go_loopg [8] (ws.length + 1) (fun gk word wr => ∃ (acc : List NT) (wd : ByteArray) (ws' : List ByteArray) (kv : Value), word = .string wd ∧ RdS rb ws' wr ∧ NBox w.heap.size #[.int .i64 k, .string n, .int .i64 op, .int .i64 v, .int .i64 sl, .string f, .bool on, .string fl, .bool nt, kv] wr ∧ NBox (w.heap.size + 1) #[.int .i64 0, .string ⟨#[]⟩, .int .i64 0, .int .i64 0, .int .i64 0, .string ⟨#[]⟩, .bool false, .string ⟨#[]⟩, .bool false, .slice none 0 0] wr ∧ KidRow (w.heap.size + 2) kv acc wr ∧ kidsBy (rdNeed g) (ws.length + 1) [] (ws.map (·.data.toList)) = kidsBy (rdNeed g) gk acc (wd.data.toList :: ws'.map (·.data.toList)) ∧ ((wd.data.toList = [] ∧ 1 ≤ gk) ∨ ws'.length + 2 ≤ gk) ∧ acc.length + gk ≤ ws.length + 1 ∧ wd.size ≤ 20000 ∧ Apart (One rb) w wr)
  case atStart =>
    exact ⟨[], _, tl, _, rfl, HR2.out, B2.out, R2.out, KidRow.nil _ _, HX2.out, HG2.out, by simp, HL2.out, A2.out⟩
  case round =>
    obtain ⟨acc, wd, ws', kv, rfl, hr', hb', hres', hrow, heq, hgk, hacc, hwd, ha'⟩ := hrel
    have HEQ := hid heq
    have HGK := hid hgk
    have HROW := hid hrow
    have HB := hid hb'
    have HRS := hid hres'
    have HR := hid hr'
    have HA := hid ha'
    have hlw := hr'.1.lt
    have hsw : w.heap.size + 2 ≤ wr.heap.size := by have := hres'.facts.2.2; omega
    obtain ⟨hcb, hzb, -⟩ := hb'.facts
    obtain ⟨hcr, hzr, -⟩ := hres'.facts
    clear heq hgk hrow hb' hres' hr' ha' B2 R2 A2 HR2 HL2 HX2 HG2
    obtain ⟨mk, rfl⟩ : ∃ m, gk = m + 1 := ⟨gk - 1, by rcases HGK.out with h | h <;> omega⟩
    rcases word_is wd [41] with ⟨hw1, hw2, hw3⟩ | ⟨hw1, hw2, hw3⟩
    · have HRES : Hid (kidsAll (rdNeed g) (.node k ⟨n, op, v, sl, f, on⟩ fl nt) (ws.map (·.data.toList)) = some (.node k ⟨n, op, v, sl, f, on⟩ fl nt acc, ws'.map (·.data.toList))) := by
        show _ = _
        unfold kidsAll
        rw [List.length_map, HEQ.out, kidsBy, if_pos hw1]; rfl
      obtain ⟨kp, kc, rfl, hkc, hkm, hkids⟩ := HROW.out.final
      have HKI := hid hkids
      clear hw1 hkids
      go_wp2_with fail
      obtain ⟨b1, b2, b3, b4⟩ := HRS.out.set rfl (.int .i64 k) (.string n) (.int .i64 op) (.int .i64 v) (.int .i64 sl) (.string f) (.bool on) (.string fl) (.bool nt) (.slice kp acc.length kc)
      have BW : Hid (NBox (w.heap.size + 1) #[.int .i64 k, .string n, .int .i64 op, .int .i64 v, .int .i64 sl, .string f, .bool on, .string fl, .bool nt, .slice kp acc.length kc] ((((((((((wr.setCell ⟨w.heap.size + 1, 0, none⟩ (.int .i64 k)).setCell ⟨w.heap.size + 1, 1, none⟩ (.string n)).setCell ⟨w.heap.size + 1, 2, none⟩ (.int .i64 op)).setCell ⟨w.heap.size + 1, 3, none⟩ (.int .i64 v)).setCell ⟨w.heap.size + 1, 4, none⟩ (.int .i64 sl)).setCell ⟨w.heap.size + 1, 5, none⟩ (.string f)).setCell ⟨w.heap.size + 1, 6, none⟩ (.bool on)).setCell ⟨w.heap.size + 1, 7, none⟩ (.string fl)).setCell ⟨w.heap.size + 1, 8, none⟩ (.bool nt)).setCell ⟨w.heap.size + 1, 9, none⟩ (.slice kp acc.length kc))) := b1
      have SW : Hid (((((((((((wr.setCell ⟨w.heap.size + 1, 0, none⟩ (.int .i64 k)).setCell ⟨w.heap.size + 1, 1, none⟩ (.string n)).setCell ⟨w.heap.size + 1, 2, none⟩ (.int .i64 op)).setCell ⟨w.heap.size + 1, 3, none⟩ (.int .i64 v)).setCell ⟨w.heap.size + 1, 4, none⟩ (.int .i64 sl)).setCell ⟨w.heap.size + 1, 5, none⟩ (.string f)).setCell ⟨w.heap.size + 1, 6, none⟩ (.bool on)).setCell ⟨w.heap.size + 1, 7, none⟩ (.string fl)).setCell ⟨w.heap.size + 1, 8, none⟩ (.bool nt)).setCell ⟨w.heap.size + 1, 9, none⟩ (.slice kp acc.length kc)).heap.size = wr.heap.size) := b3
      have OW : Hid (∀ bb, bb ≠ w.heap.size + 1 → ((((((((((wr.setCell ⟨w.heap.size + 1, 0, none⟩ (.int .i64 k)).setCell ⟨w.heap.size + 1, 1, none⟩ (.string n)).setCell ⟨w.heap.size + 1, 2, none⟩ (.int .i64 op)).setCell ⟨w.heap.size + 1, 3, none⟩ (.int .i64 v)).setCell ⟨w.heap.size + 1, 4, none⟩ (.int .i64 sl)).setCell ⟨w.heap.size + 1, 5, none⟩ (.string f)).setCell ⟨w.heap.size + 1, 6, none⟩ (.bool on)).setCell ⟨w.heap.size + 1, 7, none⟩ (.string fl)).setCell ⟨w.heap.size + 1, 8, none⟩ (.bool nt)).setCell ⟨w.heap.size + 1, 9, none⟩ (.slice kp acc.length kc)).heap[bb]? = wr.heap[bb]?) := b4
      have KW : Hid (Below (w.heap.size + 1) wr ((((((((((wr.setCell ⟨w.heap.size + 1, 0, none⟩ (.int .i64 k)).setCell ⟨w.heap.size + 1, 1, none⟩ (.string n)).setCell ⟨w.heap.size + 1, 2, none⟩ (.int .i64 op)).setCell ⟨w.heap.size + 1, 3, none⟩ (.int .i64 v)).setCell ⟨w.heap.size + 1, 4, none⟩ (.int .i64 sl)).setCell ⟨w.heap.size + 1, 5, none⟩ (.string f)).setCell ⟨w.heap.size + 1, 6, none⟩ (.bool on)).setCell ⟨w.heap.size + 1, 7, none⟩ (.string fl)).setCell ⟨w.heap.size + 1, 8, none⟩ (.bool nt)).setCell ⟨w.heap.size + 1, 9, none⟩ (.slice kp acc.length kc))) := b2
      clear b1 b2 b3 b4 hcb hzb hcr hzr
      generalize ((((((((((wr.setCell ⟨w.heap.size + 1, 0, none⟩ (.int .i64 k)).setCell ⟨w.heap.size + 1, 1, none⟩ (.string n)).setCell ⟨w.heap.size + 1, 2, none⟩ (.int .i64 op)).setCell ⟨w.heap.size + 1, 3, none⟩ (.int .i64 v)).setCell ⟨w.heap.size + 1, 4, none⟩ (.int .i64 sl)).setCell ⟨w.heap.size + 1, 5, none⟩ (.string f)).setCell ⟨w.heap.size + 1, 6, none⟩ (.bool on)).setCell ⟨w.heap.size + 1, 7, none⟩ (.string fl)).setCell ⟨w.heap.size + 1, 8, none⟩ (.bool nt)).setCell ⟨w.heap.size + 1, 9, none⟩ (.slice kp acc.length kc)) = W at BW SW OW KW ⊢
      obtain ⟨hcW, _, _⟩ := BW.out.facts
      refine bodyPost_ret (v := .tuple #[.agg #[.int .i64 k, .string n, .int .i64 op, .int .i64 v, .int .i64 sl, .string f, .bool on, .string fl, .bool nt, .slice kp acc.length kc], .bool true]) ?_ rfl ?_
      · simp [results, Tryz.results123, go_sem, hcW]
      show NeedDone _ _ w _ W
      rw [HRES.out]
      have hcell : ∀ p : Addr, w.heap.size + 2 ≤ p.block ∧ p.block < wr.heap.size → W.cell? p = wr.cell? p := fun p hp => World.cell?_of_block (w := wr) (OW.out _ (by omega))
      refine ⟨[.int .i64 k, .string n, .int .i64 op, .int .i64 v, .int .i64 sl, .string f, .bool on, .string fl, .bool nt, .slice kp acc.length kc], ws', rfl, ?_, HR.out.other (fun b hb => OW.out b (by omega)), rfl, apart_set HA.out KW.out (by omega)⟩
      rw [NeedIs]
      refine ⟨kp, kc, rfl, hkc, hkm, ?_⟩
      exact KidsIs.mono (fun p hp => hcell p hp) (fun b hb => ⟨by omega, by rw [SW.out]; exact hb.2⟩) acc kp 0 HKI.out
    · have hE := HE.out.apart HO.out hlr HA.out
      have hrb : rb < w.heap.size := hlr
      have hcall := HH.out rb wd ws' (d + 1) wr (by omega) (by omega) hE HO.out HR.out hwd
      have HCALL := hid hcall
      have HW1 : Hid (wd.data.toList ≠ [41]) := hw1
      clear hcall hE hw1 hcb hzb hcr hzr
      go_wp2_with fail
      refine HCALL.out.mono ?_
      rintro e w3 hdone
      cases hq : rdNeed g wd.data.toList (ws'.map (·.data.toList)) with
      | none =>
        rw [hq] at hdone
        obtain ⟨rfl, ha3⟩ := hdone
        have HRES : Hid (kidsAll (rdNeed g) (.node k ⟨n, op, v, sl, f, on⟩ fl nt) (ws.map (·.data.toList)) = none) := by
          show _ = _
          unfold kidsAll
          rw [List.length_map, HEQ.out, kidsBy, if_neg HW1.out, hq]; rfl
        have R3 := hid ((HRS.out.apart ha3 (by omega)).keep (Keep.alloc w3 (.cells #[.int .i64 0, .string ⟨#[]⟩, .int .i64 0, .int .i64 0, .int .i64 0, .string ⟨#[]⟩, .bool false, .string ⟨#[]⟩, .bool false, .slice none 0 0] 26)) (HRS.out.apart ha3 (by omega)).facts.2.2)
        have A3 : Hid (Apart (One rb) w (w3.alloc (.cells #[.int .i64 0, .string ⟨#[]⟩, .int .i64 0, .int .i64 0, .int .i64 0, .string ⟨#[]⟩, .bool false, .string ⟨#[]⟩, .bool false, .slice none 0 0] 26))) := (HA.out.trans ha3).trans (apart_alloc _ _)
        unfold zeroV
        clear ha3 HCALL hq
        go_upto_region 5 with fail
        generalize w3.alloc (.cells #[.int .i64 0, .string ⟨#[]⟩, .int .i64 0, .int .i64 0, .int .i64 0, .string ⟨#[]⟩, .bool false, .string ⟨#[]⟩, .bool false, .slice none 0 0] 26) = W4 at R3 A3 ⊢
        obtain ⟨hcr, hzr, hlr3⟩ := R3.out.facts
        go_wp2_with fail
        obtain ⟨b1, b2, b3, b4⟩ := R3.out.set rfl (.int .i64 0) (.string ⟨#[]⟩) (.int .i64 0) (.int .i64 0) (.int .i64 0) (.string ⟨#[]⟩) (.bool false) (.string ⟨#[]⟩) (.bool false) (.slice none 0 0)
        have BW : Hid (NBox (w.heap.size + 1) #[.int .i64 0, .string ⟨#[]⟩, .int .i64 0, .int .i64 0, .int .i64 0, .string ⟨#[]⟩, .bool false, .string ⟨#[]⟩, .bool false, .slice none 0 0] ((((((((((W4.setCell ⟨w.heap.size + 1, 0, none⟩ (.int .i64 0)).setCell ⟨w.heap.size + 1, 1, none⟩ (.string ⟨#[]⟩)).setCell ⟨w.heap.size + 1, 2, none⟩ (.int .i64 0)).setCell ⟨w.heap.size + 1, 3, none⟩ (.int .i64 0)).setCell ⟨w.heap.size + 1, 4, none⟩ (.int .i64 0)).setCell ⟨w.heap.size + 1, 5, none⟩ (.string ⟨#[]⟩)).setCell ⟨w.heap.size + 1, 6, none⟩ (.bool false)).setCell ⟨w.heap.size + 1, 7, none⟩ (.string ⟨#[]⟩)).setCell ⟨w.heap.size + 1, 8, none⟩ (.bool false)).setCell ⟨w.heap.size + 1, 9, none⟩ (.slice none 0 0))) := b1
        have KW : Hid (Below (w.heap.size + 1) W4 ((((((((((W4.setCell ⟨w.heap.size + 1, 0, none⟩ (.int .i64 0)).setCell ⟨w.heap.size + 1, 1, none⟩ (.string ⟨#[]⟩)).setCell ⟨w.heap.size + 1, 2, none⟩ (.int .i64 0)).setCell ⟨w.heap.size + 1, 3, none⟩ (.int .i64 0)).setCell ⟨w.heap.size + 1, 4, none⟩ (.int .i64 0)).setCell ⟨w.heap.size + 1, 5, none⟩ (.string ⟨#[]⟩)).setCell ⟨w.heap.size + 1, 6, none⟩ (.bool false)).setCell ⟨w.heap.size + 1, 7, none⟩ (.string ⟨#[]⟩)).setCell ⟨w.heap.size + 1, 8, none⟩ (.bool false)).setCell ⟨w.heap.size + 1, 9, none⟩ (.slice none 0 0))) := b2
        clear b1 b2 b3 b4 hcr hzr
        generalize ((((((((((W4.setCell ⟨w.heap.size + 1, 0, none⟩ (.int .i64 0)).setCell ⟨w.heap.size + 1, 1, none⟩ (.string ⟨#[]⟩)).setCell ⟨w.heap.size + 1, 2, none⟩ (.int .i64 0)).setCell ⟨w.heap.size + 1, 3, none⟩ (.int .i64 0)).setCell ⟨w.heap.size + 1, 4, none⟩ (.int .i64 0)).setCell ⟨w.heap.size + 1, 5, none⟩ (.string ⟨#[]⟩)).setCell ⟨w.heap.size + 1, 6, none⟩ (.bool false)).setCell ⟨w.heap.size + 1, 7, none⟩ (.string ⟨#[]⟩)).setCell ⟨w.heap.size + 1, 8, none⟩ (.bool false)).setCell ⟨w.heap.size + 1, 9, none⟩ (.slice none 0 0)) = W at BW KW ⊢
        obtain ⟨hcW, _, _⟩ := BW.out.facts
        refine bodyPost_ret (v := .tuple #[.agg #[.int .i64 0, .string ⟨#[]⟩, .int .i64 0, .int .i64 0, .int .i64 0, .string ⟨#[]⟩, .bool false, .string ⟨#[]⟩, .bool false, .slice none 0 0], .bool false]) ?_ rfl ?_
        · simp [results, Tryz.results123, go_sem, hcW]
        show NeedDone _ _ w _ W
        rw [HRES.out]
        exact ⟨rfl, apart_set A3.out KW.out (by omega)⟩
      | some r =>
        obtain ⟨t, rs⟩ := r
        rw [hq] at hdone
        obtain ⟨cs, ws3, rfl, hn3, hr3, hm3, ha3⟩ := hdone
        have hrl := rd_len hq
        have HQ := hid hq
        have HM3 : Hid (ws3.map (·.data.toList) = rs) := hm3
        have hl3 : ws3.length ≤ ws'.length := by
          have := congrArg List.length HM3.out
          rw [List.length_map] at this hrl
          omega
        have HN3 := hid hn3
        cases t with
        | node k' a' fl' nt' kids' =>
        rw [NeedIs] at hn3
        obtain ⟨kp', kc', rfl, -, -, -⟩ := hn3
        have B3 := HB.out.apart ha3 (by omega)
        have R3 := HRS.out.apart ha3 (by omega)
        have hs3 : wr.heap.size ≤ w3.heap.size := ha3.size
        have row3 := HROW.out.other hs3 (fun b hb hlt => ha3.block b hlt (fun e => by have : b = rb := e; omega))
        have K4 := hid (Keep.alloc w3 (.cells #[.int .i64 k', .string a'.n, .int .i64 a'.op, .int .i64 a'.v, .int .i64 a'.sl, .string a'.f, .bool a'.on, .string fl', .bool nt', .slice kp' kids'.length kc'] 26))
        have C4 : Hid (NBox w3.heap.size #[.int .i64 k', .string a'.n, .int .i64 a'.op, .int .i64 a'.v, .int .i64 a'.sl, .string a'.f, .bool a'.on, .string fl', .bool nt', .slice kp' kids'.length kc'] (w3.alloc (.cells #[.int .i64 k', .string a'.n, .int .i64 a'.op, .int .i64 a'.v, .int .i64 a'.sl, .string a'.f, .bool a'.on, .string fl', .bool nt', .slice kp' kids'.length kc'] 26))) := NBox.new w3 #[.int .i64 k', .string a'.n, .int .i64 a'.op, .int .i64 a'.v, .int .i64 a'.sl, .string a'.f, .bool a'.on, .string fl', .bool nt', .slice kp' kids'.length kc']
        have B4 := hid (B3.keep K4.out B3.facts.2.2)
        have R4 := hid (R3.keep K4.out R3.facts.2.2)
        have ROW4 := hid (row3.other K4.out.size (fun b _ hlt => K4.out.block b hlt))
        have A4 : Hid (Apart (One rb) w (w3.alloc (.cells #[.int .i64 k', .string a'.n, .int .i64 a'.op, .int .i64 a'.v, .int .i64 a'.sl, .string a'.f, .bool a'.on, .string fl', .bool nt', .slice kp' kids'.length kc'] 26))) := (HA.out.trans ha3).trans (apart_alloc _ _)
        have HR4 := hid (hr3.keep K4.out)
        have hown4 : ∀ g', kv.ownBlock = some g' → w.heap.size + 2 ≤ g' ∧ g' < wr.heap.size := fun g' hg' => by
          obtain ⟨csl, -, -, o1, -⟩ := HROW.out
          exact owns_lt o1 hg'
        have HOWN := hid hown4
        clear hm3 hr3 ha3 HCALL hq B3 R3 row3 hown4
        go_upto_region 5 with fail
        generalize w3.alloc (.cells #[.int .i64 k', .string a'.n, .int .i64 a'.op, .int .i64 a'.v, .int .i64 a'.sl, .string a'.f, .bool a'.on, .string fl', .bool nt', .slice kp' kids'.length kc'] 26) = W4 at K4 C4 B4 R4 ROW4 A4 HR4 ⊢
        obtain ⟨csl, c1, c2, c3, c4⟩ := ROW4.out
        have HC4 := hid c4
        have HC3 := hid c3
        obtain ⟨hcb, hzb, hlb⟩ := B4.out.facts
        obtain ⟨hck, hzk, hlk⟩ := C4.out.facts
        have hs4 := K4.out.size
        clear c4 c3
        go_wp2_with (at_builtin; refine wpList_append_own_at _ rfl _ _ 24 rfl (w.heap.size + 2) 26 i0 (.agg #[.int .i64 0, .string ⟨#[]⟩, .int .i64 0, .int .i64 0, .int .i64 0, .string ⟨#[]⟩, .bool false, .string ⟨#[]⟩, .bool false, .slice none 0 0]) 10 120 Tryz.underlying24 hi hz0 hz1 hz2 rfl (by decide) kv acc.length csl.flatten rfl (HC3.out.alloc _) ⟨W4.heap.size, 0, none⟩ 1 1 [.int .i64 k', .string a'.n, .int .i64 a'.op, .int .i64 a'.v, .int .i64 a'.sl, .string a'.f, .bool a'.on, .string fl', .bool nt', .slice kp' kids'.length kc'] rfl rfl many_news (by intro u hu; simp at hu; rcases hu with rfl | rfl | rfl | rfl | rfl | rfl | rfl | rfl | rfl | rfl <;> rfl) (by unfold maxLen; omega) (by omega) (by have := alloc_size W4 (.cells #[.int .i64 k', .string a'.n, .int .i64 a'.op, .int .i64 a'.v, .int .i64 a'.sl, .string a'.f, .bool a'.on, .string fl', .bool nt', .slice kp' kids'.length kc'] 26); omega) ?_)
        intro v5 w5 h1 h2 _ h4
        obtain ⟨g5, cap5, rfl⟩ := owns_shape h1 (Nat.succ_pos _)
        have hne5 : kv.ownBlock ≠ some w.heap.size := fun e => by have := HOWN.out _ e; omega
        have hne6 : kv.ownBlock ≠ some (w.heap.size + 1) := fun e => by have := HOWN.out _ e; omega
        have B5 := B4.out.grown h2 hne5
        have R5 := R4.out.grown h2 hne6
        have N4 : NeedIs (fun b => wr.heap.size ≤ b ∧ b < W4.heap.size) W4 (.node k' a' fl' nt' kids') [.int .i64 k', .string a'.n, .int .i64 a'.op, .int .i64 a'.v, .int .i64 a'.sl, .string a'.f, .bool a'.on, .string fl', .bool nt', .slice kp' kids'.length kc'] := NeedIs.mono (fun p hp => K4.out.cell hp.2) (fun b hb => ⟨hb.1, by omega⟩) _ _ HN3.out
        have row5 := KidRow.push (B' := wr.heap.size) c1 c2 HC4.out (by omega) (fun g' hg' => (HOWN.out g' hg').2) N4 rfl (by simpa using h1) h2 (by rw [alloc_size]; exact h4)
        have L5 : Below (w.heap.size + 2) W4 w5 := ((Below.refl _ W4).alloc (by omega) _).grown h2 (by have := alloc_size W4 (.cells #[.int .i64 k', .string a'.n, .int .i64 a'.op, .int .i64 a'.v, .int .i64 a'.sl, .string a'.f, .bool a'.on, .string fl', .bool nt', .slice kp' kids'.length kc'] 26); omega) (fun g' hg' => (HOWN.out g' hg').1)
        have hs5 := L5.size
        have B6 := hid (B5.set9 (.slice (some ⟨g5, 0, none⟩) (acc.length + 1) cap5))
        have ho6 := set_other w5 w.heap.size 9 (.slice (some ⟨g5, 0, none⟩) (acc.length + 1) cap5)
        have R6 : Hid (NBox (w.heap.size + 1) #[.int .i64 0, .string ⟨#[]⟩, .int .i64 0, .int .i64 0, .int .i64 0, .string ⟨#[]⟩, .bool false, .string ⟨#[]⟩, .bool false, .slice none 0 0] (w5.setCell ⟨w.heap.size, 9, none⟩ (.slice (some ⟨g5, 0, none⟩) (acc.length + 1) cap5))) := by
          show _ = _
          rw [ho6 _ (by omega)]; exact R5
        have ROW6 := hid (row5.other (by rw [set_size]; exact Nat.le_refl _) (fun b hb _ => ho6 b (by omega)))
        have L6 : Below w.heap.size W4 (w5.setCell ⟨w.heap.size, 9, none⟩ (.slice (some ⟨g5, 0, none⟩) (acc.length + 1) cap5)) := by
          have L5' : Below w.heap.size W4 w5 := Below.mono L5 (by omega)
          exact Below.setCell L5' (p := ⟨w.heap.size, 9, none⟩) (Nat.le_refl _) (.slice (some ⟨g5, 0, none⟩) (acc.length + 1) cap5)
        have A6 := hid (apart_set A4.out L6 (Nat.le_refl _))
        have HR6 := hid (HR4.out.other (fun b hb => L6.block b (by omega)))
        obtain ⟨hc5, hz5, hl5⟩ := B5.facts
        clear h1 h2 h4 B5 R5 N4 row5 L5 L6 ho6 hcb hzb hck hzk hne5 hne6 HC3 HC4
        go_wp2_with fail
        generalize w5.setCell ⟨w.heap.size, 9, none⟩ (.slice (some ⟨g5, 0, none⟩) (acc.length + 1) cap5) = W6 at B6 R6 ROW6 A6 HR6 ⊢
        clear hc5 hz5
        refine (rdS_next rb ws3 W6 HR6.out).mono ?_
        rintro e w7 ⟨rfl, hr7, hl7, ha7⟩
        have HX7 : Hid (kidsBy (rdNeed g) (ws.length + 1) [] (ws.map (·.data.toList)) = kidsBy (rdNeed g) mk (acc ++ [.node k' a' fl' nt' kids']) ((ws3.headD ⟨#[]⟩).data.toList :: ws3.tail.map (·.data.toList))) := by
          show _ = _
          rw [HEQ.out, kidsBy, if_neg HW1.out, HQ.out, ← kids_head, HM3.out]
        have hgk1 : wd.data.toList ≠ [] := fun e => by
          have := HQ.out
          rw [e, rd_empty] at this; cases this
        have hgk2 : ws'.length + 2 ≤ mk + 1 := by
          rcases HGK.out with h | h
          · exact absurd h.1 hgk1
          · exact h
        have HG7 : Hid (((ws3.headD ⟨#[]⟩).data.toList = [] ∧ 1 ≤ mk) ∨ ws3.tail.length + 2 ≤ mk) := by
          cases ws3 with
          | nil => exact Or.inl ⟨rfl, by omega⟩
          | cons x l => exact Or.inr (by simp at hl3 ⊢; omega)
        have B7 := hid (B6.out.apart ha7 (by omega))
        have R7 := hid (R6.out.apart ha7 (by omega))
        have hs6 : w.heap.size + 2 ≤ W6.heap.size := by have := R6.out.facts.2.2; omega
        have ROW7 := hid (ROW6.out.other ha7.size (fun b hb hlt => ha7.block b hlt (fun e => by have : b = rb := e; omega)))
        have A7 := hid (A6.out.trans ha7)
        have HR7 := hid hr7
        generalize ws3.headD ⟨#[]⟩ = x7 at hl7 HX7 HG7 ⊢
        generalize ws3.tail = tl7 at HR7 HX7 HG7
        have HL7 := hid hl7
        clear hr7 hl7 ha7 hgk1 hgk2
        go_wp2_with fail
        go_roundg mk
        case measure => omega
        case rel => exact ⟨acc ++ [.node k' a' fl' nt' kids'], x7, tl7, (.slice (some ⟨g5, 0, none⟩) (acc.length + 1) cap5), rfl, HR7.out, B7.out, R7.out, ROW7.out, HX7.out, HG7.out, by simp; omega, HL7.out, A7.out⟩
end Go.Proofs.YtkckkjpkidcbnaaGreatDoor
/- group reads the word that opens a group, then its kids. -/
namespace Go.Proofs.YtkckkjpkidcbnaaGreatDoor
open Go.RowKit

/-- What was read stands, with the result's own block written. -/
theorem done_lift {rb X : Nat} {t : NT} {cs : List Value} {ws : List ByteArray} {w wk w3 W : World} (hX : w.heap.size ≤ X) (hXk : X < wk.heap.size) (hn : NeedIs (fun b => wk.heap.size ≤ b ∧ b < w3.heap.size) w3 t cs) (hr : RdS rb ws w3) (hrb : rb < w.heap.size)
    (hO : ∀ b, b ≠ X → W.heap[b]? = w3.heap[b]?) (hS : W.heap.size = w3.heap.size) : NeedIs (fun b => w.heap.size ≤ b ∧ b < W.heap.size) W t cs ∧ RdS rb ws W := by
  refine ⟨NeedIs.mono (fun p hp => World.cell?_of_block (w := w3) (hO _ (by omega))) (fun b hb => ⟨by omega, by omega⟩) t cs hn, hr.other (fun b hb => hO b (by omega))⟩

/-- What group reads. -/
def rdGroup (g : Nat) (k : Int) (a : At) (fl : ByteArray) (nt : Bool) (ws : List Word) : Option (NT × List Word) := if k = 5 ∧ nameB fl.data.toList = false then none else openBy (rdNeed g) (.node k a fl nt) ws

set_option maxHeartbeats 2000000 in
set_option maxRecDepth 100000 in
theorem group_open (g : Nat) (H : NeedReads g) (rb : Nat) (k : Int) (n f : ByteArray) (op v sl : Int) (on : Bool) (fl : ByteArray) (nt : Bool) (ws : List ByteArray) (d : Int) (w : World) (hd : d + g = 4) (hd1 : 1 ≤ d) (hE : Env w) (hO : Old rb) (hr : RdS rb ws w) :
    Calls Tryz.prog 122 #[.pointer (some ⟨rb, 0, none⟩), .agg #[.int .i64 k, .string n, .int .i64 op, .int .i64 v, .int .i64 sl, .string f, .bool on, .string fl, .bool nt, .slice none 0 0], .int .i64 d] w
      fun e w' => NeedDone rb (rdGroup g k ⟨n, op, v, sl, f, on⟩ fl nt (ws.map (·.data.toList))) w e w' := by
  have hlr := hr.1.lt
  have HE := hid hE
  have HO := hid hO
  have HH := hid H
  have HR0 := hid (hr.keep (Keep.alloc w (.cells #[.int .i64 k, .string n, .int .i64 op, .int .i64 v, .int .i64 sl, .string f, .bool on, .string fl, .bool nt, .slice none 0 0] 26)))
  have e0 := alloc_size w (.cells #[.int .i64 k, .string n, .int .i64 op, .int .i64 v, .int .i64 sl, .string f, .bool on, .string fl, .bool nt, .slice none 0 0] 26)
  have b0 := NBox.new w #[.int .i64 k, .string n, .int .i64 op, .int .i64 v, .int .i64 sl, .string f, .bool on, .string fl, .bool nt, .slice none 0 0]
  have r0 := NBox.new (w.alloc (.cells #[.int .i64 k, .string n, .int .i64 op, .int .i64 v, .int .i64 sl, .string f, .bool on, .string fl, .bool nt, .slice none 0 0] 26)) #[.int .i64 0, .string ⟨#[]⟩, .int .i64 0, .int .i64 0, .int .i64 0, .string ⟨#[]⟩, .bool false, .string ⟨#[]⟩, .bool false, .slice none 0 0]
  rw [e0] at r0
  have B1 := hid (b0.keep (Keep.alloc (w.alloc (.cells #[.int .i64 k, .string n, .int .i64 op, .int .i64 v, .int .i64 sl, .string f, .bool on, .string fl, .bool nt, .slice none 0 0] 26)) (.cells #[.int .i64 0, .string ⟨#[]⟩, .int .i64 0, .int .i64 0, .int .i64 0, .string ⟨#[]⟩, .bool false, .string ⟨#[]⟩, .bool false, .slice none 0 0] 26)) b0.facts.2.2)
  have R1 := hid r0
  have A1 : Hid (Apart (One rb) w ((w.alloc (.cells #[.int .i64 k, .string n, .int .i64 op, .int .i64 v, .int .i64 sl, .string f, .bool on, .string fl, .bool nt, .slice none 0 0] 26)).alloc (.cells #[.int .i64 0, .string ⟨#[]⟩, .int .i64 0, .int .i64 0, .int .i64 0, .string ⟨#[]⟩, .bool false, .string ⟨#[]⟩, .bool false, .slice none 0 0] 26))) := (apart_alloc _ _).trans (apart_alloc _ _)
  have HR1 := hid (HR0.out.keep (Keep.alloc _ (.cells #[.int .i64 0, .string ⟨#[]⟩, .int .i64 0, .int .i64 0, .int .i64 0, .string ⟨#[]⟩, .bool false, .string ⟨#[]⟩, .bool false, .slice none 0 0] 26)))
  clear hE hO H HR0 e0 b0 r0 hr
  by_cases hbad : k = 5 ∧ nameB fl.data.toList = false
  · have hk5 : (k == 5) = true := by simp [hbad.1]
    have HNM : Hid (nameB fl.data.toList = false) := hbad.2
    have HRES : Hid (rdGroup g k ⟨n, op, v, sl, f, on⟩ fl nt (ws.map (·.data.toList)) = none) := by show _ = _; unfold rdGroup; rw [if_pos hbad]
    clear hbad
    go_enter Tryz.func122, Tryz.ntmps122
    go_wp2_with fail
    generalize (w.alloc (.cells #[.int .i64 k, .string n, .int .i64 op, .int .i64 v, .int .i64 sl, .string f, .bool on, .string fl, .bool nt, .slice none 0 0] 26)).alloc (.cells #[.int .i64 0, .string ⟨#[]⟩, .int .i64 0, .int .i64 0, .int .i64 0, .string ⟨#[]⟩, .bool false, .string ⟨#[]⟩, .bool false, .slice none 0 0] 26) = W1 at B1 R1 A1 HR1 ⊢
    refine (name_any _ _).mono ?_
    rintro e w2 ⟨rfl, hw2⟩
    rw [HNM.out, hw2]
    clear hw2 w2
    obtain ⟨hcr, hzr, hlr3⟩ := R1.out.facts
    go_wp2_with fail
    obtain ⟨b1, b2, b3, b4⟩ := R1.out.set rfl (.int .i64 0) (.string ⟨#[]⟩) (.int .i64 0) (.int .i64 0) (.int .i64 0) (.string ⟨#[]⟩) (.bool false) (.string ⟨#[]⟩) (.bool false) (.slice none 0 0)
    have BW : Hid (NBox (w.heap.size + 1) #[.int .i64 0, .string ⟨#[]⟩, .int .i64 0, .int .i64 0, .int .i64 0, .string ⟨#[]⟩, .bool false, .string ⟨#[]⟩, .bool false, .slice none 0 0] ((((((((((W1.setCell ⟨w.heap.size + 1, 0, none⟩ (.int .i64 0)).setCell ⟨w.heap.size + 1, 1, none⟩ (.string ⟨#[]⟩)).setCell ⟨w.heap.size + 1, 2, none⟩ (.int .i64 0)).setCell ⟨w.heap.size + 1, 3, none⟩ (.int .i64 0)).setCell ⟨w.heap.size + 1, 4, none⟩ (.int .i64 0)).setCell ⟨w.heap.size + 1, 5, none⟩ (.string ⟨#[]⟩)).setCell ⟨w.heap.size + 1, 6, none⟩ (.bool false)).setCell ⟨w.heap.size + 1, 7, none⟩ (.string ⟨#[]⟩)).setCell ⟨w.heap.size + 1, 8, none⟩ (.bool false)).setCell ⟨w.heap.size + 1, 9, none⟩ (.slice none 0 0))) := b1
    have KW : Hid (Below (w.heap.size + 1) W1 ((((((((((W1.setCell ⟨w.heap.size + 1, 0, none⟩ (.int .i64 0)).setCell ⟨w.heap.size + 1, 1, none⟩ (.string ⟨#[]⟩)).setCell ⟨w.heap.size + 1, 2, none⟩ (.int .i64 0)).setCell ⟨w.heap.size + 1, 3, none⟩ (.int .i64 0)).setCell ⟨w.heap.size + 1, 4, none⟩ (.int .i64 0)).setCell ⟨w.heap.size + 1, 5, none⟩ (.string ⟨#[]⟩)).setCell ⟨w.heap.size + 1, 6, none⟩ (.bool false)).setCell ⟨w.heap.size + 1, 7, none⟩ (.string ⟨#[]⟩)).setCell ⟨w.heap.size + 1, 8, none⟩ (.bool false)).setCell ⟨w.heap.size + 1, 9, none⟩ (.slice none 0 0))) := b2
    have SW : Hid (((((((((((W1.setCell ⟨w.heap.size + 1, 0, none⟩ (.int .i64 0)).setCell ⟨w.heap.size + 1, 1, none⟩ (.string ⟨#[]⟩)).setCell ⟨w.heap.size + 1, 2, none⟩ (.int .i64 0)).setCell ⟨w.heap.size + 1, 3, none⟩ (.int .i64 0)).setCell ⟨w.heap.size + 1, 4, none⟩ (.int .i64 0)).setCell ⟨w.heap.size + 1, 5, none⟩ (.string ⟨#[]⟩)).setCell ⟨w.heap.size + 1, 6, none⟩ (.bool false)).setCell ⟨w.heap.size + 1, 7, none⟩ (.string ⟨#[]⟩)).setCell ⟨w.heap.size + 1, 8, none⟩ (.bool false)).setCell ⟨w.heap.size + 1, 9, none⟩ (.slice none 0 0)).heap.size = W1.heap.size) := b3
    have OW : Hid (∀ bb, bb ≠ w.heap.size + 1 → ((((((((((W1.setCell ⟨w.heap.size + 1, 0, none⟩ (.int .i64 0)).setCell ⟨w.heap.size + 1, 1, none⟩ (.string ⟨#[]⟩)).setCell ⟨w.heap.size + 1, 2, none⟩ (.int .i64 0)).setCell ⟨w.heap.size + 1, 3, none⟩ (.int .i64 0)).setCell ⟨w.heap.size + 1, 4, none⟩ (.int .i64 0)).setCell ⟨w.heap.size + 1, 5, none⟩ (.string ⟨#[]⟩)).setCell ⟨w.heap.size + 1, 6, none⟩ (.bool false)).setCell ⟨w.heap.size + 1, 7, none⟩ (.string ⟨#[]⟩)).setCell ⟨w.heap.size + 1, 8, none⟩ (.bool false)).setCell ⟨w.heap.size + 1, 9, none⟩ (.slice none 0 0)).heap[bb]? = W1.heap[bb]?) := b4
    clear b1 b2 b3 b4 hcr hzr
    generalize ((((((((((W1.setCell ⟨w.heap.size + 1, 0, none⟩ (.int .i64 0)).setCell ⟨w.heap.size + 1, 1, none⟩ (.string ⟨#[]⟩)).setCell ⟨w.heap.size + 1, 2, none⟩ (.int .i64 0)).setCell ⟨w.heap.size + 1, 3, none⟩ (.int .i64 0)).setCell ⟨w.heap.size + 1, 4, none⟩ (.int .i64 0)).setCell ⟨w.heap.size + 1, 5, none⟩ (.string ⟨#[]⟩)).setCell ⟨w.heap.size + 1, 6, none⟩ (.bool false)).setCell ⟨w.heap.size + 1, 7, none⟩ (.string ⟨#[]⟩)).setCell ⟨w.heap.size + 1, 8, none⟩ (.bool false)).setCell ⟨w.heap.size + 1, 9, none⟩ (.slice none 0 0)) = W at BW KW SW OW ⊢
    obtain ⟨hcW, _, _⟩ := BW.out.facts
    refine bodyPost_ret (v := .tuple #[.agg #[.int .i64 0, .string ⟨#[]⟩, .int .i64 0, .int .i64 0, .int .i64 0, .string ⟨#[]⟩, .bool false, .string ⟨#[]⟩, .bool false, .slice none 0 0], .bool false]) ?_ rfl ?_
    · simp [results, Tryz.results122, go_sem, hcW]
    show NeedDone _ _ w _ W
    rw [HRES.out]
    exact ⟨rfl, apart_set A1.out KW.out (by omega)⟩
  · have HRES : Hid (rdGroup g k ⟨n, op, v, sl, f, on⟩ fl nt (ws.map (·.data.toList)) = openBy (rdNeed g) (.node k ⟨n, op, v, sl, f, on⟩ fl nt) (ws.map (·.data.toList))) := by show _ = _; unfold rdGroup; rw [if_neg hbad]
    have hways : ((k == 5) = true ∧ Hid (nameB fl.data.toList = true)) ∨ (k == 5) = false := by
      by_cases e : k = 5
      · left
        refine ⟨by simp [e], ?_⟩
        cases hn : nameB fl.data.toList
        · exact absurd ⟨e, hn⟩ hbad
        · rfl
      · right; simp [e]
    clear hbad
    go_enter Tryz.func122, Tryz.ntmps122
    go_upto_region 1 with fail
    generalize (w.alloc (.cells #[.int .i64 k, .string n, .int .i64 op, .int .i64 v, .int .i64 sl, .string f, .bool on, .string fl, .bool nt, .slice none 0 0] 26)).alloc (.cells #[.int .i64 0, .string ⟨#[]⟩, .int .i64 0, .int .i64 0, .int .i64 0, .string ⟨#[]⟩, .bool false, .string ⟨#[]⟩, .bool false, .slice none 0 0] 26) = W1 at B1 R1 A1 HR1 ⊢
    obtain ⟨hcb, hzb, hlb⟩ := B1.out.facts
    rcases hways with ⟨hk5, HNM⟩ | hk5
    · go_wp2_with fail
      refine (name_any _ _).mono ?_
      rintro e w2 ⟨rfl, hw2⟩
      rw [HNM.out, hw2]
      clear hw2 w2
      go_wp2_with fail
      refine (rdS_next rb ws W1 HR1.out).mono ?_
      rintro e w2 ⟨rfl, hr2, hl2, ha2⟩
      have B2 := hid (B1.out.apart ha2 (by omega))
      have R2 := hid (R1.out.apart ha2 (by omega))
      have A2 := hid (A1.out.trans ha2)
      have HR2 := hid hr2
      have hlr2 := hr2.1.lt
      have HX2 : Hid (openBy (rdNeed g) (.node k ⟨n, op, v, sl, f, on⟩ fl nt) (ws.map (·.data.toList)) = if (ws.headD ⟨#[]⟩).data.toList = [40] then kidsAll (rdNeed g) (.node k ⟨n, op, v, sl, f, on⟩ fl nt) (ws.tail.map (·.data.toList)) else none) := by
        cases ws with
        | nil => rfl
        | cons x ws => rfl
      generalize ws.headD ⟨#[]⟩ = x0 at hl2 HX2 ⊢
      generalize ws.tail = tl at HR2 hr2 HX2
      clear hr2 hl2 ha2 hcb hzb
      obtain ⟨hcb, hzb, hlb⟩ := B2.out.facts
      rcases word_is x0 [40] with ⟨hw1, hw2, hw3⟩ | ⟨hw1, hw2, hw3⟩
      · have HRES2 : Hid (rdGroup g k ⟨n, op, v, sl, f, on⟩ fl nt (ws.map (·.data.toList)) = kidsAll (rdNeed g) (.node k ⟨n, op, v, sl, f, on⟩ fl nt) (tl.map (·.data.toList))) := by show _ = _; rw [HRES.out, HX2.out, if_pos hw1]
        clear hw1 HX2
        go_wp2_with fail
        refine (kids_any g HH.out rb k n f op v sl on fl nt tl d w2 hd hd1 (HE.out.apart HO.out hlr A2.out) HO.out HR2.out).mono ?_
        rintro e w3 hdone
        rw [← HRES2.out] at hdone
        clear hcb hzb
        cases hq : rdGroup g k ⟨n, op, v, sl, f, on⟩ fl nt (ws.map (·.data.toList)) with
        | none =>
          rw [hq] at hdone
          obtain ⟨rfl, ha3⟩ := hdone
          have R3 := hid (R2.out.apart ha3 (by omega))
          have A3 := hid (A2.out.trans ha3)
          have HQ := hid hq
          clear ha3 hq
          unfold zeroV
          obtain ⟨hcr, hzr, hlr3⟩ := R3.out.facts
          go_wp2_with fail
          obtain ⟨b1, b2, b3, b4⟩ := R3.out.set rfl (.int .i64 0) (.string ⟨#[]⟩) (.int .i64 0) (.int .i64 0) (.int .i64 0) (.string ⟨#[]⟩) (.bool false) (.string ⟨#[]⟩) (.bool false) (.slice none 0 0)
          have BW : Hid (NBox (w.heap.size + 1) #[.int .i64 0, .string ⟨#[]⟩, .int .i64 0, .int .i64 0, .int .i64 0, .string ⟨#[]⟩, .bool false, .string ⟨#[]⟩, .bool false, .slice none 0 0] ((((((((((w3.setCell ⟨w.heap.size + 1, 0, none⟩ (.int .i64 0)).setCell ⟨w.heap.size + 1, 1, none⟩ (.string ⟨#[]⟩)).setCell ⟨w.heap.size + 1, 2, none⟩ (.int .i64 0)).setCell ⟨w.heap.size + 1, 3, none⟩ (.int .i64 0)).setCell ⟨w.heap.size + 1, 4, none⟩ (.int .i64 0)).setCell ⟨w.heap.size + 1, 5, none⟩ (.string ⟨#[]⟩)).setCell ⟨w.heap.size + 1, 6, none⟩ (.bool false)).setCell ⟨w.heap.size + 1, 7, none⟩ (.string ⟨#[]⟩)).setCell ⟨w.heap.size + 1, 8, none⟩ (.bool false)).setCell ⟨w.heap.size + 1, 9, none⟩ (.slice none 0 0))) := b1
          have KW : Hid (Below (w.heap.size + 1) w3 ((((((((((w3.setCell ⟨w.heap.size + 1, 0, none⟩ (.int .i64 0)).setCell ⟨w.heap.size + 1, 1, none⟩ (.string ⟨#[]⟩)).setCell ⟨w.heap.size + 1, 2, none⟩ (.int .i64 0)).setCell ⟨w.heap.size + 1, 3, none⟩ (.int .i64 0)).setCell ⟨w.heap.size + 1, 4, none⟩ (.int .i64 0)).setCell ⟨w.heap.size + 1, 5, none⟩ (.string ⟨#[]⟩)).setCell ⟨w.heap.size + 1, 6, none⟩ (.bool false)).setCell ⟨w.heap.size + 1, 7, none⟩ (.string ⟨#[]⟩)).setCell ⟨w.heap.size + 1, 8, none⟩ (.bool false)).setCell ⟨w.heap.size + 1, 9, none⟩ (.slice none 0 0))) := b2
          have SW : Hid (((((((((((w3.setCell ⟨w.heap.size + 1, 0, none⟩ (.int .i64 0)).setCell ⟨w.heap.size + 1, 1, none⟩ (.string ⟨#[]⟩)).setCell ⟨w.heap.size + 1, 2, none⟩ (.int .i64 0)).setCell ⟨w.heap.size + 1, 3, none⟩ (.int .i64 0)).setCell ⟨w.heap.size + 1, 4, none⟩ (.int .i64 0)).setCell ⟨w.heap.size + 1, 5, none⟩ (.string ⟨#[]⟩)).setCell ⟨w.heap.size + 1, 6, none⟩ (.bool false)).setCell ⟨w.heap.size + 1, 7, none⟩ (.string ⟨#[]⟩)).setCell ⟨w.heap.size + 1, 8, none⟩ (.bool false)).setCell ⟨w.heap.size + 1, 9, none⟩ (.slice none 0 0)).heap.size = w3.heap.size) := b3
          have OW : Hid (∀ bb, bb ≠ w.heap.size + 1 → ((((((((((w3.setCell ⟨w.heap.size + 1, 0, none⟩ (.int .i64 0)).setCell ⟨w.heap.size + 1, 1, none⟩ (.string ⟨#[]⟩)).setCell ⟨w.heap.size + 1, 2, none⟩ (.int .i64 0)).setCell ⟨w.heap.size + 1, 3, none⟩ (.int .i64 0)).setCell ⟨w.heap.size + 1, 4, none⟩ (.int .i64 0)).setCell ⟨w.heap.size + 1, 5, none⟩ (.string ⟨#[]⟩)).setCell ⟨w.heap.size + 1, 6, none⟩ (.bool false)).setCell ⟨w.heap.size + 1, 7, none⟩ (.string ⟨#[]⟩)).setCell ⟨w.heap.size + 1, 8, none⟩ (.bool false)).setCell ⟨w.heap.size + 1, 9, none⟩ (.slice none 0 0)).heap[bb]? = w3.heap[bb]?) := b4
          clear b1 b2 b3 b4 hcr hzr
          generalize ((((((((((w3.setCell ⟨w.heap.size + 1, 0, none⟩ (.int .i64 0)).setCell ⟨w.heap.size + 1, 1, none⟩ (.string ⟨#[]⟩)).setCell ⟨w.heap.size + 1, 2, none⟩ (.int .i64 0)).setCell ⟨w.heap.size + 1, 3, none⟩ (.int .i64 0)).setCell ⟨w.heap.size + 1, 4, none⟩ (.int .i64 0)).setCell ⟨w.heap.size + 1, 5, none⟩ (.string ⟨#[]⟩)).setCell ⟨w.heap.size + 1, 6, none⟩ (.bool false)).setCell ⟨w.heap.size + 1, 7, none⟩ (.string ⟨#[]⟩)).setCell ⟨w.heap.size + 1, 8, none⟩ (.bool false)).setCell ⟨w.heap.size + 1, 9, none⟩ (.slice none 0 0)) = W at BW KW SW OW ⊢
          obtain ⟨hcW, _, _⟩ := BW.out.facts
          refine bodyPost_ret (v := .tuple #[.agg #[.int .i64 0, .string ⟨#[]⟩, .int .i64 0, .int .i64 0, .int .i64 0, .string ⟨#[]⟩, .bool false, .string ⟨#[]⟩, .bool false, .slice none 0 0], .bool false]) ?_ rfl ?_
          · simp [results, Tryz.results122, go_sem, hcW]
          show NeedDone _ _ w _ W
          rw [HQ.out]
          exact ⟨rfl, apart_set A3.out KW.out (by omega)⟩
        | some r =>
          obtain ⟨t, rs⟩ := r
          rw [hq] at hdone
          obtain ⟨cs, ws3, rfl, hn3, hr3, hm3, ha3⟩ := hdone
          have R3 := hid (R2.out.apart ha3 (by omega))
          have A3 := hid (A2.out.trans ha3)
          have HQ := hid hq
          have HN3 := hid hn3
          have HR3 := hid hr3
          have HM3 := hid hm3
          have hl2k := R2.out.facts.2.2
          clear ha3 hq hr3 hm3
          cases t with
          | node k' a' fl' nt' kids' =>
          rw [NeedIs] at hn3
          obtain ⟨kp', kc', rfl, -, -, -⟩ := hn3
          obtain ⟨hcr, hzr, hlr3⟩ := R3.out.facts
          go_wp2_with fail
          obtain ⟨b1, b2, b3, b4⟩ := R3.out.set rfl (.int .i64 k') (.string a'.n) (.int .i64 a'.op) (.int .i64 a'.v) (.int .i64 a'.sl) (.string a'.f) (.bool a'.on) (.string fl') (.bool nt') (.slice kp' kids'.length kc')
          have BW : Hid (NBox (w.heap.size + 1) #[.int .i64 k', .string a'.n, .int .i64 a'.op, .int .i64 a'.v, .int .i64 a'.sl, .string a'.f, .bool a'.on, .string fl', .bool nt', .slice kp' kids'.length kc'] ((((((((((w3.setCell ⟨w.heap.size + 1, 0, none⟩ (.int .i64 k')).setCell ⟨w.heap.size + 1, 1, none⟩ (.string a'.n)).setCell ⟨w.heap.size + 1, 2, none⟩ (.int .i64 a'.op)).setCell ⟨w.heap.size + 1, 3, none⟩ (.int .i64 a'.v)).setCell ⟨w.heap.size + 1, 4, none⟩ (.int .i64 a'.sl)).setCell ⟨w.heap.size + 1, 5, none⟩ (.string a'.f)).setCell ⟨w.heap.size + 1, 6, none⟩ (.bool a'.on)).setCell ⟨w.heap.size + 1, 7, none⟩ (.string fl')).setCell ⟨w.heap.size + 1, 8, none⟩ (.bool nt')).setCell ⟨w.heap.size + 1, 9, none⟩ (.slice kp' kids'.length kc'))) := b1
          have KW : Hid (Below (w.heap.size + 1) w3 ((((((((((w3.setCell ⟨w.heap.size + 1, 0, none⟩ (.int .i64 k')).setCell ⟨w.heap.size + 1, 1, none⟩ (.string a'.n)).setCell ⟨w.heap.size + 1, 2, none⟩ (.int .i64 a'.op)).setCell ⟨w.heap.size + 1, 3, none⟩ (.int .i64 a'.v)).setCell ⟨w.heap.size + 1, 4, none⟩ (.int .i64 a'.sl)).setCell ⟨w.heap.size + 1, 5, none⟩ (.string a'.f)).setCell ⟨w.heap.size + 1, 6, none⟩ (.bool a'.on)).setCell ⟨w.heap.size + 1, 7, none⟩ (.string fl')).setCell ⟨w.heap.size + 1, 8, none⟩ (.bool nt')).setCell ⟨w.heap.size + 1, 9, none⟩ (.slice kp' kids'.length kc'))) := b2
          have SW : Hid (((((((((((w3.setCell ⟨w.heap.size + 1, 0, none⟩ (.int .i64 k')).setCell ⟨w.heap.size + 1, 1, none⟩ (.string a'.n)).setCell ⟨w.heap.size + 1, 2, none⟩ (.int .i64 a'.op)).setCell ⟨w.heap.size + 1, 3, none⟩ (.int .i64 a'.v)).setCell ⟨w.heap.size + 1, 4, none⟩ (.int .i64 a'.sl)).setCell ⟨w.heap.size + 1, 5, none⟩ (.string a'.f)).setCell ⟨w.heap.size + 1, 6, none⟩ (.bool a'.on)).setCell ⟨w.heap.size + 1, 7, none⟩ (.string fl')).setCell ⟨w.heap.size + 1, 8, none⟩ (.bool nt')).setCell ⟨w.heap.size + 1, 9, none⟩ (.slice kp' kids'.length kc')).heap.size = w3.heap.size) := b3
          have OW : Hid (∀ bb, bb ≠ w.heap.size + 1 → ((((((((((w3.setCell ⟨w.heap.size + 1, 0, none⟩ (.int .i64 k')).setCell ⟨w.heap.size + 1, 1, none⟩ (.string a'.n)).setCell ⟨w.heap.size + 1, 2, none⟩ (.int .i64 a'.op)).setCell ⟨w.heap.size + 1, 3, none⟩ (.int .i64 a'.v)).setCell ⟨w.heap.size + 1, 4, none⟩ (.int .i64 a'.sl)).setCell ⟨w.heap.size + 1, 5, none⟩ (.string a'.f)).setCell ⟨w.heap.size + 1, 6, none⟩ (.bool a'.on)).setCell ⟨w.heap.size + 1, 7, none⟩ (.string fl')).setCell ⟨w.heap.size + 1, 8, none⟩ (.bool nt')).setCell ⟨w.heap.size + 1, 9, none⟩ (.slice kp' kids'.length kc')).heap[bb]? = w3.heap[bb]?) := b4
          clear b1 b2 b3 b4 hcr hzr
          generalize ((((((((((w3.setCell ⟨w.heap.size + 1, 0, none⟩ (.int .i64 k')).setCell ⟨w.heap.size + 1, 1, none⟩ (.string a'.n)).setCell ⟨w.heap.size + 1, 2, none⟩ (.int .i64 a'.op)).setCell ⟨w.heap.size + 1, 3, none⟩ (.int .i64 a'.v)).setCell ⟨w.heap.size + 1, 4, none⟩ (.int .i64 a'.sl)).setCell ⟨w.heap.size + 1, 5, none⟩ (.string a'.f)).setCell ⟨w.heap.size + 1, 6, none⟩ (.bool a'.on)).setCell ⟨w.heap.size + 1, 7, none⟩ (.string fl')).setCell ⟨w.heap.size + 1, 8, none⟩ (.bool nt')).setCell ⟨w.heap.size + 1, 9, none⟩ (.slice kp' kids'.length kc')) = W at BW KW SW OW ⊢
          obtain ⟨hcW, _, _⟩ := BW.out.facts
          refine bodyPost_ret (v := .tuple #[.agg #[.int .i64 k', .string a'.n, .int .i64 a'.op, .int .i64 a'.v, .int .i64 a'.sl, .string a'.f, .bool a'.on, .string fl', .bool nt', .slice kp' kids'.length kc'], .bool true]) ?_ rfl ?_
          · simp [results, Tryz.results122, go_sem, hcW]
          show NeedDone _ _ w _ W
          rw [HQ.out]
          obtain ⟨d1, d2⟩ := done_lift (X := w.heap.size + 1) (w := w) (by omega) hl2k HN3.out HR3.out hlr OW.out SW.out
          exact ⟨_, ws3, rfl, d1, d2, HM3.out, apart_set A3.out KW.out (by omega)⟩
      · have HRES2 : Hid (rdGroup g k ⟨n, op, v, sl, f, on⟩ fl nt (ws.map (·.data.toList)) = none) := by show _ = _; rw [HRES.out, HX2.out, if_neg hw1]
        clear hw1 HX2 hcb hzb
        obtain ⟨hcr, hzr, hlr3⟩ := R2.out.facts
        go_wp2_with fail
        obtain ⟨b1, b2, b3, b4⟩ := R2.out.set rfl (.int .i64 0) (.string ⟨#[]⟩) (.int .i64 0) (.int .i64 0) (.int .i64 0) (.string ⟨#[]⟩) (.bool false) (.string ⟨#[]⟩) (.bool false) (.slice none 0 0)
        have BW : Hid (NBox (w.heap.size + 1) #[.int .i64 0, .string ⟨#[]⟩, .int .i64 0, .int .i64 0, .int .i64 0, .string ⟨#[]⟩, .bool false, .string ⟨#[]⟩, .bool false, .slice none 0 0] ((((((((((w2.setCell ⟨w.heap.size + 1, 0, none⟩ (.int .i64 0)).setCell ⟨w.heap.size + 1, 1, none⟩ (.string ⟨#[]⟩)).setCell ⟨w.heap.size + 1, 2, none⟩ (.int .i64 0)).setCell ⟨w.heap.size + 1, 3, none⟩ (.int .i64 0)).setCell ⟨w.heap.size + 1, 4, none⟩ (.int .i64 0)).setCell ⟨w.heap.size + 1, 5, none⟩ (.string ⟨#[]⟩)).setCell ⟨w.heap.size + 1, 6, none⟩ (.bool false)).setCell ⟨w.heap.size + 1, 7, none⟩ (.string ⟨#[]⟩)).setCell ⟨w.heap.size + 1, 8, none⟩ (.bool false)).setCell ⟨w.heap.size + 1, 9, none⟩ (.slice none 0 0))) := b1
        have KW : Hid (Below (w.heap.size + 1) w2 ((((((((((w2.setCell ⟨w.heap.size + 1, 0, none⟩ (.int .i64 0)).setCell ⟨w.heap.size + 1, 1, none⟩ (.string ⟨#[]⟩)).setCell ⟨w.heap.size + 1, 2, none⟩ (.int .i64 0)).setCell ⟨w.heap.size + 1, 3, none⟩ (.int .i64 0)).setCell ⟨w.heap.size + 1, 4, none⟩ (.int .i64 0)).setCell ⟨w.heap.size + 1, 5, none⟩ (.string ⟨#[]⟩)).setCell ⟨w.heap.size + 1, 6, none⟩ (.bool false)).setCell ⟨w.heap.size + 1, 7, none⟩ (.string ⟨#[]⟩)).setCell ⟨w.heap.size + 1, 8, none⟩ (.bool false)).setCell ⟨w.heap.size + 1, 9, none⟩ (.slice none 0 0))) := b2
        have SW : Hid (((((((((((w2.setCell ⟨w.heap.size + 1, 0, none⟩ (.int .i64 0)).setCell ⟨w.heap.size + 1, 1, none⟩ (.string ⟨#[]⟩)).setCell ⟨w.heap.size + 1, 2, none⟩ (.int .i64 0)).setCell ⟨w.heap.size + 1, 3, none⟩ (.int .i64 0)).setCell ⟨w.heap.size + 1, 4, none⟩ (.int .i64 0)).setCell ⟨w.heap.size + 1, 5, none⟩ (.string ⟨#[]⟩)).setCell ⟨w.heap.size + 1, 6, none⟩ (.bool false)).setCell ⟨w.heap.size + 1, 7, none⟩ (.string ⟨#[]⟩)).setCell ⟨w.heap.size + 1, 8, none⟩ (.bool false)).setCell ⟨w.heap.size + 1, 9, none⟩ (.slice none 0 0)).heap.size = w2.heap.size) := b3
        have OW : Hid (∀ bb, bb ≠ w.heap.size + 1 → ((((((((((w2.setCell ⟨w.heap.size + 1, 0, none⟩ (.int .i64 0)).setCell ⟨w.heap.size + 1, 1, none⟩ (.string ⟨#[]⟩)).setCell ⟨w.heap.size + 1, 2, none⟩ (.int .i64 0)).setCell ⟨w.heap.size + 1, 3, none⟩ (.int .i64 0)).setCell ⟨w.heap.size + 1, 4, none⟩ (.int .i64 0)).setCell ⟨w.heap.size + 1, 5, none⟩ (.string ⟨#[]⟩)).setCell ⟨w.heap.size + 1, 6, none⟩ (.bool false)).setCell ⟨w.heap.size + 1, 7, none⟩ (.string ⟨#[]⟩)).setCell ⟨w.heap.size + 1, 8, none⟩ (.bool false)).setCell ⟨w.heap.size + 1, 9, none⟩ (.slice none 0 0)).heap[bb]? = w2.heap[bb]?) := b4
        clear b1 b2 b3 b4 hcr hzr
        generalize ((((((((((w2.setCell ⟨w.heap.size + 1, 0, none⟩ (.int .i64 0)).setCell ⟨w.heap.size + 1, 1, none⟩ (.string ⟨#[]⟩)).setCell ⟨w.heap.size + 1, 2, none⟩ (.int .i64 0)).setCell ⟨w.heap.size + 1, 3, none⟩ (.int .i64 0)).setCell ⟨w.heap.size + 1, 4, none⟩ (.int .i64 0)).setCell ⟨w.heap.size + 1, 5, none⟩ (.string ⟨#[]⟩)).setCell ⟨w.heap.size + 1, 6, none⟩ (.bool false)).setCell ⟨w.heap.size + 1, 7, none⟩ (.string ⟨#[]⟩)).setCell ⟨w.heap.size + 1, 8, none⟩ (.bool false)).setCell ⟨w.heap.size + 1, 9, none⟩ (.slice none 0 0)) = W at BW KW SW OW ⊢
        obtain ⟨hcW, _, _⟩ := BW.out.facts
        refine bodyPost_ret (v := .tuple #[.agg #[.int .i64 0, .string ⟨#[]⟩, .int .i64 0, .int .i64 0, .int .i64 0, .string ⟨#[]⟩, .bool false, .string ⟨#[]⟩, .bool false, .slice none 0 0], .bool false]) ?_ rfl ?_
        · simp [results, Tryz.results122, go_sem, hcW]
        show NeedDone _ _ w _ W
        rw [HRES2.out]
        exact ⟨rfl, apart_set A2.out KW.out (by omega)⟩
    · go_wp2_with fail
      refine (rdS_next rb ws W1 HR1.out).mono ?_
      rintro e w2 ⟨rfl, hr2, hl2, ha2⟩
      have B2 := hid (B1.out.apart ha2 (by omega))
      have R2 := hid (R1.out.apart ha2 (by omega))
      have A2 := hid (A1.out.trans ha2)
      have HR2 := hid hr2
      have hlr2 := hr2.1.lt
      have HX2 : Hid (openBy (rdNeed g) (.node k ⟨n, op, v, sl, f, on⟩ fl nt) (ws.map (·.data.toList)) = if (ws.headD ⟨#[]⟩).data.toList = [40] then kidsAll (rdNeed g) (.node k ⟨n, op, v, sl, f, on⟩ fl nt) (ws.tail.map (·.data.toList)) else none) := by
        cases ws with
        | nil => rfl
        | cons x ws => rfl
      generalize ws.headD ⟨#[]⟩ = x0 at hl2 HX2 ⊢
      generalize ws.tail = tl at HR2 hr2 HX2
      clear hr2 hl2 ha2 hcb hzb
      obtain ⟨hcb, hzb, hlb⟩ := B2.out.facts
      rcases word_is x0 [40] with ⟨hw1, hw2, hw3⟩ | ⟨hw1, hw2, hw3⟩
      · have HRES2 : Hid (rdGroup g k ⟨n, op, v, sl, f, on⟩ fl nt (ws.map (·.data.toList)) = kidsAll (rdNeed g) (.node k ⟨n, op, v, sl, f, on⟩ fl nt) (tl.map (·.data.toList))) := by show _ = _; rw [HRES.out, HX2.out, if_pos hw1]
        clear hw1 HX2
        go_wp2_with fail
        refine (kids_any g HH.out rb k n f op v sl on fl nt tl d w2 hd hd1 (HE.out.apart HO.out hlr A2.out) HO.out HR2.out).mono ?_
        rintro e w3 hdone
        rw [← HRES2.out] at hdone
        clear hcb hzb
        cases hq : rdGroup g k ⟨n, op, v, sl, f, on⟩ fl nt (ws.map (·.data.toList)) with
        | none =>
          rw [hq] at hdone
          obtain ⟨rfl, ha3⟩ := hdone
          have R3 := hid (R2.out.apart ha3 (by omega))
          have A3 := hid (A2.out.trans ha3)
          have HQ := hid hq
          clear ha3 hq
          unfold zeroV
          obtain ⟨hcr, hzr, hlr3⟩ := R3.out.facts
          go_wp2_with fail
          obtain ⟨b1, b2, b3, b4⟩ := R3.out.set rfl (.int .i64 0) (.string ⟨#[]⟩) (.int .i64 0) (.int .i64 0) (.int .i64 0) (.string ⟨#[]⟩) (.bool false) (.string ⟨#[]⟩) (.bool false) (.slice none 0 0)
          have BW : Hid (NBox (w.heap.size + 1) #[.int .i64 0, .string ⟨#[]⟩, .int .i64 0, .int .i64 0, .int .i64 0, .string ⟨#[]⟩, .bool false, .string ⟨#[]⟩, .bool false, .slice none 0 0] ((((((((((w3.setCell ⟨w.heap.size + 1, 0, none⟩ (.int .i64 0)).setCell ⟨w.heap.size + 1, 1, none⟩ (.string ⟨#[]⟩)).setCell ⟨w.heap.size + 1, 2, none⟩ (.int .i64 0)).setCell ⟨w.heap.size + 1, 3, none⟩ (.int .i64 0)).setCell ⟨w.heap.size + 1, 4, none⟩ (.int .i64 0)).setCell ⟨w.heap.size + 1, 5, none⟩ (.string ⟨#[]⟩)).setCell ⟨w.heap.size + 1, 6, none⟩ (.bool false)).setCell ⟨w.heap.size + 1, 7, none⟩ (.string ⟨#[]⟩)).setCell ⟨w.heap.size + 1, 8, none⟩ (.bool false)).setCell ⟨w.heap.size + 1, 9, none⟩ (.slice none 0 0))) := b1
          have KW : Hid (Below (w.heap.size + 1) w3 ((((((((((w3.setCell ⟨w.heap.size + 1, 0, none⟩ (.int .i64 0)).setCell ⟨w.heap.size + 1, 1, none⟩ (.string ⟨#[]⟩)).setCell ⟨w.heap.size + 1, 2, none⟩ (.int .i64 0)).setCell ⟨w.heap.size + 1, 3, none⟩ (.int .i64 0)).setCell ⟨w.heap.size + 1, 4, none⟩ (.int .i64 0)).setCell ⟨w.heap.size + 1, 5, none⟩ (.string ⟨#[]⟩)).setCell ⟨w.heap.size + 1, 6, none⟩ (.bool false)).setCell ⟨w.heap.size + 1, 7, none⟩ (.string ⟨#[]⟩)).setCell ⟨w.heap.size + 1, 8, none⟩ (.bool false)).setCell ⟨w.heap.size + 1, 9, none⟩ (.slice none 0 0))) := b2
          have SW : Hid (((((((((((w3.setCell ⟨w.heap.size + 1, 0, none⟩ (.int .i64 0)).setCell ⟨w.heap.size + 1, 1, none⟩ (.string ⟨#[]⟩)).setCell ⟨w.heap.size + 1, 2, none⟩ (.int .i64 0)).setCell ⟨w.heap.size + 1, 3, none⟩ (.int .i64 0)).setCell ⟨w.heap.size + 1, 4, none⟩ (.int .i64 0)).setCell ⟨w.heap.size + 1, 5, none⟩ (.string ⟨#[]⟩)).setCell ⟨w.heap.size + 1, 6, none⟩ (.bool false)).setCell ⟨w.heap.size + 1, 7, none⟩ (.string ⟨#[]⟩)).setCell ⟨w.heap.size + 1, 8, none⟩ (.bool false)).setCell ⟨w.heap.size + 1, 9, none⟩ (.slice none 0 0)).heap.size = w3.heap.size) := b3
          have OW : Hid (∀ bb, bb ≠ w.heap.size + 1 → ((((((((((w3.setCell ⟨w.heap.size + 1, 0, none⟩ (.int .i64 0)).setCell ⟨w.heap.size + 1, 1, none⟩ (.string ⟨#[]⟩)).setCell ⟨w.heap.size + 1, 2, none⟩ (.int .i64 0)).setCell ⟨w.heap.size + 1, 3, none⟩ (.int .i64 0)).setCell ⟨w.heap.size + 1, 4, none⟩ (.int .i64 0)).setCell ⟨w.heap.size + 1, 5, none⟩ (.string ⟨#[]⟩)).setCell ⟨w.heap.size + 1, 6, none⟩ (.bool false)).setCell ⟨w.heap.size + 1, 7, none⟩ (.string ⟨#[]⟩)).setCell ⟨w.heap.size + 1, 8, none⟩ (.bool false)).setCell ⟨w.heap.size + 1, 9, none⟩ (.slice none 0 0)).heap[bb]? = w3.heap[bb]?) := b4
          clear b1 b2 b3 b4 hcr hzr
          generalize ((((((((((w3.setCell ⟨w.heap.size + 1, 0, none⟩ (.int .i64 0)).setCell ⟨w.heap.size + 1, 1, none⟩ (.string ⟨#[]⟩)).setCell ⟨w.heap.size + 1, 2, none⟩ (.int .i64 0)).setCell ⟨w.heap.size + 1, 3, none⟩ (.int .i64 0)).setCell ⟨w.heap.size + 1, 4, none⟩ (.int .i64 0)).setCell ⟨w.heap.size + 1, 5, none⟩ (.string ⟨#[]⟩)).setCell ⟨w.heap.size + 1, 6, none⟩ (.bool false)).setCell ⟨w.heap.size + 1, 7, none⟩ (.string ⟨#[]⟩)).setCell ⟨w.heap.size + 1, 8, none⟩ (.bool false)).setCell ⟨w.heap.size + 1, 9, none⟩ (.slice none 0 0)) = W at BW KW SW OW ⊢
          obtain ⟨hcW, _, _⟩ := BW.out.facts
          refine bodyPost_ret (v := .tuple #[.agg #[.int .i64 0, .string ⟨#[]⟩, .int .i64 0, .int .i64 0, .int .i64 0, .string ⟨#[]⟩, .bool false, .string ⟨#[]⟩, .bool false, .slice none 0 0], .bool false]) ?_ rfl ?_
          · simp [results, Tryz.results122, go_sem, hcW]
          show NeedDone _ _ w _ W
          rw [HQ.out]
          exact ⟨rfl, apart_set A3.out KW.out (by omega)⟩
        | some r =>
          obtain ⟨t, rs⟩ := r
          rw [hq] at hdone
          obtain ⟨cs, ws3, rfl, hn3, hr3, hm3, ha3⟩ := hdone
          have R3 := hid (R2.out.apart ha3 (by omega))
          have A3 := hid (A2.out.trans ha3)
          have HQ := hid hq
          have HN3 := hid hn3
          have HR3 := hid hr3
          have HM3 := hid hm3
          have hl2k := R2.out.facts.2.2
          clear ha3 hq hr3 hm3
          cases t with
          | node k' a' fl' nt' kids' =>
          rw [NeedIs] at hn3
          obtain ⟨kp', kc', rfl, -, -, -⟩ := hn3
          obtain ⟨hcr, hzr, hlr3⟩ := R3.out.facts
          go_wp2_with fail
          obtain ⟨b1, b2, b3, b4⟩ := R3.out.set rfl (.int .i64 k') (.string a'.n) (.int .i64 a'.op) (.int .i64 a'.v) (.int .i64 a'.sl) (.string a'.f) (.bool a'.on) (.string fl') (.bool nt') (.slice kp' kids'.length kc')
          have BW : Hid (NBox (w.heap.size + 1) #[.int .i64 k', .string a'.n, .int .i64 a'.op, .int .i64 a'.v, .int .i64 a'.sl, .string a'.f, .bool a'.on, .string fl', .bool nt', .slice kp' kids'.length kc'] ((((((((((w3.setCell ⟨w.heap.size + 1, 0, none⟩ (.int .i64 k')).setCell ⟨w.heap.size + 1, 1, none⟩ (.string a'.n)).setCell ⟨w.heap.size + 1, 2, none⟩ (.int .i64 a'.op)).setCell ⟨w.heap.size + 1, 3, none⟩ (.int .i64 a'.v)).setCell ⟨w.heap.size + 1, 4, none⟩ (.int .i64 a'.sl)).setCell ⟨w.heap.size + 1, 5, none⟩ (.string a'.f)).setCell ⟨w.heap.size + 1, 6, none⟩ (.bool a'.on)).setCell ⟨w.heap.size + 1, 7, none⟩ (.string fl')).setCell ⟨w.heap.size + 1, 8, none⟩ (.bool nt')).setCell ⟨w.heap.size + 1, 9, none⟩ (.slice kp' kids'.length kc'))) := b1
          have KW : Hid (Below (w.heap.size + 1) w3 ((((((((((w3.setCell ⟨w.heap.size + 1, 0, none⟩ (.int .i64 k')).setCell ⟨w.heap.size + 1, 1, none⟩ (.string a'.n)).setCell ⟨w.heap.size + 1, 2, none⟩ (.int .i64 a'.op)).setCell ⟨w.heap.size + 1, 3, none⟩ (.int .i64 a'.v)).setCell ⟨w.heap.size + 1, 4, none⟩ (.int .i64 a'.sl)).setCell ⟨w.heap.size + 1, 5, none⟩ (.string a'.f)).setCell ⟨w.heap.size + 1, 6, none⟩ (.bool a'.on)).setCell ⟨w.heap.size + 1, 7, none⟩ (.string fl')).setCell ⟨w.heap.size + 1, 8, none⟩ (.bool nt')).setCell ⟨w.heap.size + 1, 9, none⟩ (.slice kp' kids'.length kc'))) := b2
          have SW : Hid (((((((((((w3.setCell ⟨w.heap.size + 1, 0, none⟩ (.int .i64 k')).setCell ⟨w.heap.size + 1, 1, none⟩ (.string a'.n)).setCell ⟨w.heap.size + 1, 2, none⟩ (.int .i64 a'.op)).setCell ⟨w.heap.size + 1, 3, none⟩ (.int .i64 a'.v)).setCell ⟨w.heap.size + 1, 4, none⟩ (.int .i64 a'.sl)).setCell ⟨w.heap.size + 1, 5, none⟩ (.string a'.f)).setCell ⟨w.heap.size + 1, 6, none⟩ (.bool a'.on)).setCell ⟨w.heap.size + 1, 7, none⟩ (.string fl')).setCell ⟨w.heap.size + 1, 8, none⟩ (.bool nt')).setCell ⟨w.heap.size + 1, 9, none⟩ (.slice kp' kids'.length kc')).heap.size = w3.heap.size) := b3
          have OW : Hid (∀ bb, bb ≠ w.heap.size + 1 → ((((((((((w3.setCell ⟨w.heap.size + 1, 0, none⟩ (.int .i64 k')).setCell ⟨w.heap.size + 1, 1, none⟩ (.string a'.n)).setCell ⟨w.heap.size + 1, 2, none⟩ (.int .i64 a'.op)).setCell ⟨w.heap.size + 1, 3, none⟩ (.int .i64 a'.v)).setCell ⟨w.heap.size + 1, 4, none⟩ (.int .i64 a'.sl)).setCell ⟨w.heap.size + 1, 5, none⟩ (.string a'.f)).setCell ⟨w.heap.size + 1, 6, none⟩ (.bool a'.on)).setCell ⟨w.heap.size + 1, 7, none⟩ (.string fl')).setCell ⟨w.heap.size + 1, 8, none⟩ (.bool nt')).setCell ⟨w.heap.size + 1, 9, none⟩ (.slice kp' kids'.length kc')).heap[bb]? = w3.heap[bb]?) := b4
          clear b1 b2 b3 b4 hcr hzr
          generalize ((((((((((w3.setCell ⟨w.heap.size + 1, 0, none⟩ (.int .i64 k')).setCell ⟨w.heap.size + 1, 1, none⟩ (.string a'.n)).setCell ⟨w.heap.size + 1, 2, none⟩ (.int .i64 a'.op)).setCell ⟨w.heap.size + 1, 3, none⟩ (.int .i64 a'.v)).setCell ⟨w.heap.size + 1, 4, none⟩ (.int .i64 a'.sl)).setCell ⟨w.heap.size + 1, 5, none⟩ (.string a'.f)).setCell ⟨w.heap.size + 1, 6, none⟩ (.bool a'.on)).setCell ⟨w.heap.size + 1, 7, none⟩ (.string fl')).setCell ⟨w.heap.size + 1, 8, none⟩ (.bool nt')).setCell ⟨w.heap.size + 1, 9, none⟩ (.slice kp' kids'.length kc')) = W at BW KW SW OW ⊢
          obtain ⟨hcW, _, _⟩ := BW.out.facts
          refine bodyPost_ret (v := .tuple #[.agg #[.int .i64 k', .string a'.n, .int .i64 a'.op, .int .i64 a'.v, .int .i64 a'.sl, .string a'.f, .bool a'.on, .string fl', .bool nt', .slice kp' kids'.length kc'], .bool true]) ?_ rfl ?_
          · simp [results, Tryz.results122, go_sem, hcW]
          show NeedDone _ _ w _ W
          rw [HQ.out]
          obtain ⟨d1, d2⟩ := done_lift (X := w.heap.size + 1) (w := w) (by omega) hl2k HN3.out HR3.out hlr OW.out SW.out
          exact ⟨_, ws3, rfl, d1, d2, HM3.out, apart_set A3.out KW.out (by omega)⟩
      · have HRES2 : Hid (rdGroup g k ⟨n, op, v, sl, f, on⟩ fl nt (ws.map (·.data.toList)) = none) := by show _ = _; rw [HRES.out, HX2.out, if_neg hw1]
        clear hw1 HX2 hcb hzb
        obtain ⟨hcr, hzr, hlr3⟩ := R2.out.facts
        go_wp2_with fail
        obtain ⟨b1, b2, b3, b4⟩ := R2.out.set rfl (.int .i64 0) (.string ⟨#[]⟩) (.int .i64 0) (.int .i64 0) (.int .i64 0) (.string ⟨#[]⟩) (.bool false) (.string ⟨#[]⟩) (.bool false) (.slice none 0 0)
        have BW : Hid (NBox (w.heap.size + 1) #[.int .i64 0, .string ⟨#[]⟩, .int .i64 0, .int .i64 0, .int .i64 0, .string ⟨#[]⟩, .bool false, .string ⟨#[]⟩, .bool false, .slice none 0 0] ((((((((((w2.setCell ⟨w.heap.size + 1, 0, none⟩ (.int .i64 0)).setCell ⟨w.heap.size + 1, 1, none⟩ (.string ⟨#[]⟩)).setCell ⟨w.heap.size + 1, 2, none⟩ (.int .i64 0)).setCell ⟨w.heap.size + 1, 3, none⟩ (.int .i64 0)).setCell ⟨w.heap.size + 1, 4, none⟩ (.int .i64 0)).setCell ⟨w.heap.size + 1, 5, none⟩ (.string ⟨#[]⟩)).setCell ⟨w.heap.size + 1, 6, none⟩ (.bool false)).setCell ⟨w.heap.size + 1, 7, none⟩ (.string ⟨#[]⟩)).setCell ⟨w.heap.size + 1, 8, none⟩ (.bool false)).setCell ⟨w.heap.size + 1, 9, none⟩ (.slice none 0 0))) := b1
        have KW : Hid (Below (w.heap.size + 1) w2 ((((((((((w2.setCell ⟨w.heap.size + 1, 0, none⟩ (.int .i64 0)).setCell ⟨w.heap.size + 1, 1, none⟩ (.string ⟨#[]⟩)).setCell ⟨w.heap.size + 1, 2, none⟩ (.int .i64 0)).setCell ⟨w.heap.size + 1, 3, none⟩ (.int .i64 0)).setCell ⟨w.heap.size + 1, 4, none⟩ (.int .i64 0)).setCell ⟨w.heap.size + 1, 5, none⟩ (.string ⟨#[]⟩)).setCell ⟨w.heap.size + 1, 6, none⟩ (.bool false)).setCell ⟨w.heap.size + 1, 7, none⟩ (.string ⟨#[]⟩)).setCell ⟨w.heap.size + 1, 8, none⟩ (.bool false)).setCell ⟨w.heap.size + 1, 9, none⟩ (.slice none 0 0))) := b2
        have SW : Hid (((((((((((w2.setCell ⟨w.heap.size + 1, 0, none⟩ (.int .i64 0)).setCell ⟨w.heap.size + 1, 1, none⟩ (.string ⟨#[]⟩)).setCell ⟨w.heap.size + 1, 2, none⟩ (.int .i64 0)).setCell ⟨w.heap.size + 1, 3, none⟩ (.int .i64 0)).setCell ⟨w.heap.size + 1, 4, none⟩ (.int .i64 0)).setCell ⟨w.heap.size + 1, 5, none⟩ (.string ⟨#[]⟩)).setCell ⟨w.heap.size + 1, 6, none⟩ (.bool false)).setCell ⟨w.heap.size + 1, 7, none⟩ (.string ⟨#[]⟩)).setCell ⟨w.heap.size + 1, 8, none⟩ (.bool false)).setCell ⟨w.heap.size + 1, 9, none⟩ (.slice none 0 0)).heap.size = w2.heap.size) := b3
        have OW : Hid (∀ bb, bb ≠ w.heap.size + 1 → ((((((((((w2.setCell ⟨w.heap.size + 1, 0, none⟩ (.int .i64 0)).setCell ⟨w.heap.size + 1, 1, none⟩ (.string ⟨#[]⟩)).setCell ⟨w.heap.size + 1, 2, none⟩ (.int .i64 0)).setCell ⟨w.heap.size + 1, 3, none⟩ (.int .i64 0)).setCell ⟨w.heap.size + 1, 4, none⟩ (.int .i64 0)).setCell ⟨w.heap.size + 1, 5, none⟩ (.string ⟨#[]⟩)).setCell ⟨w.heap.size + 1, 6, none⟩ (.bool false)).setCell ⟨w.heap.size + 1, 7, none⟩ (.string ⟨#[]⟩)).setCell ⟨w.heap.size + 1, 8, none⟩ (.bool false)).setCell ⟨w.heap.size + 1, 9, none⟩ (.slice none 0 0)).heap[bb]? = w2.heap[bb]?) := b4
        clear b1 b2 b3 b4 hcr hzr
        generalize ((((((((((w2.setCell ⟨w.heap.size + 1, 0, none⟩ (.int .i64 0)).setCell ⟨w.heap.size + 1, 1, none⟩ (.string ⟨#[]⟩)).setCell ⟨w.heap.size + 1, 2, none⟩ (.int .i64 0)).setCell ⟨w.heap.size + 1, 3, none⟩ (.int .i64 0)).setCell ⟨w.heap.size + 1, 4, none⟩ (.int .i64 0)).setCell ⟨w.heap.size + 1, 5, none⟩ (.string ⟨#[]⟩)).setCell ⟨w.heap.size + 1, 6, none⟩ (.bool false)).setCell ⟨w.heap.size + 1, 7, none⟩ (.string ⟨#[]⟩)).setCell ⟨w.heap.size + 1, 8, none⟩ (.bool false)).setCell ⟨w.heap.size + 1, 9, none⟩ (.slice none 0 0)) = W at BW KW SW OW ⊢
        obtain ⟨hcW, _, _⟩ := BW.out.facts
        refine bodyPost_ret (v := .tuple #[.agg #[.int .i64 0, .string ⟨#[]⟩, .int .i64 0, .int .i64 0, .int .i64 0, .string ⟨#[]⟩, .bool false, .string ⟨#[]⟩, .bool false, .slice none 0 0], .bool false]) ?_ rfl ?_
        · simp [results, Tryz.results122, go_sem, hcW]
        show NeedDone _ _ w _ W
        rw [HRES2.out]
        exact ⟨rfl, apart_set A2.out KW.out (by omega)⟩
end Go.Proofs.YtkckkjpkidcbnaaGreatDoor
