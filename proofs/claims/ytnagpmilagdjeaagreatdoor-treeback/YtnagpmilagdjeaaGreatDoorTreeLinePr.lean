/- tree.line answers with a package's line. -/
import Derived.Test.YtnagpmilagdjeaaGreatDoorTreeMeant
import Derived.Deep.RegionHeld3
namespace Go.Proofs.YtnagpmilagdjeaaGreatDoor
open Go.RowKit

theorem joinS_any (S : Nat → Prop) (fs : List ByteArray) (v : Value) (sep : ByteArray) (w : World) (hS : ∀ b, S b → b < w.heap.size) (hf : StrsIs S w fs v) (hn : fs.length ≤ 1000) (hl : (Lib.join (fs.map (·.data.toList)) sep.data.toList).length ≤ 140737488355328) :
    Calls Tryz.prog 44 #[v, .string sep] w fun e w' => e = .returned (.string ⟨(Lib.join (fs.map (·.data.toList)) sep.data.toList).toArray⟩) ∧ Keep w w' := by
  by_cases h0 : fs = []
  · obtain ⟨p1, c1, rfl, -⟩ := hf.len
    subst h0
    refine (Tryz.strings_Join_none p1 c1 sep w).mono ?_
    rintro e w' ⟨rfl, rfl⟩
    exact ⟨rfl, Keep.refl _⟩
  · obtain ⟨b, off, cap, rfl, hb, hc, hcell⟩ := hf.row (List.length_pos_iff.2 h0)
    exact Tryz.strings_Join b off cap fs sep w hcell (hS b hb) (by omega) hc hl
theorem join_two {fs : List ByteArray} (h : chkFs fs = 0) : (Lib.join (fs.map (·.data.toList)) [44]).length ≤ 100 := by
  obtain ⟨h2, hn⟩ := chkFs_get h
  match fs, h2, hn with
  | [], _, _ => simp [Lib.join]
  | [x], _, hn => have := nameB_le (hn x (by simp)); rw [List.map_cons, List.map_nil, Lib.join_one]; omega
  | [x, y], _, hn =>
    have h1 := nameB_le (hn x (by simp))
    have h2 := nameB_le (hn y (by simp))
    have e1 := size_list x
    have e2 := size_list y
    rw [List.map_cons, List.map_cons, List.map_nil, gjn_cons, Lib.join_one]; simp; omega
theorem Boxed.cells {b : Nat} {cs : Array Value} {w : World} (h : Boxed b cs w) : ∀ o, w.cell? ⟨b, o, none⟩ = cs[o]? := h.2
theorem Boxed.alloc_cells {b : Nat} {cs : Array Value} {w : World} (h : Boxed b cs w) (x : Obj) : ∀ o, (w.alloc x).cell? ⟨b, o, none⟩ = cs[o]? := fun o => ((Keep.alloc w x).cell (p := ⟨b, o, none⟩) h.1).trans (h.2 o)
def ABox (b : Nat) (cs : Array Value) (w : World) : Prop := w.heap[b]? = some (.cells cs 151 (0, 0))
theorem ABox.facts {b : Nat} {cs : Array Value} {w : World} (h : ABox b cs w) : (∀ o, w.cell? ⟨b, o, none⟩ = cs[o]?) ∧ (∀ o, w.frozen? ⟨b, o, none⟩ = false) ∧ b < w.heap.size := by
  unfold ABox at h
  refine ⟨fun o => by simp [World.cell?, h], fun o => by simp [World.frozen?, h], (Array.getElem?_eq_some_iff.1 h).1⟩
theorem ABox.new (w : World) (cs : Array Value) : ABox w.heap.size cs (w.alloc (.cells cs 151)) := by
  show (w.heap.push _)[w.heap.size]? = _
  rw [Array.getElem?_push, if_pos rfl]
theorem ABox.keep {b B : Nat} {cs : Array Value} {w w' : World} (h : ABox b cs w) (k : Below B w w') (hB : b < B) : ABox b cs w' := by
  unfold ABox at h ⊢; rw [k.block b hB]; exact h
theorem ABox.set {b : Nat} {c0 c1 c2 c3 c4 : Value} {w : World} (h : ABox b #[c0, c1, c2, c3, c4] w) (v0 v1 v2 v3 v4 : Value) :
    ABox b #[v0, v1, v2, v3, v4] (((((w.setCell ⟨b, 0, none⟩ v0).setCell ⟨b, 1, none⟩ v1).setCell ⟨b, 2, none⟩ v2).setCell ⟨b, 3, none⟩ v3).setCell ⟨b, 4, none⟩ v4) ∧ Below b w (((((w.setCell ⟨b, 0, none⟩ v0).setCell ⟨b, 1, none⟩ v1).setCell ⟨b, 2, none⟩ v2).setCell ⟨b, 3, none⟩ v3).setCell ⟨b, 4, none⟩ v4) ∧ ∀ k, k ≠ b → (((((w.setCell ⟨b, 0, none⟩ v0).setCell ⟨b, 1, none⟩ v1).setCell ⟨b, 2, none⟩ v2).setCell ⟨b, 3, none⟩ v3).setCell ⟨b, 4, none⟩ v4).heap[k]? = w.heap[k]? := by
  refine ⟨?_, ?_, ?_⟩
  · have h10 := heap_set (heap_set (heap_set (heap_set (heap_set h 0 v0) 1 v1) 2 v2) 3 v3) 4 v4
    simp only [List.setIfInBounds_toArray, List.set_cons_zero, List.set_cons_succ] at h10
    exact h10
  · exact (((((Below.refl b w).setCell (p := ⟨b, 0, none⟩) (Nat.le_refl _) v0).setCell (p := ⟨b, 1, none⟩) (Nat.le_refl _) v1).setCell (p := ⟨b, 2, none⟩) (Nat.le_refl _) v2).setCell (p := ⟨b, 3, none⟩) (Nat.le_refl _) v3).setCell (p := ⟨b, 4, none⟩) (Nat.le_refl _) v4
  · intro k hk
    simp [World.setCell, Array.getElem?_modify, Ne.symm hk]
theorem set5_cells {b q : Nat} {c0 c1 c2 c3 c4 : Value} {cs : Array Value} {w : World} (h : ABox b #[c0, c1, c2, c3, c4] w) (hb : Boxed q cs w) (hne : q ≠ b) (v0 v1 v2 v3 v4 : Value) : ∀ o, (((((w.setCell ⟨b, 0, none⟩ v0).setCell ⟨b, 1, none⟩ v1).setCell ⟨b, 2, none⟩ v2).setCell ⟨b, 3, none⟩ v3).setCell ⟨b, 4, none⟩ v4).cell? ⟨q, o, none⟩ = cs[o]? := by
  have k := (h.set v0 v1 v2 v3 v4).2.2
  generalize (((((w.setCell ⟨b, 0, none⟩ v0).setCell ⟨b, 1, none⟩ v1).setCell ⟨b, 2, none⟩ v2).setCell ⟨b, 3, none⟩ v3).setCell ⟨b, 4, none⟩ v4) = W' at k ⊢
  exact fun o => (World.cell?_of_block (w := w) (k q hne)).trans (hb.2 o)
theorem Boxed.drew_cells {b : Nat} {cs : Array Value} {w : World} (h : Boxed b cs w) (x : Obj) : ∀ o, (w.alloc x).drew.cell? ⟨b, o, none⟩ = cs[o]? := h.alloc_cells x
theorem keep_drew (w : World) : Keep w w.drew := ⟨rfl, rfl, rfl, Nat.le_refl _, fun _ _ => rfl⟩
theorem abox_post {w W2 w7 : World} {c0 c1 c2 c3 c4 : Value} (k2 : Keep w W2) (k7 : Keep W2 w7) (h : ABox W2.heap.size #[c0, c1, c2, c3, c4] w7) (v0 v1 v2 v3 v4 : Value) :
    Keep w (((((w7.setCell ⟨W2.heap.size, 0, none⟩ v0).setCell ⟨W2.heap.size, 1, none⟩ v1).setCell ⟨W2.heap.size, 2, none⟩ v2).setCell ⟨W2.heap.size, 3, none⟩ v3).setCell ⟨W2.heap.size, 4, none⟩ v4) ∧ ABox W2.heap.size #[v0, v1, v2, v3, v4] (((((w7.setCell ⟨W2.heap.size, 0, none⟩ v0).setCell ⟨W2.heap.size, 1, none⟩ v1).setCell ⟨W2.heap.size, 2, none⟩ v2).setCell ⟨W2.heap.size, 3, none⟩ v3).setCell ⟨W2.heap.size, 4, none⟩ v4) := by
  obtain ⟨h1, h2, -⟩ := h.set v0 v1 v2 v3 v4
  exact ⟨Below.trans (k2.trans k7) (Below.mono h2 k2.size), h1⟩
theorem join5_any (b : Nat) (x0 x1 x2 x3 x4 : ByteArray) (w : World) (h : ABox b #[.string x0, .string x1, .string x2, .string x3, .string x4] w) (hl : x0.size + x1.size + x2.size + x3.size + x4.size ≤ 100000) :
    Calls Tryz.prog 44 #[.slice (some ⟨b, 0, none⟩) 5 5, .string ⟨#[32]⟩] w fun e w' => e = .returned (.string ⟨(Lib.join [x0.data.toList, x1.data.toList, x2.data.toList, x3.data.toList, x4.data.toList] [32]).toArray⟩) ∧ Keep w w' := by
  obtain ⟨hc, -, hb⟩ := h.facts
  have e0 := size_list x0
  have e1 := size_list x1
  have e2 := size_list x2
  have e3 := size_list x3
  have e4 := size_list x4
  refine Tryz.strings_Join b 0 5 [x0, x1, x2, x3, x4] ⟨#[32]⟩ w (fun j x hx => ?_) hb (by simp) (by simp) ?_
  · rw [Nat.zero_add, hc j]
    have hj : j < 5 := (List.getElem?_eq_some_iff.1 hx).1
    match j, hj with
    | 0, _ => cases hx; rfl
    | 1, _ => cases hx; rfl
    | 2, _ => cases hx; rfl
    | 3, _ => cases hx; rfl
    | 4, _ => cases hx; rfl
  · show (Lib.join [x0.data.toList, x1.data.toList, x2.data.toList, x3.data.toList, x4.data.toList] [32]).length ≤ _
    rw [gjn_cons, gjn_cons, gjn_cons, gjn_cons, Lib.join_one]
    simp only [List.length_append, List.length_cons]
    omega
theorem first_keep {w w' : World} (k : Keep w.drew w') : Keep w w' := ⟨k.os, k.tape, k.output, k.size, k.block⟩
theorem itoa_dec {i : Nat} : Lib.itoa (i : Int) = Lib.decDigits i := by unfold Lib.itoa; simp
theorem dec_len {i : Nat} (h : i < 100) : (Lib.decDigits i).length ≤ 2 := by
  by_cases h10 : i < 10
  · rw [Lib.decDigits_one h10]; simp
  · rw [Lib.decDigits_two h10 h]; simp

set_option maxHeartbeats 4000000 in
set_option maxRecDepth 100000 in
theorem line_any (S : Nat → Prop) (p : PK) (cs : List Value) (w : World) (hS : ∀ b, S b → b < w.heap.size) (hp : PkgIs S w p cs) (hc : chkP p = 0) (hs : Signs w) :
    Calls Tryz.prog 71 #[.agg cs.toArray] w fun e w' => e = .returned (.string ⟨(lineL p).toArray⟩) ∧ Keep w w' := by
  obtain ⟨hnm, ⟨hv1, hv2, hs1, hs2⟩, hfs, -, hcn⟩ := chkP_get hc
  obtain ⟨k, a, fl, nt, kids, kp, fp, kc, fc, hnd, hfl, rfl, hf, hn⟩ := hp.spelt
  have HF := hid hf
  have HN := hid hn
  have HS := hid hs
  have hjl := join_two hfs
  have hf2 := (chkFs_get hfs).1
  clear hp hf hn hs hc
  rcases p with ⟨n, v, sl, fs, nd⟩
  simp only at hv1 hv2 hs1 hs2 hcn hjl hf2 hfl hnm
  have hnl := nameB_le hnm
  have htl := (text_short hcn).1
  obtain ⟨v, rfl⟩ : ∃ k : Nat, v = k := ⟨v.toNat, by omega⟩
  obtain ⟨sl, rfl⟩ : ∃ k : Nat, sl = k := ⟨sl.toNat, by omega⟩
  have HLN : Hid (lineL ⟨n, v, sl, fs, nd⟩ = Lib.join [n.data.toList, Lib.decDigits v, Lib.decDigits sl, Lib.join (fs.map (·.data.toList)) [44], nd.text] [32]) := by show _ = _; unfold lineL; rw [itoa_dec, itoa_dec]
  have hdv := dec_len (i := v) (by omega)
  have hds := dec_len (i := sl) (by omega)
  have HCN := hid hcn
  clear hfs hnm hcn hnd
  go_enter Tryz.func71, Tryz.ntmps71
  go_wp2_with fail
  refine at_calls (fun W' => Keep w W' ∧ Boxed w.heap.size #[.string n, .int .i64 (v : Nat), .int .i64 (sl : Nat), .slice fp fs.length fc, .int .i64 k, .string a.n, .int .i64 a.op, .int .i64 a.v, .int .i64 a.sl, .string a.f, .bool a.on, .string fl, .bool nt, .slice kp kids.length kc] W') ⟨Keep.alloc _ _, Boxed.new _ _ _⟩ ?_
  rintro W0 ⟨k0, b0⟩
  refine (needPrint_any nd _ W0 S (fun b hb => Nat.lt_of_lt_of_le (hS b hb) k0.size) (HN.out.keep hS k0) (HS.out.keep k0)).mono ?_
  rintro e w1 ⟨tx, rfl, htx, -, k1⟩
  have HTX := hid (htx HCN.out)
  have htxs : tx.size ≤ 2200 := by rw [← size_list, HTX.out]; exact htl
  rw [HCN.out]
  have K1 := hid (k0.trans k1)
  have B1 := hid (b0.keep k1 b0.1)
  clear k0 k1 b0 htx
  have hdl : (⟨(Lib.decDigits v).toArray⟩ : ByteArray).size ≤ 2 := by rw [mk_size]; exact hdv
  have hdl2 : (⟨(Lib.decDigits sl).toArray⟩ : ByteArray).size ≤ 2 := by rw [mk_size]; exact hds
  have hjl2 : (⟨(Lib.join (fs.map (·.data.toList)) [44]).toArray⟩ : ByteArray).size ≤ 100 := by rw [mk_size]; exact hjl
  have hns := size_list n
  have HSZ : Hid (n.size + (⟨(Lib.decDigits v).toArray⟩ : ByteArray).size + (⟨(Lib.decDigits sl).toArray⟩ : ByteArray).size + (⟨(Lib.join (fs.map (·.data.toList)) [44]).toArray⟩ : ByteArray).size + tx.size ≤ 100000) := by show _ ≤ _; omega
  clear hdl hdl2 hjl2
  go_upto_region 2 with fail
  refine at_wp (fun W' => Keep w W' ∧ Boxed w.heap.size #[.string n, .int .i64 (v : Nat), .int .i64 (sl : Nat), .slice fp fs.length fc, .int .i64 k, .string a.n, .int .i64 a.op, .int .i64 a.v, .int .i64 a.sl, .string a.f, .bool a.on, .string fl, .bool nt, .slice kp kids.length kc] W') ⟨K1.out, B1.out⟩ ?_
  rintro W2 ⟨k2, b2⟩
  have K2 := hid k2
  have B2 := hid b2
  have B2d := hid (show Boxed w.heap.size #[.string n, .int .i64 (v : Nat), .int .i64 (sl : Nat), .slice fp fs.length fc, .int .i64 k, .string a.n, .int .i64 a.op, .int .i64 a.v, .int .i64 a.sl, .string a.f, .bool a.on, .string fl, .bool nt, .slice kp kids.length kc] W2.drew from ⟨b2.1, b2.2⟩)
  have K2d : Hid (Keep w W2.drew) := k2.trans ⟨rfl, rfl, rfl, Nat.le_refl _, fun _ _ => rfl⟩
  have HJL : Hid ((Lib.join (fs.map (·.data.toList)) (ByteArray.mk #[44]).data.toList).length ≤ 140737488355328) := Nat.le_trans hjl (by decide)
  clear k2 b2 K1 B1
  have K2a : Hid (Keep w (W2.alloc (.cells #[.string ⟨#[]⟩, .string ⟨#[]⟩, .string ⟨#[]⟩, .string ⟨#[]⟩, .string ⟨#[]⟩] 151)).drew) := (K2.out.alloc' _).trans (keep_drew _)
  have A2a : Hid (ABox W2.heap.size #[.string ⟨#[]⟩, .string ⟨#[]⟩, .string ⟨#[]⟩, .string ⟨#[]⟩, .string ⟨#[]⟩] (W2.alloc (.cells #[.string ⟨#[]⟩, .string ⟨#[]⟩, .string ⟨#[]⟩, .string ⟨#[]⟩, .string ⟨#[]⟩] 151)).drew) := (ABox.new W2 _).keep (keep_drew _) (by rw [alloc_size]; omega)
  have hne2 : w.heap.size ≠ W2.heap.size := by have := B2.out.1; omega
  go_region_held3 (fun W' => ∀ o, W'.cell? ⟨w.heap.size, o, none⟩ = (#[.string n, .int .i64 (v : Nat), .int .i64 (sl : Nat), .slice fp fs.length fc, .int .i64 k, .string a.n, .int .i64 a.op, .int .i64 a.v, .int .i64 a.sl, .string a.f, .bool a.on, .string fl, .bool nt, .slice kp kids.length kc] : Array Value)[o]?) (first | with_reducible exact B2.out.cells | with_reducible exact B2d.out.cells | with_reducible exact B2.out.alloc_cells _ | with_reducible exact B2.out.drew_cells _ | with_reducible exact set5_cells AB.out B2.out hne2 _ _ _ _ _ | go_keep)
    (first
      | (go_at_call 81; refine (Tryz.strconv_Itoa_small _ (by omega) _).mono ?_; rintro e w7 ⟨rfl, hw7⟩; rw [hw7]; clear hw7)
      | (go_at_call 44; refine (joinS_any S fs _ ⟨#[44]⟩ W2.drew (fun b hb => Nat.lt_of_lt_of_le (hS b hb) K2d.out.size) (HF.out.keep hS K2d.out) (by omega) HJL.out).mono ?_; rintro e w7 ⟨rfl, k7⟩; have K7 : Hid (Keep W2 w7) := (first_keep k7); have B7 := hid (B2.out.keep K7.out B2.out.1); clear k7 B2; have B2 := B7; clear B7)
      | (go_at_call 44; refine (joinS_any S fs _ ⟨#[44]⟩ (W2.alloc (.cells #[.string ⟨#[]⟩, .string ⟨#[]⟩, .string ⟨#[]⟩, .string ⟨#[]⟩, .string ⟨#[]⟩] 151)).drew (fun b hb => Nat.lt_of_lt_of_le (hS b hb) K2a.out.size) (HF.out.keep hS K2a.out) (by omega) HJL.out).mono ?_; rintro e w7 ⟨rfl, k7⟩; have K7 : Hid (Keep W2 w7) := (Keep.alloc _ _).trans (first_keep k7); have AB := hid (A2a.out.keep k7 A2a.out.facts.2.2); have B7 := hid (B2.out.keep K7.out B2.out.1); clear k7 B2; have B2 := B7; clear B7; have f1 := AB.out.facts.1; have f2 := AB.out.facts.2.1; have f3 := AB.out.facts.2.2))
  · go_wp2_with fail
    refine at_calls (fun W' => Keep w W' ∧ ABox w7.heap.size #[.string n, .string ⟨(Lib.decDigits v).toArray⟩, .string ⟨(Lib.decDigits sl).toArray⟩, .string ⟨(Lib.join (fs.map (·.data.toList)) [44]).toArray⟩, .string tx] W') ⟨(K2.out.trans K7.out).alloc' _, ABox.new _ _⟩ ?_
    rintro W8 ⟨k8, a8⟩
    refine (join5_any _ _ _ _ _ _ W8 a8 HSZ.out).mono ?_
    rintro e w9 ⟨rfl, k9⟩
    have K9 := hid (k8.trans k9)
    clear k8 a8 k9
    go_wp2_with fail
    go_ret
    exact ⟨by rw [HLN.out, ← HTX.out]; rfl, K9.out⟩
  all_goals
    have HQ := hid (abox_post K2.out K7.out AB.out (.string n) (.string ⟨(Lib.decDigits v).toArray⟩) (.string ⟨(Lib.decDigits sl).toArray⟩) (.string ⟨(Lib.join (fs.map (·.data.toList)) [44]).toArray⟩) (.string tx))
    clear f1 f2 f3
    go_wp2_with fail
    refine at_calls (fun W' => Keep w W' ∧ ABox W2.heap.size #[.string n, .string ⟨(Lib.decDigits v).toArray⟩, .string ⟨(Lib.decDigits sl).toArray⟩, .string ⟨(Lib.join (fs.map (·.data.toList)) [44]).toArray⟩, .string tx] W') ?_ ?_
    · exact HQ.out
    rintro W8 ⟨k8, a8⟩
    refine (join5_any _ _ _ _ _ _ W8 a8 HSZ.out).mono ?_
    rintro e w9 ⟨rfl, k9⟩
    have K9 := hid (k8.trans k9)
    clear k8 a8 k9
    go_wp2_with fail
    go_ret
    exact ⟨by rw [HLN.out, ← HTX.out]; rfl, K9.out⟩
end Go.Proofs.YtnagpmilagdjeaaGreatDoor
