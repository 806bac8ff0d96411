/- tree.line answers with a package's line. -/
import Derived.Test.YtkckkjpkidcbnaaGreatDoorTreeMeant
import Derived.Deep.RegionHeld3
namespace Go.Proofs.YtkckkjpkidcbnaaGreatDoor
open Go.RowKit

theorem joinS_any (S : Nat → Prop) (fs : List ByteArray) (v : Value) (sep : ByteArray) (w : World) (hS : ∀ b, S b → b < w.heap.size) (hf : StrsIs S w fs v) (hn : fs.length ≤ 1000) (hl : (Lib.join (fs.map (·.data.toList)) sep.data.toList).length ≤ 140737488355328) :
    Calls Tryz.prog 53 #[v, .string sep] w fun e w' => e = .returned (.string ⟨(Lib.join (fs.map (·.data.toList)) sep.data.toList).toArray⟩) ∧ Keep w w' := by
  by_cases h0 : fs = []
  · obtain ⟨p1, c1, rfl, -⟩ := hf.len
    subst h0
    refine (Tryz.strings_Join_none p1 c1 sep w).mono ?_
    rintro e w' ⟨rfl, rfl⟩
    exact ⟨rfl, Keep.refl _⟩
  · obtain ⟨b, off, cap, rfl, hb, hc, hcell⟩ := hf.row (List.length_pos_iff.2 h0)
    exact Tryz.strings_Join b off cap fs sep w hcell (hS b hb) (by omega) hc hl
theorem join_two {fs : List ByteArray} (h : chkFs fs = 0) : (Lib.join (fs.map (·.data.toList)) [44]).length ≤ 100 := by
  obtain ⟨h2, hn⟩ := chkFs_get h
  match fs, h2, hn with
  | [], _, _ => simp [Lib.join]
  | [x], _, hn => have := nameB_le (hn x (by simp)); rw [List.map_cons, List.map_nil, Lib.join_one]; omega
  | [x, y], _, hn =>
    have h1 := nameB_le (hn x (by simp))
    have h2 := nameB_le (hn y (by simp))
    have e1 := size_list x
    have e2 := size_list y
    rw [List.map_cons, List.map_cons, List.map_nil, gjn_cons, Lib.join_one]; simp; omega
theorem Boxed.cells {b : Nat} {cs : Array Value} {w : World} (h : Boxed b cs w) : ∀ o, w.cell? ⟨b, o, none⟩ = cs[o]? := h.2
theorem Boxed.alloc_cells {b : Nat} {cs : Array Value} {w : World} (h : Boxed b cs w) (x : Obj) : ∀ o, (w.alloc x).cell? ⟨b, o, none⟩ = cs[o]? := fun o => ((Keep.alloc w x).cell (p := ⟨b, o, none⟩) h.1).trans (h.2 o)
def ABox (b : Nat) (cs : Array Value) (w : World) : Prop := w.heap[b]? = some (.cells cs 174 (0, 0))
theorem ABox.facts {b : Nat} {cs : Array Value} {w : World} (h : ABox b cs w) : (∀ o, w.cell? ⟨b, o, none⟩ = cs[o]?) ∧ (∀ o, w.frozen? ⟨b, o, none⟩ = false) ∧ b < w.heap.size := by
  unfold ABox at h
  refine ⟨fun o => by simp [World.cell?, h], fun o => by simp [World.frozen?, h], (Array.getElem?_eq_some_iff.1 h).1⟩
theorem ABox.new (w : World) (cs : Array Value) : ABox w.heap.size cs (w.alloc (.cells cs 174)) := by
  show (w.heap.push _)[w.heap.size]? = _
  rw [Array.getElem?_push, if_pos rfl]
theorem ABox.keep {b B : Nat} {cs : Array Value} {w w' : World} (h : ABox b cs w) (k : Below B w w') (hB : b < B) : ABox b cs w' := by
  unfold ABox at h ⊢; rw [k.block b hB]; exact h
theorem ABox.set {b : Nat} {c0 c1 c2 c3 c4 : Value} {w : World} (h : ABox b #[c0, c1, c2, c3, c4] w) (v0 v1 v2 v3 v4 : Value) :
    ABox b #[v0, v1, v2, v3, v4] (((((w.setCell ⟨b, 0, none⟩ v0).setCell ⟨b, 1, none⟩ v1).setCell ⟨b, 2, none⟩ v2).setCell ⟨b, 3, none⟩ v3).setCell ⟨b, 4, none⟩ v4) ∧ Below b w (((((w.setCell ⟨b, 0, none⟩ v0).setCell ⟨b, 1, none⟩ v1).setCell ⟨b, 2, none⟩ v2).setCell ⟨b, 3, none⟩ v3).setCell ⟨b, 4, none⟩ v4) ∧ ∀ k, k ≠ b → (((((w.setCell ⟨b, 0, none⟩ v0).setCell ⟨b, 1, none⟩ v1).setCell ⟨b, 2, none⟩ v2).setCell ⟨b, 3, none⟩ v3).setCell ⟨b, 4, none⟩ v4).heap[k]? = w.heap[k]? := by
  refine ⟨?_, ?_, ?_⟩
  · have h10 := heap_set (heap_set (heap_set (heap_set (heap_set h 0 v0) 1 v1) 2 v2) 3 v3) 4 v4
    simp only [List.setIfInBounds_toArray, List.set_cons_zero, List.set_cons_succ] at h10
    exact h10
  · exact (((((Below.refl b w).setCell (p := ⟨b, 0, none⟩) (Nat.le_refl _) v0).setCell (p := ⟨b, 1, none⟩) (Nat.le_refl _) v1).setCell (p := ⟨b, 2, none⟩) (Nat.le_refl _) v2).setCell (p := ⟨b, 3, none⟩) (Nat.le_refl _) v3).setCell (p := ⟨b, 4, none⟩) (Nat.le_refl _) v4
  · intro k hk
    simp [World.setCell, Array.getElem?_modify, Ne.symm hk]
theorem set5_cells {b q : Nat} {c0 c1 c2 c3 c4 : Value} {cs : Array Value} {w : World} (h : ABox b #[c0, c1, c2, c3, c4] w) (hb : Boxed q cs w) (hne : q ≠ b) (v0 v1 v2 v3 v4 : Value) : ∀ o, (((((w.setCell ⟨b, 0, none⟩ v0).setCell ⟨b, 1, none⟩ v1).setCell ⟨b, 2, none⟩ v2).setCell ⟨b, 3, none⟩ v3).setCell ⟨b, 4, none⟩ v4).cell? ⟨q, o, none⟩ = cs[o]? := by
  have k := (h.set v0 v1 v2 v3 v4).2.2
  generalize (((((w.setCell ⟨b, 0, none⟩ v0).setCell ⟨b, 1, none⟩ v1).setCell ⟨b, 2, none⟩ v2).setCell ⟨b, 3, none⟩ v3).setCell ⟨b, 4, none⟩ v4) = W' at k ⊢
  exact fun o => (World.cell?_of_block (w := w) (k q hne)).trans (hb.2 o)
theorem Boxed.drew_cells {b : Nat} {cs : Array Value} {w : World} (h : Boxed b cs w) (x : Obj) : ∀ o, (w.alloc x).drew.cell? ⟨b, o, none⟩ = cs[o]? := h.alloc_cells x
theorem keep_drew (w : World) : Keep w w.drew := ⟨rfl, rfl, rfl, Nat.le_refl _, fun _ _ => rfl⟩
theorem abox_post {w W2 w7 : World} {c0 c1 c2 c3 c4 : Value} (k2 : Keep w W2) (k7 : Keep W2 w7) (h : ABox W2.heap.size #[c0, c1, c2, c3, c4] w7) (v0 v1 v2 v3 v4 : Value) :
    Keep w (((((w7.setCell ⟨W2.heap.size, 0, none⟩ v0).setCell ⟨W2.heap.size, 1, none⟩ v1).setCell ⟨W2.heap.size, 2, none⟩ v2).setCell ⟨W2.heap.size, 3, none⟩ v3).setCell ⟨W2.heap.size, 4, none⟩ v4) ∧ ABox W2.heap.size #[v0, v1, v2, v3, v4] (((((w7.setCell ⟨W2.heap.size, 0, none⟩ v0).setCell ⟨W2.heap.size, 1, none⟩ v1).setCell ⟨W2.heap.size, 2, none⟩ v2).setCell ⟨W2.heap.size, 3, none⟩ v3).setCell ⟨W2.heap.size, 4, none⟩ v4) := by
  obtain ⟨h1, h2, -⟩ := h.set v0 v1 v2 v3 v4
  exact ⟨Below.trans (k2.trans k7) (Below.mono h2 k2.size), h1⟩
theorem join5_any (b : Nat) (x0 x1 x2 x3 x4 : ByteArray) (w : World) (h : ABox b #[.string x0, .string x1, .string x2, .string x3, .string x4] w) (hl : x0.size + x1.size + x2.size + x3.size + x4.size ≤ 100000) :
    Calls Tryz.prog 53 #[.slice (some ⟨b, 0, none⟩) 5 5, .string ⟨#[32]⟩] w fun e w' => e = .returned (.string ⟨(Lib.join [x0.data.toList, x1.data.toList, x2.data.toList, x3.data.toList, x4.data.toList] [32]).toArray⟩) ∧ Keep w w' := by
  obtain ⟨hc, -, hb⟩ := h.facts
  have e0 := size_list x0
  have e1 := size_list x1
  have e2 := size_list x2
  have e3 := size_list x3
  have e4 := size_list x4
  refine Tryz.strings_Join b 0 5 [x0, x1, x2, x3, x4] ⟨#[32]⟩ w (fun j x hx => ?_) hb (by simp) (by simp) ?_
  · rw [Nat.zero_add, hc j]
    have hj : j < 5 := (List.getElem?_eq_some_iff.1 hx).1
    match j, hj with
    | 0, _ => cases hx; rfl
    | 1, _ => cases hx; rfl
    | 2, _ => cases hx; rfl
    | 3, _ => cases hx; rfl
    | 4, _ => cases hx; rfl
  · show (Lib.join [x0.data.toList, x1.data.toList, x2.data.toList, x3.data.toList, x4.data.toList] [32]).length ≤ _
    rw [gjn_cons, gjn_cons, gjn_cons, gjn_cons, Lib.join_one]
    simp only [List.length_append, List.length_cons]
    omega
theorem first_keep {w w' : World} (k : Keep w.drew w') : Keep w w' := ⟨k.os, k.tape, k.output, k.size, k.block⟩
theorem itoa_dec {i : Nat} : Lib.itoa (i : Int) = Lib.decDigits i := by unfold Lib.itoa; simp
theorem dec_len {i : Nat} (h : i < 100) : (Lib.decDigits i).length ≤ 2 := by
  by_cases h10 : i < 10
  · rw [Lib.decDigits_one h10]; simp
  · rw [Lib.decDigits_two h10 h]; simp

set_option maxHeartbeats 4000000 in
set_option maxRecDepth 100000 in
theorem line_any (S : Nat → Prop) (p : PK) (cs : List Value) (w : World) (hS : ∀ b, S b → b < w.heap.size) (hp : PkgIs S w p cs) (hc : chkP p = 0) (hs : Signs w) :
    Calls Tryz.prog 80 #[.agg cs.toArray] w fun e w' => e = .returned (.string ⟨(lineL p).toArray⟩) ∧ Keep w w' := by
  obtain ⟨hnm, ⟨hv1, hv2, hs1, hs2⟩, hfs, -, hcn⟩ := chkP_get hc
  obtain ⟨k, a, fl, nt, kids, kp, fp, kc, fc, hnd, hfl, rfl, hf, hn⟩ := hp.spelt
  have HF := hid hf
  have HN := hid hn
  have HS := hid hs
  have hjl := join_two hfs
  have hf2 := (chkFs_get hfs).1
  clear hp hf hn hs hc
  rcases p with ⟨n, v, sl, fs, nd⟩
  simp only at hv1 hv2 hs1 hs2 hcn hjl hf2 hfl hnm
  have hnl := nameB_le hnm
  have htl := (text_short hcn).1
  obtain ⟨v, rfl⟩ : ∃ k : Nat, v = k := ⟨v.toNat, by omega⟩
  obtain ⟨sl, rfl⟩ : ∃ k : Nat, sl = k := ⟨sl.toNat, by omega⟩
  have HLN : Hid (lineL ⟨n, v, sl, fs, nd⟩ = Lib.join [n.data.toList, Lib.decDigits v, Lib.decDigits sl, Lib.join (fs.map (·.data.toList)) [44], nd.text] [32]) := by show _ = _; unfold lineL; rw [itoa_dec, itoa_dec]
  have hdv := dec_len (i := v) (by omega)
  have hds := dec_len (i := sl) (by omega)
  have HCN := hid hcn
  clear hfs hnm hcn hnd
  go_enter Tryz.func80, Tryz.ntmps80
  go_wp2_with fail
  refine at_calls (fun W' => Keep w W' ∧ Boxed w.heap.size #[.string n, .int .i64 (v : Nat), .int .i64 (sl : Nat), .slice fp fs.length fc, .int .i64 k, .string a.n, .int .i64 a.op, .int .i64 a.v, .int .i64 a.sl, .string a.f, .bool a.on, .string fl, .bool nt, .slice kp kids.length kc] W') ⟨Keep.alloc _ _, Boxed.new _ _ _⟩ ?_
  rintro W0 ⟨k0, b0⟩
  refine (needPrint_any nd _ W0 S (fun b hb => Nat.lt_of_lt_of_le (hS b hb) k0.size) (HN.out.keep hS k0) (HS.out.keep k0)).mono ?_
  rintro e w1 ⟨tx, rfl, htx, -, k1⟩
  have HTX := hid (htx HCN.out)
  have htxs : tx.size ≤ 2200 := by rw [← size_list, HTX.out]; exact htl
  rw [HCN.out]
  have K1 := hid (k0.trans k1)
  have B1 := hid (b0.keep k1 b0.1)
  clear k0 k1 b0 htx
  have hdl : (⟨(Lib.decDigits v).toArray⟩ : ByteArray).size ≤ 2 := by rw [mk_size]; exact hdv
  have hdl2 : (⟨(Lib.decDigits sl).toArray⟩ : ByteArray).size ≤ 2 := by rw [mk_size]; exact hds
  have hjl2 : (⟨(Lib.join (fs.map (·.data.toList)) [44]).toArray⟩ : ByteArray).size ≤ 100 := by rw [mk_size]; exact hjl
  have hns := size_list n
  have HSZ : Hid (n.size + (⟨(Lib.decDigits v).toArray⟩ : ByteArray).size + (⟨(Lib.decDigits sl).toArray⟩ : ByteArray).size + (⟨(Lib.join (fs.map (·.data.toList)) [44]).toArray⟩ : ByteArray).size + tx.size ≤ 100000) := by show _ ≤ _; omega
  clear hdl hdl2 hjl2
  go_upto_region 2 with fail
  refine at_wp (fun W' => Keep w W' ∧ Boxed w.heap.size #[.string n, .int .i64 (v : Nat), .int .i64 (sl : Nat), .slice fp fs.length fc, .int .i64 k, .string a.n, .int .i64 a.op, .int .i64 a.v, .int .i64 a.sl, .string a.f, .bool a.on, .string fl, .bool nt, .slice kp kids.length kc] W') ⟨K1.out, B1.out⟩ ?_
  rintro W2 ⟨k2, b2⟩
  have K2 := hid k2
  have B2 := hid b2
  have B2d := hid (show Boxed w.heap.size #[.string n, .int .i64 (v : Nat), .int .i64 (sl : Nat), .slice fp fs.length fc, .int .i64 k, .string a.n, .int .i64 a.op, .int .i64 a.v, .int .i64 a.sl, .string a.f, .bool a.on, .string fl, .bool nt, .slice kp kids.length kc] W2.drew from ⟨b2.1, b2.2⟩)
  have K2d : Hid (Keep w W2.drew) := k2.trans ⟨rfl, rfl, rfl, Nat.le_refl _, fun _ _ => rfl⟩
  have HJL : Hid ((Lib.join (fs.map (·.data.toList)) (ByteArray.mk #[44]).data.toList).length ≤ 140737488355328) := Nat.le_trans hjl (by decide)
  clear k2 b2 K1 B1
  have K2a : Hid (Keep w (W2.alloc (.cells #[.string ⟨#[]⟩, .string ⟨#[]⟩, .string ⟨#[]⟩, .string ⟨#[]⟩, .string ⟨#[]⟩] 174)).drew) := (K2.out.alloc' _).trans (keep_drew _)
  have A2a : Hid (ABox W2.heap.size #[.string ⟨#[]⟩, .string ⟨#[]⟩, .string ⟨#[]⟩, .string ⟨#[]⟩, .string ⟨#[]⟩] (W2.alloc (.cells #[.string ⟨#[]⟩, .string ⟨#[]⟩, .string ⟨#[]⟩, .string ⟨#[]⟩, .string ⟨#[]⟩] 174)).drew) := (ABox.new W2 _).keep (keep_drew _) (by rw [alloc_size]; omega)
  have hne2 : w.heap.size ≠ W2.heap.size := by have := B2.out.1; omega
  go_region_held3 (fun W' => ∀ o, W'.cell? ⟨w.heap.size, o, none⟩ = (#[.string n, .int .i64 (v : Nat), .int .i64 (sl : Nat), .slice fp fs.length fc, .int .i64 k, .string a.n, .int .i64 a.op, .int .i64 a.v, .int .i64 a.sl, .string a.f, .bool a.on, .string fl, .bool nt, .slice kp kids.length kc] : Array Value)[o]?) (first | with_reducible exact B2.out.cells | with_reducible exact B2d.out.cells | with_reducible exact B2.out.alloc_cells _ | with_reducible exact B2.out.drew_cells _ | with_reducible exact set5_cells AB.out B2.out hne2 _ _ _ _ _ | go_keep)
    (first
      | (go_at_call 90; refine (Tryz.strconv_Itoa_small _ (by omega) _).mono ?_; rintro e w7 ⟨rfl, hw7⟩; rw [hw7]; clear hw7)
      | (go_at_call 53; refine (joinS_any S fs _ ⟨#[44]⟩ W2.drew (fun b hb => Nat.lt_of_lt_of_le (hS b hb) K2d.out.size) (HF.out.keep hS K2d.out) (by omega) HJL.out).mono ?_; rintro e w7 ⟨rfl, k7⟩; have K7 : Hid (Keep W2 w7) := (first_keep k7); have B7 := hid (B2.out.keep K7.out B2.out.1); clear k7 B2; have B2 := B7; clear B7)
      | (go_at_call 53; refine (joinS_any S fs _ ⟨#[44]⟩ (W2.alloc (.cells #[.string ⟨#[]⟩, .string ⟨#[]⟩, .string ⟨#[]⟩, .string ⟨#[]⟩, .string ⟨#[]⟩] 174)).drew (fun b hb => Nat.lt_of_lt_of_le (hS b hb) K2a.out.size) (HF.out.keep hS K2a.out) (by omega) HJL.out).mono ?_; rintro e w7 ⟨rfl, k7⟩; have K7 : Hid (Keep W2 w7) := (Keep.alloc _ _).trans (first_keep k7); have AB := hid (A2a.out.keep k7 A2a.out.facts.2.2); have B7 := hid (B2.out.keep K7.out B2.out.1); clear k7 B2; have B2 := B7; clear B7; have f1 := AB.out.facts.1; have f2 := AB.out.facts.2.1; have f3 := AB.out.facts.2.2))
  · go_wp2_with fail
    refine at_calls (fun W' => Keep w W' ∧ ABox w7.heap.size #[.string n, .string ⟨(Lib.decDigits v).toArray⟩, .string ⟨(Lib.decDigits sl).toArray⟩, .string ⟨(Lib.join (fs.map (·.data.toList)) [44]).toArray⟩, .string tx] W') ⟨(K2.out.trans K7.out).alloc' _, ABox.new _ _⟩ ?_
    rintro W8 ⟨k8, a8⟩
    refine (join5_any _ _ _ _ _ _ W8 a8 HSZ.out).mono ?_
    rintro e w9 ⟨rfl, k9⟩
    have K9 := hid (k8.trans k9)
    clear k8 a8 k9
    go_wp2_with fail
    go_ret
    exact ⟨by rw [HLN.out, ← HTX.out]; rfl, K9.out⟩
  all_goals
    have HQ := hid (abox_post K2.out K7.out AB.out (.string n) (.string ⟨(Lib.decDigits v).toArray⟩) (.string ⟨(Lib.decDigits sl).toArray⟩) (.string ⟨(Lib.join (fs.map (·.data.toList)) [44]).toArray⟩) (.string tx))
    clear f1 f2 f3
    go_wp2_with fail
    refine at_calls (fun W' => Keep w W' ∧ ABox W2.heap.size #[.string n, .string ⟨(Lib.decDigits v).toArray⟩, .string ⟨(Lib.decDigits sl).toArray⟩, .string ⟨(Lib.join (fs.map (·.data.toList)) [44]).toArray⟩, .string tx] W') ?_ ?_
    · exact HQ.out
    rintro W8 ⟨k8, a8⟩
    refine (join5_any _ _ _ _ _ _ W8 a8 HSZ.out).mono ?_
    rintro e w9 ⟨rfl, k9⟩
    have K9 := hid (k8.trans k9)
    clear k8 a8 k9
    go_wp2_with fail
    go_ret
    exact ⟨by rw [HLN.out, ← HTX.out]; rfl, K9.out⟩
end Go.Proofs.YtkckkjpkidcbnaaGreatDoor
/- tree.Print answers with the tree's text, or its error. -/
namespace Go.Proofs.YtkckkjpkidcbnaaGreatDoor
open Go.RowKit

/-- What Print answers. -/
def TPrinted (ps : List PK) (w : World) (e : Ending) (w' : World) : Prop :=
  ∃ s : ByteArray, e = .returned (.tuple #[.string s, .int .i64 (chkT ps)]) ∧ (chkT ps = 0 → s.data.toList = textT ps) ∧ Keep w w'
theorem isBuilder_keep {T e : TypeId} {B b : Nat} {bs : List Value} {w w' : World} (h : Lib.IsBuilder T e B b bs w) (k : Keep w w') : Lib.IsBuilder T e B b bs w' := by
  have key : ∀ p, Lib.BuilderAt T e B b p bs w → Lib.BuilderAt T e B b p bs w' := by
    rintro p ⟨h1, v, h2, h3, h4⟩
    refine ⟨h1, v, ?_, owns_keep h3 k, h4⟩
    rw [k.block b (Array.getElem?_eq_some_iff.1 h2).1]; exact h2
  exact h.imp (key _) (key _)
theorem textT_take {ps : List PK} {j : Nat} (h : j < ps.length) : textT (ps.take (j + 1)) = textT (ps.take j) ++ lineL ps[j] ++ [10] := by
  rw [List.take_succ_eq_append_getElem h, textT_app]
  show textT (ps.take j) ++ (lineL ps[j] ++ 10 :: []) = _
  simp
theorem line_len {p : PK} (h : chkP p = 0) : (lineL p).length ≤ 3000 := by
  obtain ⟨hn, ⟨hv1, hv2, hs1, hs2⟩, hf, -, hc⟩ := chkP_get h
  have h1 := nameB_le hn
  have h2 := join_two hf
  have h3 := (text_short hc).1
  obtain ⟨v, hv⟩ : ∃ k : Nat, p.v = k := ⟨p.v.toNat, by omega⟩
  obtain ⟨sl, hsl⟩ : ∃ k : Nat, p.sl = k := ⟨p.sl.toNat, by omega⟩
  have h4 := dec_len (i := v) (by omega)
  have h5 := dec_len (i := sl) (by omega)
  unfold lineL
  rw [hv, hsl, itoa_dec, itoa_dec, gjn_cons, gjn_cons, gjn_cons, gjn_cons, Lib.join_one]
  simp only [List.length_append, List.length_cons]
  omega
theorem text_len8 : ∀ (ps : List PK), (∀ p ∈ ps, chkP p = 0) → (textT ps).length ≤ 3001 * ps.length
  | [], _ => by simp [textT]
  | p :: ps, h => by
    have h1 := line_len (h p (by simp))
    have h2 := text_len8 ps (fun q hq => h q (by simp [hq]))
    show (lineL p ++ 10 :: textT ps).length ≤ _
    simp only [List.length_append, List.length_cons]
    omega

set_option maxHeartbeats 4000000 in
set_option maxRecDepth 100000 in
theorem treePrint_any (S : Nat → Prop) (ps : List PK) (v : Value) (w : World) (hS : ∀ b, S b → b < w.heap.size) (hp : PkgsIs S w ps v) (hs : Signs w) :
    Calls Tryz.prog 22 #[.agg #[v]] w fun e w' => TPrinted ps w e w' := by
  have HP := hid hp
  have HS := hid hs
  obtain ⟨p, cap, rfl, hlen⟩ := hp.len
  clear hp hs
  go_enter Tryz.func22, Tryz.ntmps22
  go_wp2_with fail
  refine at_calls (fun W' => Keep w W' ∧ VarAt w.heap.size 44 (.slice p ps.length cap) W') ⟨Keep.alloc _ _, VarAt.new _ _ _⟩ ?_
  rintro W0 ⟨k0, v0⟩
  refine (treeCheck_any S ps _ W0 (fun b hb => Nat.lt_of_lt_of_le (hS b hb) k0.size) (HP.out.keep hS k0)).mono ?_
  rintro e w1 ⟨rfl, k1⟩
  have K1 := hid (k0.trans k1)
  have V1 := hid (v0.keep k1 v0.facts.2.2)
  clear k0 v0 k1
  obtain ⟨hcv, -, hlv⟩ := V1.out.facts
  by_cases hz : chkT ps = 0
  · have HZ := hid hz
    obtain ⟨h8, hall⟩ := chkT_get hz
    have HALL := hid hall
    rw [hz]
    clear hz hall
    go_wp2_with fail
    refine at_wp (fun W' => Keep w W' ∧ Lib.IsBuilder 119 5 w1.heap.size w1.heap.size (Lib.byteCells []) W' ∧ w1.heap.size ≤ W'.heap.size) ⟨K1.out.alloc' _, Lib.fresh_isBuilder _ _ _, by rw [alloc_size]; omega⟩ ?_
    rintro W2 ⟨k2, b2, hs2⟩
    have K2 := hid k2
    have B2 := hid b2
    have hw1 : w.heap.size ≤ w1.heap.size := K1.out.size
    clear k2 b2 hcv
    go_loopg [16] ps.length (fun gk i wr => ∃ j : Nat, j + gk = ps.length ∧ i = .int .i64 j ∧ Lib.IsBuilder 119 5 w1.heap.size w1.heap.size (Lib.byteCells (textT (ps.take j))) wr ∧ w1.heap.size ≤ wr.heap.size ∧ Keep w wr)
    case atStart => exact ⟨0, by simp, rfl, B2.out, hs2, K2.out⟩
    case round =>
      obtain ⟨j, hj, rfl, hb, hsz, hkp⟩ := hrel
      have HB := hid hb
      have HKP := hid hkp
      clear hb hkp B2 K2
      by_cases hlt : j < ps.length
      · obtain ⟨b, off, cap2, hv2, hb2, -, hrow2⟩ := (HP.out.keep hS HKP.out).get hlt
        cases hv2
        obtain ⟨cs, hcs, hpj⟩ := hrow2 j hlt
        have HTT := hid (textT_take hlt)
        have hcj := HALL.out _ (List.getElem_mem hlt)
        have hll := line_len hcj
        have htl : (textT (ps.take j)).length ≤ 30000 := by
          have h1 := text_len8 (ps.take j) (fun q hq => HALL.out q (List.mem_of_mem_take hq))
          have h2 : (ps.take j).length ≤ 8 := by rw [List.length_take]; omega
          have h3 : 3001 * (ps.take j).length ≤ 3001 * 8 := Nat.mul_le_mul_left _ h2
          omega
        generalize ps[j] = q at hpj HTT hcj hll
        have HPJ := hid hpj
        have HCJ := hid hcj
        obtain ⟨k, a, fl, nt, kids, kp, fp, kc, fc, -, hfl, rfl, -, -⟩ := hpj.spelt
        obtain ⟨c0, c1, c2, c3, c4, c5, c6, c7, c8, c9, c10, c11, c12, c13⟩ := cells14 hcs
        rcases q with ⟨n, v, sl, fs, nd⟩
        simp only at hfl c0 c1 c2 c3
        have hblt : b < wr.heap.size := Nat.lt_of_lt_of_le (hS _ hb2) HKP.out.size
        clear hrow2 hcs hpj hcj
        generalize textT (ps.take j) = tj at HB HTT htl
        go_wp2_with fail
        refine at_calls (fun W' => Keep wr W') (Keep.alloc _ _) ?_
        intro W3 k3
        have hS2 : ∀ b, S b → b < wr.heap.size := fun b hb => Nat.lt_of_lt_of_le (hS b hb) HKP.out.size
        refine (line_any S _ _ W3 (fun b hb => Nat.lt_of_lt_of_le (hS2 b hb) k3.size) (HPJ.out.keep hS2 k3) HCJ.out (HS.out.keep (HKP.out.trans k3))).mono ?_
        rintro e w4 ⟨rfl, k4⟩
        have B4 := hid (isBuilder_keep HB.out (k3.trans k4))
        have K4 := hid (HKP.out.trans (k3.trans k4))
        have hs4 : wr.heap.size ≤ w4.heap.size := (k3.trans k4).size
        have hms : (⟨(lineL ⟨n, v, sl, fs, nd⟩).toArray⟩ : ByteArray).size ≤ 3000 := by rw [mk_size]; exact hll
        clear k3 k4 hS2 c0 c1 c2 c3 c4 c5 c6 c7 c8 c9 c10 c11 c12 c13 HB
        go_wp2_with fail
        refine (wstr w1.heap.size w1.heap.size tj ⟨(lineL ⟨n, v, sl, fs, nd⟩).toArray⟩ w4 B4.out (by omega) (by omega)).mono ?_
        rintro e w5 ⟨rfl, b5, k5⟩
        have B5 : Hid (Lib.IsBuilder 119 5 w1.heap.size w1.heap.size (Lib.byteCells (tj ++ lineL ⟨n, v, sl, fs, nd⟩)) w5) := b5
        have K5 : Hid (Keep w w5) := Below.trans K4.out (Below.mono k5 hw1)
        have hs5 : w4.heap.size ≤ w5.heap.size := k5.size
        clear k5 b5 B4
        go_wp2_with fail
        refine (wstr w1.heap.size w1.heap.size (tj ++ lineL ⟨n, v, sl, fs, nd⟩) ⟨#[10]⟩ w5 B5.out (by rw [List.length_append]; have : (ByteArray.mk #[10]).size = 1 := rfl; omega) (by omega)).mono ?_
        rintro e w6 ⟨rfl, b6, k6⟩
        have B6 : Hid (Lib.IsBuilder 119 5 w1.heap.size w1.heap.size (Lib.byteCells (textT (ps.take (j + 1)))) w6) := by show Lib.IsBuilder _ _ _ _ _ _; rw [HTT.out]; exact b6
        have K6 : Hid (Keep w w6) := Below.trans K5.out (Below.mono k6 hw1)
        have hs6 : w5.heap.size ≤ w6.heap.size := k6.size
        clear k6 b6 B5
        go_wp2_with fail
        go_roundg (ps.length - (j + 1))
        case rel => exact ⟨j + 1, by omega, by go_num, B6.out, by omega, K6.out⟩
        case measure => omega
      · obtain rfl : j = ps.length := by omega
        go_wp2_with fail
        refine (Tryz.Builder_String_any w1.heap.size w1.heap.size _ wr HB.out hsz).mono ?_
        rintro e w9 ⟨rfl, k9⟩
        have K9 : Hid (Keep w w9) := Below.trans HKP.out (Below.mono k9 hw1)
        clear k9
        go_wp2_with fail
        go_ret2
        exact ⟨_, by rw [HZ.out]; rfl, fun _ => by simp, K9.out⟩
  · have hz1 : (chkT ps == 0) = false := by simp [hz]
    have hz2 : (chkT ps != 0) = true := by simp [hz]
    have HZ := hid hz
    clear hz
    go_wp2_with fail
    go_ret2
    exact ⟨_, rfl, fun h => absurd h HZ.out, K1.out⟩
end Go.Proofs.YtkckkjpkidcbnaaGreatDoor
