/- CnfMore returns true, of any formula, literals, clause and literal that lie in memory; nothing that was there is changed. -/
import Derived.Test.YtenojmfdghdenabCnfClone
namespace Go.Proofs.Ytenojmfdghdenab
open Go.RowKit Go.Lib

theorem at_any {P : Program} {md : Region.Mode} {ops : Array Oper} {Q : Exit → Act → World → Prop} {S : World → Prop} {fuel : Nat} {listed : Array Bool} {a : Act} {W : World} (R : World → Prop) (hR : R W) (h : ∀ W', R W' → wpAnyH P md ops Q S fuel listed a W') : wpAnyH P md ops Q S fuel listed a W := h W hR
theorem owns_weaken {B B' e sz n : Nat} {v : Value} {xs : List Value} {w : World} (hB : B ≤ B') (h : w.ownsRow B' e sz v n xs) : w.ownsRow B e sz v n xs := by
  obtain ⟨h1, h2⟩ := h
  refine ⟨h1, h2.imp id ?_⟩
  rintro ⟨g, cap, cur, e1, e2, e3⟩
  exact ⟨g, cap, cur, e1, Nat.le_trans hB e2, e3⟩
theorem IntsOwn.nums {B : Nat} {v : Value} {zs : List Int} {w : World} {S : Nat → Prop} (h : IntsOwn B v zs w) (hS : ∀ g, v.ownBlock = some g → S g) (hl : zs.length ≤ 9223372036854775807) : NumsIs S w zs v := by
  have hi := h.ints
  rcases hi with ⟨rfl, rfl⟩ | ⟨g, cap, rfl, -, hc⟩
  · exact ⟨none, 0, rfl, by simp, fun h => absurd h (by simp)⟩
  · exact ⟨_, cap, rfl, hl, fun _ => ⟨g, 0, rfl, hS g rfl, fun j x hx => by rw [Nat.zero_add]; exact hc j x hx⟩⟩
/-- What Follows leaves, with the answer written out. -/
theorem FolDone.parts {vars : Int} {F : List (List Int)} {A : List Int} {w w' : World} {e : Ending} (h : FolDone vars F A w e w') :
    ∃ (lp : Option Addr) (ln lc : Nat) (b : Bool), e = .returned (.tuple #[.slice lp ln lc, .bool b, .int .i64 (folE vars F A)]) ∧ Keep w w' ∧
      (folE vars F A = 0 → ∃ n : Nat, vars = n ∧ ((b = true ∧ ∃ K L, Good n F A K L ∧ (∀ x, x ∈ L ↔ Der F A x) ∧ ¬ FailsF F A ∧ NumsIs (fun b => w.heap.size ≤ b ∧ b < w'.heap.size) w' (known K) (.slice lp ln lc)) ∨ (b = false ∧ FailsF F A))) := by
  obtain ⟨k, ⟨h1, rfl⟩ | ⟨h1, n, hn, ⟨v, K, L, rfl, h2, h3, h4, h5⟩ | ⟨rfl, h2⟩⟩⟩ := h
  · exact ⟨none, 0, 0, false, rfl, k, fun h => absurd h h1⟩
  · obtain ⟨p, cap, rfl, -⟩ := h5.shape
    exact ⟨p, _, cap, true, by rw [h1], k, fun _ => ⟨n, hn, .inl ⟨rfl, K, L, h2, h3, h4, h5⟩⟩⟩
  · exact ⟨none, 0, 0, false, by rw [h1], k, fun _ => ⟨n, hn, .inr ⟨rfl, h2⟩⟩⟩
theorem own_far0 {v v' : Value} {w : World} (h : v'.ownBlock = v.ownBlock ∨ v'.ownBlock = some w.heap.size) : v'.ownBlock = v.ownBlock ∨ ∃ g, v'.ownBlock = some g ∧ w.heap.size ≤ g := h.imp id fun h => ⟨_, h, Nat.le_refl _⟩
theorem one_at {b : Nat} {T : TypeId} {v : Value} {w : World} (h : VarAt b T v w) : ∀ j u, [v][j]? = some u → w.cell? ((⟨b, 0, none⟩ : Addr).add j) = some u := by
  intro j u hu
  cases j with
  | zero =>
    have : v = u := by simpa using hu
    subst this
    simpa [Addr.add] using h.facts.1
  | succ j => simp at hu
theorem box_var {b : Nat} {x : Int} {v u : Value} {w : World} (h : BoxAt b 24 #[.int .i64 x, v] w) (h' : VarAt b 26 u w) : False := by
  unfold BoxAt at h
  unfold VarAt at h'
  rw [h] at h'
  simp at h'
/-- A row of clauses, its length written otherwise. -/
structure FormLen (S : Nat → Prop) (w : World) (F : List (List Int)) (p : Option Addr) (n cap : Nat) : Prop where
  len : F.length = n
  row : ClsIs S w F (.slice p n cap)
theorem FormLen.keep' {W w : World} {F : List (List Int)} {p : Option Addr} {n cap : Nat} (h : FormLen (fun b => b < W.heap.size) W F p n cap) (k : Keep W w) : FormLen (fun b => b < w.heap.size) w F p n cap :=
  ⟨h.len, (h.row.keep (B := W.heap.size) (fun _ h => h) k).mono (fun _ _ => rfl) fun _ hb => Nat.lt_of_lt_of_le hb k.size⟩
theorem fol_more {vars : Int} {F : List (List Int)} {A : List Int} {p : Option Addr} {n cap : Nat} {av : Value} {w : World} (hf : FormLen (fun b => b < w.heap.size) w F p n cap) (hn : ∀ d ∈ F, ∀ x ∈ d, InR x) (ha : NumsIs (fun b => b < w.heap.size) w A av) (hr : ∀ x ∈ A, InR x) :
    Calls Try.prog 9 #[.agg #[.int .i64 vars, .slice p n cap], av] w fun e w' => FolDone vars F A w e w' := by
  obtain ⟨h1, h2⟩ := hf
  subst h1
  exact follows_any (fun b => b < w.heap.size) vars F A p cap av w (fun _ h => h) ⟨h2, hn⟩ ha hr
/-- What the second call left, at a later world. -/
structure MoreRes (vars : Int) (F : List (List Int)) (A : List Int) (b : Bool) (lp : Option Addr) (ln lc lo hi : Nat) (w : World) : Prop where
  sz : hi ≤ w.heap.size
  res : folE vars F A = 0 → ∃ n : Nat, vars = n ∧ ((b = true ∧ ∃ K L, Good n F A K L ∧ (∀ x, x ∈ L ↔ Der F A x) ∧ ¬ FailsF F A ∧ NumsIs (fun b => lo ≤ b ∧ b < hi) w (known K) (.slice lp ln lc)) ∨ (b = false ∧ FailsF F A))
theorem MoreRes.step {vars : Int} {F : List (List Int)} {A : List Int} {b : Bool} {lp : Option Addr} {ln lc lo hi : Nat} {w w' : World} (h : MoreRes vars F A b lp ln lc lo hi w) (k : Keep w w') : MoreRes vars F A b lp ln lc lo hi w' :=
  ⟨Nat.le_trans h.sz k.size, fun h0 => by
    obtain ⟨n, h1, ⟨h2, K, L, h3, h4, h5, h6⟩ | h2⟩ := h.res h0
    · exact ⟨n, h1, .inl ⟨h2, K, L, h3, h4, h5, h6.keep (B := w.heap.size) (fun _ hb => Nat.lt_of_lt_of_le hb.2 h.sz) k⟩⟩
    · exact ⟨n, h1, .inr h2⟩⟩
/-- What the region leaves. -/
structure MoreEnd (vars : Int) (F : List (List Int)) (A : List Int) (b : Bool) (bl : Nat) (lp : Option Addr) (ln lc : Nat) (w w1 wc : World) : Prop where
  var : VarAt bl 26 (.slice lp ln lc) wc
  kp : Keep w wc
  b1 : Below w1.heap.size w1 wc
  res : folE vars F A = 0 → ∃ n : Nat, vars = n ∧ ((b = true ∧ ∃ K L, Good n F A K L ∧ (∀ x, x ∈ L ↔ Der F A x) ∧ ¬ FailsF F A ∧ NumsIs (fun b => b < wc.heap.size) wc (known K) (.slice lp ln lc)) ∨ (b = false ∧ FailsF F A))
theorem more_end {vars : Int} {F : List (List Int)} {A : List Int} {b : Bool} {bl bG : Nat} {lp : Option Addr} {ln lc lo hi : Nat} {w w1 W6 W : World} {v : Value} (h6 : Keep w W6) (h16 : Below bG w1 W6) (hbG : w1.heap.size = bG) (k : Keep W6 W) (hbl : W6.heap.size ≤ bl) (al : VarAt bl 26 v W) (fo : MoreRes vars F A b lp ln lc lo hi W) (hlo : bl < lo ∨ hi ≤ bl) :
    MoreEnd vars F A b bl lp ln lc w w1 (W.setCell ⟨bl, 0, none⟩ (.slice lp ln lc)) := by
  subst hbG
  refine ⟨al.set _, Below.setCell (h6.trans k) (p := ⟨bl, 0, none⟩) (Nat.le_trans h6.size hbl) _, Below.setCell (Below.trans h16 (Below.mono k h16.size)) (p := ⟨bl, 0, none⟩) (Nat.le_trans h16.size hbl) _, fun h0 => ?_⟩
  obtain ⟨n, h1, ⟨h2, K, L, h3, h4, h5, h7⟩ | h2⟩ := fo.res h0
  · exact ⟨n, h1, .inl ⟨h2, K, L, h3, h4, h5, h7.mono (fun p hp => by
      have hne : p.block ≠ bl := by
        rcases hlo with h | h
        · intro e; have := hp.1; omega
        · intro e; have := hp.2; omega
      exact World.cell?_of_block (w := W) (heap_setO W bl 0 _ hne)) fun _ hb => by rw [size_setO]; exact Nat.lt_of_lt_of_le hb.2 fo.sz⟩⟩
  · exact ⟨n, h1, .inr h2⟩
theorem enter_more1 (args : Array Value) (w : World) : (callFunc 20 args).run Try.prog w = .ok (.enter 20 args) w := enters_of Try.func20 (by kernel_rfl) rfl args w
set_option maxHeartbeats 1000000 in
theorem more1_any (S : Nat → Prop) (zs : List Int) (lv : Value) (d : Nat) (x : Int) (w : World) (hS : ∀ b, S b → b < w.heap.size) (hz : NumsIs S w zs lv) (hd : VarAt d 26 lv w) :
    Calls Try.prog 20 #[.int .i64 x, .pointer (some ⟨d, 0, none⟩)] w fun e w' => e = .returned (.bool (!zs.contains x)) ∧ w' = w := by
  obtain ⟨p, cp, rfl, hml⟩ := hz.shape
  obtain ⟨hv, -, hlb⟩ := hd.facts
  have HC := hid (containsInt_any S zs x p cp w hS hz)
  generalize zs.contains x = β at HC ⊢
  clear hz hd
  go_enter Try.func20, Try.ntmps20
  go_wp2_with fail
  refine HC.out.mono ?_
  rintro e w1 ⟨rfl, hw1⟩
  rw [hw1]
  clear hw1 HC
  go_wp2_with fail
  go_ret
  exact ⟨rfl, rfl⟩

set_option maxHeartbeats 8000000 in
set_option maxRecDepth 100000 in
theorem cnfMore_walk (S : Nat → Prop) (vars : Int) (F : List (List Int)) (A c : List Int) (y : Int) (p : Option Addr) (cap : Nat) (av cv : Value) (w : World) (hS : ∀ b, S b → b < w.heap.size) (hf : FormIs S w vars F p cap) (ha : NumsIs S w A av) (hr : ∀ x ∈ A, InR x) (hc : NumsIs S w c cv) (hrc : ∀ x ∈ c, InR x) (hy : InR y)
    (hbF : F.length * 24 ≤ 140737488351232) (hbA : A.length * 8 ≤ 140737488351232) :
    Calls Try.prog 4 #[.agg #[.int .i64 vars, .slice p F.length cap], av, cv, .int .i64 y] w fun e w' => e = .returned (.bool true) ∧ Keep w w' := by
  obtain ⟨i0, hi, hz0, hz1, hz2⟩ := info_parts infoInt
  obtain ⟨j0, hj, hy0, hy1, hy2⟩ := info_parts infoCl
  have HF := hid hf
  have HA := hid ha
  have HR := hid hr
  have HC := hid hc
  have HRC := hid hrc
  have HY := hid hy
  obtain ⟨ap, ac, rfl, hal⟩ := ha.shape
  obtain ⟨cp, cc, rfl, hcl⟩ := hc.shape
  have hmf : ∀ (fn : Fn) (first cap : Array Value) (w : World), (Instr.makeFunc fn first cap).run Try.prog w = .ok (.func fn first cap) w := fun _ _ _ _ => rfl
  clear hf ha hr hc hrc hy
  go_enter Try.func4, Try.ntmps4
  go_wp2_with fail
  refine at_calls (fun W' => Keep w W' ∧ BoxAt w.heap.size 24 #[.int .i64 vars, .slice p F.length cap] W') ⟨Keep.alloc _ _, BoxAt.new _ _ _⟩ ?_
  rintro W0 ⟨k0, b0⟩
  refine (follows_any S vars F A p cap _ W0 (fun b hb => Nat.lt_of_lt_of_le (hS b hb) k0.size) (HF.out.keep hS k0) (HA.out.keep hS k0) HR.out).mono ?_
  rintro e w1 hd
  obtain ⟨lp, ln, lc, okb, rfl, k1, hfol⟩ := hd.parts
  have HFOL := hid hfol
  have K1 := hid (k0.trans k1)
  have B1 := hid (b0.keep k1 b0.facts.2.2)
  have HW0 := hid k0.size
  clear hd hfol k0 b0 k1
  generalize hge : folE vars F A = ge at HFOL
  have HGE := hid hge
  clear hge
  obtain ⟨hcb, -, hlb⟩ := B1.out.facts
  have hc0 : w1.cell? ⟨w.heap.size, 0, none⟩ = some (.int .i64 vars) := hcb 0
  have hc1 : w1.cell? ⟨w.heap.size, 1, none⟩ = some (.slice p F.length cap) := hcb 1
  clear hcb
  go_upto_region 3 with fail
  refine at_wp (fun W' => Keep w1 W' ∧ BoxAt w1.heap.size 24 #[.int .i64 vars, .slice p F.length cap] W' ∧ W'.heap.size = w1.heap.size + 1) ⟨Keep.alloc _ _, BoxAt.new _ _ _, alloc_size _ _⟩ ?_
  rintro W2 ⟨k2, g2, hs2⟩
  have K2 := hid (K1.out.trans k2)
  have B2 := hid (B1.out.keep k2 B1.out.facts.2.2)
  have G2 := hid g2
  have K12 := hid k2
  clear k2 g2 hc0 hc1
  obtain ⟨hcb, -, hlb2⟩ := B2.out.facts
  have hc1 : W2.cell? ⟨w.heap.size, 1, none⟩ = some (.slice p F.length cap) := hcb 1
  clear hcb
  have HS2 := hid (fun b (hb : S b) => Nat.lt_of_lt_of_le (hS b hb) K2.out.size)
  go_wp2_with fail
  refine (cloneC_any S F p cap W2 HS2.out (HF.out.keep hS K2.out).row (by omega)).mono ?_
  rintro e w3 ⟨v3, rfl, own3, k3⟩
  obtain ⟨vs3, hvl3, hrow3, hvn3⟩ := own3
  have K3 := hid (K2.out.trans k3)
  have G3 := hid (G2.out.keep k3 G2.out.facts.2.2)
  have HV3 := hid (And.intro hvl3 hvn3)
  have HR3 := hid hrow3
  have HK23 := hid k3.size
  have K23 := hid k3
  have hgl3 := G3.out.facts.2.2
  clear hvl3 hvn3 hrow3 k3 hc1
  have HNE3 := hid (show v3.ownBlock ≠ some w1.heap.size from fun e => by have := (owns_in HR3.out e).1; omega)
  go_upto_region 4 with (at_builtin; refine wpList_append_own_at _ rfl _ _ 22 rfl W2.heap.size 38 j0 (.slice none 0 0) 1 24 Try.underlying22 hj hy0 hy1 hy2 rfl (by decide) v3 F.length vs3 rfl (HR3.out.alloc _) ⟨w3.heap.size, 0, none⟩ 1 1 [.slice cp c.length cc] rfl rfl one_newsC one_cellC (by unfold maxLen; omega) (by omega) (by rw [alloc_size]; have := HK23.out; omega) ?_; intro v5 w5 h1 h2 _ h4; obtain ⟨g5, cap5, rfl⟩ := owns_shape h1 (Nat.succ_pos _); have H5 := hid (And.intro h1 (And.intro (grown_alloc h2) (own_far h4))); have hbx5 := (show BoxAt w1.heap.size 24 #[.int .i64 vars, .slice p F.length cap] w5 from by (have := G3.out; unfold BoxAt at *; rw [(grown_alloc h2).block _ hgl3 (fun e => HNE3.out e.symm)]; exact this)); have HB5 := hid hbx5; obtain ⟨hcb5, hcf5, hcl5⟩ := hbx5.facts; clear h1 h2 h4 hbx5)
  have HCL5 := hid (show Keep w (w5.setCell ⟨w1.heap.size, 1, none⟩ (.slice (some ⟨g5, 0, none⟩) (F.length + 1) cap5)) ∧ BoxAt w1.heap.size 24 #[.int .i64 vars, .slice (some ⟨g5, 0, none⟩) (F.length + 1) cap5] (w5.setCell ⟨w1.heap.size, 1, none⟩ (.slice (some ⟨g5, 0, none⟩) (F.length + 1) cap5)) ∧ ClsIs (fun b => S b ∨ (W2.heap.size ≤ b ∧ b < (w5.setCell ⟨w1.heap.size, 1, none⟩ (.slice (some ⟨g5, 0, none⟩) (F.length + 1) cap5)).heap.size)) (w5.setCell ⟨w1.heap.size, 1, none⟩ (.slice (some ⟨g5, 0, none⟩) (F.length + 1) cap5)) (F ++ [c]) (.slice (some ⟨g5, 0, none⟩) (F.length + 1) cap5) ∧ Below w1.heap.size w1 (w5.setCell ⟨w1.heap.size, 1, none⟩ (.slice (some ⟨g5, 0, none⟩) (F.length + 1) cap5)) by
    obtain ⟨h1, h2, h4⟩ := H5.out
    have hin3 : ∀ g, v3.ownBlock = some g → W2.heap.size ≤ g := fun g hg => (owns_in HR3.out hg).1
    have hb25 : Below W2.heap.size W2 w5 := Below.grown K23.out h2 HK23.out hin3
    have hkeep : Keep w (w5.setCell ⟨w1.heap.size, 1, none⟩ (.slice (some ⟨g5, 0, none⟩) (F.length + 1) cap5)) := Below.setCell (Below.trans K2.out (Below.mono hb25 K2.out.size)) (p := ⟨w1.heap.size, 1, none⟩) K1.out.size _
    have hcells : ∀ pp : Addr, S pp.block → (w5.setCell ⟨w1.heap.size, 1, none⟩ (.slice (some ⟨g5, 0, none⟩) (F.length + 1) cap5)).cell? pp = w.cell? pp := fun pp hp => hkeep.cell (p := pp) (hS _ hp)
    refine ⟨hkeep, ?_, ?_, Below.setCell (Below.trans K12.out (Below.mono hb25 (by omega))) (p := ⟨w1.heap.size, 1, none⟩) (Nat.le_refl _) _⟩
    · exact HB5.out.set 1 _
    · have hg5 : W2.heap.size ≤ g5 ∧ g5 < w5.heap.size := owns_in h1 rfl
      obtain ⟨h1a, ⟨he, -⟩ | ⟨g', cap', cur, he, e2, e3, e4, e5, e6, e7⟩⟩ := h1
      · cases he
      cases he
      refine Or.inr ⟨g5, 0, cap5, by simp, ⟨Or.inr ⟨hg5.1, by rw [size_setO]; exact hg5.2⟩, by simpa using e4⟩, by unfold maxLen at e5; simp; omega, fun j d hd => ?_⟩
      have hjl : j < (F ++ [c]).length := (List.getElem?_eq_some_iff.1 hd).1
      have hjv : j < (vs3 ++ [Value.slice cp c.length cc]).length := by have := HV3.out.1; simp at hjl ⊢; omega
      refine ⟨(vs3 ++ [Value.slice cp c.length cc])[j], ?_, ?_⟩
      · have hf : ∃ x, x = (vs3 ++ [Value.slice cp c.length cc])[j] ∧ (vs3 ++ [Value.slice cp c.length cc])[j]? = some x := ⟨_, rfl, List.getElem?_eq_getElem hjv⟩
        obtain ⟨x, hx, hf⟩ := hf
        rw [← hx]
        rw [← e7, List.getElem?_take, if_pos (by simp at hjl; omega)] at hf
        rw [cell_setO _ _ _ _ (by omega)]
        simp only [World.cell?, e3, Nat.zero_add]
        simpa using hf
      · have hall : ∀ (j : Nat) d x, (F ++ [c])[j]? = some d → (vs3 ++ [Value.slice cp c.length cc])[j]? = some x → NumsIs S w d x := by
          intro j d x hd hx
          by_cases hj : j < F.length
          · rw [List.getElem?_append_left hj] at hd
            rw [List.getElem?_append_left (by have := HV3.out.1; omega)] at hx
            exact (HV3.out.2 j d x hd hx).mono (fun pp hp => ((Below.trans K2.out (Below.mono K23.out K2.out.size)).cell (p := pp) (hS _ hp)).symm) fun _ h => h
          · have hj2 : j = F.length := by have := (List.getElem?_eq_some_iff.1 hd).1; simp at this; omega
            subst hj2
            rw [List.getElem?_append_right (Nat.le_refl _), Nat.sub_self] at hd
            rw [← HV3.out.1, List.getElem?_append_right (Nat.le_refl _), Nat.sub_self] at hx
            cases hd; cases hx
            exact HC.out
        exact (hall j d _ hd (List.getElem?_eq_getElem hjv)).mono hcells fun _ h => Or.inl h)
  refine at_wp (fun W' => Keep w W' ∧ BoxAt w1.heap.size 24 #[.int .i64 vars, .slice (some ⟨g5, 0, none⟩) (F.length + 1) cap5] W' ∧ ClsIs (fun b => S b ∨ (W2.heap.size ≤ b ∧ b < W'.heap.size)) W' (F ++ [c]) (.slice (some ⟨g5, 0, none⟩) (F.length + 1) cap5) ∧ w1.heap.size < W'.heap.size ∧ Below w1.heap.size w1 W') ⟨HCL5.out.1, HCL5.out.2.1, HCL5.out.2.2.1, HCL5.out.2.1.facts.2.2, HCL5.out.2.2.2⟩ ?_
  rintro W6 ⟨k6, g6, c6, hg6, k16⟩
  have HK6 := hid k6
  have HK16 := hid k16
  have g6x := hid g6
  have HCL6 := hid c6
  generalize hbG : w1.heap.size = bG at g6 g6x hg6 HK16 ⊢
  have HBG := hid hbG
  have hg0 : W6.cell? ⟨bG, 0, none⟩ = some (.int .i64 vars) := g6.facts.1 0
  have hg1 : W6.cell? ⟨bG, 1, none⟩ = some (.slice (some ⟨g5, 0, none⟩) (F.length + 1) cap5) := g6.facts.1 1
  have hgl6 : bG < W6.heap.size := hg6
  have hA1 : (A ++ [y]).length ≤ 9223372036854775807 := by simp; omega
  have HF6 := hid (show FormLen (fun b => b < W6.heap.size) W6 (F ++ [c]) (some ⟨g5, 0, none⟩) (F.length + 1) cap5 from ⟨by simp, HCL6.out.mono (fun _ _ => rfl) (fun b hb => hb.elim (fun h => Nat.lt_of_lt_of_le (hS b h) HK6.out.size) fun h => h.2)⟩)
  have HNF := hid (show ∀ d ∈ F ++ [c], ∀ x ∈ d, InR x from fun d hd => by
    rcases List.mem_append.1 hd with hd | hd
    · exact HF.out.num d hd
    · rw [List.mem_singleton.1 hd]; exact HRC.out)
  have HNA := hid (show ∀ x ∈ A ++ [y], InR x from fun x hx => by
    rcases List.mem_append.1 hx with hx | hx
    · exact HR.out x hx
    · rw [List.mem_singleton.1 hx]; exact HY.out)
  clear g6 c6 hg6 k6 k16 hbG hcb5 hcf5 hcl5 hgl3 HCL5 H5 HB5 HV3 HR3 HNE3 K23 HK23 K3 G3 K2 B2 G2 K12 hlb2 HS2 hs2 hlb B1
  go_cut [13, 14, 15] from 31 to 41 (fun p13 b14 h15 wc => ∃ (bl : Nat) (lp2 : Option Addr) (ln2 lc2 : Nat) (still : Bool), p13 = .pointer (some ⟨bl, 0, none⟩) ∧ b14 = .bool still ∧ h15 = .int .i64 (folE vars (F ++ [c]) (A ++ [y])) ∧ MoreEnd vars (F ++ [c]) (A ++ [y]) still bl lp2 ln2 lc2 w w1 wc)
  case first =>
    refine wp_region_held_drew (S := fun W' => W'.cell? ⟨bG, 0, none⟩ = some (.int .i64 vars) ∧ W'.cell? ⟨bG, 1, none⟩ = some (.slice (some ⟨g5, 0, none⟩) (F.length + 1) cap5)) (by kernel_rfl) ⟨hg0, hg1⟩ (fun hHeld => ?_)
    clear hHeld
    refine at_any (fun W' => Keep W6 W') (Keep.drew (Keep.refl _)) ?_
    intro W0x k0'
    have k0 := hid k0'
    have sz0 := hid k0'.size
    clear k0'
    have hHeld := (show W0x.cell? ⟨bG, 0, none⟩ = some (.int .i64 vars) ∧ W0x.cell? ⟨bG, 1, none⟩ = some (.slice (some ⟨g5, 0, none⟩) (F.length + 1) cap5) from ⟨(k0.out.cell (p := ⟨bG, 0, none⟩) hgl6).trans hg0, (k0.out.cell (p := ⟨bG, 1, none⟩) hgl6).trans hg1⟩)
    refine wpAnyH_take (i := 0) (v := ?_) rfl (by kernel_rfl) (by kernel_rfl) (by kernel_rfl) (fun _ _ _ h => h) (Or.inl ⟨by rfl, ?_⟩) (by assumption) ?_
    rotate_left
    · intro w hSw
      (try dsimp only at hSw)
      go_simp
      try with_reducible rfl
    simp only [Act.put, List.setIfInBounds_toArray, List.set_cons_zero, List.set_cons_succ, List.getElem_toArray, List.getElem_cons_zero]
    refine wpAnyH_take (i := 1) (v := ?_) rfl (by kernel_rfl) (by kernel_rfl) (by kernel_rfl) (fun _ _ _ h => h) (Or.inl ⟨by rfl, ?_⟩) (by assumption) ?_
    rotate_left
    · intro w hSw
      (try dsimp only at hSw)
      go_simp
      try with_reducible rfl
    simp only [Act.put, List.setIfInBounds_toArray, List.set_cons_zero, List.set_cons_succ, List.getElem_toArray, List.getElem_cons_zero, List.getElem_cons_succ]
    refine wpAnyH_take (i := 3) (v := ?_) rfl (by kernel_rfl) (by kernel_rfl) (by kernel_rfl) (fun _ _ _ h => h) (Or.inl ⟨by rfl, ?_⟩) (by assumption) ?_
    rotate_left
    · intro w hSw
      (try dsimp only at hSw)
      go_simp
      try with_reducible rfl
    simp only [Act.put, List.setIfInBounds_toArray, List.set_cons_zero, List.set_cons_succ, List.getElem_toArray, List.getElem_cons_zero, List.getElem_cons_succ]
    refine wpAnyH_ready (rs := [2, 4, 11]) (by kernel_rfl) (by simp) ?_
    refine AllReadyH.cons rfl (fun KK hK => ?_) ?_
    · go_simp
      refine (cloneI_any S A ap ac W0x (fun b hb => Nat.lt_of_lt_of_le (hS b hb) (Nat.le_trans HK6.out.size sz0.out)) (HA.out.keep hS (HK6.out.trans k0.out)) (by omega)).mono ?_
      rintro e W1x ⟨v, rfl, own, kk⟩
      obtain ⟨vp, vc, hvs⟩ := own.ints.len
      subst hvs
      have k1 := hid (k0.out.trans kk)
      have sz1 := hid (Nat.le_trans sz0.out kk.size)
      have cl1 := hid (show IntsOwn W6.heap.size (.slice vp A.length vc) A W1x from owns_weaken sz0.out own)
      refine hK.out _ _ ⟨(k1.out.cell (p := ⟨bG, 0, none⟩) hgl6).trans hg0, (k1.out.cell (p := ⟨bG, 1, none⟩) hgl6).trans hg1⟩ (fun hH => ?_)
      clear hK KK own kk
      refine wpAnyH_ready (rs := [4, 11]) (by kernel_rfl) (by simp) ?_
      refine AllReadyH.cons rfl (fun KK hK => ?_) ?_
      · go_simp
        have ks := Keep.alloc W1x (.cells #[.int .i64 y] 3)
        refine hK.out _ _ ⟨((k1.out.trans ks).cell (p := ⟨bG, 0, none⟩) hgl6).trans hg0, ((k1.out.trans ks).cell (p := ⟨bG, 1, none⟩) hgl6).trans hg1⟩ (fun hH => ?_)
        clear hK KK ks hH
        refine at_any (fun W' => Keep W1x W' ∧ VarAt W1x.heap.size 3 (.int .i64 y) W') ⟨Keep.alloc _ _, VarAt.new _ _ _⟩ ?_
        rintro W2x ⟨kk, vn⟩
        have k2 := hid (k1.out.trans kk)
        have cl2 := hid (show IntsOwn W6.heap.size (.slice vp A.length vc) A W2x from owns_keep cl1.out kk)
        have sz2 := hid (Nat.le_trans sz1.out kk.size)
        have bu2 := hid vn
        have hHeld := (show W2x.cell? ⟨bG, 0, none⟩ = some (.int .i64 vars) ∧ W2x.cell? ⟨bG, 1, none⟩ = some (.slice (some ⟨g5, 0, none⟩) (F.length + 1) cap5) from ⟨(k2.out.cell (p := ⟨bG, 0, none⟩) hgl6).trans hg0, (k2.out.cell (p := ⟨bG, 1, none⟩) hgl6).trans hg1⟩)
        clear kk vn
        refine wpAnyH_ready (rs := [5, 11]) (by kernel_rfl) (by simp) ?_
        refine AllReadyH.cons rfl (fun KK hK => ?_) ?_
        · refine step_append_own rfl _ _ 26 rfl W6.heap.size 3 i0 (.int .i64 0) 1 8 Try.underlying26 hi hz0 hz1 hz2 rfl (by decide) (.slice vp A.length vc) A.length (A.map (Value.int .i64)) rfl cl2.out ⟨W1x.heap.size, 0, none⟩ 1 1 [.int .i64 y] rfl rfl (one_at bu2.out) one_cellI (by unfold maxLen; omega) (by omega) sz2.out ?_
          intro v5 W3x h1 h2 h4
          obtain ⟨g7, cap7, rfl⟩ := owns_shape h1 (Nat.succ_pos _)
          have k3 := hid (show Keep W6 W3x from Below.grown k2.out h2 sz2.out (fun g hg => (owns_in cl2.out hg).1))
          have ap3 := hid (show IntsOwn W6.heap.size (.slice (some ⟨g7, 0, none⟩) (A.length + 1) cap7) (A ++ [y]) W3x by unfold IntsOwn; rw [List.length_append, List.map_append]; exact h1)
          have sz3 := hid (Nat.le_trans sz2.out h2.size)
          refine hK.out _ _ ⟨(k3.out.cell (p := ⟨bG, 0, none⟩) hgl6).trans hg0, (k3.out.cell (p := ⟨bG, 1, none⟩) hgl6).trans hg1⟩ (fun hH => ?_)
          clear hK KK h1 h2 h4
          simp only [Act.put, List.setIfInBounds_toArray, List.set_cons_zero, List.set_cons_succ, List.getElem_toArray, List.getElem_cons_zero, List.getElem_cons_succ]
          refine wpAnyH_ready (rs := [6, 11]) (by kernel_rfl) (by simp) ?_
          refine AllReadyH.cons rfl (fun KK hK => ?_) ?_
          · go_simp
            refine (fol_more (HF6.out.keep' k3.out) HNF.out (IntsOwn.nums (zs := A ++ [y]) (S := fun b => b < W3x.heap.size) ap3.out (fun g hg => (owns_in ap3.out hg).2) hA1) HNA.out).mono ?_
            rintro e W4x hd
            obtain ⟨lp2, ln2, lc2, still, rfl, kk, hfol2⟩ := hd.parts
            have k4 := hid (k3.out.trans kk)
            have ap4 := hid (show IntsOwn W6.heap.size (.slice (some ⟨g7, 0, none⟩) (A.length + 1) cap7) (A ++ [y]) W4x from owns_keep ap3.out kk)
            have sz4 := hid (Nat.le_trans sz3.out kk.size)
            have fo4 := hid (show MoreRes vars (F ++ [c]) (A ++ [y]) still lp2 ln2 lc2 W3x.heap.size W4x.heap.size W4x from ⟨Nat.le_refl _, hfol2⟩)
            refine hK.out _ _ ⟨(k4.out.cell (p := ⟨bG, 0, none⟩) hgl6).trans hg0, (k4.out.cell (p := ⟨bG, 1, none⟩) hgl6).trans hg1⟩ (fun hH => ?_)
            clear hK KK hd hfol2 kk
            refine wpAnyH_take (i := 7) (v := ?_) rfl (by kernel_rfl) (by kernel_rfl) (by kernel_rfl) (fun _ _ _ h => h) (Or.inl ⟨by rfl, ?_⟩) (by assumption) ?_
            rotate_left
            · intro w hSw
              (try dsimp only at hSw)
              go_simp
              try with_reducible rfl
            simp only [Act.put, List.setIfInBounds_toArray, List.set_cons_zero, List.set_cons_succ, List.getElem_toArray, List.getElem_cons_zero, List.getElem_cons_succ]
            refine wpAnyH_take (i := 8) (v := ?_) rfl (by kernel_rfl) (by kernel_rfl) (by kernel_rfl) (fun _ _ _ h => h) (Or.inl ⟨by rfl, ?_⟩) (by assumption) ?_
            rotate_left
            · intro w hSw
              (try dsimp only at hSw)
              go_simp
              try with_reducible rfl
            simp only [Act.put, List.setIfInBounds_toArray, List.set_cons_zero, List.set_cons_succ, List.getElem_toArray, List.getElem_cons_zero, List.getElem_cons_succ]
            refine wpAnyH_take (i := 9) (v := ?_) rfl (by kernel_rfl) (by kernel_rfl) (by kernel_rfl) (fun _ _ _ h => h) (Or.inl ⟨by rfl, ?_⟩) (by assumption) ?_
            rotate_left
            · intro w hSw
              (try dsimp only at hSw)
              go_simp
              try with_reducible rfl
            simp only [Act.put, List.setIfInBounds_toArray, List.set_cons_zero, List.set_cons_succ, List.getElem_toArray, List.getElem_cons_zero, List.getElem_cons_succ]
            refine wpAnyH_take (i := 10) (v := ?_) rfl (by kernel_rfl) (by kernel_rfl) (by kernel_rfl) (fun _ _ _ h => h) (Or.inl ⟨by rfl, ?_⟩) (by assumption) ?_
            rotate_left
            · intro w hSw
              (try dsimp only at hSw)
              go_simp
              try with_reducible rfl
            simp only [Act.put, List.setIfInBounds_toArray, List.set_cons_zero, List.set_cons_succ, List.getElem_toArray, List.getElem_cons_zero, List.getElem_cons_succ]
            refine wpAnyH_ready (rs := [11]) (by kernel_rfl) (by simp) ?_
            refine AllReadyH.cons rfl (fun KK hK => ?_) AllReadyH.nil
            go_simp
            have ks := Keep.alloc W4x (.cells #[.slice none 0 0] 26)
            refine hK.out _ _ ⟨((k4.out.trans ks).cell (p := ⟨bG, 0, none⟩) hgl6).trans hg0, ((k4.out.trans ks).cell (p := ⟨bG, 1, none⟩) hgl6).trans hg1⟩ (fun hH => ?_)
            clear hK KK ks hH
            refine at_any (fun W' => Keep W4x W' ∧ VarAt W4x.heap.size 26 (.slice none 0 0) W') ⟨Keep.alloc _ _, VarAt.new _ _ _⟩ ?_
            rintro W5x ⟨kk, vn⟩
            have k5 := hid (k4.out.trans kk)
            have ap5 := hid (show IntsOwn W6.heap.size (.slice (some ⟨g7, 0, none⟩) (A.length + 1) cap7) (A ++ [y]) W5x from owns_keep ap4.out kk)
            have fo5 := hid (fo4.out.step kk)
            have sz5 := hid (Nat.le_trans sz4.out kk.size)
            have al5 := hid vn
            have lo := hid (show W4x.heap.size < W3x.heap.size ∨ W4x.heap.size ≤ W4x.heap.size from Or.inr fo4.out.sz)
            have hHeld := (show W5x.cell? ⟨bG, 0, none⟩ = some (.int .i64 vars) ∧ W5x.cell? ⟨bG, 1, none⟩ = some (.slice (some ⟨g5, 0, none⟩) (F.length + 1) cap5) from ⟨(k5.out.cell (p := ⟨bG, 0, none⟩) hgl6).trans hg0, (k5.out.cell (p := ⟨bG, 1, none⟩) hgl6).trans hg1⟩)
            clear kk vn
            obtain ⟨hlc, hlf, hll⟩ := al5.out.facts
            refine wpAnyH_ready (rs := [12]) (by kernel_rfl) (by simp) ?_
            refine AllReadyH.cons rfl (fun KK hK => ?_) AllReadyH.nil
            go_simp
            have hblg : bG ≠ W4x.heap.size := by have := sz4.out; omega
            have hcc := (show W5x.cell? ⟨bG, 0, none⟩ = some (.int .i64 vars) ∧ W5x.cell? ⟨bG, 1, none⟩ = some (.slice (some ⟨g5, 0, none⟩) (F.length + 1) cap5) from ⟨(k5.out.cell (p := ⟨bG, 0, none⟩) hgl6).trans hg0, (k5.out.cell (p := ⟨bG, 1, none⟩) hgl6).trans hg1⟩)
            refine hK.out _ _ ⟨(cell_setO _ _ _ _ hblg).trans hcc.1, (cell_setO _ _ _ _ hblg).trans hcc.2⟩ (fun hH9 => ?_)
            clear hK KK hcc
            refine wpAnyH_take (i := 13) (v := ?_) rfl (by kernel_rfl) (by kernel_rfl) (by kernel_rfl) (fun _ _ _ h => h) (Or.inl ⟨by rfl, ?_⟩) (by assumption) ?_
            rotate_left
            · intro w hSw
              (try dsimp only at hSw)
              go_simp
              try with_reducible rfl
            simp only [Act.put, List.setIfInBounds_toArray, List.set_cons_zero, List.set_cons_succ, List.getElem_toArray, List.getElem_cons_zero, List.getElem_cons_succ]
            refine wpAnyH_take (i := 14) (v := ?_) rfl (by kernel_rfl) (by kernel_rfl) (by kernel_rfl) (fun _ _ _ h => h) (Or.inl ⟨by rfl, ?_⟩) (by assumption) ?_
            rotate_left
            · intro w hSw
              (try dsimp only at hSw)
              go_simp
              try with_reducible rfl
            simp only [Act.put, List.setIfInBounds_toArray, List.set_cons_zero, List.set_cons_succ, List.getElem_toArray, List.getElem_cons_zero, List.getElem_cons_succ]
            refine wpAnyH_done (by kernel_rfl) ?_ _
            go_wp2_with fail
            go_meet
            exact ⟨W4x.heap.size, lp2, ln2, lc2, still, rfl, rfl, rfl, more_end HK6.out HK16.out HBG.out k5.out sz4.out al5.out fo5.out lo.out⟩
          · refine AllReadyH.cons rfl (fun KK hK => ?_) AllReadyH.nil
            go_simp
            have ks := Keep.alloc W3x (.cells #[.slice none 0 0] 26)
            refine hK.out _ _ ⟨((k3.out.trans ks).cell (p := ⟨bG, 0, none⟩) hgl6).trans hg0, ((k3.out.trans ks).cell (p := ⟨bG, 1, none⟩) hgl6).trans hg1⟩ (fun hH => ?_)
            clear hK KK ks hH
            refine at_any (fun W' => Keep W3x W' ∧ VarAt W3x.heap.size 26 (.slice none 0 0) W') ⟨Keep.alloc _ _, VarAt.new _ _ _⟩ ?_
            rintro W4x ⟨kk, vn⟩
            have k4 := hid (k3.out.trans kk)
            have ap4 := hid (show IntsOwn W6.heap.size (.slice (some ⟨g7, 0, none⟩) (A.length + 1) cap7) (A ++ [y]) W4x from owns_keep ap3.out kk)
            have sz4 := hid (Nat.le_trans sz3.out kk.size)
            have al4 := hid vn
            have hHeld := (show W4x.cell? ⟨bG, 0, none⟩ = some (.int .i64 vars) ∧ W4x.cell? ⟨bG, 1, none⟩ = some (.slice (some ⟨g5, 0, none⟩) (F.length + 1) cap5) from ⟨(k4.out.cell (p := ⟨bG, 0, none⟩) hgl6).trans hg0, (k4.out.cell (p := ⟨bG, 1, none⟩) hgl6).trans hg1⟩)
            clear kk vn
            refine wpAnyH_ready (rs := [6]) (by kernel_rfl) (by simp) ?_
            refine AllReadyH.cons rfl (fun KK hK => ?_) AllReadyH.nil
            go_simp
            refine (fol_more (HF6.out.keep' k4.out) HNF.out (IntsOwn.nums (zs := A ++ [y]) (S := fun b => b < W4x.heap.size) ap4.out (fun g hg => (owns_in ap4.out hg).2) hA1) HNA.out).mono ?_
            rintro e W5x hd
            obtain ⟨lp2, ln2, lc2, still, rfl, kk, hfol2⟩ := hd.parts
            have k5 := hid (k4.out.trans kk)
            have ap5 := hid (show IntsOwn W6.heap.size (.slice (some ⟨g7, 0, none⟩) (A.length + 1) cap7) (A ++ [y]) W5x from owns_keep ap4.out kk)
            have al5 := hid (al4.out.keep kk al4.out.facts.2.2)
            have sz5 := hid (Nat.le_trans sz4.out kk.size)
            have fo5 := hid (show MoreRes vars (F ++ [c]) (A ++ [y]) still lp2 ln2 lc2 W4x.heap.size W5x.heap.size W5x from ⟨Nat.le_refl _, hfol2⟩)
            have lo := hid (show W3x.heap.size < W4x.heap.size ∨ W5x.heap.size ≤ W3x.heap.size from Or.inl al4.out.facts.2.2)
            refine hK.out _ _ ⟨(k5.out.cell (p := ⟨bG, 0, none⟩) hgl6).trans hg0, (k5.out.cell (p := ⟨bG, 1, none⟩) hgl6).trans hg1⟩ (fun hH => ?_)
            clear hK KK hd hfol2 kk
            refine wpAnyH_take (i := 7) (v := ?_) rfl (by kernel_rfl) (by kernel_rfl) (by kernel_rfl) (fun _ _ _ h => h) (Or.inl ⟨by rfl, ?_⟩) (by assumption) ?_
            rotate_left
            · intro w hSw
              (try dsimp only at hSw)
              go_simp
              try with_reducible rfl
            simp only [Act.put, List.setIfInBounds_toArray, List.set_cons_zero, List.set_cons_succ, List.getElem_toArray, List.getElem_cons_zero, List.getElem_cons_succ]
            refine wpAnyH_take (i := 8) (v := ?_) rfl (by kernel_rfl) (by kernel_rfl) (by kernel_rfl) (fun _ _ _ h => h) (Or.inl ⟨by rfl, ?_⟩) (by assumption) ?_
            rotate_left
            · intro w hSw
              (try dsimp only at hSw)
              go_simp
              try with_reducible rfl
            simp only [Act.put, List.setIfInBounds_toArray, List.set_cons_zero, List.set_cons_succ, List.getElem_toArray, List.getElem_cons_zero, List.getElem_cons_succ]
            refine wpAnyH_take (i := 9) (v := ?_) rfl (by kernel_rfl) (by kernel_rfl) (by kernel_rfl) (fun _ _ _ h => h) (Or.inl ⟨by rfl, ?_⟩) (by assumption) ?_
            rotate_left
            · intro w hSw
              (try dsimp only at hSw)
              go_simp
              try with_reducible rfl
            simp only [Act.put, List.setIfInBounds_toArray, List.set_cons_zero, List.set_cons_succ, List.getElem_toArray, List.getElem_cons_zero, List.getElem_cons_succ]
            refine wpAnyH_take (i := 10) (v := ?_) rfl (by kernel_rfl) (by kernel_rfl) (by kernel_rfl) (fun _ _ _ h => h) (Or.inl ⟨by rfl, ?_⟩) (by assumption) ?_
            rotate_left
            · intro w hSw
              (try dsimp only at hSw)
              go_simp
              try with_reducible rfl
            simp only [Act.put, List.setIfInBounds_toArray, List.set_cons_zero, List.set_cons_succ, List.getElem_toArray, List.getElem_cons_zero, List.getElem_cons_succ]
            obtain ⟨hlc, hlf, hll⟩ := al5.out.facts
            refine wpAnyH_ready (rs := [12]) (by kernel_rfl) (by simp) ?_
            refine AllReadyH.cons rfl (fun KK hK => ?_) AllReadyH.nil
            go_simp
            have hblg : bG ≠ W3x.heap.size := by have := sz3.out; omega
            have hcc := (show W5x.cell? ⟨bG, 0, none⟩ = some (.int .i64 vars) ∧ W5x.cell? ⟨bG, 1, none⟩ = some (.slice (some ⟨g5, 0, none⟩) (F.length + 1) cap5) from ⟨(k5.out.cell (p := ⟨bG, 0, none⟩) hgl6).trans hg0, (k5.out.cell (p := ⟨bG, 1, none⟩) hgl6).trans hg1⟩)
            refine hK.out _ _ ⟨(cell_setO _ _ _ _ hblg).trans hcc.1, (cell_setO _ _ _ _ hblg).trans hcc.2⟩ (fun hH9 => ?_)
            clear hK KK hcc
            refine wpAnyH_take (i := 13) (v := ?_) rfl (by kernel_rfl) (by kernel_rfl) (by kernel_rfl) (fun _ _ _ h => h) (Or.inl ⟨by rfl, ?_⟩) (by assumption) ?_
            rotate_left
            · intro w hSw
              (try dsimp only at hSw)
              go_simp
              try with_reducible rfl
            simp only [Act.put, List.setIfInBounds_toArray, List.set_cons_zero, List.set_cons_succ, List.getElem_toArray, List.getElem_cons_zero, List.getElem_cons_succ]
            refine wpAnyH_take (i := 14) (v := ?_) rfl (by kernel_rfl) (by kernel_rfl) (by kernel_rfl) (fun _ _ _ h => h) (Or.inl ⟨by rfl, ?_⟩) (by assumption) ?_
            rotate_left
            · intro w hSw
              (try dsimp only at hSw)
              go_simp
              try with_reducible rfl
            simp only [Act.put, List.setIfInBounds_toArray, List.set_cons_zero, List.set_cons_succ, List.getElem_toArray, List.getElem_cons_zero, List.getElem_cons_succ]
            refine wpAnyH_done (by kernel_rfl) ?_ _
            go_wp2_with fail
            go_meet
            exact ⟨W3x.heap.size, lp2, ln2, lc2, still, rfl, rfl, rfl, more_end HK6.out HK16.out HBG.out k5.out sz3.out al5.out fo5.out lo.out⟩
        · refine AllReadyH.cons rfl (fun KK hK => ?_) AllReadyH.nil
          go_simp
          have ks := Keep.alloc W2x (.cells #[.slice none 0 0] 26)
          refine hK.out _ _ ⟨((k2.out.trans ks).cell (p := ⟨bG, 0, none⟩) hgl6).trans hg0, ((k2.out.trans ks).cell (p := ⟨bG, 1, none⟩) hgl6).trans hg1⟩ (fun hH => ?_)
          clear hK KK ks hH
          refine at_any (fun W' => Keep W2x W' ∧ VarAt W2x.heap.size 26 (.slice none 0 0) W') ⟨Keep.alloc _ _, VarAt.new _ _ _⟩ ?_
          rintro W3x ⟨kk, vn⟩
          have k3 := hid (k2.out.trans kk)
          have cl3 := hid (show IntsOwn W6.heap.size (.slice vp A.length vc) A W3x from owns_keep cl2.out kk)
          have bu3 := hid (bu2.out.keep kk bu2.out.facts.2.2)
          have sz3 := hid (Nat.le_trans sz2.out kk.size)
          have al3 := hid vn
          have ne3 := hid (show (Value.slice vp A.length vc).ownBlock ≠ some W2x.heap.size from fun e => by have h1 := (owns_in cl2.out e).2; omega)
          have hHeld := (show W3x.cell? ⟨bG, 0, none⟩ = some (.int .i64 vars) ∧ W3x.cell? ⟨bG, 1, none⟩ = some (.slice (some ⟨g5, 0, none⟩) (F.length + 1) cap5) from ⟨(k3.out.cell (p := ⟨bG, 0, none⟩) hgl6).trans hg0, (k3.out.cell (p := ⟨bG, 1, none⟩) hgl6).trans hg1⟩)
          clear kk vn
          refine wpAnyH_ready (rs := [5]) (by kernel_rfl) (by simp) ?_
          refine AllReadyH.cons rfl (fun KK hK => ?_) AllReadyH.nil
          refine step_append_own rfl _ _ 26 rfl W6.heap.size 3 i0 (.int .i64 0) 1 8 Try.underlying26 hi hz0 hz1 hz2 rfl (by decide) (.slice vp A.length vc) A.length (A.map (Value.int .i64)) rfl cl3.out ⟨W1x.heap.size, 0, none⟩ 1 1 [.int .i64 y] rfl rfl (one_at bu3.out) one_cellI (by unfold maxLen; omega) (by omega) sz3.out ?_
          intro v5 W4x h1 h2 h4
          obtain ⟨g7, cap7, rfl⟩ := owns_shape h1 (Nat.succ_pos _)
          have k4 := hid (show Keep W6 W4x from Below.grown k3.out h2 sz3.out (fun g hg => (owns_in cl3.out hg).1))
          have ap4 := hid (show IntsOwn W6.heap.size (.slice (some ⟨g7, 0, none⟩) (A.length + 1) cap7) (A ++ [y]) W4x by unfold IntsOwn; rw [List.length_append, List.map_append]; exact h1)
          have al4 := hid (show VarAt W2x.heap.size 26 (.slice none 0 0) W4x by have h3 := al3.out; have h5 := h3.facts.2.2; unfold VarAt at *; rw [h2.block _ h5 (fun e => ne3.out e.symm)]; exact h3)
          have sz4 := hid (Nat.le_trans sz3.out h2.size)
          refine hK.out _ _ ⟨(k4.out.cell (p := ⟨bG, 0, none⟩) hgl6).trans hg0, (k4.out.cell (p := ⟨bG, 1, none⟩) hgl6).trans hg1⟩ (fun hH => ?_)
          clear hK KK h1 h2 h4
          simp only [Act.put, List.setIfInBounds_toArray, List.set_cons_zero, List.set_cons_succ, List.getElem_toArray, List.getElem_cons_zero, List.getElem_cons_succ]
          refine wpAnyH_ready (rs := [6]) (by kernel_rfl) (by simp) ?_
          refine AllReadyH.cons rfl (fun KK hK => ?_) AllReadyH.nil
          go_simp
          refine (fol_more (HF6.out.keep' k4.out) HNF.out (IntsOwn.nums (zs := A ++ [y]) (S := fun b => b < W4x.heap.size) ap4.out (fun g hg => (owns_in ap4.out hg).2) hA1) HNA.out).mono ?_
          rintro e W5x hd
          obtain ⟨lp2, ln2, lc2, still, rfl, kk, hfol2⟩ := hd.parts
          have k5 := hid (k4.out.trans kk)
          have ap5 := hid (show IntsOwn W6.heap.size (.slice (some ⟨g7, 0, none⟩) (A.length + 1) cap7) (A ++ [y]) W5x from owns_keep ap4.out kk)
          have al5 := hid (al4.out.keep kk al4.out.facts.2.2)
          have sz5 := hid (Nat.le_trans sz4.out kk.size)
          have fo5 := hid (show MoreRes vars (F ++ [c]) (A ++ [y]) still lp2 ln2 lc2 W4x.heap.size W5x.heap.size W5x from ⟨Nat.le_refl _, hfol2⟩)
          have lo := hid (show W2x.heap.size < W4x.heap.size ∨ W5x.heap.size ≤ W2x.heap.size from Or.inl al4.out.facts.2.2)
          refine hK.out _ _ ⟨(k5.out.cell (p := ⟨bG, 0, none⟩) hgl6).trans hg0, (k5.out.cell (p := ⟨bG, 1, none⟩) hgl6).trans hg1⟩ (fun hH => ?_)
          clear hK KK hd hfol2 kk
          refine wpAnyH_take (i := 7) (v := ?_) rfl (by kernel_rfl) (by kernel_rfl) (by kernel_rfl) (fun _ _ _ h => h) (Or.inl ⟨by rfl, ?_⟩) (by assumption) ?_
          rotate_left
          · intro w hSw
            (try dsimp only at hSw)
            go_simp
            try with_reducible rfl
          simp only [Act.put, List.setIfInBounds_toArray, List.set_cons_zero, List.set_cons_succ, List.getElem_toArray, List.getElem_cons_zero, List.getElem_cons_succ]
          refine wpAnyH_take (i := 8) (v := ?_) rfl (by kernel_rfl) (by kernel_rfl) (by kernel_rfl) (fun _ _ _ h => h) (Or.inl ⟨by rfl, ?_⟩) (by assumption) ?_
          rotate_left
          · intro w hSw
            (try dsimp only at hSw)
            go_simp
            try with_reducible rfl
          simp only [Act.put, List.setIfInBounds_toArray, List.set_cons_zero, List.set_cons_succ, List.getElem_toArray, List.getElem_cons_zero, List.getElem_cons_succ]
          refine wpAnyH_take (i := 9) (v := ?_) rfl (by kernel_rfl) (by kernel_rfl) (by kernel_rfl) (fun _ _ _ h => h) (Or.inl ⟨by rfl, ?_⟩) (by assumption) ?_
          rotate_left
          · intro w hSw
            (try dsimp only at hSw)
            go_simp
            try with_reducible rfl
          simp only [Act.put, List.setIfInBounds_toArray, List.set_cons_zero, List.set_cons_succ, List.getElem_toArray, List.getElem_cons_zero, List.getElem_cons_succ]
          refine wpAnyH_take (i := 10) (v := ?_) rfl (by kernel_rfl) (by kernel_rfl) (by kernel_rfl) (fun _ _ _ h => h) (Or.inl ⟨by rfl, ?_⟩) (by assumption) ?_
          rotate_left
          · intro w hSw
            (try dsimp only at hSw)
            go_simp
            try with_reducible rfl
          simp only [Act.put, List.setIfInBounds_toArray, List.set_cons_zero, List.set_cons_succ, List.getElem_toArray, List.getElem_cons_zero, List.getElem_cons_succ]
          obtain ⟨hlc, hlf, hll⟩ := al5.out.facts
          refine wpAnyH_ready (rs := [12]) (by kernel_rfl) (by simp) ?_
          refine AllReadyH.cons rfl (fun KK hK => ?_) AllReadyH.nil
          go_simp
          have hblg : bG ≠ W2x.heap.size := by have := sz2.out; omega
          have hcc := (show W5x.cell? ⟨bG, 0, none⟩ = some (.int .i64 vars) ∧ W5x.cell? ⟨bG, 1, none⟩ = some (.slice (some ⟨g5, 0, none⟩) (F.length + 1) cap5) from ⟨(k5.out.cell (p := ⟨bG, 0, none⟩) hgl6).trans hg0, (k5.out.cell (p := ⟨bG, 1, none⟩) hgl6).trans hg1⟩)
          refine hK.out _ _ ⟨(cell_setO _ _ _ _ hblg).trans hcc.1, (cell_setO _ _ _ _ hblg).trans hcc.2⟩ (fun hH9 => ?_)
          clear hK KK hcc
          refine wpAnyH_take (i := 13) (v := ?_) rfl (by kernel_rfl) (by kernel_rfl) (by kernel_rfl) (fun _ _ _ h => h) (Or.inl ⟨by rfl, ?_⟩) (by assumption) ?_
          rotate_left
          · intro w hSw
            (try dsimp only at hSw)
            go_simp
            try with_reducible rfl
          simp only [Act.put, List.setIfInBounds_toArray, List.set_cons_zero, List.set_cons_succ, List.getElem_toArray, List.getElem_cons_zero, List.getElem_cons_succ]
          refine wpAnyH_take (i := 14) (v := ?_) rfl (by kernel_rfl) (by kernel_rfl) (by kernel_rfl) (fun _ _ _ h => h) (Or.inl ⟨by rfl, ?_⟩) (by assumption) ?_
          rotate_left
          · intro w hSw
            (try dsimp only at hSw)
            go_simp
            try with_reducible rfl
          simp only [Act.put, List.setIfInBounds_toArray, List.set_cons_zero, List.set_cons_succ, List.getElem_toArray, List.getElem_cons_zero, List.getElem_cons_succ]
          refine wpAnyH_done (by kernel_rfl) ?_ _
          go_wp2_with fail
          go_meet
          exact ⟨W2x.heap.size, lp2, ln2, lc2, still, rfl, rfl, rfl, more_end HK6.out HK16.out HBG.out k5.out sz2.out al5.out fo5.out lo.out⟩
      · refine AllReadyH.cons rfl (fun KK hK => ?_) AllReadyH.nil
        go_simp
        have ks := Keep.alloc W1x (.cells #[.slice none 0 0] 26)
        refine hK.out _ _ ⟨((k1.out.trans ks).cell (p := ⟨bG, 0, none⟩) hgl6).trans hg0, ((k1.out.trans ks).cell (p := ⟨bG, 1, none⟩) hgl6).trans hg1⟩ (fun hH => ?_)
        clear hK KK ks hH
        refine at_any (fun W' => Keep W1x W' ∧ VarAt W1x.heap.size 26 (.slice none 0 0) W') ⟨Keep.alloc _ _, VarAt.new _ _ _⟩ ?_
        rintro W2x ⟨kk, vn⟩
        have k2 := hid (k1.out.trans kk)
        have cl2 := hid (show IntsOwn W6.heap.size (.slice vp A.length vc) A W2x from owns_keep cl1.out kk)
        have sz2 := hid (Nat.le_trans sz1.out kk.size)
        have al2 := hid vn
        have ne2 := hid (show (Value.slice vp A.length vc).ownBlock ≠ some W1x.heap.size from fun e => by have h1 := (owns_in cl1.out e).2; omega)
        have hHeld := (show W2x.cell? ⟨bG, 0, none⟩ = some (.int .i64 vars) ∧ W2x.cell? ⟨bG, 1, none⟩ = some (.slice (some ⟨g5, 0, none⟩) (F.length + 1) cap5) from ⟨(k2.out.cell (p := ⟨bG, 0, none⟩) hgl6).trans hg0, (k2.out.cell (p := ⟨bG, 1, none⟩) hgl6).trans hg1⟩)
        clear kk vn
        refine wpAnyH_ready (rs := [4]) (by kernel_rfl) (by simp) ?_
        refine AllReadyH.cons rfl (fun KK hK => ?_) AllReadyH.nil
        go_simp
        have ks := Keep.alloc W2x (.cells #[.int .i64 y] 3)
        refine hK.out _ _ ⟨((k2.out.trans ks).cell (p := ⟨bG, 0, none⟩) hgl6).trans hg0, ((k2.out.trans ks).cell (p := ⟨bG, 1, none⟩) hgl6).trans hg1⟩ (fun hH => ?_)
        clear hK KK ks hH
        refine at_any (fun W' => Keep W2x W' ∧ VarAt W2x.heap.size 3 (.int .i64 y) W') ⟨Keep.alloc _ _, VarAt.new _ _ _⟩ ?_
        rintro W3x ⟨kk, vn⟩
        have k3 := hid (k2.out.trans kk)
        have cl3 := hid (show IntsOwn W6.heap.size (.slice vp A.length vc) A W3x from owns_keep cl2.out kk)
        have al3 := hid (al2.out.keep kk al2.out.facts.2.2)
        have ne3 := ne2
        have sz3 := hid (Nat.le_trans sz2.out kk.size)
        have bu3 := hid vn
        have hHeld := (show W3x.cell? ⟨bG, 0, none⟩ = some (.int .i64 vars) ∧ W3x.cell? ⟨bG, 1, none⟩ = some (.slice (some ⟨g5, 0, none⟩) (F.length + 1) cap5) from ⟨(k3.out.cell (p := ⟨bG, 0, none⟩) hgl6).trans hg0, (k3.out.cell (p := ⟨bG, 1, none⟩) hgl6).trans hg1⟩)
        clear kk vn
        refine wpAnyH_ready (rs := [5]) (by kernel_rfl) (by simp) ?_
        refine AllReadyH.cons rfl (fun KK hK => ?_) AllReadyH.nil
        refine step_append_own rfl _ _ 26 rfl W6.heap.size 3 i0 (.int .i64 0) 1 8 Try.underlying26 hi hz0 hz1 hz2 rfl (by decide) (.slice vp A.length vc) A.length (A.map (Value.int .i64)) rfl cl3.out ⟨W2x.heap.size, 0, none⟩ 1 1 [.int .i64 y] rfl rfl (one_at bu3.out) one_cellI (by unfold maxLen; omega) (by omega) sz3.out ?_
        intro v5 W4x h1 h2 h4
        obtain ⟨g7, cap7, rfl⟩ := owns_shape h1 (Nat.succ_pos _)
        have k4 := hid (show Keep W6 W4x from Below.grown k3.out h2 sz3.out (fun g hg => (owns_in cl3.out hg).1))
        have ap4 := hid (show IntsOwn W6.heap.size (.slice (some ⟨g7, 0, none⟩) (A.length + 1) cap7) (A ++ [y]) W4x by unfold IntsOwn; rw [List.length_append, List.map_append]; exact h1)
        have al4 := hid (show VarAt W1x.heap.size 26 (.slice none 0 0) W4x by have h3 := al3.out; have h5 := h3.facts.2.2; unfold VarAt at *; rw [h2.block _ h5 (fun e => ne3.out e.symm)]; exact h3)
        have sz4 := hid (Nat.le_trans sz3.out h2.size)
        refine hK.out _ _ ⟨(k4.out.cell (p := ⟨bG, 0, none⟩) hgl6).trans hg0, (k4.out.cell (p := ⟨bG, 1, none⟩) hgl6).trans hg1⟩ (fun hH => ?_)
        clear hK KK h1 h2 h4
        simp only [Act.put, List.setIfInBounds_toArray, List.set_cons_zero, List.set_cons_succ, List.getElem_toArray, List.getElem_cons_zero, List.getElem_cons_succ]
        refine wpAnyH_ready (rs := [6]) (by kernel_rfl) (by simp) ?_
        refine AllReadyH.cons rfl (fun KK hK => ?_) AllReadyH.nil
        go_simp
        refine (fol_more (HF6.out.keep' k4.out) HNF.out (IntsOwn.nums (zs := A ++ [y]) (S := fun b => b < W4x.heap.size) ap4.out (fun g hg => (owns_in ap4.out hg).2) hA1) HNA.out).mono ?_
        rintro e W5x hd
        obtain ⟨lp2, ln2, lc2, still, rfl, kk, hfol2⟩ := hd.parts
        have k5 := hid (k4.out.trans kk)
        have ap5 := hid (show IntsOwn W6.heap.size (.slice (some ⟨g7, 0, none⟩) (A.length + 1) cap7) (A ++ [y]) W5x from owns_keep ap4.out kk)
        have al5 := hid (al4.out.keep kk al4.out.facts.2.2)
        have sz5 := hid (Nat.le_trans sz4.out kk.size)
        have fo5 := hid (show MoreRes vars (F ++ [c]) (A ++ [y]) still lp2 ln2 lc2 W4x.heap.size W5x.heap.size W5x from ⟨Nat.le_refl _, hfol2⟩)
        have lo := hid (show W1x.heap.size < W4x.heap.size ∨ W5x.heap.size ≤ W1x.heap.size from Or.inl al4.out.facts.2.2)
        refine hK.out _ _ ⟨(k5.out.cell (p := ⟨bG, 0, none⟩) hgl6).trans hg0, (k5.out.cell (p := ⟨bG, 1, none⟩) hgl6).trans hg1⟩ (fun hH => ?_)
        clear hK KK hd hfol2 kk
        refine wpAnyH_take (i := 7) (v := ?_) rfl (by kernel_rfl) (by kernel_rfl) (by kernel_rfl) (fun _ _ _ h => h) (Or.inl ⟨by rfl, ?_⟩) (by assumption) ?_
        rotate_left
        · intro w hSw
          (try dsimp only at hSw)
          go_simp
          try with_reducible rfl
        simp only [Act.put, List.setIfInBounds_toArray, List.set_cons_zero, List.set_cons_succ, List.getElem_toArray, List.getElem_cons_zero, List.getElem_cons_succ]
        refine wpAnyH_take (i := 8) (v := ?_) rfl (by kernel_rfl) (by kernel_rfl) (by kernel_rfl) (fun _ _ _ h => h) (Or.inl ⟨by rfl, ?_⟩) (by assumption) ?_
        rotate_left
        · intro w hSw
          (try dsimp only at hSw)
          go_simp
          try with_reducible rfl
        simp only [Act.put, List.setIfInBounds_toArray, List.set_cons_zero, List.set_cons_succ, List.getElem_toArray, List.getElem_cons_zero, List.getElem_cons_succ]
        refine wpAnyH_take (i := 9) (v := ?_) rfl (by kernel_rfl) (by kernel_rfl) (by kernel_rfl) (fun _ _ _ h => h) (Or.inl ⟨by rfl, ?_⟩) (by assumption) ?_
        rotate_left
        · intro w hSw
          (try dsimp only at hSw)
          go_simp
          try with_reducible rfl
        simp only [Act.put, List.setIfInBounds_toArray, List.set_cons_zero, List.set_cons_succ, List.getElem_toArray, List.getElem_cons_zero, List.getElem_cons_succ]
        refine wpAnyH_take (i := 10) (v := ?_) rfl (by kernel_rfl) (by kernel_rfl) (by kernel_rfl) (fun _ _ _ h => h) (Or.inl ⟨by rfl, ?_⟩) (by assumption) ?_
        rotate_left
        · intro w hSw
          (try dsimp only at hSw)
          go_simp
          try with_reducible rfl
        simp only [Act.put, List.setIfInBounds_toArray, List.set_cons_zero, List.set_cons_succ, List.getElem_toArray, List.getElem_cons_zero, List.getElem_cons_succ]
        obtain ⟨hlc, hlf, hll⟩ := al5.out.facts
        refine wpAnyH_ready (rs := [12]) (by kernel_rfl) (by simp) ?_
        refine AllReadyH.cons rfl (fun KK hK => ?_) AllReadyH.nil
        go_simp
        have hblg : bG ≠ W1x.heap.size := by have := sz1.out; omega
        have hcc := (show W5x.cell? ⟨bG, 0, none⟩ = some (.int .i64 vars) ∧ W5x.cell? ⟨bG, 1, none⟩ = some (.slice (some ⟨g5, 0, none⟩) (F.length + 1) cap5) from ⟨(k5.out.cell (p := ⟨bG, 0, none⟩) hgl6).trans hg0, (k5.out.cell (p := ⟨bG, 1, none⟩) hgl6).trans hg1⟩)
        refine hK.out _ _ ⟨(cell_setO _ _ _ _ hblg).trans hcc.1, (cell_setO _ _ _ _ hblg).trans hcc.2⟩ (fun hH9 => ?_)
        clear hK KK hcc
        refine wpAnyH_take (i := 13) (v := ?_) rfl (by kernel_rfl) (by kernel_rfl) (by kernel_rfl) (fun _ _ _ h => h) (Or.inl ⟨by rfl, ?_⟩) (by assumption) ?_
        rotate_left
        · intro w hSw
          (try dsimp only at hSw)
          go_simp
          try with_reducible rfl
        simp only [Act.put, List.setIfInBounds_toArray, List.set_cons_zero, List.set_cons_succ, List.getElem_toArray, List.getElem_cons_zero, List.getElem_cons_succ]
        refine wpAnyH_take (i := 14) (v := ?_) rfl (by kernel_rfl) (by kernel_rfl) (by kernel_rfl) (fun _ _ _ h => h) (Or.inl ⟨by rfl, ?_⟩) (by assumption) ?_
        rotate_left
        · intro w hSw
          (try dsimp only at hSw)
          go_simp
          try with_reducible rfl
        simp only [Act.put, List.setIfInBounds_toArray, List.set_cons_zero, List.set_cons_succ, List.getElem_toArray, List.getElem_cons_zero, List.getElem_cons_succ]
        refine wpAnyH_done (by kernel_rfl) ?_ _
        go_wp2_with fail
        go_meet
        exact ⟨W1x.heap.size, lp2, ln2, lc2, still, rfl, rfl, rfl, more_end HK6.out HK16.out HBG.out k5.out sz1.out al5.out fo5.out lo.out⟩
    · refine AllReadyH.cons rfl (fun KK hK => ?_) ?_
      · go_simp
        have ks := Keep.alloc W0x (.cells #[.int .i64 y] 3)
        refine hK.out _ _ ⟨((k0.out.trans ks).cell (p := ⟨bG, 0, none⟩) hgl6).trans hg0, ((k0.out.trans ks).cell (p := ⟨bG, 1, none⟩) hgl6).trans hg1⟩ (fun hH => ?_)
        clear hK KK ks hH
        refine at_any (fun W' => Keep W0x W' ∧ VarAt W0x.heap.size 3 (.int .i64 y) W') ⟨Keep.alloc _ _, VarAt.new _ _ _⟩ ?_
        rintro W1x ⟨kk, vn⟩
        have k1 := hid (k0.out.trans kk)
        have sz1 := hid (Nat.le_trans sz0.out kk.size)
        have bu1 := hid vn
        have hHeld := (show W1x.cell? ⟨bG, 0, none⟩ = some (.int .i64 vars) ∧ W1x.cell? ⟨bG, 1, none⟩ = some (.slice (some ⟨g5, 0, none⟩) (F.length + 1) cap5) from ⟨(k1.out.cell (p := ⟨bG, 0, none⟩) hgl6).trans hg0, (k1.out.cell (p := ⟨bG, 1, none⟩) hgl6).trans hg1⟩)
        clear kk vn
        refine wpAnyH_ready (rs := [2, 11]) (by kernel_rfl) (by simp) ?_
        refine AllReadyH.cons rfl (fun KK hK => ?_) ?_
        · go_simp
          refine (cloneI_any S A ap ac W1x (fun b hb => Nat.lt_of_lt_of_le (hS b hb) (Nat.le_trans HK6.out.size sz1.out)) (HA.out.keep hS (HK6.out.trans k1.out)) (by omega)).mono ?_
          rintro e W2x ⟨v, rfl, own, kk⟩
          obtain ⟨vp, vc, hvs⟩ := own.ints.len
          subst hvs
          have k2 := hid (k1.out.trans kk)
          have bu2 := hid (bu1.out.keep kk bu1.out.facts.2.2)
          have sz2 := hid (Nat.le_trans sz1.out kk.size)
          have cl2 := hid (show IntsOwn W6.heap.size (.slice vp A.length vc) A W2x from owns_weaken sz1.out own)
          refine hK.out _ _ ⟨(k2.out.cell (p := ⟨bG, 0, none⟩) hgl6).trans hg0, (k2.out.cell (p := ⟨bG, 1, none⟩) hgl6).trans hg1⟩ (fun hH => ?_)
          clear hK KK own kk
          refine wpAnyH_ready (rs := [5, 11]) (by kernel_rfl) (by simp) ?_
          refine AllReadyH.cons rfl (fun KK hK => ?_) ?_
          · refine step_append_own rfl _ _ 26 rfl W6.heap.size 3 i0 (.int .i64 0) 1 8 Try.underlying26 hi hz0 hz1 hz2 rfl (by decide) (.slice vp A.length vc) A.length (A.map (Value.int .i64)) rfl cl2.out ⟨W0x.heap.size, 0, none⟩ 1 1 [.int .i64 y] rfl rfl (one_at bu2.out) one_cellI (by unfold maxLen; omega) (by omega) sz2.out ?_
            intro v5 W3x h1 h2 h4
            obtain ⟨g7, cap7, rfl⟩ := owns_shape h1 (Nat.succ_pos _)
            have k3 := hid (show Keep W6 W3x from Below.grown k2.out h2 sz2.out (fun g hg => (owns_in cl2.out hg).1))
            have ap3 := hid (show IntsOwn W6.heap.size (.slice (some ⟨g7, 0, none⟩) (A.length + 1) cap7) (A ++ [y]) W3x by unfold IntsOwn; rw [List.length_append, List.map_append]; exact h1)
            have sz3 := hid (Nat.le_trans sz2.out h2.size)
            refine hK.out _ _ ⟨(k3.out.cell (p := ⟨bG, 0, none⟩) hgl6).trans hg0, (k3.out.cell (p := ⟨bG, 1, none⟩) hgl6).trans hg1⟩ (fun hH => ?_)
            clear hK KK h1 h2 h4
            simp only [Act.put, List.setIfInBounds_toArray, List.set_cons_zero, List.set_cons_succ, List.getElem_toArray, List.getElem_cons_zero, List.getElem_cons_succ]
            refine wpAnyH_ready (rs := [6, 11]) (by kernel_rfl) (by simp) ?_
            refine AllReadyH.cons rfl (fun KK hK => ?_) ?_
            · go_simp
              refine (fol_more (HF6.out.keep' k3.out) HNF.out (IntsOwn.nums (zs := A ++ [y]) (S := fun b => b < W3x.heap.size) ap3.out (fun g hg => (owns_in ap3.out hg).2) hA1) HNA.out).mono ?_
              rintro e W4x hd
              obtain ⟨lp2, ln2, lc2, still, rfl, kk, hfol2⟩ := hd.parts
              have k4 := hid (k3.out.trans kk)
              have ap4 := hid (show IntsOwn W6.heap.size (.slice (some ⟨g7, 0, none⟩) (A.length + 1) cap7) (A ++ [y]) W4x from owns_keep ap3.out kk)
              have sz4 := hid (Nat.le_trans sz3.out kk.size)
              have fo4 := hid (show MoreRes vars (F ++ [c]) (A ++ [y]) still lp2 ln2 lc2 W3x.heap.size W4x.heap.size W4x from ⟨Nat.le_refl _, hfol2⟩)
              refine hK.out _ _ ⟨(k4.out.cell (p := ⟨bG, 0, none⟩) hgl6).trans hg0, (k4.out.cell (p := ⟨bG, 1, none⟩) hgl6).trans hg1⟩ (fun hH => ?_)
              clear hK KK hd hfol2 kk
              refine wpAnyH_take (i := 7) (v := ?_) rfl (by kernel_rfl) (by kernel_rfl) (by kernel_rfl) (fun _ _ _ h => h) (Or.inl ⟨by rfl, ?_⟩) (by assumption) ?_
              rotate_left
              · intro w hSw
                (try dsimp only at hSw)
                go_simp
                try with_reducible rfl
              simp only [Act.put, List.setIfInBounds_toArray, List.set_cons_zero, List.set_cons_succ, List.getElem_toArray, List.getElem_cons_zero, List.getElem_cons_succ]
              refine wpAnyH_take (i := 8) (v := ?_) rfl (by kernel_rfl) (by kernel_rfl) (by kernel_rfl) (fun _ _ _ h => h) (Or.inl ⟨by rfl, ?_⟩) (by assumption) ?_
              rotate_left
              · intro w hSw
                (try dsimp only at hSw)
                go_simp
                try with_reducible rfl
              simp only [Act.put, List.setIfInBounds_toArray, List.set_cons_zero, List.set_cons_succ, List.getElem_toArray, List.getElem_cons_zero, List.getElem_cons_succ]
              refine wpAnyH_take (i := 9) (v := ?_) rfl (by kernel_rfl) (by kernel_rfl) (by kernel_rfl) (fun _ _ _ h => h) (Or.inl ⟨by rfl, ?_⟩) (by assumption) ?_
              rotate_left
              · intro w hSw
                (try dsimp only at hSw)
                go_simp
                try with_reducible rfl
              simp only [Act.put, List.setIfInBounds_toArray, List.set_cons_zero, List.set_cons_succ, List.getElem_toArray, List.getElem_cons_zero, List.getElem_cons_succ]
              refine wpAnyH_take (i := 10) (v := ?_) rfl (by kernel_rfl) (by kernel_rfl) (by kernel_rfl) (fun _ _ _ h => h) (Or.inl ⟨by rfl, ?_⟩) (by assumption) ?_
              rotate_left
              · intro w hSw
                (try dsimp only at hSw)
                go_simp
                try with_reducible rfl
              simp only [Act.put, List.setIfInBounds_toArray, List.set_cons_zero, List.set_cons_succ, List.getElem_toArray, List.getElem_cons_zero, List.getElem_cons_succ]
              refine wpAnyH_ready (rs := [11]) (by kernel_rfl) (by simp) ?_
              refine AllReadyH.cons rfl (fun KK hK => ?_) AllReadyH.nil
              go_simp
              have ks := Keep.alloc W4x (.cells #[.slice none 0 0] 26)
              refine hK.out _ _ ⟨((k4.out.trans ks).cell (p := ⟨bG, 0, none⟩) hgl6).trans hg0, ((k4.out.trans ks).cell (p := ⟨bG, 1, none⟩) hgl6).trans hg1⟩ (fun hH => ?_)
              clear hK KK ks hH
              refine at_any (fun W' => Keep W4x W' ∧ VarAt W4x.heap.size 26 (.slice none 0 0) W') ⟨Keep.alloc _ _, VarAt.new _ _ _⟩ ?_
              rintro W5x ⟨kk, vn⟩
              have k5 := hid (k4.out.trans kk)
              have ap5 := hid (show IntsOwn W6.heap.size (.slice (some ⟨g7, 0, none⟩) (A.length + 1) cap7) (A ++ [y]) W5x from owns_keep ap4.out kk)
              have fo5 := hid (fo4.out.step kk)
              have sz5 := hid (Nat.le_trans sz4.out kk.size)
              have al5 := hid vn
              have lo := hid (show W4x.heap.size < W3x.heap.size ∨ W4x.heap.size ≤ W4x.heap.size from Or.inr fo4.out.sz)
              have hHeld := (show W5x.cell? ⟨bG, 0, none⟩ = some (.int .i64 vars) ∧ W5x.cell? ⟨bG, 1, none⟩ = some (.slice (some ⟨g5, 0, none⟩) (F.length + 1) cap5) from ⟨(k5.out.cell (p := ⟨bG, 0, none⟩) hgl6).trans hg0, (k5.out.cell (p := ⟨bG, 1, none⟩) hgl6).trans hg1⟩)
              clear kk vn
              obtain ⟨hlc, hlf, hll⟩ := al5.out.facts
              refine wpAnyH_ready (rs := [12]) (by kernel_rfl) (by simp) ?_
              refine AllReadyH.cons rfl (fun KK hK => ?_) AllReadyH.nil
              go_simp
              have hblg : bG ≠ W4x.heap.size := by have := sz4.out; omega
              have hcc := (show W5x.cell? ⟨bG, 0, none⟩ = some (.int .i64 vars) ∧ W5x.cell? ⟨bG, 1, none⟩ = some (.slice (some ⟨g5, 0, none⟩) (F.length + 1) cap5) from ⟨(k5.out.cell (p := ⟨bG, 0, none⟩) hgl6).trans hg0, (k5.out.cell (p := ⟨bG, 1, none⟩) hgl6).trans hg1⟩)
              refine hK.out _ _ ⟨(cell_setO _ _ _ _ hblg).trans hcc.1, (cell_setO _ _ _ _ hblg).trans hcc.2⟩ (fun hH9 => ?_)
              clear hK KK hcc
              refine wpAnyH_take (i := 13) (v := ?_) rfl (by kernel_rfl) (by kernel_rfl) (by kernel_rfl) (fun _ _ _ h => h) (Or.inl ⟨by rfl, ?_⟩) (by assumption) ?_
              rotate_left
              · intro w hSw
                (try dsimp only at hSw)
                go_simp
                try with_reducible rfl
              simp only [Act.put, List.setIfInBounds_toArray, List.set_cons_zero, List.set_cons_succ, List.getElem_toArray, List.getElem_cons_zero, List.getElem_cons_succ]
              refine wpAnyH_take (i := 14) (v := ?_) rfl (by kernel_rfl) (by kernel_rfl) (by kernel_rfl) (fun _ _ _ h => h) (Or.inl ⟨by rfl, ?_⟩) (by assumption) ?_
              rotate_left
              · intro w hSw
                (try dsimp only at hSw)
                go_simp
                try with_reducible rfl
              simp only [Act.put, List.setIfInBounds_toArray, List.set_cons_zero, List.set_cons_succ, List.getElem_toArray, List.getElem_cons_zero, List.getElem_cons_succ]
              refine wpAnyH_done (by kernel_rfl) ?_ _
              go_wp2_with fail
              go_meet
              exact ⟨W4x.heap.size, lp2, ln2, lc2, still, rfl, rfl, rfl, more_end HK6.out HK16.out HBG.out k5.out sz4.out al5.out fo5.out lo.out⟩
            · refine AllReadyH.cons rfl (fun KK hK => ?_) AllReadyH.nil
              go_simp
              have ks := Keep.alloc W3x (.cells #[.slice none 0 0] 26)
              refine hK.out _ _ ⟨((k3.out.trans ks).cell (p := ⟨bG, 0, none⟩) hgl6).trans hg0, ((k3.out.trans ks).cell (p := ⟨bG, 1, none⟩) hgl6).trans hg1⟩ (fun hH => ?_)
              clear hK KK ks hH
              refine at_any (fun W' => Keep W3x W' ∧ VarAt W3x.heap.size 26 (.slice none 0 0) W') ⟨Keep.alloc _ _, VarAt.new _ _ _⟩ ?_
              rintro W4x ⟨kk, vn⟩
              have k4 := hid (k3.out.trans kk)
              have ap4 := hid (show IntsOwn W6.heap.size (.slice (some ⟨g7, 0, none⟩) (A.length + 1) cap7) (A ++ [y]) W4x from owns_keep ap3.out kk)
              have sz4 := hid (Nat.le_trans sz3.out kk.size)
              have al4 := hid vn
              have hHeld := (show W4x.cell? ⟨bG, 0, none⟩ = some (.int .i64 vars) ∧ W4x.cell? ⟨bG, 1, none⟩ = some (.slice (some ⟨g5, 0, none⟩) (F.length + 1) cap5) from ⟨(k4.out.cell (p := ⟨bG, 0, none⟩) hgl6).trans hg0, (k4.out.cell (p := ⟨bG, 1, none⟩) hgl6).trans hg1⟩)
              clear kk vn
              refine wpAnyH_ready (rs := [6]) (by kernel_rfl) (by simp) ?_
              refine AllReadyH.cons rfl (fun KK hK => ?_) AllReadyH.nil
              go_simp
              refine (fol_more (HF6.out.keep' k4.out) HNF.out (IntsOwn.nums (zs := A ++ [y]) (S := fun b => b < W4x.heap.size) ap4.out (fun g hg => (owns_in ap4.out hg).2) hA1) HNA.out).mono ?_
              rintro e W5x hd
              obtain ⟨lp2, ln2, lc2, still, rfl, kk, hfol2⟩ := hd.parts
              have k5 := hid (k4.out.trans kk)
              have ap5 := hid (show IntsOwn W6.heap.size (.slice (some ⟨g7, 0, none⟩) (A.length + 1) cap7) (A ++ [y]) W5x from owns_keep ap4.out kk)
              have al5 := hid (al4.out.keep kk al4.out.facts.2.2)
              have sz5 := hid (Nat.le_trans sz4.out kk.size)
              have fo5 := hid (show MoreRes vars (F ++ [c]) (A ++ [y]) still lp2 ln2 lc2 W4x.heap.size W5x.heap.size W5x from ⟨Nat.le_refl _, hfol2⟩)
              have lo := hid (show W3x.heap.size < W4x.heap.size ∨ W5x.heap.size ≤ W3x.heap.size from Or.inl al4.out.facts.2.2)
              refine hK.out _ _ ⟨(k5.out.cell (p := ⟨bG, 0, none⟩) hgl6).trans hg0, (k5.out.cell (p := ⟨bG, 1, none⟩) hgl6).trans hg1⟩ (fun hH => ?_)
              clear hK KK hd hfol2 kk
              refine wpAnyH_take (i := 7) (v := ?_) rfl (by kernel_rfl) (by kernel_rfl) (by kernel_rfl) (fun _ _ _ h => h) (Or.inl ⟨by rfl, ?_⟩) (by assumption) ?_
              rotate_left
              · intro w hSw
                (try dsimp only at hSw)
                go_simp
                try with_reducible rfl
              simp only [Act.put, List.setIfInBounds_toArray, List.set_cons_zero, List.set_cons_succ, List.getElem_toArray, List.getElem_cons_zero, List.getElem_cons_succ]
              refine wpAnyH_take (i := 8) (v := ?_) rfl (by kernel_rfl) (by kernel_rfl) (by kernel_rfl) (fun _ _ _ h => h) (Or.inl ⟨by rfl, ?_⟩) (by assumption) ?_
              rotate_left
              · intro w hSw
                (try dsimp only at hSw)
                go_simp
                try with_reducible rfl
              simp only [Act.put, List.setIfInBounds_toArray, List.set_cons_zero, List.set_cons_succ, List.getElem_toArray, List.getElem_cons_zero, List.getElem_cons_succ]
              refine wpAnyH_take (i := 9) (v := ?_) rfl (by kernel_rfl) (by kernel_rfl) (by kernel_rfl) (fun _ _ _ h => h) (Or.inl ⟨by rfl, ?_⟩) (by assumption) ?_
              rotate_left
              · intro w hSw
                (try dsimp only at hSw)
                go_simp
                try with_reducible rfl
              simp only [Act.put, List.setIfInBounds_toArray, List.set_cons_zero, List.set_cons_succ, List.getElem_toArray, List.getElem_cons_zero, List.getElem_cons_succ]
              refine wpAnyH_take (i := 10) (v := ?_) rfl (by kernel_rfl) (by kernel_rfl) (by kernel_rfl) (fun _ _ _ h => h) (Or.inl ⟨by rfl, ?_⟩) (by assumption) ?_
              rotate_left
              · intro w hSw
                (try dsimp only at hSw)
                go_simp
                try with_reducible rfl
              simp only [Act.put, List.setIfInBounds_toArray, List.set_cons_zero, List.set_cons_succ, List.getElem_toArray, List.getElem_cons_zero, List.getElem_cons_succ]
              obtain ⟨hlc, hlf, hll⟩ := al5.out.facts
              refine wpAnyH_ready (rs := [12]) (by kernel_rfl) (by simp) ?_
              refine AllReadyH.cons rfl (fun KK hK => ?_) AllReadyH.nil
              go_simp
              have hblg : bG ≠ W3x.heap.size := by have := sz3.out; omega
              have hcc := (show W5x.cell? ⟨bG, 0, none⟩ = some (.int .i64 vars) ∧ W5x.cell? ⟨bG, 1, none⟩ = some (.slice (some ⟨g5, 0, none⟩) (F.length + 1) cap5) from ⟨(k5.out.cell (p := ⟨bG, 0, none⟩) hgl6).trans hg0, (k5.out.cell (p := ⟨bG, 1, none⟩) hgl6).trans hg1⟩)
              refine hK.out _ _ ⟨(cell_setO _ _ _ _ hblg).trans hcc.1, (cell_setO _ _ _ _ hblg).trans hcc.2⟩ (fun hH9 => ?_)
              clear hK KK hcc
              refine wpAnyH_take (i := 13) (v := ?_) rfl (by kernel_rfl) (by kernel_rfl) (by kernel_rfl) (fun _ _ _ h => h) (Or.inl ⟨by rfl, ?_⟩) (by assumption) ?_
              rotate_left
              · intro w hSw
                (try dsimp only at hSw)
                go_simp
                try with_reducible rfl
              simp only [Act.put, List.setIfInBounds_toArray, List.set_cons_zero, List.set_cons_succ, List.getElem_toArray, List.getElem_cons_zero, List.getElem_cons_succ]
              refine wpAnyH_take (i := 14) (v := ?_) rfl (by kernel_rfl) (by kernel_rfl) (by kernel_rfl) (fun _ _ _ h => h) (Or.inl ⟨by rfl, ?_⟩) (by assumption) ?_
              rotate_left
              · intro w hSw
                (try dsimp only at hSw)
                go_simp
                try with_reducible rfl
              simp only [Act.put, List.setIfInBounds_toArray, List.set_cons_zero, List.set_cons_succ, List.getElem_toArray, List.getElem_cons_zero, List.getElem_cons_succ]
              refine wpAnyH_done (by kernel_rfl) ?_ _
              go_wp2_with fail
              go_meet
              exact ⟨W3x.heap.size, lp2, ln2, lc2, still, rfl, rfl, rfl, more_end HK6.out HK16.out HBG.out k5.out sz3.out al5.out fo5.out lo.out⟩
          · refine AllReadyH.cons rfl (fun KK hK => ?_) AllReadyH.nil
            go_simp
            have ks := Keep.alloc W2x (.cells #[.slice none 0 0] 26)
            refine hK.out _ _ ⟨((k2.out.trans ks).cell (p := ⟨bG, 0, none⟩) hgl6).trans hg0, ((k2.out.trans ks).cell (p := ⟨bG, 1, none⟩) hgl6).trans hg1⟩ (fun hH => ?_)
            clear hK KK ks hH
            refine at_any (fun W' => Keep W2x W' ∧ VarAt W2x.heap.size 26 (.slice none 0 0) W') ⟨Keep.alloc _ _, VarAt.new _ _ _⟩ ?_
            rintro W3x ⟨kk, vn⟩
            have k3 := hid (k2.out.trans kk)
            have cl3 := hid (show IntsOwn W6.heap.size (.slice vp A.length vc) A W3x from owns_keep cl2.out kk)
            have bu3 := hid (bu2.out.keep kk bu2.out.facts.2.2)
            have sz3 := hid (Nat.le_trans sz2.out kk.size)
            have al3 := hid vn
            have ne3 := hid (show (Value.slice vp A.length vc).ownBlock ≠ some W2x.heap.size from fun e => by have h1 := (owns_in cl2.out e).2; omega)
            have hHeld := (show W3x.cell? ⟨bG, 0, none⟩ = some (.int .i64 vars) ∧ W3x.cell? ⟨bG, 1, none⟩ = some (.slice (some ⟨g5, 0, none⟩) (F.length + 1) cap5) from ⟨(k3.out.cell (p := ⟨bG, 0, none⟩) hgl6).trans hg0, (k3.out.cell (p := ⟨bG, 1, none⟩) hgl6).trans hg1⟩)
            clear kk vn
            refine wpAnyH_ready (rs := [5]) (by kernel_rfl) (by simp) ?_
            refine AllReadyH.cons rfl (fun KK hK => ?_) AllReadyH.nil
            refine step_append_own rfl _ _ 26 rfl W6.heap.size 3 i0 (.int .i64 0) 1 8 Try.underlying26 hi hz0 hz1 hz2 rfl (by decide) (.slice vp A.length vc) A.length (A.map (Value.int .i64)) rfl cl3.out ⟨W0x.heap.size, 0, none⟩ 1 1 [.int .i64 y] rfl rfl (one_at bu3.out) one_cellI (by unfold maxLen; omega) (by omega) sz3.out ?_
            intro v5 W4x h1 h2 h4
            obtain ⟨g7, cap7, rfl⟩ := owns_shape h1 (Nat.succ_pos _)
            have k4 := hid (show Keep W6 W4x from Below.grown k3.out h2 sz3.out (fun g hg => (owns_in cl3.out hg).1))
            have ap4 := hid (show IntsOwn W6.heap.size (.slice (some ⟨g7, 0, none⟩) (A.length + 1) cap7) (A ++ [y]) W4x by unfold IntsOwn; rw [List.length_append, List.map_append]; exact h1)
            have al4 := hid (show VarAt W2x.heap.size 26 (.slice none 0 0) W4x by have h3 := al3.out; have h5 := h3.facts.2.2; unfold VarAt at *; rw [h2.block _ h5 (fun e => ne3.out e.symm)]; exact h3)
            have sz4 := hid (Nat.le_trans sz3.out h2.size)
            refine hK.out _ _ ⟨(k4.out.cell (p := ⟨bG, 0, none⟩) hgl6).trans hg0, (k4.out.cell (p := ⟨bG, 1, none⟩) hgl6).trans hg1⟩ (fun hH => ?_)
            clear hK KK h1 h2 h4
            simp only [Act.put, List.setIfInBounds_toArray, List.set_cons_zero, List.set_cons_succ, List.getElem_toArray, List.getElem_cons_zero, List.getElem_cons_succ]
            refine wpAnyH_ready (rs := [6]) (by kernel_rfl) (by simp) ?_
            refine AllReadyH.cons rfl (fun KK hK => ?_) AllReadyH.nil
            go_simp
            refine (fol_more (HF6.out.keep' k4.out) HNF.out (IntsOwn.nums (zs := A ++ [y]) (S := fun b => b < W4x.heap.size) ap4.out (fun g hg => (owns_in ap4.out hg).2) hA1) HNA.out).mono ?_
            rintro e W5x hd
            obtain ⟨lp2, ln2, lc2, still, rfl, kk, hfol2⟩ := hd.parts
            have k5 := hid (k4.out.trans kk)
            have ap5 := hid (show IntsOwn W6.heap.size (.slice (some ⟨g7, 0, none⟩) (A.length + 1) cap7) (A ++ [y]) W5x from owns_keep ap4.out kk)
            have al5 := hid (al4.out.keep kk al4.out.facts.2.2)
            have sz5 := hid (Nat.le_trans sz4.out kk.size)
            have fo5 := hid (show MoreRes vars (F ++ [c]) (A ++ [y]) still lp2 ln2 lc2 W4x.heap.size W5x.heap.size W5x from ⟨Nat.le_refl _, hfol2⟩)
            have lo := hid (show W2x.heap.size < W4x.heap.size ∨ W5x.heap.size ≤ W2x.heap.size from Or.inl al4.out.facts.2.2)
            refine hK.out _ _ ⟨(k5.out.cell (p := ⟨bG, 0, none⟩) hgl6).trans hg0, (k5.out.cell (p := ⟨bG, 1, none⟩) hgl6).trans hg1⟩ (fun hH => ?_)
            clear hK KK hd hfol2 kk
            refine wpAnyH_take (i := 7) (v := ?_) rfl (by kernel_rfl) (by kernel_rfl) (by kernel_rfl) (fun _ _ _ h => h) (Or.inl ⟨by rfl, ?_⟩) (by assumption) ?_
            rotate_left
            · intro w hSw
              (try dsimp only at hSw)
              go_simp
              try with_reducible rfl
            simp only [Act.put, List.setIfInBounds_toArray, List.set_cons_zero, List.set_cons_succ, List.getElem_toArray, List.getElem_cons_zero, List.getElem_cons_succ]
            refine wpAnyH_take (i := 8) (v := ?_) rfl (by kernel_rfl) (by kernel_rfl) (by kernel_rfl) (fun _ _ _ h => h) (Or.inl ⟨by rfl, ?_⟩) (by assumption) ?_
            rotate_left
            · intro w hSw
              (try dsimp only at hSw)
              go_simp
              try with_reducible rfl
            simp only [Act.put, List.setIfInBounds_toArray, List.set_cons_zero, List.set_cons_succ, List.getElem_toArray, List.getElem_cons_zero, List.getElem_cons_succ]
            refine wpAnyH_take (i := 9) (v := ?_) rfl (by kernel_rfl) (by kernel_rfl) (by kernel_rfl) (fun _ _ _ h => h) (Or.inl ⟨by rfl, ?_⟩) (by assumption) ?_
            rotate_left
            · intro w hSw
              (try dsimp only at hSw)
              go_simp
              try with_reducible rfl
            simp only [Act.put, List.setIfInBounds_toArray, List.set_cons_zero, List.set_cons_succ, List.getElem_toArray, List.getElem_cons_zero, List.getElem_cons_succ]
            refine wpAnyH_take (i := 10) (v := ?_) rfl (by kernel_rfl) (by kernel_rfl) (by kernel_rfl) (fun _ _ _ h => h) (Or.inl ⟨by rfl, ?_⟩) (by assumption) ?_
            rotate_left
            · intro w hSw
              (try dsimp only at hSw)
              go_simp
              try with_reducible rfl
            simp only [Act.put, List.setIfInBounds_toArray, List.set_cons_zero, List.set_cons_succ, List.getElem_toArray, List.getElem_cons_zero, List.getElem_cons_succ]
            obtain ⟨hlc, hlf, hll⟩ := al5.out.facts
            refine wpAnyH_ready (rs := [12]) (by kernel_rfl) (by simp) ?_
            refine AllReadyH.cons rfl (fun KK hK => ?_) AllReadyH.nil
            go_simp
            have hblg : bG ≠ W2x.heap.size := by have := sz2.out; omega
            have hcc := (show W5x.cell? ⟨bG, 0, none⟩ = some (.int .i64 vars) ∧ W5x.cell? ⟨bG, 1, none⟩ = some (.slice (some ⟨g5, 0, none⟩) (F.length + 1) cap5) from ⟨(k5.out.cell (p := ⟨bG, 0, none⟩) hgl6).trans hg0, (k5.out.cell (p := ⟨bG, 1, none⟩) hgl6).trans hg1⟩)
            refine hK.out _ _ ⟨(cell_setO _ _ _ _ hblg).trans hcc.1, (cell_setO _ _ _ _ hblg).trans hcc.2⟩ (fun hH9 => ?_)
            clear hK KK hcc
            refine wpAnyH_take (i := 13) (v := ?_) rfl (by kernel_rfl) (by kernel_rfl) (by kernel_rfl) (fun _ _ _ h => h) (Or.inl ⟨by rfl, ?_⟩) (by assumption) ?_
            rotate_left
            · intro w hSw
              (try dsimp only at hSw)
              go_simp
              try with_reducible rfl
            simp only [Act.put, List.setIfInBounds_toArray, List.set_cons_zero, List.set_cons_succ, List.getElem_toArray, List.getElem_cons_zero, List.getElem_cons_succ]
            refine wpAnyH_take (i := 14) (v := ?_) rfl (by kernel_rfl) (by kernel_rfl) (by kernel_rfl) (fun _ _ _ h => h) (Or.inl ⟨by rfl, ?_⟩) (by assumption) ?_
            rotate_left
            · intro w hSw
              (try dsimp only at hSw)
              go_simp
              try with_reducible rfl
            simp only [Act.put, List.setIfInBounds_toArray, List.set_cons_zero, List.set_cons_succ, List.getElem_toArray, List.getElem_cons_zero, List.getElem_cons_succ]
            refine wpAnyH_done (by kernel_rfl) ?_ _
            go_wp2_with fail
            go_meet
            exact ⟨W2x.heap.size, lp2, ln2, lc2, still, rfl, rfl, rfl, more_end HK6.out HK16.out HBG.out k5.out sz2.out al5.out fo5.out lo.out⟩
        · refine AllReadyH.cons rfl (fun KK hK => ?_) AllReadyH.nil
          go_simp
          have ks := Keep.alloc W1x (.cells #[.slice none 0 0] 26)
          refine hK.out _ _ ⟨((k1.out.trans ks).cell (p := ⟨bG, 0, none⟩) hgl6).trans hg0, ((k1.out.trans ks).cell (p := ⟨bG, 1, none⟩) hgl6).trans hg1⟩ (fun hH => ?_)
          clear hK KK ks hH
          refine at_any (fun W' => Keep W1x W' ∧ VarAt W1x.heap.size 26 (.slice none 0 0) W') ⟨Keep.alloc _ _, VarAt.new _ _ _⟩ ?_
          rintro W2x ⟨kk, vn⟩
          have k2 := hid (k1.out.trans kk)
          have bu2 := hid (bu1.out.keep kk bu1.out.facts.2.2)
          have sz2 := hid (Nat.le_trans sz1.out kk.size)
          have al2 := hid vn
          have hHeld := (show W2x.cell? ⟨bG, 0, none⟩ = some (.int .i64 vars) ∧ W2x.cell? ⟨bG, 1, none⟩ = some (.slice (some ⟨g5, 0, none⟩) (F.length + 1) cap5) from ⟨(k2.out.cell (p := ⟨bG, 0, none⟩) hgl6).trans hg0, (k2.out.cell (p := ⟨bG, 1, none⟩) hgl6).trans hg1⟩)
          clear kk vn
          refine wpAnyH_ready (rs := [2]) (by kernel_rfl) (by simp) ?_
          refine AllReadyH.cons rfl (fun KK hK => ?_) AllReadyH.nil
          go_simp
          refine (cloneI_any S A ap ac W2x (fun b hb => Nat.lt_of_lt_of_le (hS b hb) (Nat.le_trans HK6.out.size sz2.out)) (HA.out.keep hS (HK6.out.trans k2.out)) (by omega)).mono ?_
          rintro e W3x ⟨v, rfl, own, kk⟩
          obtain ⟨vp, vc, hvs⟩ := own.ints.len
          subst hvs
          have k3 := hid (k2.out.trans kk)
          have bu3 := hid (bu2.out.keep kk bu2.out.facts.2.2)
          have al3 := hid (al2.out.keep kk al2.out.facts.2.2)
          have sz3 := hid (Nat.le_trans sz2.out kk.size)
          have cl3 := hid (show IntsOwn W6.heap.size (.slice vp A.length vc) A W3x from owns_weaken sz2.out own)
          have ne3 := hid (show (Value.slice vp A.length vc).ownBlock ≠ some W1x.heap.size from fun e => by have h1 := (owns_in own e).1; have h2 := al2.out.facts.2.2; omega)
          refine hK.out _ _ ⟨(k3.out.cell (p := ⟨bG, 0, none⟩) hgl6).trans hg0, (k3.out.cell (p := ⟨bG, 1, none⟩) hgl6).trans hg1⟩ (fun hH => ?_)
          clear hK KK own kk
          refine wpAnyH_ready (rs := [5]) (by kernel_rfl) (by simp) ?_
          refine AllReadyH.cons rfl (fun KK hK => ?_) AllReadyH.nil
          refine step_append_own rfl _ _ 26 rfl W6.heap.size 3 i0 (.int .i64 0) 1 8 Try.underlying26 hi hz0 hz1 hz2 rfl (by decide) (.slice vp A.length vc) A.length (A.map (Value.int .i64)) rfl cl3.out ⟨W0x.heap.size, 0, none⟩ 1 1 [.int .i64 y] rfl rfl (one_at bu3.out) one_cellI (by unfold maxLen; omega) (by omega) sz3.out ?_
          intro v5 W4x h1 h2 h4
          obtain ⟨g7, cap7, rfl⟩ := owns_shape h1 (Nat.succ_pos _)
          have k4 := hid (show Keep W6 W4x from Below.grown k3.out h2 sz3.out (fun g hg => (owns_in cl3.out hg).1))
          have ap4 := hid (show IntsOwn W6.heap.size (.slice (some ⟨g7, 0, none⟩) (A.length + 1) cap7) (A ++ [y]) W4x by unfold IntsOwn; rw [List.length_append, List.map_append]; exact h1)
          have al4 := hid (show VarAt W1x.heap.size 26 (.slice none 0 0) W4x by have h3 := al3.out; have h5 := h3.facts.2.2; unfold VarAt at *; rw [h2.block _ h5 (fun e => ne3.out e.symm)]; exact h3)
          have sz4 := hid (Nat.le_trans sz3.out h2.size)
          refine hK.out _ _ ⟨(k4.out.cell (p := ⟨bG, 0, none⟩) hgl6).trans hg0, (k4.out.cell (p := ⟨bG, 1, none⟩) hgl6).trans hg1⟩ (fun hH => ?_)
          clear hK KK h1 h2 h4
          simp only [Act.put, List.setIfInBounds_toArray, List.set_cons_zero, List.set_cons_succ, List.getElem_toArray, List.getElem_cons_zero, List.getElem_cons_succ]
          refine wpAnyH_ready (rs := [6]) (by kernel_rfl) (by simp) ?_
          refine AllReadyH.cons rfl (fun KK hK => ?_) AllReadyH.nil
          go_simp
          refine (fol_more (HF6.out.keep' k4.out) HNF.out (IntsOwn.nums (zs := A ++ [y]) (S := fun b => b < W4x.heap.size) ap4.out (fun g hg => (owns_in ap4.out hg).2) hA1) HNA.out).mono ?_
          rintro e W5x hd
          obtain ⟨lp2, ln2, lc2, still, rfl, kk, hfol2⟩ := hd.parts
          have k5 := hid (k4.out.trans kk)
          have ap5 := hid (show IntsOwn W6.heap.size (.slice (some ⟨g7, 0, none⟩) (A.length + 1) cap7) (A ++ [y]) W5x from owns_keep ap4.out kk)
          have al5 := hid (al4.out.keep kk al4.out.facts.2.2)
          have sz5 := hid (Nat.le_trans sz4.out kk.size)
          have fo5 := hid (show MoreRes vars (F ++ [c]) (A ++ [y]) still lp2 ln2 lc2 W4x.heap.size W5x.heap.size W5x from ⟨Nat.le_refl _, hfol2⟩)
          have lo := hid (show W1x.heap.size < W4x.heap.size ∨ W5x.heap.size ≤ W1x.heap.size from Or.inl al4.out.facts.2.2)
          refine hK.out _ _ ⟨(k5.out.cell (p := ⟨bG, 0, none⟩) hgl6).trans hg0, (k5.out.cell (p := ⟨bG, 1, none⟩) hgl6).trans hg1⟩ (fun hH => ?_)
          clear hK KK hd hfol2 kk
          refine wpAnyH_take (i := 7) (v := ?_) rfl (by kernel_rfl) (by kernel_rfl) (by kernel_rfl) (fun _ _ _ h => h) (Or.inl ⟨by rfl, ?_⟩) (by assumption) ?_
          rotate_left
          · intro w hSw
            (try dsimp only at hSw)
            go_simp
            try with_reducible rfl
          simp only [Act.put, List.setIfInBounds_toArray, List.set_cons_zero, List.set_cons_succ, List.getElem_toArray, List.getElem_cons_zero, List.getElem_cons_succ]
          refine wpAnyH_take (i := 8) (v := ?_) rfl (by kernel_rfl) (by kernel_rfl) (by kernel_rfl) (fun _ _ _ h => h) (Or.inl ⟨by rfl, ?_⟩) (by assumption) ?_
          rotate_left
          · intro w hSw
            (try dsimp only at hSw)
            go_simp
            try with_reducible rfl
          simp only [Act.put, List.setIfInBounds_toArray, List.set_cons_zero, List.set_cons_succ, List.getElem_toArray, List.getElem_cons_zero, List.getElem_cons_succ]
          refine wpAnyH_take (i := 9) (v := ?_) rfl (by kernel_rfl) (by kernel_rfl) (by kernel_rfl) (fun _ _ _ h => h) (Or.inl ⟨by rfl, ?_⟩) (by assumption) ?_
          rotate_left
          · intro w hSw
            (try dsimp only at hSw)
            go_simp
            try with_reducible rfl
          simp only [Act.put, List.setIfInBounds_toArray, List.set_cons_zero, List.set_cons_succ, List.getElem_toArray, List.getElem_cons_zero, List.getElem_cons_succ]
          refine wpAnyH_take (i := 10) (v := ?_) rfl (by kernel_rfl) (by kernel_rfl) (by kernel_rfl) (fun _ _ _ h => h) (Or.inl ⟨by rfl, ?_⟩) (by assumption) ?_
          rotate_left
          · intro w hSw
            (try dsimp only at hSw)
            go_simp
            try with_reducible rfl
          simp only [Act.put, List.setIfInBounds_toArray, List.set_cons_zero, List.set_cons_succ, List.getElem_toArray, List.getElem_cons_zero, List.getElem_cons_succ]
          obtain ⟨hlc, hlf, hll⟩ := al5.out.facts
          refine wpAnyH_ready (rs := [12]) (by kernel_rfl) (by simp) ?_
          refine AllReadyH.cons rfl (fun KK hK => ?_) AllReadyH.nil
          go_simp
          have hblg : bG ≠ W1x.heap.size := by have := sz1.out; omega
          have hcc := (show W5x.cell? ⟨bG, 0, none⟩ = some (.int .i64 vars) ∧ W5x.cell? ⟨bG, 1, none⟩ = some (.slice (some ⟨g5, 0, none⟩) (F.length + 1) cap5) from ⟨(k5.out.cell (p := ⟨bG, 0, none⟩) hgl6).trans hg0, (k5.out.cell (p := ⟨bG, 1, none⟩) hgl6).trans hg1⟩)
          refine hK.out _ _ ⟨(cell_setO _ _ _ _ hblg).trans hcc.1, (cell_setO _ _ _ _ hblg).trans hcc.2⟩ (fun hH9 => ?_)
          clear hK KK hcc
          refine wpAnyH_take (i := 13) (v := ?_) rfl (by kernel_rfl) (by kernel_rfl) (by kernel_rfl) (fun _ _ _ h => h) (Or.inl ⟨by rfl, ?_⟩) (by assumption) ?_
          rotate_left
          · intro w hSw
            (try dsimp only at hSw)
            go_simp
            try with_reducible rfl
          simp only [Act.put, List.setIfInBounds_toArray, List.set_cons_zero, List.set_cons_succ, List.getElem_toArray, List.getElem_cons_zero, List.getElem_cons_succ]
          refine wpAnyH_take (i := 14) (v := ?_) rfl (by kernel_rfl) (by kernel_rfl) (by kernel_rfl) (fun _ _ _ h => h) (Or.inl ⟨by rfl, ?_⟩) (by assumption) ?_
          rotate_left
          · intro w hSw
            (try dsimp only at hSw)
            go_simp
            try with_reducible rfl
          simp only [Act.put, List.setIfInBounds_toArray, List.set_cons_zero, List.set_cons_succ, List.getElem_toArray, List.getElem_cons_zero, List.getElem_cons_succ]
          refine wpAnyH_done (by kernel_rfl) ?_ _
          go_wp2_with fail
          go_meet
          exact ⟨W1x.heap.size, lp2, ln2, lc2, still, rfl, rfl, rfl, more_end HK6.out HK16.out HBG.out k5.out sz1.out al5.out fo5.out lo.out⟩
      · refine AllReadyH.cons rfl (fun KK hK => ?_) AllReadyH.nil
        go_simp
        have ks := Keep.alloc W0x (.cells #[.slice none 0 0] 26)
        refine hK.out _ _ ⟨((k0.out.trans ks).cell (p := ⟨bG, 0, none⟩) hgl6).trans hg0, ((k0.out.trans ks).cell (p := ⟨bG, 1, none⟩) hgl6).trans hg1⟩ (fun hH => ?_)
        clear hK KK ks hH
        refine at_any (fun W' => Keep W0x W' ∧ VarAt W0x.heap.size 26 (.slice none 0 0) W') ⟨Keep.alloc _ _, VarAt.new _ _ _⟩ ?_
        rintro W1x ⟨kk, vn⟩
        have k1 := hid (k0.out.trans kk)
        have sz1 := hid (Nat.le_trans sz0.out kk.size)
        have al1 := hid vn
        have hHeld := (show W1x.cell? ⟨bG, 0, none⟩ = some (.int .i64 vars) ∧ W1x.cell? ⟨bG, 1, none⟩ = some (.slice (some ⟨g5, 0, none⟩) (F.length + 1) cap5) from ⟨(k1.out.cell (p := ⟨bG, 0, none⟩) hgl6).trans hg0, (k1.out.cell (p := ⟨bG, 1, none⟩) hgl6).trans hg1⟩)
        clear kk vn
        refine wpAnyH_ready (rs := [2, 4]) (by kernel_rfl) (by simp) ?_
        refine AllReadyH.cons rfl (fun KK hK => ?_) ?_
        · go_simp
          refine (cloneI_any S A ap ac W1x (fun b hb => Nat.lt_of_lt_of_le (hS b hb) (Nat.le_trans HK6.out.size sz1.out)) (HA.out.keep hS (HK6.out.trans k1.out)) (by omega)).mono ?_
          rintro e W2x ⟨v, rfl, own, kk⟩
          obtain ⟨vp, vc, hvs⟩ := own.ints.len
          subst hvs
          have k2 := hid (k1.out.trans kk)
          have al2 := hid (al1.out.keep kk al1.out.facts.2.2)
          have sz2 := hid (Nat.le_trans sz1.out kk.size)
          have cl2 := hid (show IntsOwn W6.heap.size (.slice vp A.length vc) A W2x from owns_weaken sz1.out own)
          have ne2 := hid (show (Value.slice vp A.length vc).ownBlock ≠ some W0x.heap.size from fun e => by have h1 := (owns_in own e).1; have h2 := al1.out.facts.2.2; omega)
          refine hK.out _ _ ⟨(k2.out.cell (p := ⟨bG, 0, none⟩) hgl6).trans hg0, (k2.out.cell (p := ⟨bG, 1, none⟩) hgl6).trans hg1⟩ (fun hH => ?_)
          clear hK KK own kk
          refine wpAnyH_ready (rs := [4]) (by kernel_rfl) (by simp) ?_
          refine AllReadyH.cons rfl (fun KK hK => ?_) AllReadyH.nil
          go_simp
          have ks := Keep.alloc W2x (.cells #[.int .i64 y] 3)
          refine hK.out _ _ ⟨((k2.out.trans ks).cell (p := ⟨bG, 0, none⟩) hgl6).trans hg0, ((k2.out.trans ks).cell (p := ⟨bG, 1, none⟩) hgl6).trans hg1⟩ (fun hH => ?_)
          clear hK KK ks hH
          refine at_any (fun W' => Keep W2x W' ∧ VarAt W2x.heap.size 3 (.int .i64 y) W') ⟨Keep.alloc _ _, VarAt.new _ _ _⟩ ?_
          rintro W3x ⟨kk, vn⟩
          have k3 := hid (k2.out.trans kk)
          have cl3 := hid (show IntsOwn W6.heap.size (.slice vp A.length vc) A W3x from owns_keep cl2.out kk)
          have al3 := hid (al2.out.keep kk al2.out.facts.2.2)
          have ne3 := ne2
          have sz3 := hid (Nat.le_trans sz2.out kk.size)
          have bu3 := hid vn
          have hHeld := (show W3x.cell? ⟨bG, 0, none⟩ = some (.int .i64 vars) ∧ W3x.cell? ⟨bG, 1, none⟩ = some (.slice (some ⟨g5, 0, none⟩) (F.length + 1) cap5) from ⟨(k3.out.cell (p := ⟨bG, 0, none⟩) hgl6).trans hg0, (k3.out.cell (p := ⟨bG, 1, none⟩) hgl6).trans hg1⟩)
          clear kk vn
          refine wpAnyH_ready (rs := [5]) (by kernel_rfl) (by simp) ?_
          refine AllReadyH.cons rfl (fun KK hK => ?_) AllReadyH.nil
          refine step_append_own rfl _ _ 26 rfl W6.heap.size 3 i0 (.int .i64 0) 1 8 Try.underlying26 hi hz0 hz1 hz2 rfl (by decide) (.slice vp A.length vc) A.length (A.map (Value.int .i64)) rfl cl3.out ⟨W2x.heap.size, 0, none⟩ 1 1 [.int .i64 y] rfl rfl (one_at bu3.out) one_cellI (by unfold maxLen; omega) (by omega) sz3.out ?_
          intro v5 W4x h1 h2 h4
          obtain ⟨g7, cap7, rfl⟩ := owns_shape h1 (Nat.succ_pos _)
          have k4 := hid (show Keep W6 W4x from Below.grown k3.out h2 sz3.out (fun g hg => (owns_in cl3.out hg).1))
          have ap4 := hid (show IntsOwn W6.heap.size (.slice (some ⟨g7, 0, none⟩) (A.length + 1) cap7) (A ++ [y]) W4x by unfold IntsOwn; rw [List.length_append, List.map_append]; exact h1)
          have al4 := hid (show VarAt W0x.heap.size 26 (.slice none 0 0) W4x by have h3 := al3.out; have h5 := h3.facts.2.2; unfold VarAt at *; rw [h2.block _ h5 (fun e => ne3.out e.symm)]; exact h3)
          have sz4 := hid (Nat.le_trans sz3.out h2.size)
          refine hK.out _ _ ⟨(k4.out.cell (p := ⟨bG, 0, none⟩) hgl6).trans hg0, (k4.out.cell (p := ⟨bG, 1, none⟩) hgl6).trans hg1⟩ (fun hH => ?_)
          clear hK KK h1 h2 h4
          simp only [Act.put, List.setIfInBounds_toArray, List.set_cons_zero, List.set_cons_succ, List.getElem_toArray, List.getElem_cons_zero, List.getElem_cons_succ]
          refine wpAnyH_ready (rs := [6]) (by kernel_rfl) (by simp) ?_
          refine AllReadyH.cons rfl (fun KK hK => ?_) AllReadyH.nil
          go_simp
          refine (fol_more (HF6.out.keep' k4.out) HNF.out (IntsOwn.nums (zs := A ++ [y]) (S := fun b => b < W4x.heap.size) ap4.out (fun g hg => (owns_in ap4.out hg).2) hA1) HNA.out).mono ?_
          rintro e W5x hd
          obtain ⟨lp2, ln2, lc2, still, rfl, kk, hfol2⟩ := hd.parts
          have k5 := hid (k4.out.trans kk)
          have ap5 := hid (show IntsOwn W6.heap.size (.slice (some ⟨g7, 0, none⟩) (A.length + 1) cap7) (A ++ [y]) W5x from owns_keep ap4.out kk)
          have al5 := hid (al4.out.keep kk al4.out.facts.2.2)
          have sz5 := hid (Nat.le_trans sz4.out kk.size)
          have fo5 := hid (show MoreRes vars (F ++ [c]) (A ++ [y]) still lp2 ln2 lc2 W4x.heap.size W5x.heap.size W5x from ⟨Nat.le_refl _, hfol2⟩)
          have lo := hid (show W0x.heap.size < W4x.heap.size ∨ W5x.heap.size ≤ W0x.heap.size from Or.inl al4.out.facts.2.2)
          refine hK.out _ _ ⟨(k5.out.cell (p := ⟨bG, 0, none⟩) hgl6).trans hg0, (k5.out.cell (p := ⟨bG, 1, none⟩) hgl6).trans hg1⟩ (fun hH => ?_)
          clear hK KK hd hfol2 kk
          refine wpAnyH_take (i := 7) (v := ?_) rfl (by kernel_rfl) (by kernel_rfl) (by kernel_rfl) (fun _ _ _ h => h) (Or.inl ⟨by rfl, ?_⟩) (by assumption) ?_
          rotate_left
          · intro w hSw
            (try dsimp only at hSw)
            go_simp
            try with_reducible rfl
          simp only [Act.put, List.setIfInBounds_toArray, List.set_cons_zero, List.set_cons_succ, List.getElem_toArray, List.getElem_cons_zero, List.getElem_cons_succ]
          refine wpAnyH_take (i := 8) (v := ?_) rfl (by kernel_rfl) (by kernel_rfl) (by kernel_rfl) (fun _ _ _ h => h) (Or.inl ⟨by rfl, ?_⟩) (by assumption) ?_
          rotate_left
          · intro w hSw
            (try dsimp only at hSw)
            go_simp
            try with_reducible rfl
          simp only [Act.put, List.setIfInBounds_toArray, List.set_cons_zero, List.set_cons_succ, List.getElem_toArray, List.getElem_cons_zero, List.getElem_cons_succ]
          refine wpAnyH_take (i := 9) (v := ?_) rfl (by kernel_rfl) (by kernel_rfl) (by kernel_rfl) (fun _ _ _ h => h) (Or.inl ⟨by rfl, ?_⟩) (by assumption) ?_
          rotate_left
          · intro w hSw
            (try dsimp only at hSw)
            go_simp
            try with_reducible rfl
          simp only [Act.put, List.setIfInBounds_toArray, List.set_cons_zero, List.set_cons_succ, List.getElem_toArray, List.getElem_cons_zero, List.getElem_cons_succ]
          refine wpAnyH_take (i := 10) (v := ?_) rfl (by kernel_rfl) (by kernel_rfl) (by kernel_rfl) (fun _ _ _ h => h) (Or.inl ⟨by rfl, ?_⟩) (by assumption) ?_
          rotate_left
          · intro w hSw
            (try dsimp only at hSw)
            go_simp
            try with_reducible rfl
          simp only [Act.put, List.setIfInBounds_toArray, List.set_cons_zero, List.set_cons_succ, List.getElem_toArray, List.getElem_cons_zero, List.getElem_cons_succ]
          obtain ⟨hlc, hlf, hll⟩ := al5.out.facts
          refine wpAnyH_ready (rs := [12]) (by kernel_rfl) (by simp) ?_
          refine AllReadyH.cons rfl (fun KK hK => ?_) AllReadyH.nil
          go_simp
          have hblg : bG ≠ W0x.heap.size := by have := sz0.out; omega
          have hcc := (show W5x.cell? ⟨bG, 0, none⟩ = some (.int .i64 vars) ∧ W5x.cell? ⟨bG, 1, none⟩ = some (.slice (some ⟨g5, 0, none⟩) (F.length + 1) cap5) from ⟨(k5.out.cell (p := ⟨bG, 0, none⟩) hgl6).trans hg0, (k5.out.cell (p := ⟨bG, 1, none⟩) hgl6).trans hg1⟩)
          refine hK.out _ _ ⟨(cell_setO _ _ _ _ hblg).trans hcc.1, (cell_setO _ _ _ _ hblg).trans hcc.2⟩ (fun hH9 => ?_)
          clear hK KK hcc
          refine wpAnyH_take (i := 13) (v := ?_) rfl (by kernel_rfl) (by kernel_rfl) (by kernel_rfl) (fun _ _ _ h => h) (Or.inl ⟨by rfl, ?_⟩) (by assumption) ?_
          rotate_left
          · intro w hSw
            (try dsimp only at hSw)
            go_simp
            try with_reducible rfl
          simp only [Act.put, List.setIfInBounds_toArray, List.set_cons_zero, List.set_cons_succ, List.getElem_toArray, List.getElem_cons_zero, List.getElem_cons_succ]
          refine wpAnyH_take (i := 14) (v := ?_) rfl (by kernel_rfl) (by kernel_rfl) (by kernel_rfl) (fun _ _ _ h => h) (Or.inl ⟨by rfl, ?_⟩) (by assumption) ?_
          rotate_left
          · intro w hSw
            (try dsimp only at hSw)
            go_simp
            try with_reducible rfl
          simp only [Act.put, List.setIfInBounds_toArray, List.set_cons_zero, List.set_cons_succ, List.getElem_toArray, List.getElem_cons_zero, List.getElem_cons_succ]
          refine wpAnyH_done (by kernel_rfl) ?_ _
          go_wp2_with fail
          go_meet
          exact ⟨W0x.heap.size, lp2, ln2, lc2, still, rfl, rfl, rfl, more_end HK6.out HK16.out HBG.out k5.out sz0.out al5.out fo5.out lo.out⟩
        · refine AllReadyH.cons rfl (fun KK hK => ?_) AllReadyH.nil
          go_simp
          have ks := Keep.alloc W1x (.cells #[.int .i64 y] 3)
          refine hK.out _ _ ⟨((k1.out.trans ks).cell (p := ⟨bG, 0, none⟩) hgl6).trans hg0, ((k1.out.trans ks).cell (p := ⟨bG, 1, none⟩) hgl6).trans hg1⟩ (fun hH => ?_)
          clear hK KK ks hH
          refine at_any (fun W' => Keep W1x W' ∧ VarAt W1x.heap.size 3 (.int .i64 y) W') ⟨Keep.alloc _ _, VarAt.new _ _ _⟩ ?_
          rintro W2x ⟨kk, vn⟩
          have k2 := hid (k1.out.trans kk)
          have al2 := hid (al1.out.keep kk al1.out.facts.2.2)
          have sz2 := hid (Nat.le_trans sz1.out kk.size)
          have bu2 := hid vn
          have hHeld := (show W2x.cell? ⟨bG, 0, none⟩ = some (.int .i64 vars) ∧ W2x.cell? ⟨bG, 1, none⟩ = some (.slice (some ⟨g5, 0, none⟩) (F.length + 1) cap5) from ⟨(k2.out.cell (p := ⟨bG, 0, none⟩) hgl6).trans hg0, (k2.out.cell (p := ⟨bG, 1, none⟩) hgl6).trans hg1⟩)
          clear kk vn
          refine wpAnyH_ready (rs := [2]) (by kernel_rfl) (by simp) ?_
          refine AllReadyH.cons rfl (fun KK hK => ?_) AllReadyH.nil
          go_simp
          refine (cloneI_any S A ap ac W2x (fun b hb => Nat.lt_of_lt_of_le (hS b hb) (Nat.le_trans HK6.out.size sz2.out)) (HA.out.keep hS (HK6.out.trans k2.out)) (by omega)).mono ?_
          rintro e W3x ⟨v, rfl, own, kk⟩
          obtain ⟨vp, vc, hvs⟩ := own.ints.len
          subst hvs
          have k3 := hid (k2.out.trans kk)
          have bu3 := hid (bu2.out.keep kk bu2.out.facts.2.2)
          have al3 := hid (al2.out.keep kk al2.out.facts.2.2)
          have sz3 := hid (Nat.le_trans sz2.out kk.size)
          have cl3 := hid (show IntsOwn W6.heap.size (.slice vp A.length vc) A W3x from owns_weaken sz2.out own)
          have ne3 := hid (show (Value.slice vp A.length vc).ownBlock ≠ some W0x.heap.size from fun e => by have h1 := (owns_in own e).1; have h2 := al2.out.facts.2.2; omega)
          refine hK.out _ _ ⟨(k3.out.cell (p := ⟨bG, 0, none⟩) hgl6).trans hg0, (k3.out.cell (p := ⟨bG, 1, none⟩) hgl6).trans hg1⟩ (fun hH => ?_)
          clear hK KK own kk
          refine wpAnyH_ready (rs := [5]) (by kernel_rfl) (by simp) ?_
          refine AllReadyH.cons rfl (fun KK hK => ?_) AllReadyH.nil
          refine step_append_own rfl _ _ 26 rfl W6.heap.size 3 i0 (.int .i64 0) 1 8 Try.underlying26 hi hz0 hz1 hz2 rfl (by decide) (.slice vp A.length vc) A.length (A.map (Value.int .i64)) rfl cl3.out ⟨W1x.heap.size, 0, none⟩ 1 1 [.int .i64 y] rfl rfl (one_at bu3.out) one_cellI (by unfold maxLen; omega) (by omega) sz3.out ?_
          intro v5 W4x h1 h2 h4
          obtain ⟨g7, cap7, rfl⟩ := owns_shape h1 (Nat.succ_pos _)
          have k4 := hid (show Keep W6 W4x from Below.grown k3.out h2 sz3.out (fun g hg => (owns_in cl3.out hg).1))
          have ap4 := hid (show IntsOwn W6.heap.size (.slice (some ⟨g7, 0, none⟩) (A.length + 1) cap7) (A ++ [y]) W4x by unfold IntsOwn; rw [List.length_append, List.map_append]; exact h1)
          have al4 := hid (show VarAt W0x.heap.size 26 (.slice none 0 0) W4x by have h3 := al3.out; have h5 := h3.facts.2.2; unfold VarAt at *; rw [h2.block _ h5 (fun e => ne3.out e.symm)]; exact h3)
          have sz4 := hid (Nat.le_trans sz3.out h2.size)
          refine hK.out _ _ ⟨(k4.out.cell (p := ⟨bG, 0, none⟩) hgl6).trans hg0, (k4.out.cell (p := ⟨bG, 1, none⟩) hgl6).trans hg1⟩ (fun hH => ?_)
          clear hK KK h1 h2 h4
          simp only [Act.put, List.setIfInBounds_toArray, List.set_cons_zero, List.set_cons_succ, List.getElem_toArray, List.getElem_cons_zero, List.getElem_cons_succ]
          refine wpAnyH_ready (rs := [6]) (by kernel_rfl) (by simp) ?_
          refine AllReadyH.cons rfl (fun KK hK => ?_) AllReadyH.nil
          go_simp
          refine (fol_more (HF6.out.keep' k4.out) HNF.out (IntsOwn.nums (zs := A ++ [y]) (S := fun b => b < W4x.heap.size) ap4.out (fun g hg => (owns_in ap4.out hg).2) hA1) HNA.out).mono ?_
          rintro e W5x hd
          obtain ⟨lp2, ln2, lc2, still, rfl, kk, hfol2⟩ := hd.parts
          have k5 := hid (k4.out.trans kk)
          have ap5 := hid (show IntsOwn W6.heap.size (.slice (some ⟨g7, 0, none⟩) (A.length + 1) cap7) (A ++ [y]) W5x from owns_keep ap4.out kk)
          have al5 := hid (al4.out.keep kk al4.out.facts.2.2)
          have sz5 := hid (Nat.le_trans sz4.out kk.size)
          have fo5 := hid (show MoreRes vars (F ++ [c]) (A ++ [y]) still lp2 ln2 lc2 W4x.heap.size W5x.heap.size W5x from ⟨Nat.le_refl _, hfol2⟩)
          have lo := hid (show W0x.heap.size < W4x.heap.size ∨ W5x.heap.size ≤ W0x.heap.size from Or.inl al4.out.facts.2.2)
          refine hK.out _ _ ⟨(k5.out.cell (p := ⟨bG, 0, none⟩) hgl6).trans hg0, (k5.out.cell (p := ⟨bG, 1, none⟩) hgl6).trans hg1⟩ (fun hH => ?_)
          clear hK KK hd hfol2 kk
          refine wpAnyH_take (i := 7) (v := ?_) rfl (by kernel_rfl) (by kernel_rfl) (by kernel_rfl) (fun _ _ _ h => h) (Or.inl ⟨by rfl, ?_⟩) (by assumption) ?_
          rotate_left
          · intro w hSw
            (try dsimp only at hSw)
            go_simp
            try with_reducible rfl
          simp only [Act.put, List.setIfInBounds_toArray, List.set_cons_zero, List.set_cons_succ, List.getElem_toArray, List.getElem_cons_zero, List.getElem_cons_succ]
          refine wpAnyH_take (i := 8) (v := ?_) rfl (by kernel_rfl) (by kernel_rfl) (by kernel_rfl) (fun _ _ _ h => h) (Or.inl ⟨by rfl, ?_⟩) (by assumption) ?_
          rotate_left
          · intro w hSw
            (try dsimp only at hSw)
            go_simp
            try with_reducible rfl
          simp only [Act.put, List.setIfInBounds_toArray, List.set_cons_zero, List.set_cons_succ, List.getElem_toArray, List.getElem_cons_zero, List.getElem_cons_succ]
          refine wpAnyH_take (i := 9) (v := ?_) rfl (by kernel_rfl) (by kernel_rfl) (by kernel_rfl) (fun _ _ _ h => h) (Or.inl ⟨by rfl, ?_⟩) (by assumption) ?_
          rotate_left
          · intro w hSw
            (try dsimp only at hSw)
            go_simp
            try with_reducible rfl
          simp only [Act.put, List.setIfInBounds_toArray, List.set_cons_zero, List.set_cons_succ, List.getElem_toArray, List.getElem_cons_zero, List.getElem_cons_succ]
          refine wpAnyH_take (i := 10) (v := ?_) rfl (by kernel_rfl) (by kernel_rfl) (by kernel_rfl) (fun _ _ _ h => h) (Or.inl ⟨by rfl, ?_⟩) (by assumption) ?_
          rotate_left
          · intro w hSw
            (try dsimp only at hSw)
            go_simp
            try with_reducible rfl
          simp only [Act.put, List.setIfInBounds_toArray, List.set_cons_zero, List.set_cons_succ, List.getElem_toArray, List.getElem_cons_zero, List.getElem_cons_succ]
          obtain ⟨hlc, hlf, hll⟩ := al5.out.facts
          refine wpAnyH_ready (rs := [12]) (by kernel_rfl) (by simp) ?_
          refine AllReadyH.cons rfl (fun KK hK => ?_) AllReadyH.nil
          go_simp
          have hblg : bG ≠ W0x.heap.size := by have := sz0.out; omega
          have hcc := (show W5x.cell? ⟨bG, 0, none⟩ = some (.int .i64 vars) ∧ W5x.cell? ⟨bG, 1, none⟩ = some (.slice (some ⟨g5, 0, none⟩) (F.length + 1) cap5) from ⟨(k5.out.cell (p := ⟨bG, 0, none⟩) hgl6).trans hg0, (k5.out.cell (p := ⟨bG, 1, none⟩) hgl6).trans hg1⟩)
          refine hK.out _ _ ⟨(cell_setO _ _ _ _ hblg).trans hcc.1, (cell_setO _ _ _ _ hblg).trans hcc.2⟩ (fun hH9 => ?_)
          clear hK KK hcc
          refine wpAnyH_take (i := 13) (v := ?_) rfl (by kernel_rfl) (by kernel_rfl) (by kernel_rfl) (fun _ _ _ h => h) (Or.inl ⟨by rfl, ?_⟩) (by assumption) ?_
          rotate_left
          · intro w hSw
            (try dsimp only at hSw)
            go_simp
            try with_reducible rfl
          simp only [Act.put, List.setIfInBounds_toArray, List.set_cons_zero, List.set_cons_succ, List.getElem_toArray, List.getElem_cons_zero, List.getElem_cons_succ]
          refine wpAnyH_take (i := 14) (v := ?_) rfl (by kernel_rfl) (by kernel_rfl) (by kernel_rfl) (fun _ _ _ h => h) (Or.inl ⟨by rfl, ?_⟩) (by assumption) ?_
          rotate_left
          · intro w hSw
            (try dsimp only at hSw)
            go_simp
            try with_reducible rfl
          simp only [Act.put, List.setIfInBounds_toArray, List.set_cons_zero, List.set_cons_succ, List.getElem_toArray, List.getElem_cons_zero, List.getElem_cons_succ]
          refine wpAnyH_done (by kernel_rfl) ?_ _
          go_wp2_with fail
          go_meet
          exact ⟨W0x.heap.size, lp2, ln2, lc2, still, rfl, rfl, rfl, more_end HK6.out HK16.out HBG.out k5.out sz0.out al5.out fo5.out lo.out⟩
  case rest =>
    obtain ⟨bl, lp2, ln2, lc2, still, rfl, rfl, rfl, hend⟩ := hcut
    have HEND := hid hend
    generalize hhe : folE vars (F ++ [c]) (A ++ [y]) = he
    have HHE := hid hhe
    clear hend hhe hg0 hg1
    go_wp2_with fail
    refine (followed_any wc).mono ?_
    rintro e w8 ⟨rfl, k8⟩
    have K8 := hid (HEND.out.kp.trans k8)
    have V8 := hid (HEND.out.var.keep k8 HEND.out.var.facts.2.2)
    have HK8 := hid k8
    clear k8
    by_cases h1 : ge = 0
    · subst h1
      by_cases h2 : he = 0
      · subst h2
        obtain ⟨n, hvn, hf1⟩ := HFOL.out (by trivial)
        obtain ⟨n', hvn', hf2⟩ := HEND.out.res HHE.out
        obtain rfl : n = n' := by omega
        have hmono : ∀ x, Der F A x → Der (F ++ [c]) (A ++ [y]) x := fun x hx => hx.more (fun d hd => List.mem_append_left _ hd) (fun z hz => .told (List.mem_append_left _ hz))
        have hmonoF : FailsF F A → FailsF (F ++ [c]) (A ++ [y]) := fun hx => hx.more (fun d hd => List.mem_append_left _ hd) (fun z hz => .told (List.mem_append_left _ hz))
        rcases hf2 with ⟨rfl, K', L', hg', hL', hno', hnu'⟩ | ⟨rfl, hfl'⟩
        · rcases hf1 with ⟨rfl, K, L, hg, hL, hno, hnu⟩ | ⟨rfl, hfl⟩
          · obtain ⟨lpx, lcx, hls, -⟩ := hnu.shape
            cases hls
            have HNU8 := hid ((hnu.keep (B := w1.heap.size) (fun _ hb => hb.2) (Below.trans HEND.out.b1 (Below.mono HK8.out HEND.out.b1.size))).mono (w' := w8) (S' := fun b => b < w8.heap.size) (fun _ _ => rfl) fun _ hb => Nat.lt_of_lt_of_le hb.2 (Nat.le_trans HEND.out.b1.size HK8.out.size))
            have HNV8 := hid ((hnu'.keep (B := wc.heap.size) (fun _ hb => hb) HK8.out).mono (w' := w8) (S' := fun b => b < w8.heap.size) (fun _ _ => rfl) fun _ hb => Nat.lt_of_lt_of_le hb HK8.out.size)
            have HIN := hid (show ((known K).any fun x => !(known K').contains x) = false from List.any_eq_false.2 fun x hx => by
              have : x ∈ known K' := (good_mem hg' x).2 ((hL' x).2 (hmono x ((hL x).1 ((good_mem hg x).1 hx))))
              simpa using this)
            have HC4 := hid (hasI_any (cap := #[.pointer (some ⟨bl, 0, none⟩)]) (fun b => b < w8.heap.size) (known K) (fun x => !(known K').contains x) lp lc w8 (fun _ h => h) enter_more1 HNU8.out (fun x hx => more1_any (fun b => b < w8.heap.size) (known K') _ _ x w8 (fun _ h => h) HNV8.out V8.out))
            rw [HIN.out] at HC4
            clear hg hL hno hnu hg' hL' hno' hnu' hmono hmonoF hvn hvn'
            go_wp2_with fail
            refine HC4.out.mono ?_
            rintro e w9 ⟨rfl, hw9⟩
            rw [hw9]
            clear hw9 HC4
            go_wp2_with fail
            go_ret
            exact ⟨rfl, K8.out⟩
          · exact absurd (hmonoF hfl) hno'
        · clear hfl' hmono hmonoF hvn hvn' hf1
          go_wp2_with fail
          go_ret
          exact ⟨rfl, K8.out⟩
      · have h2' : (he != 0) = true := by simp [h2]
        clear h2
        go_wp2_with fail
        refine (followed_any w8).mono ?_
        rintro e w9 ⟨rfl, k9⟩
        have K9 := hid (K8.out.trans k9)
        clear k9
        go_wp2_with fail
        go_ret
        exact ⟨rfl, K9.out⟩
    · have h1' : (ge != 0) = true := by simp [h1]
      clear h1
      go_wp2_with fail
      refine (followed_any w8).mono ?_
      rintro e w9 ⟨rfl, k9⟩
      have K9 := hid (K8.out.trans k9)
      clear k9
      go_wp2_with fail
      go_ret
      exact ⟨rfl, K9.out⟩
end Go.Proofs.Ytenojmfdghdenab
