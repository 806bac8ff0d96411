/- The reference's FollowsFrom: what follows, by variable, or that it fails. -/
import Derived.Test.YtbblgmkjgcjcaabSatFails
import Derived.Test.YtbblgmkjgcjcaabSatKnown
import Derived.Test.YtbblgmkjgcjcaabRupBadOf
namespace Go.Proofs.Ytbblgmkjgcjcaab
open Go.RowKit Go.Lib

/-- The literals of a set, by variable, up to one. -/
def accL (s : List Int) (v : Nat) : List Int := (List.range' 1 (v - 1)).flatMap fun (u : Nat) => (if (u : Int) ∈ s then [(u : Int)] else []) ++ (if -(u : Int) ∈ s then [-(u : Int)] else [])
theorem accL_next {s : List Int} {v : Nat} (hv : 1 ≤ v) : accL s (v + 1) = (accL s v ++ (if (v : Int) ∈ s then [(v : Int)] else [])) ++ (if -(v : Int) ∈ s then [-(v : Int)] else []) := by
  unfold accL
  rw [show v + 1 - 1 = (v - 1) + 1 by omega, List.range'_concat, List.flatMap_append, List.append_assoc]
  rw [show 1 + 1 * (v - 1) = v by omega]
  simp
theorem mem_acc {s : List Int} {v : Nat} {x : Int} : x ∈ accL s v ↔ x ∈ s ∧ x ≠ 0 ∧ x.natAbs < v := by
  unfold accL
  rw [List.mem_flatMap]
  constructor
  · rintro ⟨u, hu, hx⟩
    have hu := List.mem_range'_1.1 hu
    rcases List.mem_append.1 hx with hx | hx
    · split at hx
      · rename_i h; rw [List.mem_singleton.1 hx]; exact ⟨h, by omega, by omega⟩
      · simp at hx
    · split at hx
      · rename_i h; rw [List.mem_singleton.1 hx]; exact ⟨h, by omega, by omega⟩
      · simp at hx
  · rintro ⟨h1, h2, h3⟩
    refine ⟨x.natAbs, List.mem_range'_1.2 ⟨by omega, by omega⟩, ?_⟩
    rcases Int.lt_or_gt_of_ne h2 with h | h
    · refine List.mem_append_right _ ?_
      rw [show -(x.natAbs : Int) = x by omega, if_pos h1]; simp
    · refine List.mem_append_left _ ?_
      rw [show (x.natAbs : Int) = x by omega, if_pos h1]; simp
theorem acc_len {s : List Int} (hc : ∀ x ∈ s, -x ∉ s) : ∀ v : Nat, (accL s v).length ≤ v
  | 0 => by simp [accL]
  | 1 => by simp [accL]
  | v + 2 => by
    rw [accL_next (by omega)]
    have ih := acc_len hc (v + 1)
    by_cases h1 : ((v + 1 : Nat) : Int) ∈ s
    · rw [if_pos h1, if_neg (hc _ h1)]; simp; omega
    · rw [if_neg h1]
      split <;> simp <;> omega
theorem acc_byvar {n : Nat} {F : List (List Int)} {A s : List Int} (h : GS n F A s) (hall : ∀ x, Der F A x → x ∈ s) : ByVar n F A (accL s (n + 1)) := by
  have hm : ∀ x, x ∈ accL s (n + 1) ↔ x ∈ s := fun x => by
    rw [mem_acc]
    exact ⟨fun h => h.1, fun hx => ⟨hx, (h.lit x hx).1, by have := (h.lit x hx).2; omega⟩⟩
  refine ⟨?_, fun x => (hm x).trans ⟨h.der x, hall x⟩, fun x hx => h.lit x ((hm x).1 hx)⟩
  unfold accL
  rw [List.pairwise_flatMap]
  have hin : ∀ (u : Nat) x, x ∈ ((if (u : Int) ∈ s then [(u : Int)] else []) ++ (if -(u : Int) ∈ s then [-(u : Int)] else [])) → x.natAbs = u := fun u x hx => by
    rcases List.mem_append.1 hx with hx | hx
    · split at hx
      · rw [List.mem_singleton.1 hx]; omega
      · simp at hx
    · split at hx
      · rw [List.mem_singleton.1 hx]; omega
      · simp at hx
  refine ⟨fun u hu => ?_, (List.pairwise_lt_range' ..).imp fun {a b} hab x hx y hy => by rw [hin a x hx, hin b y hy]; exact hab⟩
  by_cases h1 : (u : Int) ∈ s
  · rw [if_pos h1, if_neg (h.con _ h1)]; simp
  · rw [if_neg h1]
    split <;> simp

/-- What FollowsFrom leaves. -/
def FolFDone (n : Nat) (F : List (List Int)) (A : List Int) (w : World) (e : Ending) (w' : World) : Prop :=
  Keep w w' ∧ ((FailsF F A ∧ e = .returned (.tuple #[.slice none 0 0, .bool false])) ∨ (¬ FailsF F A ∧ ∃ v l, e = .returned (.tuple #[v, .bool true]) ∧ ByVar n F A l ∧ NumsIs (fun b => w.heap.size ≤ b ∧ b < w'.heap.size) w' l v))

set_option maxHeartbeats 8000000 in
set_option maxRecDepth 100000 in
theorem folFrom_any (S : Nat → Prop) (n : Nat) (F : List (List Int)) (A : List Int) (p : Option Addr) (cap : Nat) (av : Value) (w : World) (hS : ∀ b, S b → b < w.heap.size) (hf : ClsIs S w F (.slice p F.length cap)) (ha : NumsIs S w A av) (hn : n ≤ 400) (hFl : F.length ≤ 4000) (hF : ∀ c ∈ F, c.length ≤ 60 ∧ LitsC n c) (hA : LitsC n A) (hAl : A.length ≤ 60) :
    Calls Try.prog 55 #[.agg #[.int .i64 (n : Int), .slice p F.length cap], av] w fun e w' => FolFDone n F A w e w' := by
  obtain ⟨i0, hi, hz0, hz1, hz2⟩ := info_parts infoInt
  have HF := hid hf
  have HA := hid ha
  have HFL := hid hF
  have HAL := hid hA
  obtain ⟨ap, ac, rfl, halen⟩ := ha.shape
  have hmm := @run_makeMap Try.prog
  clear hf ha hF hA
  go_enter Try.func55, Try.ntmps55
  go_upto_region 2 with fail
  have HQ := hid (show Keep w ((w.alloc (.cells #[.int .i64 (n : Int), .slice p F.length cap] 24)).alloc (.map #[] 0)) ∧ BoxAt w.heap.size 24 #[.int .i64 (n : Int), .slice p F.length cap] ((w.alloc (.cells #[.int .i64 (n : Int), .slice p F.length cap] 24)).alloc (.map #[] 0)) ∧ SetMap (w.heap.size + 1) [] ((w.alloc (.cells #[.int .i64 (n : Int), .slice p F.length cap] 24)).alloc (.map #[] 0)) from by
    refine ⟨(Keep.alloc _ _).alloc' _, (BoxAt.new _ _ _).keep (Keep.alloc _ _) (by rw [alloc_size]; omega), ?_⟩
    have := setmap_made (w.alloc (.cells #[.int .i64 (n : Int), .slice p F.length cap] 24))
    rwa [alloc_size] at this)
  refine at_wp (fun W' => Keep w W' ∧ BoxAt w.heap.size 24 #[.int .i64 (n : Int), .slice p F.length cap] W' ∧ SetMap (w.heap.size + 1) [] W') ?_ ?_
  · exact HQ.out
  rintro W0 ⟨k0, b0, s0⟩
  have K0 := hid k0
  have B0 := hid b0
  have S0 := hid s0
  clear k0 b0 s0 HQ
  obtain ⟨bk, hbk⟩ : ∃ bk, bk = w.heap.size + 1 := ⟨_, rfl⟩
  rw [← hbk] at S0 ⊢
  have HBK := hid hbk
  clear hbk
  go_wp2_with fail
  go_loopg [4, 5, 16] A.length (fun gk rv ov iv wr => ∃ (j : Nat) (s : List Int), j + gk = A.length ∧ rv = .slice none 0 0 ∧ ov = .bool false ∧ iv = .int .i64 j ∧ Keep w wr ∧ BoxAt w.heap.size 24 #[.int .i64 (n : Int), .slice p F.length cap] wr ∧ SetMap bk s wr ∧ s.length ≤ j ∧ (∀ y, y ∈ s ↔ y ∈ A.take j) ∧ ∀ y ∈ s, -y ∉ s)
  case atStart => exact ⟨0, [], by omega, rfl, rfl, rfl, K0.out, B0.out, S0.out, Nat.le_refl _, by simp, by simp⟩
  case round =>
    obtain ⟨j, s, hj, rfl, rfl, rfl, hk, hb, hs, hsl, hmem, hcon⟩ := hrel
    have KW := hid hk
    have BW := hid hb
    have SW := hid hs
    have HMEM := hid hmem
    have HCON := hid hcon
    clear hk hb hs hmem hcon
    by_cases hlt : j < A.length
    · obtain ⟨xb, xo, hxp, hxS, hxc⟩ := (HA.out.keep hS KW.out).nth hlt
      subst hxp
      have hxk := hxc j _ (List.getElem?_eq_getElem hlt)
      have hxL := HAL.out _ (List.getElem_mem hlt)
      have HXC := hid (List.getElem_mem hlt)
      have HTK := hid (List.take_succ_eq_append_getElem hlt)
      have hxbl : xb < wr.heap.size := Nat.lt_of_lt_of_le (hS xb hxS) KW.out.size
      have hjI : (j : Int) < (A.length : Int) := by omega
      generalize A[j] = x at hxk hxL HXC HTK
      have hsx : Sm x := Nat.le_trans hxL.2 (by omega)
      have hsnx : Sm (-x) := Nat.le_trans hxL.neg.2 (by omega)
      have hx1 : -1000 ≤ x := by unfold Sm at hsx; omega
      have hx2 : x ≤ 1000 := by unfold Sm at hsx; omega
      have hlk := SW.out.look und_known hsnx
      by_cases hneg : -x ∈ s
      · rw [decide_eq_true hneg] at hlk
        have HFA := hid (show FailsF F A from .inl ⟨x, .told HXC.out, .told (List.mem_of_mem_take ((HMEM.out _).1 hneg))⟩)
        clear hneg hxc
        go_wp2_with fail
        refine bodyPost_ret (v := .tuple #[.slice none 0 0, .bool false]) ?_ rfl ?_
        · simp [results, Try.results55, go_sem]
        · exact ⟨KW.out, .inl ⟨HFA.out, rfl⟩⟩
      · rw [decide_eq_false hneg] at hlk
        obtain ⟨w7, hrun, hsm7, hgr7⟩ := SW.out.put und_known hsx (by omega)
        have SM7 := hid hsm7
        have KW7 := hid (show Keep w w7 from KW.out.grown hgr7 KW.out.size (fun q hq => by have := Option.some.inj hq; have := HBK.out; omega))
        have BW7 := hid (show BoxAt w.heap.size 24 #[.int .i64 (n : Int), .slice p F.length cap] w7 by
          have h1 := BW.out
          have h2 := h1.facts.2.2
          unfold BoxAt at *
          rw [hgr7.block _ h2 (fun e => by have := Option.some.inj e; have := HBK.out; omega)]; exact h1)
        have hal : (addS s x).length ≤ s.length + 1 := by unfold addS; split <;> simp
        have HMEM7 := hid (show ∀ y, y ∈ addS s x ↔ y ∈ A.take (j + 1) from fun y => by
          rw [mem_addS, HMEM.out y, HTK.out, List.mem_append, List.mem_singleton])
        have HCON7 := hid (show ∀ y ∈ addS s x, -y ∉ addS s x from fun y hy hny => by
          rw [mem_addS] at hy hny
          rcases hy with hy | hy <;> rcases hny with hny | hny
          · exact HCON.out y hy hny
          · exact hneg (by rw [← hny, Int.neg_neg]; exact hy)
          · exact hneg (by rw [← hy]; exact hny)
          · have := hxL.1; omega)
        clear hneg hxc hsm7 hgr7
        go_wp2_with fail
        go_roundg (A.length - (j + 1))
        case rel => exact ⟨j + 1, addS s x, by omega, rfl, rfl, by go_num, KW7.out, BW7.out, SM7.out, by omega, HMEM7.out, HCON7.out⟩
        case measure => omega
    · obtain rfl : j = A.length := by omega
      have HGS := hid (show GS n F A s from ⟨fun y hy => by
        have h1 := (HMEM.out y).1 hy
        rw [List.take_length] at h1
        exact HAL.out y h1, HCON.out, fun y hy => by
        have h1 := (HMEM.out y).1 hy
        rw [List.take_length] at h1
        exact .told h1, fun a ha => (HMEM.out a).2 (by rw [List.take_length]; exact ha), SW.out.nodup⟩)
      clear HMEM HCON hlt
      obtain ⟨hcb, -, hlb⟩ := BW.out.facts
      have hc1 : wr.cell? ⟨w.heap.size, 1, none⟩ = some (.slice p F.length cap) := hcb 1
      clear hcb
      have hbkl : bk < wr.heap.size := SW.out.lt
      go_wp2_with fail
      refine at_calls (fun W' => Keep wr W' ∧ BoxAt wr.heap.size 22 #[.slice p F.length cap] W') ⟨Keep.alloc _ _, BoxAt.new _ _ _⟩ ?_
      rintro W1 ⟨k1, b1⟩
      have hKK := KW.out.trans k1
      refine (fails1_any S n bk wr.heap.size F p cap A s W1 (fun b hb => ⟨Nat.lt_of_lt_of_le (hS b hb) hKK.size, fun e => by have e2 : b = bk := e; have := hS b hb; have := HBK.out; omega⟩) b1 (by omega) (HF.out.keep hS hKK) (SW.out.keep k1) HGS.out (by omega) (fun d hd => ⟨(HFL.out d hd).2, (HFL.out d hd).1⟩) (by omega)).mono ?_
      rintro e W2 ⟨r, rfl, ht2, hr2, hf2⟩
      have K2 := hid (show Keep w W2 from Below.trans hKK (ht2.below (B := w.heap.size) hKK.size fun b hb e => by have e2 : b = bk := e; have := HBK.out; omega))
      have B2 := hid ((BW.out.keep k1 BW.out.facts.2.2).turn ht2 (fun e => by have e2 : w.heap.size = bk := e; have := HBK.out; omega))
      have HR2 := hid hr2
      have HF2 := hid hf2
      clear hKK k1 b1 ht2 hr2 hf2 hc1
      cases r with
      | true =>
        have HFA := hid (HR2.out.1 rfl)
        go_wp2_with fail
        refine bodyPost_ret (v := .tuple #[.slice none 0 0, .bool false]) ?_ rfl ?_
        · simp [results, Try.results55, go_sem]
        · exact ⟨K2.out, .inl ⟨HFA.out, rfl⟩⟩
      | false =>
        have HNF := hid (show ¬ FailsF F A from fun h => by have := HR2.out.2 h; cases this)
        obtain ⟨t, hst, hgt, hall⟩ := HF2.out rfl
        have ST := hid hst
        have HGT := hid hgt
        have HALL := hid hall
        clear hst hgt hall HF2 HR2 HGS SW BW
        obtain ⟨hcb, -, hlb2⟩ := B2.out.facts
        have hc0 : W2.cell? ⟨w.heap.size, 0, none⟩ = some (.int .i64 (n : Int)) := hcb 0
        clear hcb
        go_wp2_with fail
        go_loopg [9, 10] n (fun gk lv vv wq => ∃ v : Nat, v + gk = n + 1 ∧ 1 ≤ v ∧ vv = .int .i64 v ∧ IntsOwn W2.heap.size lv (accL t v) wq ∧ Keep W2 wq)
        case atStart => exact ⟨1, by omega, Nat.le_refl _, rfl, World.ownsRow_nil _ _ _ _, Keep.refl _⟩
        case round =>
          obtain ⟨v, hv, hv1, rfl, how, hkq⟩ := hrel
          have HOW := hid how
          have KQ := hid hkq
          obtain ⟨lp, lc, hlv⟩ := how.ints.len
          subst hlv
          clear how hkq
          have hq0 : wr.cell? ⟨w.heap.size, 0, none⟩ = some (.int .i64 (n : Int)) := (KQ.out.cell (p := ⟨w.heap.size, 0, none⟩) hlb2).trans hc0
          have hql : w.heap.size < wr.heap.size := Nat.lt_of_lt_of_le hlb2 KQ.out.size
          have hn400 : (n : Int) ≤ 400 := by omega
          by_cases hvn : v ≤ n
          · have hvI : (v : Int) ≤ (n : Int) := by omega
            have HNX := hid (accL_next (s := t) hv1)
            have HLN := hid (acc_len HGT.out.con v)
            have hal : (accL t v).length ≤ 400 := by have := HLN.out; omega
            generalize hace : accL t v = acc at HOW HNX HLN hal ⊢
            clear hace
            obtain ⟨a0, ha0⟩ : ∃ a0 : List Int, a0 = if (v : Int) ∈ t then [(v : Int)] else [] := ⟨_, rfl⟩
            obtain ⟨a1, ha1⟩ : ∃ a1 : List Int, a1 = if -(v : Int) ∈ t then [-(v : Int)] else [] := ⟨_, rfl⟩
            have HA0 := hid ha0
            have HA1 := hid ha1
            have HLA1 := hid (show a0.length ≤ 1 by rw [ha0]; split <;> simp)
            have HNX2 := hid (show accL t (v + 1) = (acc ++ a0) ++ a1 by rw [ha0, ha1]; exact HNX.out)
            have HOB := hid (show ∀ g, (Value.slice lp acc.length lc).ownBlock = some g → g ≠ wr.heap.size from fun g hg => by have := (owns_in HOW.out hg).2; omega)
            have HOWa := hid (show IntsOwn W2.heap.size (.slice lp acc.length lc) acc (wr.alloc (.cells #[.int .i64 (v : Int), .int .i64 (-(v : Int))] 3)) from owns_keep HOW.out (Keep.alloc _ _))
            have KQa := hid (KQ.out.alloc' (.cells #[.int .i64 (v : Int), .int .i64 (-(v : Int))] 3))
            have BQa := hid (BoxAt.new wr 3 #[.int .i64 (v : Int), .int .i64 (-(v : Int))])
            clear ha0 ha1 HNX HOW
            go_wp2_with fail
            generalize wr.alloc (.cells #[.int .i64 (v : Int), .int .i64 (-(v : Int))] 3) = W3 at HOWa KQa BQa ⊢
            generalize wr.heap.size = bq at BQa HOB ⊢
            obtain ⟨go, rfl⟩ : ∃ go : Nat, go = gk := ⟨_, rfl⟩
            clear hq0 hql KQ
            go_loopg [9, 43] 2 (fun gk lv iv wq => ∃ (i : Nat) (acc' : List Int), i + gk = 2 ∧ iv = .int .i64 (i : Int) ∧ IntsOwn W2.heap.size lv acc' wq ∧ Keep W2 wq ∧ BoxAt bq 3 #[.int .i64 (v : Int), .int .i64 (-(v : Int))] wq ∧ (∀ g, lv.ownBlock = some g → g ≠ bq) ∧ ((i = 0 ∧ acc' = acc) ∨ (i = 1 ∧ acc' = acc ++ a0) ∨ (i = 2 ∧ acc' = (acc ++ a0) ++ a1)))
            case atStart => exact ⟨0, acc, rfl, rfl, HOWa.out, KQa.out, BQa.out, HOB.out, .inl ⟨rfl, rfl⟩⟩
            case round =>
              obtain ⟨i, acc1, hi2, rfl, how1, hk1, hb1, ho1, hcase⟩ := hrel
              have HOW1 := hid how1
              have KQ1 := hid hk1
              have BQ1 := hid hb1
              have HOB1 := hid ho1
              obtain ⟨lp1, lc1, hlv1⟩ := how1.ints.len
              subst hlv1
              have hbql := hb1.facts.2.2
              have hsz1 := KQ1.out.size
              clear how1 hk1 hb1 ho1
              rcases hcase with ⟨rfl, hea⟩ | ⟨rfl, hea⟩ | ⟨rfl, hea⟩
              · have hgk : gk = 2 := by omega
                have HEA := hid hea
                clear hea hi2
                have hlk := (ST.out.keep KQ1.out).look und_known (show Sm ((v : Int)) by unfold Sm; omega)
                have hcq : wr.cell? ⟨bq, 0, none⟩ = some (.int .i64 ((v : Int))) := BQ1.out.facts.1 0
                have hlen1 : acc1.length ≤ 401 := by rw [HEA.out]; omega
                by_cases hmm2 : (v : Int) ∈ t
                · rw [decide_eq_true hmm2] at hlk
                  have HN := hid (show a0 = [(v : Int)] from by rw [HA0.out, if_pos hmm2])
                  clear hmm2
                  go_wp2_with (at_builtin; refine wpList_append_own_at _ rfl _ _ 26 rfl W2.heap.size 3 i0 (.int .i64 0) 1 8 Try.underlying26 hi hz0 hz1 hz2 rfl (by decide) (.slice lp1 acc1.length lc1) acc1.length (acc1.map (Value.int .i64)) rfl (HOW1.out.alloc _) ⟨wr.heap.size, 0, none⟩ 1 1 [.int .i64 ((v : Int))] rfl rfl one_newsC one_cellI (by unfold maxLen; omega) (by omega) (by have := alloc_size wr (.cells #[.int .i64 ((v : Int))] 3); omega) ?_; intro v5 w5 h1 h2 _ h4; have P5 := hid (ints_push KQ1.out.size HOW1.out h1 h2); have B5 := hid (show BoxAt bq 3 #[.int .i64 (v : Int), .int .i64 (-(v : Int))] w5 from (by (have h5 := BQ1.out; have h6 := h5.facts.2.2; unfold BoxAt at *; rw [(grown_alloc h2).block _ h6 (fun e => HOB1.out _ e.symm rfl)]; exact h5))); have O5 := hid (show ∀ g, v5.ownBlock = some g → g ≠ bq from fun g hg => (own_far h4).elim (fun e => HOB1.out g (e ▸ hg)) fun ⟨g', e, hge⟩ => by (rw [e] at hg; have := Option.some.inj hg; have := BQ1.out.facts.2.2; omega)); clear h1 h2 h4)
                  go_roundg 1
                  case rel => exact ⟨1, acc1 ++ [(v : Int)], by omega, by go_num, P5.out.1, Below.trans KQ1.out P5.out.2, B5.out, O5.out, .inr (.inl ⟨rfl, by rw [HN.out, HEA.out]⟩)⟩
                  case measure => omega
                · rw [decide_eq_false hmm2] at hlk
                  have HN := hid (show a0 = [] from by rw [HA0.out, if_neg hmm2])
                  clear hmm2
                  go_wp2_with fail
                  go_roundg 1
                  case rel => exact ⟨1, acc1, by omega, by go_num, HOW1.out, KQ1.out, BQ1.out, HOB1.out, .inr (.inl ⟨rfl, by rw [HN.out, HEA.out, List.append_nil]⟩)⟩
                  case measure => omega
              · have hgk : gk = 1 := by omega
                have HEA := hid hea
                clear hea hi2
                have hlk := (ST.out.keep KQ1.out).look und_known (show Sm (-(v : Int)) by unfold Sm; omega)
                have hcq : wr.cell? ⟨bq, 1, none⟩ = some (.int .i64 (-(v : Int))) := BQ1.out.facts.1 1
                have hlen1 : acc1.length ≤ 401 := by rw [HEA.out]; simp; have := HLA1.out; omega
                by_cases hmm2 : -(v : Int) ∈ t
                · rw [decide_eq_true hmm2] at hlk
                  have HN := hid (show a1 = [-(v : Int)] from by rw [HA1.out, if_pos hmm2])
                  clear hmm2
                  go_wp2_with (at_builtin; refine wpList_append_own_at _ rfl _ _ 26 rfl W2.heap.size 3 i0 (.int .i64 0) 1 8 Try.underlying26 hi hz0 hz1 hz2 rfl (by decide) (.slice lp1 acc1.length lc1) acc1.length (acc1.map (Value.int .i64)) rfl (HOW1.out.alloc _) ⟨wr.heap.size, 0, none⟩ 1 1 [.int .i64 (-(v : Int))] rfl rfl one_newsC one_cellI (by unfold maxLen; omega) (by omega) (by have := alloc_size wr (.cells #[.int .i64 (-(v : Int))] 3); omega) ?_; intro v5 w5 h1 h2 _ h4; have P5 := hid (ints_push KQ1.out.size HOW1.out h1 h2); have B5 := hid (show BoxAt bq 3 #[.int .i64 (v : Int), .int .i64 (-(v : Int))] w5 from (by (have h5 := BQ1.out; have h6 := h5.facts.2.2; unfold BoxAt at *; rw [(grown_alloc h2).block _ h6 (fun e => HOB1.out _ e.symm rfl)]; exact h5))); have O5 := hid (show ∀ g, v5.ownBlock = some g → g ≠ bq from fun g hg => (own_far h4).elim (fun e => HOB1.out g (e ▸ hg)) fun ⟨g', e, hge⟩ => by (rw [e] at hg; have := Option.some.inj hg; have := BQ1.out.facts.2.2; omega)); clear h1 h2 h4)
                  go_roundg 0
                  case rel => exact ⟨2, acc1 ++ [-(v : Int)], by omega, by go_num, P5.out.1, Below.trans KQ1.out P5.out.2, B5.out, O5.out, .inr (.inr ⟨rfl, by rw [HN.out, HEA.out]⟩)⟩
                  case measure => omega
                · rw [decide_eq_false hmm2] at hlk
                  have HN := hid (show a1 = [] from by rw [HA1.out, if_neg hmm2])
                  clear hmm2
                  go_wp2_with fail
                  go_roundg 0
                  case rel => exact ⟨2, acc1, by omega, by go_num, HOW1.out, KQ1.out, BQ1.out, HOB1.out, .inr (.inr ⟨rfl, by rw [HN.out, HEA.out, List.append_nil]⟩)⟩
                  case measure => omega
              · have hgk : gk = 0 := by omega
                have HEA := hid hea
                clear hea hi2
                have HOW2 := hid (show IntsOwn W2.heap.size (.slice lp1 acc1.length lc1) (accL t (v + 1)) wr by rw [HNX2.out, ← HEA.out]; exact HOW1.out)
                go_wp2_with fail
                go_roundg (n - v)
                case rel => exact ⟨v + 1, by omega, by omega, by go_num, HOW2.out, KQ1.out⟩
                case measure => omega
          · obtain rfl : v = n + 1 := by omega
            have hvI : ¬ ((n + 1 : Nat) : Int) ≤ (n : Int) := by omega
            have HBV := hid (acc_byvar HGT.out HALL.out)
            have hlen : (accL t (n + 1)).length ≤ 1000 := by have := HBV.out.short; omega
            generalize accL t (n + 1) = l at HOW HBV hlen ⊢
            go_wp2_with fail
            refine bodyPost_ret (v := .tuple #[.slice lp l.length lc, .bool true]) ?_ rfl ?_
            · simp [results, Try.results55, go_sem]
            · exact ⟨K2.out.trans KQ.out, .inr ⟨HNF.out, _, l, rfl, HBV.out, HOW.out.numsO.mono (fun _ _ => rfl) fun b hb => ⟨Nat.le_trans K2.out.size (owns_in HOW.out hb).1, (owns_in HOW.out hb).2⟩⟩⟩
end Go.Proofs.Ytbblgmkjgcjcaab
