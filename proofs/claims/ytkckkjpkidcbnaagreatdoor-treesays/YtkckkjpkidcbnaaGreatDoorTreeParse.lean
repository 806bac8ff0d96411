/- The row of packages that tree.Parse puts together. -/
import Derived.Test.YtkckkjpkidcbnaaGreatDoorTreeLine
namespace Go.Proofs.YtkckkjpkidcbnaaGreatDoor
open Go.RowKit

def PkgRow (B : Nat) (v : Value) (acc : List PK) (w : World) : Prop :=
  ∃ csl : List (List Value), csl.length = acc.length ∧ (∀ cs ∈ csl, cs.length = 14) ∧ w.ownsRow B 58 14 v acc.length csl.flatten ∧ ∀ (i : Nat) t cs, acc[i]? = some t → csl[i]? = some cs → PkgIs (fun b => B ≤ b ∧ b < w.heap.size ∧ v.ownBlock ≠ some b) w t cs
theorem PkgRow.nil (B : Nat) (w : World) : PkgRow B (.slice none 0 0) [] w := ⟨[], rfl, by simp, World.ownsRow_nil _ _ _ _, by simp⟩
theorem PkgRow.other {B : Nat} {v : Value} {acc : List PK} {w w' : World} (h : PkgRow B v acc w) (hs : w.heap.size ≤ w'.heap.size) (hb : ∀ b, B ≤ b → b < w.heap.size → w'.heap[b]? = w.heap[b]?) : PkgRow B v acc w' := by
  obtain ⟨csl, h1, h2, ⟨h3, h3'⟩, h4⟩ := h
  refine ⟨csl, h1, h2, ⟨h3, h3'.imp id ?_⟩, fun i t cs hi hc => PkgIs.mono (fun p hp => World.cell?_of_block (w := w) (hb _ hp.1 hp.2.1)) (fun b hb => ⟨hb.1, Nat.lt_of_lt_of_le hb.2.1 hs, hb.2.2⟩) (h4 i t cs hi hc)⟩
  rintro ⟨g, cap, cur, e1, e2, e3, e4⟩
  exact ⟨g, cap, cur, e1, e2, by rw [hb g e2 (Array.getElem?_eq_some_iff.1 e3).1]; exact e3, e4⟩
theorem PkgRow.keep {B : Nat} {v : Value} {acc : List PK} {w w' : World} (h : PkgRow B v acc w) (k : Keep w w') : PkgRow B v acc w' := h.other k.size fun b _ hb => k.block b hb
theorem PkgRow.push {B B' : Nat} {v v' : Value} {acc : List PK} {csl : List (List Value)} {t : PK} {cs : List Value} {w w' : World} {o : Obj} (h1 : csl.length = acc.length) (h2 : ∀ cs ∈ csl, cs.length = 14)
    (h4 : ∀ (i : Nat) t cs, acc[i]? = some t → csl[i]? = some cs → PkgIs (fun b => B ≤ b ∧ b < w.heap.size ∧ v.ownBlock ≠ some b) w t cs)
    (hB : B ≤ B') (hv : ∀ g, v.ownBlock = some g → g < B') (hn : PkgIs (fun b => B' ≤ b ∧ b < w.heap.size) w t cs) (hc : cs.length = 14)
    (h5 : w'.ownsRow B 58 14 v' (acc.length + 1) (csl.flatten ++ cs)) (h6 : (w.alloc o).grownBy w' v.ownBlock) (h7 : v'.ownBlock = v.ownBlock ∨ v'.ownBlock = some (w.alloc o).heap.size) : PkgRow B v' (acc ++ [t]) w' := by
  have e := alloc_size w o
  have hsz : w.heap.size ≤ w'.heap.size := by have := h6.size; omega
  have hcell : ∀ p : Addr, p.block < w.heap.size → v.ownBlock ≠ some p.block → w'.cell? p = w.cell? p := fun p hp hne => by
    rw [World.cell?_of_block (w := w.alloc o) (a := p) (h6.block p.block (by omega) (fun e => hne e.symm))]
    exact (Keep.alloc w o).cell hp
  have hne : ∀ b, b < w.heap.size → v.ownBlock ≠ some b → v'.ownBlock ≠ some b := fun b hb hn => by
    rcases h7 with h7 | h7
    · rw [h7]; exact hn
    · rw [h7]; intro e; have := Option.some.inj e; omega
  refine ⟨csl ++ [cs], by simp [h1], fun x hx => ?_, by simpa using h5, fun i u x hu hx => ?_⟩
  · rcases List.mem_append.1 hx with hx | hx
    · exact h2 x hx
    · rw [List.mem_singleton.1 hx]; exact hc
  · by_cases hi : i < acc.length
    · rw [List.getElem?_append_left hi] at hu
      rw [List.getElem?_append_left (by omega)] at hx
      exact PkgIs.mono (fun p hp => hcell p hp.2.1 hp.2.2) (fun b hb => ⟨hb.1, by omega, hne b hb.2.1 hb.2.2⟩) (h4 i u x hu hx)
    · have hi2 : i = acc.length := by
        have := (List.getElem?_eq_some_iff.1 hu).1
        simp at this; omega
      subst hi2
      rw [List.getElem?_append_right (Nat.le_refl _), Nat.sub_self] at hu
      rw [← h1, List.getElem?_append_right (Nat.le_refl _), Nat.sub_self] at hx
      cases hu; cases hx
      have hvn : ∀ b, B' ≤ b → v.ownBlock ≠ some b := fun b hb e => by have := hv b e; omega
      exact PkgIs.mono (fun p hp => hcell p hp.2 (hvn _ hp.1)) (fun b hb => ⟨by omega, by omega, hne b hb.2 (hvn b hb.1)⟩) hn
theorem flatten_get14 {csl : List (List Value)} (h2 : ∀ cs ∈ csl, cs.length = 14) : ∀ (i : Nat) (cs : List Value), csl[i]? = some cs → ∀ (m : Nat) (v : Value), cs[m]? = some v → csl.flatten[i * 14 + m]? = some v := by
  induction csl with
  | nil => intro i cs h; simp at h
  | cons c r ih =>
    intro i cs h m v hv
    have hc : c.length = 14 := h2 c (by simp)
    cases i with
    | zero =>
      simp at h; subst h
      have hm : m < c.length := (List.getElem?_eq_some_iff.1 hv).1
      rw [List.flatten_cons, Nat.zero_mul, Nat.zero_add, List.getElem?_append_left hm]; exact hv
    | succ i =>
      rw [List.flatten_cons, List.getElem?_append_right (by omega), show (i + 1) * 14 + m - c.length = i * 14 + m by omega]
      exact ih (fun x hx => h2 x (by simp [hx])) i cs (by simpa using h) m v hv
theorem PkgRow.final {B : Nat} {v : Value} {acc : List PK} {w : World} (h : PkgRow B v acc w) : PkgsIs (fun b => B ≤ b ∧ b < w.heap.size) w acc v := by
  obtain ⟨csl, h1, h2, ⟨h3, ⟨rfl, h0⟩ | ⟨g, cap, cur, rfl, e2, e3, e4, e5, e6, e7⟩⟩, h4⟩ := h
  · obtain rfl := List.length_eq_zero_iff.1 h0
    exact Or.inl ⟨rfl, none, 0, rfl⟩
  · have hg := (Array.getElem?_eq_some_iff.1 e3).1
    refine Or.inr ⟨g, 0, cap, rfl, ⟨e2, hg⟩, by unfold maxLen at e5; omega, fun i hi => ?_⟩
    refine ⟨csl[i], fun m u hu => ?_, ?_⟩
    · have hlen : csl[i].length = 14 := h2 _ (List.getElem_mem _)
      have hm : m < 14 := by rw [← hlen]; exact (List.getElem?_eq_some_iff.1 hu).1
      have hf := flatten_get14 h2 i csl[i] (List.getElem?_eq_getElem (by omega)) m u hu
      rw [← e7, List.getElem?_take, if_pos (by omega)] at hf
      simp only [World.cell?, e3, Nat.zero_add]
      simpa using hf
    · exact PkgIs.mono (fun _ _ => rfl) (fun b hb => ⟨hb.1, hb.2.1⟩) (h4 i _ _ (List.getElem?_eq_getElem hi) (List.getElem?_eq_getElem (by omega)))
theorem PkgRow.own {B : Nat} {v : Value} {acc : List PK} {w : World} (h : PkgRow B v acc w) : ∀ g, v.ownBlock = some g → B ≤ g ∧ g < w.heap.size := fun g hg => by
  obtain ⟨csl, -, -, o1, -⟩ := h
  exact owns_lt o1 hg
theorem PkgRow.shape {B : Nat} {v : Value} {acc : List PK} {w : World} (h : PkgRow B v acc w) : ∃ p cap, v = .slice p acc.length cap := by
  obtain ⟨p, cap, h, -⟩ := h.final.len
  exact ⟨p, cap, h⟩
theorem infoPkg : (Tryz.prog.info? 58).map (fun i => (i.zero, i.size, i.bytes)) = some (some (.agg #[.string ⟨#[]⟩, .int .i64 0, .int .i64 0, .slice none 0 0, .int .i64 0, .string ⟨#[]⟩, .int .i64 0, .int .i64 0, .int .i64 0, .string ⟨#[]⟩, .bool false, .string ⟨#[]⟩, .bool false, .slice none 0 0]), 14, 176) := by kernel_rfl
end Go.Proofs.YtkckkjpkidcbnaaGreatDoor
/- tree.Parse answers with the tree that a text says, or with an error and its place, as the document says. -/
namespace Go.Proofs.YtkckkjpkidcbnaaGreatDoor
open Go.RowKit

/-- What Parse answers. -/
def TParsed (l : List UInt8) (w : World) (e : Ending) (w' : World) : Prop :=
  ∃ v, e = .returned (.tuple #[.agg #[v], .int .i64 ((rdT l).2.1 : Nat), .int .i64 (rdT l).1]) ∧ ((rdT l).1 ≠ 0 → v = .slice none 0 0) ∧ PkgsIs (fun b => w.heap.size ≤ b ∧ b < w'.heap.size) w' (rdT l).2.2 v ∧ Keep w w'
theorem rdT_bad {l : List UInt8} {e : Int} {k : Nat} (h0 : ¬ 20000 < l.length) (he : e ≠ 0) (h : rdLs (l.length + 1) l 0 [] = (e, k, [])) : rdT l = (e, k, []) := by
  unfold rdT; rw [if_neg h0, h]; simp [he]
theorem rdT_end {l : List UInt8} {k : Nat} {ps : List PK} (h0 : ¬ 20000 < l.length) (h : rdLs (l.length + 1) l 0 [] = (0, k, ps)) : rdT l = if chkT ps ≠ 0 then (chkT ps, 0, []) else (0, 0, ps) := by
  unfold rdT; rw [if_neg h0, h]; simp

set_option maxHeartbeats 4000000 in
set_option maxRecDepth 100000 in
theorem treeParse_any (s : ByteArray) (w : World) (hE : Env w) (hM : MaxAt w) :
    Calls Tryz.prog 23 #[.string s] w fun e w' => TParsed s.data.toList w e w' := by
  obtain ⟨i0, hi, hz0, hz1, hz2⟩ := info_parts infoPkg
  have hsz := size_list s
  have HE := hid hE
  have HM := hid hM
  have V0 := hid (VarAt.new w 44 (.slice none 0 0))
  have K0 := hid (Keep.alloc w (.cells #[.slice none 0 0] 44))
  clear hE hM
  by_cases hlong : 20000 < s.size
  · have hl' : (20000 : Int) < (s.size : Int) := by omega
    have HX : Hid (rdT s.data.toList = (2, 0, [])) := by show _ = _; unfold rdT; rw [if_pos (by omega)]
    go_enter Tryz.func23, Tryz.ntmps23
    go_wp2_with fail
    refine at_ret (v := .tuple #[.agg #[.slice none 0 0], .int .i64 0, .int .i64 2]) (fun W' => VarAt w.heap.size 44 (.slice none 0 0) W' ∧ Keep w W') ⟨V0.out, K0.out⟩ rfl ?_
    rintro W ⟨hb, hk⟩
    obtain ⟨hcW, -, -⟩ := hb.facts
    refine ⟨by simp [results, Tryz.results23, go_sem, hcW], .slice none 0 0, by rw [HX.out]; rfl, fun _ => rfl, by rw [HX.out]; exact Or.inl ⟨rfl, none, 0, rfl⟩, hk⟩
  · have hl' : ¬ (20000 : Int) < (s.size : Int) := by omega
    have hlong' : ¬ 20000 < s.data.toList.length := by omega
    go_enter Tryz.func23, Tryz.ntmps23
    go_wp2_with fail
    refine at_wp (fun W' => VarAt w.heap.size 44 (.slice none 0 0) W' ∧ Keep w W') ⟨V0.out, K0.out⟩ ?_
    rintro W1 ⟨v1, k1⟩
    have V1 := hid v1
    have K1 := hid k1
    clear v1 k1 V0 K0
    go_loopg [0, 3] (s.size + 1) (fun gk sv av wr => ∃ (l : ByteArray) (k : Nat) (acc : List PK) (tv : Value), sv = .string l ∧ av = .int .i64 k ∧ rdLs (s.data.toList.length + 1) s.data.toList 0 [] = rdLs gk l.data.toList k acc ∧ l.size < gk ∧ k + gk ≤ s.size + 1 ∧ acc.length = k ∧ VarAt w.heap.size 44 tv wr ∧ PkgRow (w.heap.size + 1) tv acc wr ∧ Keep w wr)
    case atStart => exact ⟨s, 0, [], _, rfl, rfl, by rw [hsz], by omega, by omega, rfl, V1.out, PkgRow.nil _ _, K1.out⟩
    case round =>
      obtain ⟨l, k, acc, tv, rfl, rfl, heq, hgk, hk, rfl, hv, hrow, hkp⟩ := hrel
      have HEQ := hid heq
      have HV := hid hv
      have HROW := hid hrow
      have HKP := hid hkp
      have HMW := hid (HM.out.keep hkp)
      have HEW := hid (HE.out.keep hkp)
      clear heq hv hrow hkp V1 K1
      obtain ⟨mk, rfl⟩ : ∃ m, gk = m + 1 := ⟨gk - 1, by omega⟩
      rcases word_is l [] with ⟨h1, h2, h3⟩ | ⟨h1, h2, h3⟩
      · -- all is read
        have HEND : Hid (rdT s.data.toList = if chkT acc ≠ 0 then (chkT acc, 0, []) else (0, 0, acc)) := rdT_end hlong' (k := acc.length) (by rw [HEQ.out, rdLs, if_pos h1])
        obtain ⟨tp, tc, rfl⟩ := HROW.out.shape
        obtain ⟨hcv, hzv, hlv⟩ := HV.out.facts
        have HFIN := hid HROW.out.final
        clear h1
        go_wp2_with fail
        refine (treeCheck_any (fun b => w.heap.size + 1 ≤ b ∧ b < wr.heap.size) acc _ wr (fun _ h => h.2) HFIN.out).mono ?_
        rintro e w2 ⟨rfl, k2⟩
        have K2 := hid (HKP.out.trans k2)
        have V2 := hid (HV.out.keep k2 HV.out.facts.2.2)
        have F2 := hid (HFIN.out.keep (fun _ h => h.2) k2)
        have hs2 : wr.heap.size ≤ w2.heap.size := k2.size
        obtain ⟨hc2, hzz2, hl2⟩ := V2.out.facts
        clear k2 hcv hzv
        generalize hct : chkT acc = ct at HEND ⊢
        by_cases hz : ct = 0
        · subst hz
          have HX : Hid (rdT s.data.toList = (0, 0, acc)) := by show _ = _; rw [HEND.out]; simp
          clear HEND hct
          go_wp2_with fail
          refine at_ret (v := .tuple #[.agg #[.slice tp acc.length tc], .int .i64 0, .int .i64 0]) (fun W' => VarAt w.heap.size 44 (.slice tp acc.length tc) W' ∧ Keep w W' ∧ W'.heap.size = w2.heap.size ∧ ∀ b, b ≠ w.heap.size → W'.heap[b]? = w2.heap[b]?) ⟨V2.out.set _, Below.trans K2.out (below_set _ _ _ _), set_size _ _ _ _, set_other _ _ _ _⟩ rfl ?_
          rintro W ⟨hb, hk', hzW, hoW⟩
          obtain ⟨hcW, -, -⟩ := hb.facts
          refine ⟨by simp [results, Tryz.results23, go_sem, hcW], .slice tp acc.length tc, by rw [HX.out]; rfl, fun h => absurd (by rw [HX.out]) h, ?_, hk'⟩
          rw [HX.out]
          exact PkgsIs.mono (fun p hp => World.cell?_of_block (w := w2) (hoW _ (by have := hp.1; omega))) (fun b hb => ⟨by have := hb.1; omega, by rw [hzW]; have := hb.2; omega⟩) F2.out
        · have HX : Hid (rdT s.data.toList = (ct, 0, [])) := by show _ = _; rw [HEND.out]; simp [hz]
          have hz1' : (ct == 0) = false := by simp [hz]
          have hz2' : (ct != 0) = true := by simp [hz]
          clear HEND hz hct
          go_wp2_with fail
          refine at_ret (v := .tuple #[.agg #[.slice none 0 0], .int .i64 0, .int .i64 ct]) (fun W' => VarAt w.heap.size 44 (.slice none 0 0) W' ∧ Keep w W') ⟨V2.out.set _, Below.trans K2.out (below_set _ _ _ _)⟩ rfl ?_
          rintro W ⟨hb, hk⟩
          obtain ⟨hcW, -, -⟩ := hb.facts
          refine ⟨by simp [results, Tryz.results23, go_sem, hcW], .slice none 0 0, by rw [HX.out]; rfl, fun _ => rfl, by rw [HX.out]; exact Or.inl ⟨rfl, none, 0, rfl⟩, hk⟩
      · obtain ⟨hml, mm, hmm⟩ := HMW.out
        have hlsz := size_list l
        go_wp2_with fail
        refine (Tryz.strings_Cut l ⟨#[10]⟩ mm wr (by omega) hmm).mono ?_
        rintro e w2 ⟨rfl, nq, hw2⟩
        have k2 : Keep wr w2 := by rw [hw2]; exact Keep.drewN (Keep.refl _) _
        have K2' := hid k2
        have K2 := hid (HKP.out.trans k2)
        have V2 := hid (HV.out.keep k2 HV.out.facts.2.2)
        have ROW2 := hid (HROW.out.keep k2)
        have HST : Hid (rdLs (s.data.toList.length + 1) s.data.toList 0 [] = if (Lib.cut l.data.toList [10]).2.2 = false then (1, acc.length, []) else if lineE (Lib.cut l.data.toList [10]).1 ≠ 0 then (lineE (Lib.cut l.data.toList [10]).1, acc.length, []) else rdLs mk (Lib.cut l.data.toList [10]).2.1 (acc.length + 1) (acc ++ [lineP (Lib.cut l.data.toList [10]).1])) := by
          show _ = _; rw [HEQ.out, rdLs, if_neg h1]
        have hback : (Lib.cut l.data.toList [10]).2.2 = true → l.data.toList = (Lib.cut l.data.toList [10]).1 ++ 10 :: (Lib.cut l.data.toList [10]).2.1 := fun h => (gcut_back 10 (show Lib.cut l.data.toList [10] = ((Lib.cut l.data.toList [10]).1, (Lib.cut l.data.toList [10]).2.1, true) by rw [← h])).1
        clear hw2 k2 hmm h1 hml
        rw [show (ByteArray.mk #[10]).data.toList = [10] from rfl]
        generalize Lib.cut l.data.toList [10] = ct at HST hback ⊢
        obtain ⟨x, r, b⟩ := ct
        simp only at HST hback ⊢
        obtain ⟨hc2, hzz2, hl2⟩ := V2.out.facts
        cases b
        · have HX : Hid (rdT s.data.toList = (1, acc.length, [])) := rdT_bad hlong' (by decide) (by rw [HST.out]; simp)
          go_wp2_with fail
          refine at_ret (v := .tuple #[.agg #[.slice none 0 0], .int .i64 acc.length, .int .i64 1]) (fun W' => VarAt w.heap.size 44 (.slice none 0 0) W' ∧ Keep w W') ⟨V2.out.set _, Below.trans K2.out (below_set _ _ _ _)⟩ rfl ?_
          rintro W ⟨hb, hk⟩
          obtain ⟨hcW, -, -⟩ := hb.facts
          refine ⟨by simp [results, Tryz.results23, go_sem, hcW], .slice none 0 0, by rw [HX.out], fun _ => rfl, by rw [HX.out]; exact Or.inl ⟨rfl, none, 0, rfl⟩, hk⟩
        · have hbl := congrArg List.length (hback rfl)
          simp only [List.length_append, List.length_cons] at hbl
          have hxs : (⟨x.toArray⟩ : ByteArray).size = x.length := by rw [← size_list]
          clear hback hc2 hzz2
          go_wp2_with fail
          refine (readLine_any ⟨x.toArray⟩ w2 (HE.out.keep K2.out) (HM.out.keep K2.out) (by omega)).mono ?_
          rintro e w3 ⟨cs, rfl, hgood, hbad, k3⟩
          have hxd : (⟨x.toArray⟩ : ByteArray).data.toList = x := by simp
          rw [hxd] at hgood hbad ⊢
          have K3 := hid (K2.out.trans k3)
          have V3 := hid (V2.out.keep k3 V2.out.facts.2.2)
          have ROW3 := hid (ROW2.out.keep k3)
          have hs23 : w2.heap.size ≤ w3.heap.size := k3.size
          have hsr2 : wr.heap.size ≤ w2.heap.size := K2'.out.size
          have V2L : Hid (w.heap.size + 1 ≤ w2.heap.size) := V2.out.facts.2.2
          clear k3 V2 ROW2
          generalize hle : lineE x = le at HST hgood hbad ⊢
          by_cases hz : le = 0
          · subst hz
            have HS2 : Hid (rdLs (s.data.toList.length + 1) s.data.toList 0 [] = rdLs mk r (acc.length + 1) (acc ++ [lineP x])) := by show _ = _; rw [HST.out]; simp
            have hpk := hgood rfl
            have HPK := hid hpk
            obtain ⟨kk, a, fl, nt, kids, kp, fp, kc, fc, -, -, rfl, -, -⟩ := hpk.spelt
            generalize lineP x = pk at HS2 HPK
            clear hpk hgood hbad HST hle
            rcases pk with ⟨n, v, sl, fs, nd⟩
            go_upto_region 10 with fail
            refine at_wp (fun W' => VarAt w.heap.size 44 tv W' ∧ Keep w W' ∧ Keep w3 W' ∧ PBox w3.heap.size #[.string n, .int .i64 v, .int .i64 sl, .slice fp fs.length fc, .int .i64 kk, .string a.n, .int .i64 a.op, .int .i64 a.v, .int .i64 a.sl, .string a.f, .bool a.on, .string fl, .bool nt, .slice kp kids.length kc] W' ∧ PkgRow (w.heap.size + 1) tv acc W') ⟨V3.out.keep (Keep.alloc _ _) V3.out.facts.2.2, K3.out.alloc' _, Keep.alloc _ _, PBox.new _ _, ROW3.out.keep (Keep.alloc _ _)⟩ ?_
            rintro W4 ⟨v4, k4, k34, b4, row4⟩
            have V4 := hid v4
            have K4 := hid k4
            have ROW4 := hid row4
            have HOWN := hid HROW.out.own
            have P4 : Hid (PkgIs (fun b => w2.heap.size ≤ b ∧ b < W4.heap.size) W4 ⟨n, v, sl, fs, nd⟩ [.string n, .int .i64 v, .int .i64 sl, .slice fp fs.length fc, .int .i64 kk, .string a.n, .int .i64 a.op, .int .i64 a.v, .int .i64 a.sl, .string a.f, .bool a.on, .string fl, .bool nt, .slice kp kids.length kc]) := PkgIs.mono (fun p hp => k34.cell (p := p) hp.2) (fun b hb => ⟨hb.1, Nat.lt_of_lt_of_le hb.2 k34.size⟩) HPK.out
            obtain ⟨hc4, hz4, hl4⟩ := v4.facts
            obtain ⟨hcb, hzb, hlb⟩ := b4.facts
            obtain ⟨csl, c1, c2, c3, c4⟩ := row4
            have HC3 := hid c3
            have HC4 := hid c4
            have hlw2 : w.heap.size + 1 ≤ w2.heap.size := V2L.out
            clear v4 k4 k34 b4 c3 c4 HPK V3 K3 ROW3
            go_wp2_with (at_builtin; refine wpList_append_own_at _ rfl _ _ 42 rfl (w.heap.size + 1) 58 i0 (.agg #[.string ⟨#[]⟩, .int .i64 0, .int .i64 0, .slice none 0 0, .int .i64 0, .string ⟨#[]⟩, .int .i64 0, .int .i64 0, .int .i64 0, .string ⟨#[]⟩, .bool false, .string ⟨#[]⟩, .bool false, .slice none 0 0]) 14 176 Tryz.underlying42 hi hz0 hz1 hz2 rfl (by decide) tv acc.length csl.flatten rfl (HC3.out.alloc _) ⟨W4.heap.size, 0, none⟩ 1 1 [.string n, .int .i64 v, .int .i64 sl, .slice fp fs.length fc, .int .i64 kk, .string a.n, .int .i64 a.op, .int .i64 a.v, .int .i64 a.sl, .string a.f, .bool a.on, .string fl, .bool nt, .slice kp kids.length kc] rfl rfl many_news (by intro u hu; simp at hu; rcases hu with rfl | rfl | rfl | rfl | rfl | rfl | rfl | rfl | rfl | rfl | rfl | rfl | rfl | rfl <;> rfl) (by unfold maxLen; omega) (by omega) (by have := alloc_size W4 (.cells #[.string n, .int .i64 v, .int .i64 sl, .slice fp fs.length fc, .int .i64 kk, .string a.n, .int .i64 a.op, .int .i64 a.v, .int .i64 a.sl, .string a.f, .bool a.on, .string fl, .bool nt, .slice kp kids.length kc] 58); omega) ?_)
            intro v5 w5 h1 h2 _ h4
            obtain ⟨g5, cap5, rfl⟩ := owns_shape h1 (Nat.succ_pos _)
            have hne5 : tv.ownBlock ≠ some w.heap.size := fun e => by have := HOWN.out _ e; omega
            have V5 := hid (V4.out.grown h2 hne5)
            have row5 := hid (PkgRow.push (B' := w2.heap.size) c1 c2 HC4.out (by omega) (fun g' hg' => by have := (HOWN.out g' hg').2; omega) P4.out rfl (by simpa using h1) h2 (by rw [alloc_size]; exact h4))
            have L5 : Below (w.heap.size + 1) W4 w5 := ((Below.refl _ W4).alloc (by omega) _).grown h2 (by have := alloc_size W4 (.cells #[.string n, .int .i64 v, .int .i64 sl, .slice fp fs.length fc, .int .i64 kk, .string a.n, .int .i64 a.op, .int .i64 a.v, .int .i64 a.sl, .string a.f, .bool a.on, .string fl, .bool nt, .slice kp kids.length kc] 58); omega) (fun g' hg' => (HOWN.out g' hg').1)
            have K5 : Hid (Keep w w5) := Below.trans K4.out (L5.mono (by omega))
            obtain ⟨hc5, hz5, hl5⟩ := V5.out.facts
            clear h1 h2 h4 L5 hc4 hz4 hcb hzb hne5 HC3 HC4
            have V6 := hid (V5.out.set (.slice (some ⟨g5, 0, none⟩) (acc.length + 1) cap5))
            have K6 : Hid (Keep w (w5.setCell ⟨w.heap.size, 0, none⟩ (.slice (some ⟨g5, 0, none⟩) (acc.length + 1) cap5))) := Below.trans K5.out (below_set _ _ _ _)
            have ROW6 := hid (row5.out.other (w' := w5.setCell ⟨w.heap.size, 0, none⟩ (.slice (some ⟨g5, 0, none⟩) (acc.length + 1) cap5)) (by rw [set_size]; exact Nat.le_refl _) (fun b hb _ => set_other w5 w.heap.size 0 _ b (by omega)))
            have hrs : (⟨r.toArray⟩ : ByteArray).size = r.length := by rw [← size_list]
            go_wp2_with fail
            go_roundg mk
            case measure => omega
            case rel => exact ⟨⟨r.toArray⟩, (acc ++ [(⟨n, v, sl, fs, nd⟩ : PK)]).length, acc ++ [⟨n, v, sl, fs, nd⟩], _, rfl, by rw [List.length_append]; go_num, by rw [List.length_append]; exact HS2.out, by omega, by rw [List.length_append]; simp; omega, rfl, V6.out, ROW6.out, K6.out⟩
          · have HX : Hid (rdT s.data.toList = (le, acc.length, [])) := rdT_bad hlong' hz (by rw [HST.out]; simp [hz])
            have hz1' : (le == 0) = false := by simp [hz]
            have hz2' : (le != 0) = true := by simp [hz]
            obtain rfl := hbad hz
            clear hz hgood hbad HST hle
            unfold zeroP
            go_upto_region 9 with fail
            refine at_wp (fun W' => VarAt w.heap.size 44 tv W' ∧ Keep w W') ⟨V3.out.keep (Keep.alloc _ _) V3.out.facts.2.2, K3.out.alloc' _⟩ ?_
            rintro W4 ⟨v4, k4⟩
            have V4 := hid v4
            have K4 := hid k4
            obtain ⟨hc4, hz4, hl4⟩ := v4.facts
            clear v4 k4
            go_wp2_with fail
            refine at_ret (v := .tuple #[.agg #[.slice none 0 0], .int .i64 acc.length, .int .i64 le]) (fun W' => VarAt w.heap.size 44 (.slice none 0 0) W' ∧ Keep w W') ⟨V4.out.set _, Below.trans K4.out (below_set _ _ _ _)⟩ rfl ?_
            rintro W ⟨hb, hk⟩
            obtain ⟨hcW, -, -⟩ := hb.facts
            refine ⟨by simp [results, Tryz.results23, go_sem, hcW], .slice none 0 0, by rw [HX.out], fun _ => rfl, by rw [HX.out]; exact Or.inl ⟨rfl, none, 0, rfl⟩, hk⟩
end Go.Proofs.YtkckkjpkidcbnaaGreatDoor
