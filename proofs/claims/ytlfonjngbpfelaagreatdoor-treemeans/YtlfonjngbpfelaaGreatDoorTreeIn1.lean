/- What an atom means, as plain lists: it rises; asked for less it means no less; of a name's packages each is meant by just one of two atoms that part them. -/
import Derived.Test.YtlfonjngbpfelaaGreatDoorTreeMeant
namespace Go.Proofs.YtlfonjngbpfelaaGreatDoor

theorem mem_meansL {ps : List PK} {a : At} {x : Int} : ∀ {n : Nat}, x ∈ meansL ps a n ↔ ∃ k : Nat, k < n ∧ x = k ∧ meantB (ps.getD k PK.zero) a = true
  | 0 => by simp [meansL]
  | n + 1 => by
    rw [meansL, List.mem_append, mem_meansL (n := n)]
    constructor
    · rintro (⟨k, h1, h2, h3⟩ | h)
      · exact ⟨k, by omega, h2, h3⟩
      · split at h
        · rename_i hm; exact ⟨n, by omega, List.mem_singleton.1 h, hm⟩
        · cases h
    · rintro ⟨k, h1, h2, h3⟩
      by_cases hk : k = n
      · subst hk
        right
        rw [if_pos h3]; simp [h2]
      · exact Or.inl ⟨k, by omega, h2, h3⟩
theorem meansL_rises (ps : List PK) (a : At) : ∀ n : Nat, (meansL ps a n).Pairwise (· < ·)
  | 0 => by simp [meansL]
  | n + 1 => by
    rw [meansL, List.pairwise_append]
    refine ⟨meansL_rises ps a n, ?_, fun x hx y hy => ?_⟩
    · split <;> simp
    · obtain ⟨k, h1, h2, -⟩ := mem_meansL.1 hx
      split at hy
      · have := List.mem_singleton.1 hy
        omega
      · cases hy
theorem meansL_sub {ps : List PK} {a b : At} (h : ∀ p, meantB p a = true → meantB p b = true) {n : Nat} : ∀ x ∈ meansL ps a n, x ∈ meansL ps b n := fun x hx => by
  obtain ⟨k, h1, h2, h3⟩ := mem_meansL.1 hx
  exact mem_meansL.2 ⟨k, h1, h2, h _ h3⟩
/-- The atom of a name alone, of version 2 or newer, of an older one. -/
def aBare (n : ByteArray) : At := ⟨n, 0, 0, 0, ⟨#[]⟩, false⟩
def aLeast (n : ByteArray) : At := ⟨n, 2, 2, 0, ⟨#[]⟩, false⟩
def aBelow (n : ByteArray) : At := ⟨n, 3, 2, 0, ⟨#[]⟩, false⟩
theorem meant_bare (p : PK) (n : ByteArray) : meantB p (aBare n) = (p.n.toList == n.toList) := by
  unfold meantB aBare
  simp [fitB]
theorem meant_least (p : PK) (n : ByteArray) : meantB p (aLeast n) = ((p.n.toList == n.toList) && decide (2 ≤ p.v)) := by
  unfold meantB aLeast
  simp [fitB]
theorem meant_below (p : PK) (n : ByteArray) : meantB p (aBelow n) = ((p.n.toList == n.toList) && decide (p.v < 2)) := by
  unfold meantB aBelow
  simp [fitB]
theorem meant_less {p : PK} {a : At} (h : meantB p a = true) : meantB p (aBare a.n) = true := by
  rw [meant_bare]
  unfold meantB at h
  simp only [Bool.and_eq_true] at h
  exact h.1
theorem parts_perm (ps : List PK) (m : ByteArray) : ∀ n : Nat, (meansL ps (aLeast m) n ++ meansL ps (aBelow m) n).Perm (meansL ps (aBare m) n)
  | 0 => by simp [meansL]
  | n + 1 => by
    have ih := parts_perm ps m n
    rw [meansL, meansL, meansL, meant_bare, meant_least, meant_below]
    generalize meansL ps (aLeast m) n = x at ih
    generalize meansL ps (aBelow m) n = y at ih
    generalize meansL ps (aBare m) n = z at ih
    cases hn : ((ps.getD n PK.zero).n.toList == m.toList)
    · simpa using ih
    · by_cases hv : 2 ≤ (ps.getD n PK.zero).v
      · have hv' : ¬ (ps.getD n PK.zero).v < 2 := by omega
        simp only [Bool.true_and, decide_eq_true hv, decide_eq_false hv', if_true, Bool.false_eq_true, if_false, List.append_nil]
        have h1 : (x ++ [(n : Int)] ++ y).Perm (x ++ y ++ [(n : Int)]) := by
          rw [List.append_assoc, List.append_assoc]
          exact List.Perm.append_left x List.perm_append_comm
        exact h1.trans (ih.append_right _)
      · have hv' : (ps.getD n PK.zero).v < 2 := by omega
        simp only [Bool.true_and, decide_eq_true hv', decide_eq_false hv, if_true, Bool.false_eq_true, if_false, List.append_nil]
        rw [← List.append_assoc]
        exact ih.append_right _
theorem chk_bare {a : At} (h : chkA a = 0) : chkA (aBare a.n) = 0 ∧ chkA (aLeast a.n) = 0 ∧ chkA (aBelow a.n) = 0 := by
  have hn : nameB a.n.data.toList = true := by
    unfold chkA chk at h
    split at h
    · cases h
    · rename_i hh
      cases hq : nameB a.n.data.toList
      · exact absurd (Or.inl hq) hh
      · rfl
  refine ⟨?_, ?_, ?_⟩ <;> simp [chkA, chk, aBare, aLeast, aBelow, hn, verB]
end Go.Proofs.YtlfonjngbpfelaaGreatDoor
/- Whether all numbers of one row lie in another: slices.Contains, slices.ContainsFunc and the law's own closure over them. -/
namespace Go.Proofs.YtlfonjngbpfelaaGreatDoor
open Go.RowKit Go.Lib

theorem IntsAt.getD {v : Value} {zs : List Int} {w : World} (h : IntsAt v zs w) (hn : 0 < zs.length) : ∃ g cap, v = .slice (some ⟨g, 0, none⟩) zs.length cap ∧ g < w.heap.size ∧ (∀ j, j < zs.length → w.cell? ⟨g, 0 + j, none⟩ = some (.int .i64 (zs.getD j 0))) := by
  rcases h with ⟨rfl, -⟩ | ⟨g, cap, h1, h2, h3⟩
  · exact absurd hn (Nat.not_lt_zero _)
  · refine ⟨g, cap, h1, h2, fun j hj => ?_⟩
    rw [Nat.zero_add, List.getD_eq_getElem?_getD, List.getElem?_eq_getElem hj, Option.getD_some]
    exact h3 j _ (List.getElem?_eq_getElem hj)
theorem containsI_any (v : Value) (zs : List Int) (x : Int) (w : World) (h : IntsAt v zs w) (hl : zs.length ≤ 1000) :
    Calls Tryz.prog 42 #[v, .int .i64 x] w fun e w' => e = .returned (.bool (zs.contains x)) ∧ w' = w := by
  by_cases h0 : zs = []
  · obtain ⟨p, c, rfl⟩ := h.len
    subst h0
    refine (Tryz.slices_Contains_int_empty p c x w).mono ?_
    rintro e w' ⟨rfl, rfl⟩
    exact ⟨rfl, rfl⟩
  · obtain ⟨g, cap, rfl, -, hc⟩ := h.getD (List.length_pos_iff.2 h0)
    refine (Tryz.slices_Contains_int g 0 zs.length cap zs x w (Nat.le_refl _) (by omega) hc).mono ?_
    rintro e w' ⟨rfl, rfl⟩
    exact ⟨ret_bool (by rw [List.take_length]), rfl⟩

set_option maxHeartbeats 1000000 in
theorem in11_any (c : Nat) (v : Value) (ms : List Int) (k : Int) (w : World) (hv : VarAt c 49 v w) (hm : IntsAt v ms w) (hl : ms.length ≤ 1000) :
    Calls Tryz.prog 41 #[.int .i64 k, .pointer (some ⟨c, 0, none⟩)] w fun e w' => e = .returned (.bool (!ms.contains k)) ∧ w' = w := by
  obtain ⟨p, cap, rfl⟩ := hm.len
  obtain ⟨hc, -, hcl⟩ := hv.facts
  go_enter Tryz.func41, Tryz.ntmps41
  go_wp2_with fail
  refine (containsI_any _ ms k w hm hl).mono ?_
  rintro e w1 ⟨rfl, hw⟩
  rw [hw]
  clear hw
  go_wp2_with fail
  go_ret
  exact ⟨ret_bool (by simp), rfl⟩
theorem enter_in11 (args : Array Value) (w : World) : (callFunc 41 args).run Tryz.prog w = .ok (.enter 41 args) w := enters_of Tryz.func41 (by kernel_rfl) rfl args w
theorem drewN_add (w : World) (a b : Nat) : (w.drewN a).drewN b = w.drewN (a + b) := by
  unfold World.drewN; simp [Nat.add_assoc]
theorem outside_any (c : Nat) (v lv : Value) (ms ls : List Int) (w : World) (hv : VarAt c 49 v w) (hm : IntsAt v ms w) (hl : IntsAt lv ls w) (hml : ms.length ≤ 1000) (hll : ls.length ≤ 1000) :
    Calls Tryz.prog 40 #[lv, .func (.func 41) #[] #[.pointer (some ⟨c, 0, none⟩)]] w fun e w' => e = .returned (.bool (ls.any fun k => !ms.contains k)) ∧ ∃ q, w' = w.drewN q := by
  by_cases h0 : ls = []
  · obtain ⟨p, cp, rfl⟩ := hl.len
    subst h0
    refine (Tryz.slices_ContainsFunc_empty (α := Int) p cp _ w).mono ?_
    rintro e w' ⟨rfl, rfl⟩
    exact ⟨rfl, 0, rfl⟩
  · obtain ⟨g, cap, rfl, -, hc⟩ := hl.getD (List.length_pos_iff.2 h0)
    refine (Tryz.slices_ContainsFunc (Value.int .i64) (fun k => !ms.contains k) _ _ enter_in11 g 0 ls.length cap ls w ?_ (Nat.le_refl _) (by omega) ?_).mono ?_
    · intro W x hb
      have c := in11_any c v ms x W (hv.keep hb hv.facts.2.2) (hm.keep hb) hml
      refine Calls.mono c ?_
      rintro e w' ⟨rfl, rfl⟩
      exact ⟨rfl, 0, rfl⟩
    · intro j hj
      rw [hc j hj, getElem!_pos ls j hj, List.getD_eq_getElem?_getD, List.getElem?_eq_getElem hj, Option.getD_some]
    · rintro e w' ⟨rfl, q, rfl⟩
      exact ⟨ret_bool (by rw [List.take_length]), q, rfl⟩
end Go.Proofs.YtlfonjngbpfelaaGreatDoor
/- The law's own closure: what an atom means, and whether all numbers of a row are in it. -/
namespace Go.Proofs.YtlfonjngbpfelaaGreatDoor
open Go.RowKit Go.Lib

set_option maxHeartbeats 2000000 in
set_option maxRecDepth 100000 in
theorem in1_any (S : Nat → Prop) (ps : List PK) (tv lv : Value) (ls : List Int) (ct cl : Nat) (an af : ByteArray) (aop av asl : Int) (aon : Bool) (w : World) (hS : ∀ b, S b → b < w.heap.size) (hp : PkgsIs S w ps tv) (hct : VarAt ct 44 tv w) (hcl : VarAt cl 49 lv w) (hl : IntsAt lv ls w) (hll : ls.length ≤ 1000)
    (hE : meansE ps ⟨an, aop, av, asl, af, aon⟩ = 0) :
    Calls Tryz.prog 39 #[.agg #[.string an, .int .i64 aop, .int .i64 av, .int .i64 asl, .string af, .bool aon], .pointer (some ⟨ct, 0, none⟩), .pointer (some ⟨cl, 0, none⟩)] w
      fun e w' => ∃ v, e = .returned (.tuple #[v, .bool (!(ls.any fun k => !(meansL ps ⟨an, aop, av, asl, af, aon⟩ ps.length).contains k))]) ∧ IntsAt v (meansL ps ⟨an, aop, av, asl, af, aon⟩ ps.length) w' ∧ Keep w w' := by
  have HP := hid hp
  have HL := hid hl
  have HCT := hid hct
  have HCL := hid hcl
  have HE := hid hE
  have h8 : (meansL ps ⟨an, aop, av, asl, af, aon⟩ ps.length).length ≤ 1000 := by
    have h1 := meansL_len ps ⟨an, aop, av, asl, af, aon⟩ ps.length
    have h2 : chkT ps = 0 := by
      unfold meansE at hE
      split at hE
      · rename_i hne; exact absurd hE hne
      · rename_i hne; exact Decidable.of_not_not hne
    have h3 := (chkT_get h2).1
    omega
  obtain ⟨tp, tc, rfl, hlen⟩ := hp.len
  obtain ⟨lp, lc, rfl⟩ := hl.len
  obtain ⟨ht0, -, htl⟩ := hct.facts
  clear hp hl hct hcl hE
  go_enter Tryz.func39, Tryz.ntmps39
  go_wp2_with fail
  refine at_calls (fun W' => Keep w W') (Keep.alloc _ _) ?_
  intro W0 k0
  refine (means_any S ps _ an af aop av asl aon W0 (fun b hb => Nat.lt_of_lt_of_le (hS b hb) k0.size) (HP.out.keep hS k0)).mono ?_
  rintro e w1 ⟨v1, rfl, -, hi1, k1⟩
  rw [HE.out]
  have I1 := hid (hi1 HE.out)
  have K1 := hid (k0.trans k1)
  clear k0 k1 hi1 ht0
  generalize hms : meansL ps ⟨an, aop, av, asl, af, aon⟩ ps.length = ms at h8 I1
  have HMS := hid hms
  clear hms
  obtain ⟨vp, vc, rfl⟩ := I1.out.len
  go_upto_region 2 with fail
  refine at_wp (fun W' => Keep w W' ∧ VarAt w1.heap.size 49 (.slice vp ms.length vc) W' ∧ IntsAt (.slice vp ms.length vc) ms W') ⟨K1.out.alloc' _, VarAt.new _ _ _, I1.out.keep (Keep.alloc _ _)⟩ ?_
  rintro W2 ⟨k2, v2, i2⟩
  have K2 := hid k2
  have I2 := hid i2
  have hdr : ∀ n, Keep W2 (W2.drewN n) := fun n => Keep.drewN (Keep.refl _) _
  have hq := hid (show ∀ n, Calls Tryz.prog 40 #[.slice lp ls.length lc, .func (.func 41) #[] #[.pointer (some ⟨w1.heap.size, 0, none⟩)]] (W2.drewN n) fun e w'' => e = .returned (.bool (ls.any fun k => !ms.contains k)) ∧ ∃ n', w'' = W2.drewN n' from fun n => by
    refine (outside_any w1.heap.size _ _ ms ls (W2.drewN n) (v2.keep (hdr n) v2.facts.2.2) (i2.keep (hdr n)) (HL.out.keep (k2.trans (hdr n))) h8 hll).mono ?_
    rintro e w' ⟨rfl, q, rfl⟩
    exact ⟨rfl, n + q, drewN_add _ _ _⟩)
  obtain ⟨hc2, -, hl2⟩ := v2.facts
  obtain ⟨hc3, -, hl3⟩ := (HCL.out.keep k2 HCL.out.facts.2.2).facts
  have hmf : ∀ (fn : Fn) (first cap : Array Value) (w : World), (Instr.makeFunc fn first cap).run Tryz.prog w = .ok (.func fn first cap) w := fun _ _ _ _ => rfl
  generalize hβ : (ls.any fun k => !ms.contains k) = β at hq
  have Hβ := hid hβ
  clear k2 v2 i2 hdr hβ
  go_quiet ((go_at_call 40; exact hq.out _))
  have k3 : Keep W2 (W2.drewN nq) := Keep.drewN (Keep.refl _) _
  have I3 := hid (I2.out.keep k3)
  have K3 := hid (K2.out.trans k3)
  generalize W2.drewN nq = W3 at I3 K3
  clear k3
  go_wp2_with fail
  go_ret2
  exact ⟨.slice vp ms.length vc, by rw [HMS.out, Hβ.out]; rfl, by rw [HMS.out]; exact I3.out, K3.out⟩
end Go.Proofs.YtlfonjngbpfelaaGreatDoor
