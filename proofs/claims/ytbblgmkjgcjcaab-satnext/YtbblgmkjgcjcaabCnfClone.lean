/- slices.Clone of numbers and of clauses: a row of the call's own. -/
import Derived.Test.YtbblgmkjgcjcaabCnfLaw
import Derived.Lib.SliceRun
namespace Go.Proofs.Ytbblgmkjgcjcaab
open Go.RowKit Go.Lib

theorem cls_vals {S : Nat → Prop} {w : World} {F : List (List Int)} {ad : Addr} {n cap : Nat} (h : ClsIs S w F (.slice (some ad) n cap)) (hS : ∀ b, S b → b < w.heap.size) : ∃ vs : List Value, vs.length = F.length ∧ (∀ (i : Nat) c x, F[i]? = some c → vs[i]? = some x → NumsIs S w c x) ∧ (∀ u ∈ vs, u.oneCell' = true) ∧ ∀ (o : Obj) j u, vs[j]? = some u → (w.alloc o).cell? (ad.add j) = some u := by
  rcases h with ⟨rfl, p, cap', e⟩ | ⟨b, off, cap', e, hb, -, hc⟩
  · exact ⟨[], rfl, by simp, by simp, by simp⟩
  · cases e
    have hex : ∀ j : Nat, ∃ cv : Value, ∀ c, F[j]? = some c → w.cell? ⟨b, off + j, none⟩ = some cv ∧ NumsIs S w c cv := fun j => by
      cases e : F[j]? with
      | none => exact ⟨.bool false, by simp⟩
      | some c =>
        obtain ⟨cv, h1, h2⟩ := hc j c e
        exact ⟨cv, fun c' hc' => by cases hc'; exact ⟨h1, h2⟩⟩
    have hch := Classical.axiomOfChoice hex
    obtain ⟨f, hf⟩ := hch
    refine ⟨(List.range F.length).map f, by simp, fun i c x hc' hx => ?_, fun u hu => ?_, fun o j u hu => ?_⟩
    · have hi : i < F.length := (List.getElem?_eq_some_iff.1 hc').1
      have : f i = x := by simpa [hi] using hx
      rw [← this]; exact (hf i c hc').2
    · obtain ⟨j, hj, rfl⟩ := List.mem_map.1 hu
      have hj' : j < F.length := by simpa using hj
      obtain ⟨p, cp, h1, -⟩ := ((hf j _ (List.getElem?_eq_getElem hj')).2).shape
      rw [h1]; rfl
    · have hj : j < F.length := by have := (List.getElem?_eq_some_iff.1 hu).1; simpa using this
      have : f j = u := by simpa [hj] using hu
      rw [Addr.add_mid, ← this]
      exact ((Keep.alloc w o).cell (p := ⟨b, off + j, none⟩) (hS b hb.1)).trans (hf j _ (List.getElem?_eq_getElem hj)).1
set_option maxHeartbeats 1000000 in
theorem cloneC_any (S : Nat → Prop) (zs : List (List Int)) (p : Option Addr) (cap : Nat) (w : World) (hS : ∀ b, S b → b < w.heap.size) (hz : ClsIs S w zs (.slice p zs.length cap)) (hb : zs.length * 24 ≤ 140737488355328) :
    Calls Try.prog 21 #[.slice p zs.length cap] w fun e w' => ∃ v, e = .returned v ∧ CRow w.heap.size S v zs w' ∧ Keep w w' := by
  obtain ⟨i0, hi, hz0, hz1, hz2⟩ := info_parts infoCl
  have q22 : ∀ (w : World) (a : Option Addr) (n c n' c' : Nat), (binOp .eql 22 (.slice a n c) (.slice none n' c')).run Try.prog w = .ok (.bool a.isNone) w := fun w a n c n' c' => Lib.run_eql_slice_nil w _ _ a n c n' c' Try.underlying22
  have HZ := hid hz
  cases p with
  | none =>
    have h0 : zs = [] := by
      rcases hz with ⟨h, -⟩ | ⟨b, off, cap', h, -⟩
      · exact h
      · cases h
    subst h0
    clear hz
    go_enter Try.func21, Try.ntmps21
    go_wp2_with fail
    go_ret
    exact ⟨_, rfl, CRow.nil _ _ _, Keep.refl _⟩
  | some ad =>
    obtain ⟨vs, hvl, hvn, hvo, hvc⟩ := cls_vals hz hS
    have HVL := hid hvl
    have HNW := hid (hvc (.cells #[] 38))
    have HONE := hid hvo
    have HVN := hid hvn
    clear hvl hvn hvo hvc
    clear hz
    go_enter Try.func21, Try.ntmps21
    go_wp2_with (at_builtin; refine wpList_append_own_at _ rfl _ _ 22 rfl w.heap.size 38 i0 (.slice none 0 0) 1 24 Try.underlying22 hi hz0 hz1 hz2 rfl (by decide) (.slice (some ⟨w.heap.size, 0, none⟩) 0 0) 0 [] rfl (World.ownsRow_made w #[] 0 (Nat.le_refl _) (Nat.zero_le _) rfl) ad zs.length cap vs rfl (by rw [HVL.out, Nat.mul_one]) HNW.out HONE.out (by unfold maxLen; omega) (by omega) (by rw [alloc_size]; omega) ?_; intro v5 w5 h1 h2 _ _)
    have k5 : Keep w w5 := Below.grown ((Below.refl w.heap.size w).alloc (Nat.le_refl _) _) h2 (by rw [alloc_size]; omega) (fun g hg => by cases hg; exact Nat.le_refl _)
    go_ret
    refine ⟨_, rfl, ?_, k5⟩
    rw [Nat.zero_add, List.nil_append] at h1
    exact ⟨vs, HVL.out, h1, fun i c x hc hx => (HVN.out i c x hc hx).keep hS k5⟩
end Go.Proofs.Ytbblgmkjgcjcaab
