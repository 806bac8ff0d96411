/- slices.Concat of two rows of clauses: a row of the call's own. -/
import Derived.Test.YtenojmfdghdenabCnfClone
import Derived.Shelf.Spec.SlicesGrow
import Derived.Laws.AppendOwnNone
namespace Go.Proofs.Ytenojmfdghdenab
open Go.RowKit Go.Lib

def growRen : Go.Shelf.Ren := ⟨fun | 4 => 44 | n => n, fun | 0 => 0 | 3 => 3 | 4 => 4 | 9 => 9 | 20 => 20 | 22 => 22 | 25 => 38 | n => n, fun | n => n⟩
theorem growLays : Go.Proofs.Lays8.n4 Try.prog growRen where
  mixed := by kernel_rfl
  f4 := ⟨ "slices.Grow[[]quartermaster/api.Clause,quartermaster/api.Clause]", by decide, Try.func44.trans (congrArg some (by kernel_rfl))⟩
  t0 := Try.underlying0
  a0 := Try.isAgg0
  z0 := Try.sizeOf0
  v0 := Try.zeroValue0
  t3 := Try.underlying3
  a3 := Try.isAgg3
  z3 := Try.sizeOf3
  v3 := Try.zeroValue3
  t4 := Try.underlying4
  a4 := Try.isAgg4
  z4 := Try.sizeOf4
  v4 := Try.zeroValue4
  t9 := Try.underlying9
  a9 := Try.isAgg9
  z9 := Try.sizeOf9
  v9 := Try.zeroValue9
  t20 := Try.underlying20
  a20 := Try.isAgg20
  z20 := Try.sizeOf20
  v20 := Try.zeroValue20
  t22 := Try.underlying22
  a22 := Try.isAgg22
  z22 := Try.sizeOf22
  v22 := Try.zeroValue22
theorem zeroC_size (n : Nat) : (Builtin.zeroCells (Value.slice none 0 0).cells n).size = n := by
  simp [Builtin.zeroCells, Value.cells]
theorem heap_new (w : World) (X : Array Value) (t : TypeId) : (w.drew.alloc (.cells X t)).heap[w.heap.size]? = some (.cells X t (0, 0)) := by
  show (w.heap.push _)[w.heap.size]? = _
  rw [Array.getElem?_push, if_pos rfl]
theorem grow0_any (S : Nat → Prop) (n : Nat) (w : World) (hn : n ≤ 100000) :
    Calls Try.prog 44 #[.slice none 0 0, .int .i64 n] w fun e w' => ∃ v, e = .returned v ∧ CRow w.heap.size S v [] w' ∧ Keep w w' := by
  obtain ⟨i0, hi, hz0, hz1, hz2⟩ := info_parts infoCl
  by_cases h0 : n = 0
  · subst h0
    refine (Any8.slices_Grow_room growLays none 0 0 0 w (by omega) (by omega) (by omega) (by omega)).mono ?_
    rintro e w' ⟨rfl, rfl⟩
    exact ⟨_, rfl, CRow.nil _ _ _, Keep.refl _⟩
  · refine (Any8.slices_Grow_grow growLays i0 (.slice none 0 0) hi hz0 (by rw [hz1]; decide) none 0 0 n [] w (by omega) (by omega) (by rw [hz2]; omega) (by omega) (by simp) (fun _ => rfl) (fun a h => by cases h)).mono ?_
    rintro e w' ⟨rfl, rfl⟩
    refine ⟨_, rfl, ⟨[], rfl, ⟨rfl, Or.inr ⟨w.heap.size, _, _, rfl, Nat.le_refl _, heap_new w _ _, Nat.zero_le _, grownCap_le_maxLen w (0 + n) 0 _ (by unfold maxLen; omega), ?_, ?_⟩⟩, by simp⟩, ?_⟩
    · have := grownCap_ge w (0 + n) 0 (growRen.t 25)
      simp only [Array.size_append, zeroC_size, List.size_toArray, List.length_nil]
      omega
    · simp
    · exact (Keep.drewN (Keep.refl w) 1).alloc' _
theorem wpList_append_own_nil {P : Program} {w : World} {ops : Array Oper} {rest : List Oper} {o : Oper} {a : Act} {Q : Exit → Act → World → Prop} (hgd : o.guard = none) (s x : Operand) (t : TypeId)
    (ho : o.op = .call { callee := .builtin .append, args := #[s, x], argTypes := #[t, t] }) (base : Nat) (e : TypeId) (i : TypeInfo) (size : Nat) (ht : P.underlying t = some (.slice e)) (hi : P.info? e = some i)
    (v : Value) (n : Nat) (xs : List Value) (hs : a.eval s = v) (hown : w.ownsRow base e size v n xs) (c : Nat) (hx : a.eval x = .slice none 0 c)
    (h : wpList P ops Q rest (a.put o.dst v) w) : wpList P ops Q (o :: rest) a w := by
  refine wpList_plain hgd fun K hK => ?_
  have hrun : (Builtin.append_ #[t, t] o.type #[v, .slice none 0 c]).run P w = .ok v w := by
    rcases hown.2 with ⟨rfl, rfl⟩ | ⟨g, cap, cur, rfl, _, _, hnc, _⟩
    · simp [Builtin.append_, run_underlying ht, sizeOf, typeInfo, hi, Builtin.lenOf, Builtin.firstCells]
    · simp [Builtin.append_, run_underlying ht, sizeOf, typeInfo, hi, Builtin.lenOf, Builtin.firstCells, hnc, storeCells]
  unfold Oper.wp
  simp [execOp, ho, resolve, invoke, builtin, hs, hx, hrun, Result.andThen]
  exact hK _ _ h
section
variable {w : World}
theorem wp_append_cls {ops : Array Oper} {rest : List Oper} {o : Oper} {a : Act} {Q : Exit → Act → World → Prop} (hgd : o.guard = none) (s x : Operand)
    (ho : o.op = .call { callee := .builtin .append, args := #[s, x], argTypes := #[22, 22] }) (B : Nat) (S : Nat → Prop) (v : Value) (xs : List (List Int)) (hs : a.eval s = v) (hown : CRow B S v xs w)
    (q : Option Addr) (cap : Nat) (ys : List (List Int)) (hx : a.eval x = .slice q ys.length cap) (hy : ClsIs S w ys (.slice q ys.length cap)) (hS : ∀ b, S b → b < B) (hl : xs.length + ys.length ≤ 100000) (hB : B ≤ w.heap.size)
    (h : ∀ v' w', CRow B S v' (xs ++ ys) w' → Below B w w' → wpList Try.prog ops Q rest (a.put o.dst v') w') : wpList Try.prog ops Q (o :: rest) a w := by
  obtain ⟨i0, hi, hz0, hz1, hz2⟩ := info_parts infoCl
  obtain ⟨us, hul, huo, hun⟩ := hown
  cases q with
  | none =>
    have h0 : ys = [] := by
      rcases hy with ⟨h, -⟩ | ⟨b, off, cap', h, -⟩
      · exact h
      · cases h
    subst h0
    exact wpList_append_own_nil hgd s x 22 ho B 38 i0 1 Try.underlying22 hi v xs.length us hs huo cap hx (h v w (by rw [List.append_nil]; exact ⟨us, hul, huo, hun⟩) (Below.refl _ _))
  | some ad =>
    obtain ⟨ys', hyl, hyn, hy1, hyc⟩ := cls_vals hy (fun b hb => Nat.lt_of_lt_of_le (hS b hb) hB)
    refine wpList_append_own_at _ hgd s x 22 ho B 38 i0 (.slice none 0 0) 1 24 Try.underlying22 hi hz0 hz1 hz2 rfl (by decide) v xs.length us hs huo ad ys.length cap ys' hx (by rw [hyl, Nat.mul_one]) ?_ hy1 (by unfold maxLen; omega) (by omega) hB ?_
    · intro j u hu
      have hj : j < ys.length := by rw [← hyl]; exact (List.getElem?_eq_some_iff.1 hu).1
      have h1 := hyc (.cells #[] 3) j u hu
      rcases hy with ⟨h2, -⟩ | ⟨b, off, cap', h2, hb, -⟩
      · rw [h2] at hj; simp at hj
      · cases h2
        rw [Addr.add_mid] at h1 ⊢
        rwa [(Keep.alloc w _).cell (p := ⟨b, off + j, none⟩) (Nat.lt_of_lt_of_le (hS b hb.1) hB)] at h1
    · intro v' w' h1 h2 _ _
      have hbel : Below B w w' := Below.grown (Below.refl B w) h2 hB fun k hk => (owns_lt huo hk).1
      refine h v' w' ⟨us ++ ys', by rw [List.length_append, List.length_append, hul, hyl], by rw [List.length_append]; exact h1, fun i c y hc hyy => ?_⟩ hbel
      by_cases hi2 : i < xs.length
      · rw [List.getElem?_append_left hi2] at hc
        rw [List.getElem?_append_left (by omega)] at hyy
        exact (hun i c y hc hyy).keep hS hbel
      · rw [List.getElem?_append_right (by omega)] at hc
        rw [List.getElem?_append_right (by omega), hul] at hyy
        exact (hyn _ c y hc hyy).keep hS hbel
end

set_option maxHeartbeats 4000000 in
set_option maxRecDepth 100000 in
theorem concat_any (S : Nat → Prop) (b : Nat) (F P : List (List Int)) (p : Option Addr) (cap : Nat) (q : Option Addr) (cap' : Nat) (w : World) (hS : ∀ b, S b → b < w.heap.size) (hb : BoxAt b 22 #[.slice p F.length cap, .slice q P.length cap'] w) (hF : ClsIs S w F (.slice p F.length cap)) (hP : ClsIs S w P (.slice q P.length cap')) (hl : F.length + P.length ≤ 100000) :
    Calls Try.prog 28 #[.slice (some ⟨b, 0, none⟩) 2 2] w fun e w' => ∃ v, e = .returned v ∧ CRow w.heap.size S v (F ++ P) w' ∧ Keep w w' := by
  have HB := hid hb
  have HF := hid hF
  have HP := hid hP
  obtain ⟨hbc, -, hbl⟩ := hb.facts
  have hb0 : w.cell? ⟨b, 0, none⟩ = some (.slice p F.length cap) := hbc 0
  have hb1 : w.cell? ⟨b, 1, none⟩ = some (.slice q P.length cap') := hbc 1
  clear hb hF hP hbc
  go_enter Try.func28, Try.ntmps28
  go_wp2_with fail
  go_loopg [3, 11] 2 (fun gk sz i wr => wr = w ∧ ((gk = 2 ∧ sz = .int .i64 0 ∧ i = .int .i64 0) ∨ (gk = 1 ∧ sz = .int .i64 F.length ∧ i = .int .i64 1) ∨ (gk = 0 ∧ sz = .int .i64 (F.length + P.length : Nat) ∧ i = .int .i64 2)))
  case atStart => exact ⟨rfl, .inl ⟨rfl, rfl, rfl⟩⟩
  case round =>
    obtain ⟨hw, ⟨hg, rfl, rfl⟩ | ⟨hg, rfl, rfl⟩ | ⟨hg, rfl, rfl⟩⟩ := hrel
    · subst hw
      have h0 : ¬ ((F.length : Int) < 0) := by omega
      go_wp2_with fail
      go_roundg 1
      case rel => exact ⟨rfl, .inr (.inl ⟨rfl, by go_num, by go_num⟩)⟩
      case measure => omega
    · subst hw
      have h0 : ¬ ((F.length : Int) + (P.length : Int) < 0) := by omega
      go_wp2_with fail
      go_roundg 0
      case rel => exact ⟨rfl, .inr (.inr ⟨rfl, by go_num, by go_num⟩)⟩
      case measure => omega
    · subst hw
      go_wp2_with fail
      refine (grow0_any S (F.length + P.length) wr hl).mono ?_
      rintro e w1 ⟨v1, rfl, ho1, k1⟩
      have O1 := hid ho1
      have K1 := hid k1
      have HSW := hid (show ∀ b, S b → b < wr.heap.size from hS)
      clear ho1 k1 hS
      obtain ⟨wo, rfl⟩ : ∃ wo : World, wo = wr := ⟨_, rfl⟩
      go_wp2_with fail
      go_loopg [6, 27] 2 (fun gk nv i wi => Keep wo wi ∧ ((gk = 2 ∧ CRow wo.heap.size S nv [] wi ∧ i = .int .i64 0) ∨ (gk = 1 ∧ CRow wo.heap.size S nv F wi ∧ i = .int .i64 1) ∨ (gk = 0 ∧ CRow wo.heap.size S nv (F ++ P) wi ∧ i = .int .i64 2)))
      case atStart => exact ⟨K1.out, .inl ⟨rfl, O1.out, rfl⟩⟩
      case round =>
        obtain ⟨hk, ⟨hg2, ho, rfl⟩ | ⟨hg2, ho, rfl⟩ | ⟨hg2, ho, rfl⟩⟩ := hrel
        · have HO := hid ho
          have HK := hid hk
          have hc0 : wr.cell? ⟨b, 0, none⟩ = some (.slice p F.length cap) := (hk.cell (p := ⟨b, 0, none⟩) hbl).trans hb0
          have hbl1 : b < wr.heap.size := Nat.lt_of_lt_of_le hbl hk.size
          have HFK := hid (HF.out.keep HSW.out hk)
          have hsz := hk.size
          clear ho hk
          go_wp2_with (at_builtin; refine wp_append_cls rfl _ _ rfl wo.heap.size S _ [] rfl HO.out p cap F rfl HFK.out HSW.out (by simp; omega) hsz ?_)
          intro v' w3 ho3 hb3
          have O3 := hid (show CRow wo.heap.size S v' F w3 from ho3)
          have K3 := hid (show Keep wo w3 from Below.trans HK.out hb3)
          clear ho3 hb3
          go_wp2_with fail
          go_roundg 1
          case rel => exact ⟨K3.out, .inr (.inl ⟨rfl, O3.out, by go_num⟩)⟩
          case measure => omega
        · have HO := hid ho
          have HK := hid hk
          have hc0 : wr.cell? ⟨b, 1, none⟩ = some (.slice q P.length cap') := (hk.cell (p := ⟨b, 1, none⟩) hbl).trans hb1
          have hbl1 : b < wr.heap.size := Nat.lt_of_lt_of_le hbl hk.size
          have HPK := hid (HP.out.keep HSW.out hk)
          have hsz := hk.size
          clear ho hk
          go_wp2_with (at_builtin; refine wp_append_cls rfl _ _ rfl wo.heap.size S _ F rfl HO.out q cap' P rfl HPK.out HSW.out hl hsz ?_)
          intro v' w3 ho3 hb3
          have O3 := hid ho3
          have K3 := hid (show Keep wo w3 from Below.trans HK.out hb3)
          clear ho3 hb3
          go_wp2_with fail
          go_roundg 0
          case rel => exact ⟨K3.out, .inr (.inr ⟨rfl, O3.out, by go_num⟩)⟩
          case measure => omega
        · have HO := hid ho
          have HK := hid hk
          clear ho hk
          go_wp2_with fail
          go_ret
          exact ⟨_, rfl, HO.out, HK.out⟩
end Go.Proofs.Ytenojmfdghdenab
