/- need.sameNode compares all fields but the kids, and how many they are. -/
import Derived.Test.YtnagpmilagdjeaaGreatDoorNeedParse
import Derived.Deep.RegionLaw
namespace Go.Proofs.YtnagpmilagdjeaaGreatDoor
open Go.RowKit

def atB (a b : At) : Bool := sameB a.n a.op a.v a.sl a.f a.on b.n b.op b.v b.sl b.f b.on
theorem atB_true {a b : At} : atB a b = true ↔ a = b := by
  unfold atB
  rw [sameB_true]
  constructor
  · rintro ⟨h1, h2, h3, h4, h5, h6⟩
    obtain ⟨n, op, v, sl, f, on⟩ := a
    obtain ⟨n', op', v', sl', f', on'⟩ := b
    simp only at h1 h2 h3 h4 h5 h6
    rw [bytes_same h1, h2, h3, h4, bytes_same h5, h6]
  · rintro rfl
    exact ⟨rfl, rfl, rfl, rfl, rfl, rfl⟩
def headB2 (k : Int) (a : At) (fl : ByteArray) (nt : Bool) (len : Nat) (k' : Int) (a' : At) (fl' : ByteArray) (nt' : Bool) (len' : Nat) : Bool :=
  (k == k') && (atB a a' && ((fl.toList == fl'.toList) && ((nt == nt') && ((len : Int) == (len' : Int)))))
theorem headB2_true {k : Int} {a : At} {fl : ByteArray} {nt : Bool} {len : Nat} {k' : Int} {a' : At} {fl' : ByteArray} {nt' : Bool} {len' : Nat} :
    headB2 k a fl nt len k' a' fl' nt' len' = true ↔ k = k' ∧ a = a' ∧ fl = fl' ∧ nt = nt' ∧ len = len' := by
  unfold headB2
  rw [Bool.and_eq_true, Bool.and_eq_true, Bool.and_eq_true, Bool.and_eq_true, atB_true, Lib.toList_data, Lib.toList_data]
  simp only [beq_iff_eq]
  constructor
  · rintro ⟨h1, h2, h3, h4, h5⟩
    exact ⟨h1, h2, bytes_same h3, h4, by omega⟩
  · rintro ⟨h1, h2, h3, h4, h5⟩
    exact ⟨h1, h2, by rw [h3], h4, by omega⟩

set_option maxHeartbeats 4000000 in
theorem sameNode_any (k1 : Int) (a1 : At) (fl1 : ByteArray) (nt1 : Bool) (kp1 : Option Addr) (len1 kc1 : Nat) (k2 : Int) (a2 : At) (fl2 : ByteArray) (nt2 : Bool) (kp2 : Option Addr) (len2 kc2 : Nat) (w : World) :
    Calls Tryz.prog 60 #[.agg #[.int .i64 k1, .string a1.n, .int .i64 a1.op, .int .i64 a1.v, .int .i64 a1.sl, .string a1.f, .bool a1.on, .string fl1, .bool nt1, .slice kp1 len1 kc1], .agg #[.int .i64 k2, .string a2.n, .int .i64 a2.op, .int .i64 a2.v, .int .i64 a2.sl, .string a2.f, .bool a2.on, .string fl2, .bool nt2, .slice kp2 len2 kc2]] w
      fun e w' => e = .returned (.bool (headB2 k1 a1 fl1 nt1 len1 k2 a2 fl2 nt2 len2)) ∧ Keep w w' := by
  have heq := fun wx => eqAtom a1.n a1.op a1.v a1.sl a1.f a1.on a2.n a2.op a2.v a2.sl a2.f a2.on wx
  have hat : sameB a1.n a1.op a1.v a1.sl a1.f a1.on a2.n a2.op a2.v a2.sl a2.f a2.on = atB a1 a2 := rfl
  rw [hat] at heq
  clear hat
  have K0 := hid ((Keep.alloc w (.cells #[.int .i64 k1, .string a1.n, .int .i64 a1.op, .int .i64 a1.v, .int .i64 a1.sl, .string a1.f, .bool a1.on, .string fl1, .bool nt1, .slice kp1 len1 kc1] 26)).alloc' (.cells #[.int .i64 k2, .string a2.n, .int .i64 a2.op, .int .i64 a2.v, .int .i64 a2.sl, .string a2.f, .bool a2.on, .string fl2, .bool nt2, .slice kp2 len2 kc2] 26))
  have HD : Hid (headB2 k1 a1 fl1 nt1 len1 k2 a2 fl2 nt2 len2 = ((k1 == k2) && (atB a1 a2 && ((fl1.toList == fl2.toList) && ((nt1 == nt2) && ((len1 : Int) == (len2 : Int))))))) := rfl
  cases h1 : (k1 == k2)
  · rw [h1] at HD
    go_enter Tryz.func60, Tryz.ntmps60
    go_wp2_with fail
    go_ret
    exact ⟨ret_bool HD.out.symm, K0.out⟩
  · cases h2 : atB a1 a2
    · rw [h1, h2] at HD
      rw [h2] at heq
      go_enter Tryz.func60, Tryz.ntmps60
      go_wp2_with fail
      go_ret
      exact ⟨ret_bool HD.out.symm, K0.out⟩
    · rw [h2] at heq
      cases h3 : (fl1.toList == fl2.toList)
      · rw [h1, h2, h3] at HD
        go_enter Tryz.func60, Tryz.ntmps60
        go_wp2_with fail
        go_ret
        exact ⟨ret_bool HD.out.symm, K0.out⟩
      · cases h4 : (nt1 == nt2)
        · rw [h1, h2, h3, h4] at HD
          go_enter Tryz.func60, Tryz.ntmps60
          go_wp2_with fail
          go_ret
          exact ⟨ret_bool HD.out.symm, K0.out⟩
        · rw [h1, h2, h3, h4] at HD
          go_enter Tryz.func60, Tryz.ntmps60
          go_wp2_with fail
          go_ret
          exact ⟨ret_bool HD.out.symm, K0.out⟩
end Go.Proofs.YtnagpmilagdjeaaGreatDoor
/- need.Same: are two needs that lie in memory alike? -/
namespace Go.Proofs.YtnagpmilagdjeaaGreatDoor
open Go.RowKit

/-- append to a row of the call's own, as one step of a region that draws its order. -/
theorem step_append_own {P : Program} {ops : Array Oper} {o : Oper} {a : Act} {w : World} {K : Act → World → Prop} {Q : Exit → Act → World → Prop} {E : Prop}
    (hg : o.guard = none) (s x : Operand) (t : TypeId) (hop : o.op = Op.call { callee := Callee.builtin Builtin.append, args := #[s, x], argTypes := #[t, t] })
    (base : Nat) (e : TypeId) (i : TypeInfo) (z : Value) (size bytes : Nat) (ht : P.underlying t = some (.slice e)) (hi : P.info? e = some i) (hz : i.zero = some z)
    (hsize : i.size = size) (hby : i.bytes = bytes) (hzs : z.cells.size = size) (hsz : 0 < size)
    (v : Value) (n : Nat) (xs : List Value) (hs : a.eval s = v) (hown : w.ownsRow base e size v n xs)
    (ad : Addr) (m c : Nat) (news : List Value) (hx : a.eval x = .slice (some ad) m c) (hl : news.length = m * size) (hnews : ∀ j u, news[j]? = some u → w.cell? (ad.add j) = some u) (h1 : ∀ u ∈ news, u.oneCell' = true)
    (h63 : n + m ≤ maxLen) (hbytes : (n + m) * bytes ≤ 140737488355328) (hbase : base ≤ w.heap.size)
    (hK : ∀ v' w', w'.ownsRow base e size v' (n + m) (xs ++ news) → w.grownBy w' v.ownBlock → (v'.ownBlock = v.ownBlock ∨ v'.ownBlock = some w.heap.size) → K (a.put o.dst v') w') :
    if Region.wanted o (yielded ops a.tmps) = true then Oper.wp P o a w K Q else E := by
  have hw : Region.wanted o (yielded ops a.tmps) = true := by simp [Region.wanted, hg]
  rw [if_pos hw]
  obtain ⟨v', w', hr, h2, h3, -, h5⟩ := run_append_own_at (P := P) w base t o.type e i z size bytes ht hi hz hsize hby hzs hsz v n xs hown ad m c news hl hnews h1 h63 hbytes hbase
  unfold Oper.wp
  simp [execOp, hop, resolve, invoke, builtin, hs, hx, hr, Result.andThen]
  exact hK v' w' h2 h3 h5

def AllEq (ps : List (NT × NT)) : Prop := ∀ p ∈ ps, p.1 = p.2
def sizeP : List (NT × NT) → Nat
  | [] => 0
  | p :: r => p.1.size + sizeP r
theorem sizeP_app : ∀ a b : List (NT × NT), sizeP (a ++ b) = sizeP a + sizeP b
  | [], b => by simp [sizeP]
  | p :: a, b => by rw [List.cons_append, sizeP, sizeP, sizeP_app a b]; omega
theorem size_pos : ∀ t : NT, 1 ≤ t.size
  | .node _ _ _ _ _ => by rw [NT.size]; omega
theorem sizeP_len : ∀ ps : List (NT × NT), ps.length ≤ sizeP ps
  | [] => Nat.zero_le _
  | p :: r => by have := size_pos p.1; have := sizeP_len r; rw [sizeP, List.length_cons]; omega
theorem sizeP_zip : ∀ (a b : List NT), a.length = b.length → sizeP (a.zip b) = sizeL a
  | [], [], _ => rfl
  | x :: a, y :: b, h => by
    rw [List.zip_cons_cons, sizeP, sizeL, sizeP_zip a b (by simpa using h)]
  | [], _ :: _, h => by simp at h
  | _ :: _, [], h => by simp at h
theorem zip_eq : ∀ (a b : List NT), a.length = b.length → (AllEq (a.zip b) ↔ a = b)
  | [], [], _ => ⟨fun _ => rfl, fun _ p hp => by simp at hp⟩
  | x :: a, y :: b, h => by
    have ih := zip_eq a b (by simpa using h)
    rw [List.zip_cons_cons]
    constructor
    · intro hp
      have h1 : x = y := hp (x, y) (by simp)
      have h2 : a = b := ih.1 (fun p hm => hp p (by simp [hm]))
      rw [h1, h2]
    · intro e
      injection e with e1 e2
      intro p hm
      rcases List.mem_cons.1 hm with rfl | hm
      · exact e1
      · exact ih.2 e2 p hm
  | [], _ :: _, h => by simp at h
  | _ :: _, [], h => by simp at h
theorem allEq_app {a b : List (NT × NT)} : AllEq (a ++ b) ↔ AllEq a ∧ AllEq b := by
  constructor
  · intro h
    exact ⟨fun p hp => h p (by simp [hp]), fun p hp => h p (by simp [hp])⟩
  · rintro ⟨h1, h2⟩ p hp
    rcases List.mem_append.1 hp with hp | hp
    · exact h1 p hp
    · exact h2 p hp
theorem allEq_last {init : List (NT × NT)} {k1 : Int} {a1 : At} {fl1 : ByteArray} {nt1 : Bool} {ks1 : List NT} {k2 : Int} {a2 : At} {fl2 : ByteArray} {nt2 : Bool} {ks2 : List NT} (h : headB2 k1 a1 fl1 nt1 ks1.length k2 a2 fl2 nt2 ks2.length = true) :
    AllEq (init ++ [(.node k1 a1 fl1 nt1 ks1, .node k2 a2 fl2 nt2 ks2)]) ↔ AllEq (init ++ ks1.zip ks2) := by
  obtain ⟨rfl, rfl, rfl, rfl, hl⟩ := headB2_true.1 h
  rw [allEq_app, allEq_app, zip_eq ks1 ks2 hl]
  constructor
  · rintro ⟨h1, h2⟩
    have := h2 _ (List.mem_singleton.2 rfl)
    injection this with _ _ _ _ h3
    exact ⟨h1, h3⟩
  · rintro ⟨h1, rfl⟩
    exact ⟨h1, fun p hp => by rw [List.mem_singleton.1 hp]⟩
theorem allEq_not {init : List (NT × NT)} {k1 : Int} {a1 : At} {fl1 : ByteArray} {nt1 : Bool} {ks1 : List NT} {k2 : Int} {a2 : At} {fl2 : ByteArray} {nt2 : Bool} {ks2 : List NT} (h : headB2 k1 a1 fl1 nt1 ks1.length k2 a2 fl2 nt2 ks2.length = false) :
    ¬ AllEq (init ++ [(.node k1 a1 fl1 nt1 ks1, .node k2 a2 fl2 nt2 ks2)]) := by
  intro he
  have := he _ (List.mem_append_right _ (List.mem_singleton.2 rfl))
  injection this with h1 h2 h3 h4 h5
  subst h5
  rw [headB2_true.2 ⟨h1, h2, h3, h4, rfl⟩] at h
  cases h

/-- The pairs that are left, in a row of the call's own. -/
def PairRow (B : Nat) (S : Nat → Prop) (w0 : World) (v : Value) (ps : List (NT × NT)) (w : World) : Prop :=
  ∃ csl : List (List Value), csl.length = ps.length ∧ (∀ c ∈ csl, c.length = 20) ∧ w.ownsRow B 91 20 v ps.length csl.flatten ∧ ∀ (i : Nat) p c, ps[i]? = some p → csl[i]? = some c → ∃ c1 c2, c = c1 ++ c2 ∧ NeedIs S w0 p.1 c1 ∧ NeedIs S w0 p.2 c2
theorem PairRow.keep {B : Nat} {S : Nat → Prop} {w0 : World} {v : Value} {ps : List (NT × NT)} {w w' : World} (h : PairRow B S w0 v ps w) (k : Keep w w') : PairRow B S w0 v ps w' := by
  obtain ⟨csl, h1, h2, h3, h4⟩ := h
  exact ⟨csl, h1, h2, owns_keep h3 k, h4⟩
theorem PairRow.push {B : Nat} {S : Nat → Prop} {w0 : World} {v' : Value} {ps : List (NT × NT)} {csl : List (List Value)} {w' : World} {x y : NT} {c1 c2 : List Value} (h1 : csl.length = ps.length) (h2 : ∀ c ∈ csl, c.length = 20)
    (h4 : ∀ (i : Nat) p c, ps[i]? = some p → csl[i]? = some c → ∃ c1 c2, c = c1 ++ c2 ∧ NeedIs S w0 p.1 c1 ∧ NeedIs S w0 p.2 c2) (hc : (c1 ++ c2).length = 20) (hx : NeedIs S w0 x c1) (hy : NeedIs S w0 y c2)
    (h5 : w'.ownsRow B 91 20 v' (ps.length + 1) (csl.flatten ++ (c1 ++ c2))) : PairRow B S w0 v' (ps ++ [(x, y)]) w' := by
  refine ⟨csl ++ [c1 ++ c2], by simp [h1], fun c hcm => ?_, by simpa using h5, fun i p c hp hcc => ?_⟩
  · rcases List.mem_append.1 hcm with hcm | hcm
    · exact h2 c hcm
    · rw [List.mem_singleton.1 hcm]; exact hc
  · by_cases hi : i < ps.length
    · rw [List.getElem?_append_left hi] at hp
      rw [List.getElem?_append_left (by omega)] at hcc
      exact h4 i p c hp hcc
    · have hi2 : i = ps.length := by
        have := (List.getElem?_eq_some_iff.1 hp).1
        simp at this; omega
      subst hi2
      rw [List.getElem?_append_right (Nat.le_refl _), Nat.sub_self] at hp
      rw [← h1, List.getElem?_append_right (Nat.le_refl _), Nat.sub_self] at hcc
      cases hp; cases hcc
      exact ⟨c1, c2, rfl, hx, hy⟩
theorem flatten_at {m : Nat} {csl : List (List Value)} (h2 : ∀ cs ∈ csl, cs.length = m) : ∀ (i : Nat) (cs : List Value), csl[i]? = some cs → ∀ (j : Nat) (v : Value), cs[j]? = some v → csl.flatten[i * m + j]? = some v := by
  induction csl with
  | nil => intro i cs h; simp at h
  | cons c r ih =>
    intro i cs h j v hv
    have hc : c.length = m := h2 c (by simp)
    cases i with
    | zero =>
      simp at h; subst h
      have hm : j < c.length := (List.getElem?_eq_some_iff.1 hv).1
      rw [List.flatten_cons, Nat.zero_mul, Nat.zero_add, List.getElem?_append_left hm]; exact hv
    | succ i =>
      rw [List.flatten_cons, List.getElem?_append_right (by rw [hc, Nat.succ_mul]; omega), show (i + 1) * m + j - c.length = i * m + j by rw [hc, Nat.succ_mul]; omega]
      exact ih (fun x hx => h2 x (by simp [hx])) i cs (by simpa using h) j v hv
/-- The last pair, and what is left without it. -/
theorem PairRow.pop {B : Nat} {S : Nat → Prop} {w0 : World} {v : Value} {init : List (NT × NT)} {x y : NT} {w : World} (h : PairRow B S w0 v (init ++ [(x, y)]) w) :
    ∃ g cap c1 c2, v = .slice (some ⟨g, 0, none⟩) (init.length + 1) cap ∧ init.length + 1 ≤ cap ∧ B ≤ g ∧ g < w.heap.size ∧ NeedIs S w0 x c1 ∧ NeedIs S w0 y c2 ∧ (∀ j u, (c1 ++ c2)[j]? = some u → w.cell? ⟨g, init.length * 20 + j, none⟩ = some u) ∧ PairRow B S w0 (.slice (some ⟨g, 0, none⟩) init.length cap) init w := by
  obtain ⟨csl, h1, h2, ⟨h3, ⟨-, h0⟩ | ⟨g, cap, cur, rfl, e2, e3, e4, e5, e6, e7⟩⟩, h4⟩ := h
  · simp at h0
  · rw [List.length_append] at h1 e4 e7 h3
    simp only [List.length_cons, List.length_nil] at h1 e4 e7 h3
    obtain ⟨c1, c2, hc, hx, hy⟩ := h4 init.length (x, y) csl[init.length] (by simp) (List.getElem?_eq_getElem (by omega))
    have hsplit : csl = csl.take init.length ++ [csl[init.length]] := by
      have := List.take_succ_eq_append_getElem (l := csl) (i := init.length) (by omega)
      rw [List.take_of_length_le (by omega)] at this
      exact this
    refine ⟨g, cap, c1, c2, by simp, by omega, e2, (Array.getElem?_eq_some_iff.1 e3).1, hx, hy, fun j u hu => ?_, ?_⟩
    · rw [← hc] at hu
      have hj : j < 20 := by
        have hl := h2 csl[init.length] (List.getElem_mem _)
        rw [← hl]; exact (List.getElem?_eq_some_iff.1 hu).1
      have hf := flatten_at h2 init.length csl[init.length] (List.getElem?_eq_getElem (by omega)) j u hu
      rw [← e7, List.getElem?_take, if_pos (by omega)] at hf
      simp only [World.cell?, e3]
      simpa using hf
    · refine ⟨csl.take init.length, by simp; omega, fun c hcm => h2 c (List.mem_of_mem_take hcm), ?_, fun i p c hp hcc => ?_⟩
      · have hfl : (csl.take init.length).flatten = cur.toList.take (init.length * 20) := by
          have hlen : (csl.take init.length).flatten.length = init.length * 20 := by
            have : ∀ l : List (List Value), (∀ c ∈ l, c.length = 20) → l.flatten.length = l.length * 20 := by
              intro l
              induction l with
              | nil => intro _; rfl
              | cons c r ih => intro hl; rw [List.flatten_cons, List.length_append, ih (fun z hz => hl z (by simp [hz])), hl c (by simp), List.length_cons]; omega
            rw [this _ (fun c hcm => h2 c (List.mem_of_mem_take hcm)), List.length_take]
            rw [Nat.min_eq_left (by omega)]
          have h8 : csl.flatten.take (init.length * 20) = (csl.take init.length).flatten := by
            conv => lhs; rw [hsplit]
            rw [List.flatten_append, ← hlen, List.take_left]
          rw [← h8, ← e7, List.take_take, Nat.min_eq_left (by omega)]
        refine ⟨by rw [hfl, List.length_take, show cur.toList.length = cur.size by simp, e6]; exact Nat.min_eq_left (Nat.mul_le_mul_right _ (by omega)), Or.inr ⟨g, cap, cur, rfl, e2, e3, by omega, e5, e6, hfl.symm⟩⟩
      · have hi : i < init.length := (List.getElem?_eq_some_iff.1 hp).1
        refine h4 i p c (by rw [List.getElem?_append_left hi]; exact hp) ?_
        rw [List.getElem?_take, if_pos hi] at hcc
        exact hcc
end Go.Proofs.YtnagpmilagdjeaaGreatDoor
