/- need.sameNode compares all fields but the kids, and how many they are. -/
import Derived.Test.YtkckkjpkidcbnaaGreatDoorNeedParse
import Derived.Deep.RegionLaw
import Derived.BigRegion
import Derived.Deep.CutRange
namespace Go.Proofs.YtkckkjpkidcbnaaGreatDoor
open Go.RowKit

def atB (a b : At) : Bool := sameB a.n a.op a.v a.sl a.f a.on b.n b.op b.v b.sl b.f b.on
theorem atB_true {a b : At} : atB a b = true ↔ a = b := by
  unfold atB
  rw [sameB_true]
  constructor
  · rintro ⟨h1, h2, h3, h4, h5, h6⟩
    obtain ⟨n, op, v, sl, f, on⟩ := a
    obtain ⟨n', op', v', sl', f', on'⟩ := b
    simp only at h1 h2 h3 h4 h5 h6
    rw [bytes_same h1, h2, h3, h4, bytes_same h5, h6]
  · rintro rfl
    exact ⟨rfl, rfl, rfl, rfl, rfl, rfl⟩
def headB2 (k : Int) (a : At) (fl : ByteArray) (nt : Bool) (len : Nat) (k' : Int) (a' : At) (fl' : ByteArray) (nt' : Bool) (len' : Nat) : Bool :=
  (k == k') && (atB a a' && ((fl.toList == fl'.toList) && ((nt == nt') && ((len : Int) == (len' : Int)))))
theorem headB2_true {k : Int} {a : At} {fl : ByteArray} {nt : Bool} {len : Nat} {k' : Int} {a' : At} {fl' : ByteArray} {nt' : Bool} {len' : Nat} :
    headB2 k a fl nt len k' a' fl' nt' len' = true ↔ k = k' ∧ a = a' ∧ fl = fl' ∧ nt = nt' ∧ len = len' := by
  unfold headB2
  rw [Bool.and_eq_true, Bool.and_eq_true, Bool.and_eq_true, Bool.and_eq_true, atB_true, Lib.toList_data, Lib.toList_data]
  simp only [beq_iff_eq]
  constructor
  · rintro ⟨h1, h2, h3, h4, h5⟩
    exact ⟨h1, h2, bytes_same h3, h4, by omega⟩
  · rintro ⟨h1, h2, h3, h4, h5⟩
    exact ⟨h1, h2, by rw [h3], h4, by omega⟩

set_option maxHeartbeats 4000000 in
theorem sameNode_any (k1 : Int) (a1 : At) (fl1 : ByteArray) (nt1 : Bool) (kp1 : Option Addr) (len1 kc1 : Nat) (k2 : Int) (a2 : At) (fl2 : ByteArray) (nt2 : Bool) (kp2 : Option Addr) (len2 kc2 : Nat) (w : World) :
    Calls Tryz.prog 69 #[.agg #[.int .i64 k1, .string a1.n, .int .i64 a1.op, .int .i64 a1.v, .int .i64 a1.sl, .string a1.f, .bool a1.on, .string fl1, .bool nt1, .slice kp1 len1 kc1], .agg #[.int .i64 k2, .string a2.n, .int .i64 a2.op, .int .i64 a2.v, .int .i64 a2.sl, .string a2.f, .bool a2.on, .string fl2, .bool nt2, .slice kp2 len2 kc2]] w
      fun e w' => e = .returned (.bool (headB2 k1 a1 fl1 nt1 len1 k2 a2 fl2 nt2 len2)) ∧ Keep w w' := by
  have heq := fun wx => eqAtom a1.n a1.op a1.v a1.sl a1.f a1.on a2.n a2.op a2.v a2.sl a2.f a2.on wx
  have hat : sameB a1.n a1.op a1.v a1.sl a1.f a1.on a2.n a2.op a2.v a2.sl a2.f a2.on = atB a1 a2 := rfl
  rw [hat] at heq
  clear hat
  have K0 := hid ((Keep.alloc w (.cells #[.int .i64 k1, .string a1.n, .int .i64 a1.op, .int .i64 a1.v, .int .i64 a1.sl, .string a1.f, .bool a1.on, .string fl1, .bool nt1, .slice kp1 len1 kc1] 26)).alloc' (.cells #[.int .i64 k2, .string a2.n, .int .i64 a2.op, .int .i64 a2.v, .int .i64 a2.sl, .string a2.f, .bool a2.on, .string fl2, .bool nt2, .slice kp2 len2 kc2] 26))
  have HD : Hid (headB2 k1 a1 fl1 nt1 len1 k2 a2 fl2 nt2 len2 = ((k1 == k2) && (atB a1 a2 && ((fl1.toList == fl2.toList) && ((nt1 == nt2) && ((len1 : Int) == (len2 : Int))))))) := rfl
  cases h1 : (k1 == k2)
  · rw [h1] at HD
    go_enter Tryz.func69, Tryz.ntmps69
    go_wp2_with fail
    go_ret
    exact ⟨ret_bool HD.out.symm, K0.out⟩
  · cases h2 : atB a1 a2
    · rw [h1, h2] at HD
      rw [h2] at heq
      go_enter Tryz.func69, Tryz.ntmps69
      go_wp2_with fail
      go_ret
      exact ⟨ret_bool HD.out.symm, K0.out⟩
    · rw [h2] at heq
      cases h3 : (fl1.toList == fl2.toList)
      · rw [h1, h2, h3] at HD
        go_enter Tryz.func69, Tryz.ntmps69
        go_wp2_with fail
        go_ret
        exact ⟨ret_bool HD.out.symm, K0.out⟩
      · cases h4 : (nt1 == nt2)
        · rw [h1, h2, h3, h4] at HD
          go_enter Tryz.func69, Tryz.ntmps69
          go_wp2_with fail
          go_ret
          exact ⟨ret_bool HD.out.symm, K0.out⟩
        · rw [h1, h2, h3, h4] at HD
          go_enter Tryz.func69, Tryz.ntmps69
          go_wp2_with fail
          go_ret
          exact ⟨ret_bool HD.out.symm, K0.out⟩
end Go.Proofs.YtkckkjpkidcbnaaGreatDoor
/- need.Same: are two needs that lie in memory alike? -/
namespace Go.Proofs.YtkckkjpkidcbnaaGreatDoor
open Go.RowKit

/-- append to a row of the call's own, as one step of a region that draws its order. -/
theorem step_append_own {P : Program} {ops : Array Oper} {o : Oper} {a : Act} {w : World} {K : Act → World → Prop} {Q : Exit → Act → World → Prop} {E : Prop}
    (hg : o.guard = none) (s x : Operand) (t : TypeId) (hop : o.op = Op.call { callee := Callee.builtin Builtin.append, args := #[s, x], argTypes := #[t, t] })
    (base : Nat) (e : TypeId) (i : TypeInfo) (z : Value) (size bytes : Nat) (ht : P.underlying t = some (.slice e)) (hi : P.info? e = some i) (hz : i.zero = some z)
    (hsize : i.size = size) (hby : i.bytes = bytes) (hzs : z.cells.size = size) (hsz : 0 < size)
    (v : Value) (n : Nat) (xs : List Value) (hs : a.eval s = v) (hown : w.ownsRow base e size v n xs)
    (ad : Addr) (m c : Nat) (news : List Value) (hx : a.eval x = .slice (some ad) m c) (hl : news.length = m * size) (hnews : ∀ j u, news[j]? = some u → w.cell? (ad.add j) = some u) (h1 : ∀ u ∈ news, u.oneCell' = true)
    (h63 : n + m ≤ maxLen) (hbytes : (n + m) * bytes ≤ 140737488355328) (hbase : base ≤ w.heap.size)
    (hK : ∀ v' w', w'.ownsRow base e size v' (n + m) (xs ++ news) → w.grownBy w' v.ownBlock → (v'.ownBlock = v.ownBlock ∨ v'.ownBlock = some w.heap.size) → K (a.put o.dst v') w') :
    if Region.wanted o (yielded ops a.tmps) = true then Oper.wp P o a w K Q else E := by
  have hw : Region.wanted o (yielded ops a.tmps) = true := by simp [Region.wanted, hg]
  rw [if_pos hw]
  obtain ⟨v', w', hr, h2, h3, -, h5⟩ := run_append_own_at (P := P) w base t o.type e i z size bytes ht hi hz hsize hby hzs hsz v n xs hown ad m c news hl hnews h1 h63 hbytes hbase
  unfold Oper.wp
  simp [execOp, hop, resolve, invoke, builtin, hs, hx, hr, Result.andThen]
  exact hK v' w' h2 h3 h5

def AllEq (ps : List (NT × NT)) : Prop := ∀ p ∈ ps, p.1 = p.2
def sizeP : List (NT × NT) → Nat
  | [] => 0
  | p :: r => p.1.size + sizeP r
theorem sizeP_app : ∀ a b : List (NT × NT), sizeP (a ++ b) = sizeP a + sizeP b
  | [], b => by simp [sizeP]
  | p :: a, b => by rw [List.cons_append, sizeP, sizeP, sizeP_app a b]; omega
theorem size_pos : ∀ t : NT, 1 ≤ t.size
  | .node _ _ _ _ _ => by rw [NT.size]; omega
theorem sizeP_len : ∀ ps : List (NT × NT), ps.length ≤ sizeP ps
  | [] => Nat.zero_le _
  | p :: r => by have := size_pos p.1; have := sizeP_len r; rw [sizeP, List.length_cons]; omega
theorem sizeP_zip : ∀ (a b : List NT), a.length = b.length → sizeP (a.zip b) = sizeL a
  | [], [], _ => rfl
  | x :: a, y :: b, h => by
    rw [List.zip_cons_cons, sizeP, sizeL, sizeP_zip a b (by simpa using h)]
  | [], _ :: _, h => by simp at h
  | _ :: _, [], h => by simp at h
theorem zip_eq : ∀ (a b : List NT), a.length = b.length → (AllEq (a.zip b) ↔ a = b)
  | [], [], _ => ⟨fun _ => rfl, fun _ p hp => by simp at hp⟩
  | x :: a, y :: b, h => by
    have ih := zip_eq a b (by simpa using h)
    rw [List.zip_cons_cons]
    constructor
    · intro hp
      have h1 : x = y := hp (x, y) (by simp)
      have h2 : a = b := ih.1 (fun p hm => hp p (by simp [hm]))
      rw [h1, h2]
    · intro e
      injection e with e1 e2
      intro p hm
      rcases List.mem_cons.1 hm with rfl | hm
      · exact e1
      · exact ih.2 e2 p hm
  | [], _ :: _, h => by simp at h
  | _ :: _, [], h => by simp at h
theorem allEq_app {a b : List (NT × NT)} : AllEq (a ++ b) ↔ AllEq a ∧ AllEq b := by
  constructor
  · intro h
    exact ⟨fun p hp => h p (by simp [hp]), fun p hp => h p (by simp [hp])⟩
  · rintro ⟨h1, h2⟩ p hp
    rcases List.mem_append.1 hp with hp | hp
    · exact h1 p hp
    · exact h2 p hp
theorem allEq_last {init : List (NT × NT)} {k1 : Int} {a1 : At} {fl1 : ByteArray} {nt1 : Bool} {ks1 : List NT} {k2 : Int} {a2 : At} {fl2 : ByteArray} {nt2 : Bool} {ks2 : List NT} (h : headB2 k1 a1 fl1 nt1 ks1.length k2 a2 fl2 nt2 ks2.length = true) :
    AllEq (init ++ [(.node k1 a1 fl1 nt1 ks1, .node k2 a2 fl2 nt2 ks2)]) ↔ AllEq (init ++ ks1.zip ks2) := by
  obtain ⟨rfl, rfl, rfl, rfl, hl⟩ := headB2_true.1 h
  rw [allEq_app, allEq_app, zip_eq ks1 ks2 hl]
  constructor
  · rintro ⟨h1, h2⟩
    have := h2 _ (List.mem_singleton.2 rfl)
    injection this with _ _ _ _ h3
    exact ⟨h1, h3⟩
  · rintro ⟨h1, rfl⟩
    exact ⟨h1, fun p hp => by rw [List.mem_singleton.1 hp]⟩
theorem allEq_not {init : List (NT × NT)} {k1 : Int} {a1 : At} {fl1 : ByteArray} {nt1 : Bool} {ks1 : List NT} {k2 : Int} {a2 : At} {fl2 : ByteArray} {nt2 : Bool} {ks2 : List NT} (h : headB2 k1 a1 fl1 nt1 ks1.length k2 a2 fl2 nt2 ks2.length = false) :
    ¬ AllEq (init ++ [(.node k1 a1 fl1 nt1 ks1, .node k2 a2 fl2 nt2 ks2)]) := by
  intro he
  have := he _ (List.mem_append_right _ (List.mem_singleton.2 rfl))
  injection this with h1 h2 h3 h4 h5
  subst h5
  rw [headB2_true.2 ⟨h1, h2, h3, h4, rfl⟩] at h
  cases h

/-- The pairs that are left, in a row of the call's own. -/
def PairRow (B : Nat) (S : Nat → Prop) (w0 : World) (v : Value) (ps : List (NT × NT)) (w : World) : Prop :=
  ∃ csl : List (List Value), csl.length = ps.length ∧ (∀ c ∈ csl, c.length = 20) ∧ w.ownsRow B 105 20 v ps.length csl.flatten ∧ ∀ (i : Nat) p c, ps[i]? = some p → csl[i]? = some c → ∃ c1 c2, c = c1 ++ c2 ∧ NeedIs S w0 p.1 c1 ∧ NeedIs S w0 p.2 c2
theorem PairRow.keep {B : Nat} {S : Nat → Prop} {w0 : World} {v : Value} {ps : List (NT × NT)} {w w' : World} (h : PairRow B S w0 v ps w) (k : Keep w w') : PairRow B S w0 v ps w' := by
  obtain ⟨csl, h1, h2, h3, h4⟩ := h
  exact ⟨csl, h1, h2, owns_keep h3 k, h4⟩
theorem PairRow.push {B : Nat} {S : Nat → Prop} {w0 : World} {v' : Value} {ps : List (NT × NT)} {csl : List (List Value)} {w' : World} {x y : NT} {c1 c2 : List Value} (h1 : csl.length = ps.length) (h2 : ∀ c ∈ csl, c.length = 20)
    (h4 : ∀ (i : Nat) p c, ps[i]? = some p → csl[i]? = some c → ∃ c1 c2, c = c1 ++ c2 ∧ NeedIs S w0 p.1 c1 ∧ NeedIs S w0 p.2 c2) (hc : (c1 ++ c2).length = 20) (hx : NeedIs S w0 x c1) (hy : NeedIs S w0 y c2)
    (h5 : w'.ownsRow B 105 20 v' (ps.length + 1) (csl.flatten ++ (c1 ++ c2))) : PairRow B S w0 v' (ps ++ [(x, y)]) w' := by
  refine ⟨csl ++ [c1 ++ c2], by simp [h1], fun c hcm => ?_, by simpa using h5, fun i p c hp hcc => ?_⟩
  · rcases List.mem_append.1 hcm with hcm | hcm
    · exact h2 c hcm
    · rw [List.mem_singleton.1 hcm]; exact hc
  · by_cases hi : i < ps.length
    · rw [List.getElem?_append_left hi] at hp
      rw [List.getElem?_append_left (by omega)] at hcc
      exact h4 i p c hp hcc
    · have hi2 : i = ps.length := by
        have := (List.getElem?_eq_some_iff.1 hp).1
        simp at this; omega
      subst hi2
      rw [List.getElem?_append_right (Nat.le_refl _), Nat.sub_self] at hp
      rw [← h1, List.getElem?_append_right (Nat.le_refl _), Nat.sub_self] at hcc
      cases hp; cases hcc
      exact ⟨c1, c2, rfl, hx, hy⟩
theorem flatten_at {m : Nat} {csl : List (List Value)} (h2 : ∀ cs ∈ csl, cs.length = m) : ∀ (i : Nat) (cs : List Value), csl[i]? = some cs → ∀ (j : Nat) (v : Value), cs[j]? = some v → csl.flatten[i * m + j]? = some v := by
  induction csl with
  | nil => intro i cs h; simp at h
  | cons c r ih =>
    intro i cs h j v hv
    have hc : c.length = m := h2 c (by simp)
    cases i with
    | zero =>
      simp at h; subst h
      have hm : j < c.length := (List.getElem?_eq_some_iff.1 hv).1
      rw [List.flatten_cons, Nat.zero_mul, Nat.zero_add, List.getElem?_append_left hm]; exact hv
    | succ i =>
      rw [List.flatten_cons, List.getElem?_append_right (by rw [hc, Nat.succ_mul]; omega), show (i + 1) * m + j - c.length = i * m + j by rw [hc, Nat.succ_mul]; omega]
      exact ih (fun x hx => h2 x (by simp [hx])) i cs (by simpa using h) j v hv
/-- The last pair, and what is left without it. -/
theorem PairRow.pop {B : Nat} {S : Nat → Prop} {w0 : World} {v : Value} {init : List (NT × NT)} {x y : NT} {w : World} (h : PairRow B S w0 v (init ++ [(x, y)]) w) :
    ∃ g cap c1 c2, v = .slice (some ⟨g, 0, none⟩) (init.length + 1) cap ∧ init.length + 1 ≤ cap ∧ B ≤ g ∧ g < w.heap.size ∧ NeedIs S w0 x c1 ∧ NeedIs S w0 y c2 ∧ (∀ j u, (c1 ++ c2)[j]? = some u → w.cell? ⟨g, init.length * 20 + j, none⟩ = some u) ∧ PairRow B S w0 (.slice (some ⟨g, 0, none⟩) init.length cap) init w := by
  obtain ⟨csl, h1, h2, ⟨h3, ⟨-, h0⟩ | ⟨g, cap, cur, rfl, e2, e3, e4, e5, e6, e7⟩⟩, h4⟩ := h
  · simp at h0
  · rw [List.length_append] at h1 e4 e7 h3
    simp only [List.length_cons, List.length_nil] at h1 e4 e7 h3
    obtain ⟨c1, c2, hc, hx, hy⟩ := h4 init.length (x, y) csl[init.length] (by simp) (List.getElem?_eq_getElem (by omega))
    have hsplit : csl = csl.take init.length ++ [csl[init.length]] := by
      have := List.take_succ_eq_append_getElem (l := csl) (i := init.length) (by omega)
      rw [List.take_of_length_le (by omega)] at this
      exact this
    refine ⟨g, cap, c1, c2, by simp, by omega, e2, (Array.getElem?_eq_some_iff.1 e3).1, hx, hy, fun j u hu => ?_, ?_⟩
    · rw [← hc] at hu
      have hj : j < 20 := by
        have hl := h2 csl[init.length] (List.getElem_mem _)
        rw [← hl]; exact (List.getElem?_eq_some_iff.1 hu).1
      have hf := flatten_at h2 init.length csl[init.length] (List.getElem?_eq_getElem (by omega)) j u hu
      rw [← e7, List.getElem?_take, if_pos (by omega)] at hf
      simp only [World.cell?, e3]
      simpa using hf
    · refine ⟨csl.take init.length, by simp; omega, fun c hcm => h2 c (List.mem_of_mem_take hcm), ?_, fun i p c hp hcc => ?_⟩
      · have hfl : (csl.take init.length).flatten = cur.toList.take (init.length * 20) := by
          have hlen : (csl.take init.length).flatten.length = init.length * 20 := by
            have : ∀ l : List (List Value), (∀ c ∈ l, c.length = 20) → l.flatten.length = l.length * 20 := by
              intro l
              induction l with
              | nil => intro _; rfl
              | cons c r ih => intro hl; rw [List.flatten_cons, List.length_append, ih (fun z hz => hl z (by simp [hz])), hl c (by simp), List.length_cons]; omega
            rw [this _ (fun c hcm => h2 c (List.mem_of_mem_take hcm)), List.length_take]
            rw [Nat.min_eq_left (by omega)]
          have h8 : csl.flatten.take (init.length * 20) = (csl.take init.length).flatten := by
            conv => lhs; rw [hsplit]
            rw [List.flatten_append, ← hlen, List.take_left]
          rw [← h8, ← e7, List.take_take, Nat.min_eq_left (by omega)]
        refine ⟨by rw [hfl, List.length_take, show cur.toList.length = cur.size by simp, e6]; exact Nat.min_eq_left (Nat.mul_le_mul_right _ (by omega)), Or.inr ⟨g, cap, cur, rfl, e2, e3, by omega, e5, e6, hfl.symm⟩⟩
      · have hi : i < init.length := (List.getElem?_eq_some_iff.1 hp).1
        refine h4 i p c (by rw [List.getElem?_append_left hi]; exact hp) ?_
        rw [List.getElem?_take, if_pos hi] at hcc
        exact hcc
end Go.Proofs.YtkckkjpkidcbnaaGreatDoor
/- need.Same answers whether two needs that lie in memory are alike. -/
namespace Go.Proofs.YtkckkjpkidcbnaaGreatDoor
open Go.RowKit

theorem infoPair : (Tryz.prog.info? 105).map (fun i => (i.zero, i.size, i.bytes)) = some (some (.agg #[.int .i64 0, .string ⟨#[]⟩, .int .i64 0, .int .i64 0, .int .i64 0, .string ⟨#[]⟩, .bool false, .string ⟨#[]⟩, .bool false, .slice none 0 0, .int .i64 0, .string ⟨#[]⟩, .int .i64 0, .int .i64 0, .int .i64 0, .string ⟨#[]⟩, .bool false, .string ⟨#[]⟩, .bool false, .slice none 0 0]), 20, 240) := by kernel_rfl
theorem cells20 {w : World} {g o : Nat} {v0 v1 v2 v3 v4 v5 v6 v7 v8 v9 v10 v11 v12 v13 v14 v15 v16 v17 v18 v19 : Value} (h : ∀ (j : Nat) (u : Value), ([v0, v1, v2, v3, v4, v5, v6, v7, v8, v9] ++ [v10, v11, v12, v13, v14, v15, v16, v17, v18, v19])[j]? = some u → w.cell? ⟨g, o + j, none⟩ = some u) : w.cell? ⟨g, o, none⟩ = some v0 ∧ w.cell? ⟨g, o + 1, none⟩ = some v1 ∧ w.cell? ⟨g, o + 2, none⟩ = some v2 ∧ w.cell? ⟨g, o + 3, none⟩ = some v3 ∧ w.cell? ⟨g, o + 4, none⟩ = some v4 ∧ w.cell? ⟨g, o + 5, none⟩ = some v5 ∧ w.cell? ⟨g, o + 6, none⟩ = some v6 ∧ w.cell? ⟨g, o + 7, none⟩ = some v7 ∧ w.cell? ⟨g, o + 8, none⟩ = some v8 ∧ w.cell? ⟨g, o + 9, none⟩ = some v9 ∧ w.cell? ⟨g, o + 10, none⟩ = some v10 ∧ w.cell? ⟨g, o + 11, none⟩ = some v11 ∧ w.cell? ⟨g, o + 12, none⟩ = some v12 ∧ w.cell? ⟨g, o + 13, none⟩ = some v13 ∧ w.cell? ⟨g, o + 14, none⟩ = some v14 ∧ w.cell? ⟨g, o + 15, none⟩ = some v15 ∧ w.cell? ⟨g, o + 16, none⟩ = some v16 ∧ w.cell? ⟨g, o + 17, none⟩ = some v17 ∧ w.cell? ⟨g, o + 18, none⟩ = some v18 ∧ w.cell? ⟨g, o + 19, none⟩ = some v19 := ⟨h 0 _ rfl, h 1 _ rfl, h 2 _ rfl, h 3 _ rfl, h 4 _ rfl, h 5 _ rfl, h 6 _ rfl, h 7 _ rfl, h 8 _ rfl, h 9 _ rfl, h 10 _ rfl, h 11 _ rfl, h 12 _ rfl, h 13 _ rfl, h 14 _ rfl, h 15 _ rfl, h 16 _ rfl, h 17 _ rfl, h 18 _ rfl, h 19 _ rfl⟩

theorem PairRow.shape {B : Nat} {S : Nat → Prop} {w0 : World} {v : Value} {ps : List (NT × NT)} {w : World} (h : PairRow B S w0 v ps w) : ∃ p cap, v = .slice p ps.length cap := by
  obtain ⟨csl, -, -, ⟨-, ⟨rfl, h0⟩ | ⟨g, cap, cur, e1, -⟩⟩, -⟩ := h
  · exact ⟨none, 0, by rw [h0]⟩
  · exact ⟨_, _, e1⟩
theorem grown_undrew {w w' : World} {row : Option Nat} (h : w.drew.grownBy w' row) : w.grownBy w' row := ⟨h.os, h.tape, h.output, h.size, h.block⟩
theorem two_boxes (w : World) (c1 c2 : Array Value) : NBox w.heap.size c1 ((w.alloc (.cells c1 26)).alloc (.cells c2 26)).drew ∧ NBox (w.heap.size + 1) c2 ((w.alloc (.cells c1 26)).alloc (.cells c2 26)).drew ∧ Keep w ((w.alloc (.cells c1 26)).alloc (.cells c2 26)).drew := by
  have h1 := NBox.new w c1
  have h2 := NBox.new (w.alloc (.cells c1 26)) c2
  rw [alloc_size] at h2
  have a := h1.keep (Keep.alloc (w.alloc (.cells c1 26)) (.cells c2 26)) h1.facts.2.2
  exact ⟨a, h2, ((Keep.alloc _ _).alloc' _).drew⟩

set_option maxHeartbeats 1000000 in
set_option maxRecDepth 100000 in
theorem needSame_any (t u : NT) (cs1 cs2 : List Value) (w : World) (S : Nat → Prop) (hS : ∀ b, S b → b < w.heap.size) (h1 : NeedIs S w t cs1) (h2 : NeedIs S w u cs2) (hsz : t.size ≤ 2097152) :
    Calls Tryz.prog 16 #[.agg cs1.toArray, .agg cs2.toArray] w fun e w' => (∃ b : Bool, e = .returned (.bool b) ∧ (b = true ↔ t = u)) ∧ Keep w w' := by
  obtain ⟨i0, hi, hz0, hz1, hz2⟩ := info_parts infoPair
  have H1 := hid h1
  have H2 := hid h2
  cases ht : t with
  | node k1 a1 fl1 nt1 ks1 =>
  cases hu : u with
  | node k2 a2 fl2 nt2 ks2 =>
  rw [ht, NeedIs] at h1
  rw [hu, NeedIs] at h2
  obtain ⟨kp1, kc1, rfl, -, -, -⟩ := h1
  obtain ⟨kp2, kc2, rfl, -, -, -⟩ := h2
  rw [← ht, ← hu]
  clear ht hu
  have K0 : Hid (Keep w (((w.alloc (.cells #[.int .i64 k1, .string a1.n, .int .i64 a1.op, .int .i64 a1.v, .int .i64 a1.sl, .string a1.f, .bool a1.on, .string fl1, .bool nt1, .slice kp1 ks1.length kc1] 26)).alloc (.cells #[.int .i64 k2, .string a2.n, .int .i64 a2.op, .int .i64 a2.v, .int .i64 a2.sl, .string a2.f, .bool a2.on, .string fl2, .bool nt2, .slice kp2 ks2.length kc2] 26)).alloc (.cells #[.int .i64 k1, .string a1.n, .int .i64 a1.op, .int .i64 a1.v, .int .i64 a1.sl, .string a1.f, .bool a1.on, .string fl1, .bool nt1, .slice kp1 ks1.length kc1, .int .i64 k2, .string a2.n, .int .i64 a2.op, .int .i64 a2.v, .int .i64 a2.sl, .string a2.f, .bool a2.on, .string fl2, .bool nt2, .slice kp2 ks2.length kc2] 105))) := ((Keep.alloc _ _).alloc' _).alloc' _
  have P0 : Hid (PairRow w.heap.size S w (.slice (some ⟨w.heap.size + 2, 0, none⟩) 1 1) [(t, u)] (((w.alloc (.cells #[.int .i64 k1, .string a1.n, .int .i64 a1.op, .int .i64 a1.v, .int .i64 a1.sl, .string a1.f, .bool a1.on, .string fl1, .bool nt1, .slice kp1 ks1.length kc1] 26)).alloc (.cells #[.int .i64 k2, .string a2.n, .int .i64 a2.op, .int .i64 a2.v, .int .i64 a2.sl, .string a2.f, .bool a2.on, .string fl2, .bool nt2, .slice kp2 ks2.length kc2] 26)).alloc (.cells #[.int .i64 k1, .string a1.n, .int .i64 a1.op, .int .i64 a1.v, .int .i64 a1.sl, .string a1.f, .bool a1.on, .string fl1, .bool nt1, .slice kp1 ks1.length kc1, .int .i64 k2, .string a2.n, .int .i64 a2.op, .int .i64 a2.v, .int .i64 a2.sl, .string a2.f, .bool a2.on, .string fl2, .bool nt2, .slice kp2 ks2.length kc2] 105))) := by
    refine ⟨[[.int .i64 k1, .string a1.n, .int .i64 a1.op, .int .i64 a1.v, .int .i64 a1.sl, .string a1.f, .bool a1.on, .string fl1, .bool nt1, .slice kp1 ks1.length kc1] ++ [.int .i64 k2, .string a2.n, .int .i64 a2.op, .int .i64 a2.v, .int .i64 a2.sl, .string a2.f, .bool a2.on, .string fl2, .bool nt2, .slice kp2 ks2.length kc2]], rfl, by simp, ⟨by simp, Or.inr ⟨w.heap.size + 2, 1, #[.int .i64 k1, .string a1.n, .int .i64 a1.op, .int .i64 a1.v, .int .i64 a1.sl, .string a1.f, .bool a1.on, .string fl1, .bool nt1, .slice kp1 ks1.length kc1, .int .i64 k2, .string a2.n, .int .i64 a2.op, .int .i64 a2.v, .int .i64 a2.sl, .string a2.f, .bool a2.on, .string fl2, .bool nt2, .slice kp2 ks2.length kc2], rfl, by omega, ?_, Nat.le_refl _, by unfold maxLen; omega, rfl, rfl⟩⟩, ?_⟩
    · have e : ((w.alloc (.cells #[.int .i64 k1, .string a1.n, .int .i64 a1.op, .int .i64 a1.v, .int .i64 a1.sl, .string a1.f, .bool a1.on, .string fl1, .bool nt1, .slice kp1 ks1.length kc1] 26)).alloc (.cells #[.int .i64 k2, .string a2.n, .int .i64 a2.op, .int .i64 a2.v, .int .i64 a2.sl, .string a2.f, .bool a2.on, .string fl2, .bool nt2, .slice kp2 ks2.length kc2] 26)).heap.size = w.heap.size + 2 := by rw [alloc_size, alloc_size]
      show (((w.alloc (.cells #[.int .i64 k1, .string a1.n, .int .i64 a1.op, .int .i64 a1.v, .int .i64 a1.sl, .string a1.f, .bool a1.on, .string fl1, .bool nt1, .slice kp1 ks1.length kc1] 26)).alloc (.cells #[.int .i64 k2, .string a2.n, .int .i64 a2.op, .int .i64 a2.v, .int .i64 a2.sl, .string a2.f, .bool a2.on, .string fl2, .bool nt2, .slice kp2 ks2.length kc2] 26)).heap.push _)[w.heap.size + 2]? = _
      rw [← e, Array.getElem?_push, if_pos rfl]
    · intro i p c hp hc
      match i, hp, hc with
      | 0, hp, hc =>
        cases hp; cases hc
        exact ⟨_, _, rfl, H1.out, H2.out⟩
  go_enter Tryz.func16, Tryz.ntmps16
  go_wp2_with fail
  generalize (((w.alloc (.cells #[.int .i64 k1, .string a1.n, .int .i64 a1.op, .int .i64 a1.v, .int .i64 a1.sl, .string a1.f, .bool a1.on, .string fl1, .bool nt1, .slice kp1 ks1.length kc1] 26)).alloc (.cells #[.int .i64 k2, .string a2.n, .int .i64 a2.op, .int .i64 a2.v, .int .i64 a2.sl, .string a2.f, .bool a2.on, .string fl2, .bool nt2, .slice kp2 ks2.length kc2] 26)).alloc (.cells #[.int .i64 k1, .string a1.n, .int .i64 a1.op, .int .i64 a1.v, .int .i64 a1.sl, .string a1.f, .bool a1.on, .string fl1, .bool nt1, .slice kp1 ks1.length kc1, .int .i64 k2, .string a2.n, .int .i64 a2.op, .int .i64 a2.v, .int .i64 a2.sl, .string a2.f, .bool a2.on, .string fl2, .bool nt2, .slice kp2 ks2.length kc2] 105)) = W0 at K0 P0 ⊢
  have HQ0 : Hid ((t = u) ↔ AllEq [(t, u)]) := ⟨fun e p hp => by rw [List.mem_singleton.1 hp]; exact e, fun h => h _ (List.mem_singleton.2 rfl)⟩
  have HZ0 : Hid (sizeP [(t, u)] = t.size) := by show _ = _; simp [sizeP]
  go_loopg [5] (t.size) (fun gk lv wr => ∃ ps : List (NT × NT), PairRow w.heap.size S w lv ps wr ∧ (t = u ↔ AllEq ps) ∧ sizeP ps = gk ∧ gk ≤ 2097152 ∧ Keep w wr)
  case atStart => exact ⟨_, P0.out, HQ0.out, HZ0.out, hsz, K0.out⟩
  case round =>
    obtain ⟨ps, hrow, heq, hsp, hgk, hkeep⟩ := hrel
    have HROW := hid hrow
    have HEQ := hid heq
    have HSP := hid hsp
    have HKP := hid hkeep
    clear hrow heq hsp hkeep P0 HQ0 HZ0 K0
    rcases List.eq_nil_or_concat ps with rfl | ⟨init, xy, hps⟩
    · obtain ⟨p0, cap0, hv0⟩ := HROW.out.shape
      subst hv0
      go_wp2_with fail
      go_ret
      exact ⟨⟨true, rfl, by simp only [true_iff]; exact HEQ.out.2 (fun p hp => by simp at hp)⟩, HKP.out⟩
    · subst hps
      obtain ⟨x, y⟩ := xy
      rw [List.concat_eq_append] at HROW HEQ HSP
      obtain ⟨g, cap, c1, c2, rfl, hcap, hBg, hglt, hx, hy, hcell, hrow'⟩ := HROW.out.pop
      have HX := hid hx
      have HY := hid hy
      have HRW := hid hrow'
      have hlen := sizeP_len (init ++ [(x, y)])
      rw [HSP.out] at hlen
      simp only [List.length_append, List.length_cons, List.length_nil] at hlen
      obtain ⟨k3, a3, fl3, nt3, ks3⟩ := x
      obtain ⟨k4, a4, fl4, nt4, ks4⟩ := y
      rw [NeedIs] at hx hy
      obtain ⟨kp3, kc3, rfl, hc3, hm3, hk3⟩ := hx
      obtain ⟨kp4, kc4, rfl, hc4, hm4, hk4⟩ := hy
      obtain ⟨q0, q1, q2, q3, q4, q5, q6, q7, q8, q9, q10, q11, q12, q13, q14, q15, q16, q17, q18, q19⟩ := cells20 hcell
      have HK3 := hid hk3
      have HK4 := hid hk4
      clear hcell hk3 hk4 hrow' HROW
      go_upto_region 4 with fail
      go_cut [7, 8] from 15 to 56 (fun p7 p8 wx => ∃ b7 b8 : Nat, p7 = .pointer (some ⟨b7, 0, none⟩) ∧ p8 = .pointer (some ⟨b8, 0, none⟩) ∧ wr.heap.size ≤ b7 ∧ wr.heap.size ≤ b8 ∧ NBox b7 #[.int .i64 k3, .string a3.n, .int .i64 a3.op, .int .i64 a3.v, .int .i64 a3.sl, .string a3.f, .bool a3.on, .string fl3, .bool nt3, .slice kp3 ks3.length kc3] wx ∧ NBox b8 #[.int .i64 k4, .string a4.n, .int .i64 a4.op, .int .i64 a4.v, .int .i64 a4.sl, .string a4.f, .bool a4.on, .string fl4, .bool nt4, .slice kp4 ks4.length kc4] wx ∧ Keep wr wx)
      case first =>
        go_region
        · go_wp2_with fail
          go_meet
          exact ⟨_, _, rfl, rfl, Nat.le_refl _, Nat.le_succ _, (two_boxes wr _ _).1, (two_boxes wr _ _).2.1, (two_boxes wr _ _).2.2⟩
        · go_wp2_with fail
          go_meet
          exact ⟨_, _, rfl, rfl, Nat.le_succ _, Nat.le_refl _, (two_boxes wr _ _).2.1, (two_boxes wr _ _).1, (two_boxes wr _ _).2.2⟩
      case rest =>
      obtain ⟨b7, b8, rfl, rfl, hb7, hb8, hn7, hn8, hkw⟩ := hcut
      clear q0 q1 q2 q3 q4 q5 q6 q7 q8 q9 q10 q11 q12 q13 q14 q15 q16 q17 q18 q19
      have N7 := hid hn7
      have N8 := hid hn8
      have KW := hid hkw
      obtain ⟨hc7, hz7, hl7⟩ := hn7.facts
      obtain ⟨hc8, hz8, hl8⟩ := hn8.facts
      clear hn7 hn8 hkw
      go_wp2_with fail
      refine (sameNode_any _ _ _ _ _ _ _ _ _ _ _ _ _ _ _).mono ?_
      rintro e w5 ⟨rfl, k5⟩
      have N7b := hid (N7.out.keep k5 N7.out.facts.2.2)
      have N8b := hid (N8.out.keep k5 N8.out.facts.2.2)
      have K5 := hid (HKP.out.trans (KW.out.trans k5))
      have RW5 := hid (HRW.out.keep (KW.out.trans k5))
      clear k5 hc7 hz7 hc8 hz8 N7 N8 KW HRW
      obtain ⟨hc7, -, hl7b⟩ := N7b.out.facts
      cases hsame : headB2 k3 a3 fl3 nt3 ks3.length k4 a4 fl4 nt4 ks4.length
      · have HNO := hid (allEq_not (init := init) hsame)
        clear hsame
        go_wp2_with fail
        go_ret
        exact ⟨⟨false, rfl, by simp only [Bool.false_eq_true, false_iff]; exact fun e => HNO.out (HEQ.out.1 e)⟩, K5.out⟩
      · have HYES := hid (allEq_last (init := init) hsame)
        obtain ⟨-, -, -, -, hll⟩ := headB2_true.1 hsame
        have HLL := hid hll
        have HSZ : Hid (sizeP (init ++ ks3.zip ks4) < gk) := by
          show _ < _
          rw [← HSP.out, sizeP_app, sizeP_app, sizeP_zip _ _ hll, sizeP, sizeP, NT.size]; omega
        have hb8w : w.heap.size ≤ b8 := Nat.le_trans HKP.out.size hb8
        have hvb : Hid ((Value.slice (some ⟨g, 0, none⟩) init.length cap).ownBlock ≠ some b8) := fun e => by
          have : g = b8 := Option.some.inj e
          omega
        clear hsame hll
        go_wp2_with fail
        clear hc7
        go_loopg [5, 41] ks3.length (fun gj lv i wq => ∃ j : Nat, j + gj = ks3.length ∧ i = .int .i64 j ∧ PairRow w.heap.size S w lv (init ++ (ks3.zip ks4).take j) wq ∧ lv.ownBlock ≠ some b8 ∧ NBox b8 #[.int .i64 k4, .string a4.n, .int .i64 a4.op, .int .i64 a4.v, .int .i64 a4.sl, .string a4.f, .bool a4.on, .string fl4, .bool nt4, .slice kp4 ks4.length kc4] wq ∧ Keep w wq)
        case atStart => exact ⟨0, by simp, rfl, by simpa using RW5.out, hvb.out, N8b.out, K5.out⟩
        case round =>
          obtain ⟨j, hj, rfl, hpr, hob, hnb, hkq⟩ := hrel
          have HPR := hid hpr
          have HOB := hid hob
          have HNB := hid hnb
          have HKQ := hid hkq
          clear hpr hob hnb hkq RW5 N7b N8b K5 hvb
          by_cases hlt : j < ks3.length
          · have hlt4 : j < ks4.length := by have := HLL.out; omega
            obtain ⟨p3, d3, hp3, hs3, hcell3, hneed3⟩ := kidsIs_get HK3.out j hlt
            obtain ⟨p4, d4, hp4, hs4, hcell4, hneed4⟩ := kidsIs_get HK4.out j hlt4
            subst hp3
            subst hp4
            rw [Nat.zero_add] at hcell3 hcell4
            have HN3 := hid hneed3
            have HN4 := hid hneed4
            have HTK : Hid ((ks3.zip ks4).take (j + 1) = (ks3.zip ks4).take j ++ [(ks3[j], ks4[j])]) := by
              show _ = _
              rw [List.take_succ_eq_append_getElem (by simp; omega)]
              simp
            have hlp : (init ++ (ks3.zip ks4).take j).length ≤ 2097152 := by
              have h1 := sizeP_len (init ++ ks3.zip ks4)
              have h2 := HSZ.out
              have h3 : ((ks3.zip ks4).take j).length ≤ (ks3.zip ks4).length := List.length_take_le' _ _
              rw [List.length_append] at h1 ⊢
              omega
            cases hkid3 : ks3[j] with
            | node k5 a5 fl5 nt5 ks5 =>
            cases hkid4 : ks4[j] with
            | node k6 a6 fl6 nt6 ks6 =>
            rw [hkid3, NeedIs] at hneed3
            rw [hkid4, NeedIs] at hneed4
            obtain ⟨kp5, kc5, rfl, -, -, -⟩ := hneed3
            obtain ⟨kp6, kc6, rfl, -, -, -⟩ := hneed4
            have hcell3' : ∀ m v, ([.int .i64 k5, .string a5.n, .int .i64 a5.op, .int .i64 a5.v, .int .i64 a5.sl, .string a5.f, .bool a5.on, .string fl5, .bool nt5, .slice kp5 ks5.length kc5] : List Value)[m]? = some v → wr.cell? ((p3.add (j * 10)).add m) = some v := fun m v hv => (HKQ.out.cell (by rw [add_block, add_block]; exact hS _ hs3)).trans (hcell3 m v hv)
            obtain ⟨c0, c1, c2, c3, c4, c5, c6, c7, c8, c9⟩ := cells10 hcell3'
            have HC4 := hid hcell4
            have K6 := hid (Keep.alloc wr (.cells #[.int .i64 k5, .string a5.n, .int .i64 a5.op, .int .i64 a5.v, .int .i64 a5.sl, .string a5.f, .bool a5.on, .string fl5, .bool nt5, .slice kp5 ks5.length kc5] 26))
            have M6 : Hid (NBox wr.heap.size #[.int .i64 k5, .string a5.n, .int .i64 a5.op, .int .i64 a5.v, .int .i64 a5.sl, .string a5.f, .bool a5.on, .string fl5, .bool nt5, .slice kp5 ks5.length kc5] (wr.alloc (.cells #[.int .i64 k5, .string a5.n, .int .i64 a5.op, .int .i64 a5.v, .int .i64 a5.sl, .string a5.f, .bool a5.on, .string fl5, .bool nt5, .slice kp5 ks5.length kc5] 26))) := NBox.new _ _
            have hbq := HNB.out.facts.2.2
            clear hcell3 hcell4 hcell3' hkid3 hkid4
            go_upto_region 11 with fail
            clear c0 c1 c2 c3 c4 c5 c6 c7 c8 c9
            have N6 := hid (HNB.out.keep K6.out hbq)
            have KQ6 := hid (HKQ.out.trans K6.out)
            have PR6 := hid (HPR.out.keep K6.out)
            generalize wr.alloc (.cells #[.int .i64 k5, .string a5.n, .int .i64 a5.op, .int .i64 a5.v, .int .i64 a5.sl, .string a5.f, .bool a5.on, .string fl5, .bool nt5, .slice kp5 ks5.length kc5] 26) = W6 at K6 M6 N6 KQ6 PR6 ⊢
            have hcell4' : ∀ m v, ([.int .i64 k6, .string a6.n, .int .i64 a6.op, .int .i64 a6.v, .int .i64 a6.sl, .string a6.f, .bool a6.on, .string fl6, .bool nt6, .slice kp6 ks6.length kc6] : List Value)[m]? = some v → W6.cell? ((p4.add (j * 10)).add m) = some v := fun m v hv => (KQ6.out.cell (by rw [add_block, add_block]; exact hS _ hs4)).trans (HC4.out m v hv)
            obtain ⟨c0, c1, c2, c3, c4, c5, c6, c7, c8, c9⟩ := cells10 hcell4'
            obtain ⟨hcm, -, hlm⟩ := M6.out.facts
            obtain ⟨hcn, -, hln⟩ := N6.out.facts
            obtain ⟨csl, s1, s2, s3, s4⟩ := PR6.out
            have HO6 := hid s3
            have HR6 := hid s4
            have hs6 := KQ6.out.size
            clear hcell4' s3 s4
            go_region_law (refine step_append_own rfl _ _ 106 rfl w.heap.size 105 i0 (.agg #[.int .i64 0, .string ⟨#[]⟩, .int .i64 0, .int .i64 0, .int .i64 0, .string ⟨#[]⟩, .bool false, .string ⟨#[]⟩, .bool false, .slice none 0 0, .int .i64 0, .string ⟨#[]⟩, .int .i64 0, .int .i64 0, .int .i64 0, .string ⟨#[]⟩, .bool false, .string ⟨#[]⟩, .bool false, .slice none 0 0]) 20 240 Tryz.underlying106 hi hz0 hz1 hz2 rfl (by decide) u5 (init ++ (ks3.zip ks4).take j).length csl.flatten rfl (HO6.out.alloc _) ⟨W6.heap.size, 0, none⟩ 1 1 ([.int .i64 k5, .string a5.n, .int .i64 a5.op, .int .i64 a5.v, .int .i64 a5.sl, .string a5.f, .bool a5.on, .string fl5, .bool nt5, .slice kp5 ks5.length kc5] ++ [.int .i64 k6, .string a6.n, .int .i64 a6.op, .int .i64 a6.v, .int .i64 a6.sl, .string a6.f, .bool a6.on, .string fl6, .bool nt6, .slice kp6 ks6.length kc6]) rfl rfl many_news (by intro uu hu; simp at hu; rcases hu with rfl | rfl | rfl | rfl | rfl | rfl | rfl | rfl | rfl | rfl | rfl | rfl | rfl | rfl | rfl | rfl | rfl | rfl | rfl | rfl <;> rfl) (by unfold maxLen; omega) (by omega) (by have := alloc_size W6 (.cells #[] 0); show _ ≤ (W6.heap.push _).size; simp; omega) ?_; intro v7 w7 h71 h72 h73)
            all_goals
              have h74 : (W6.alloc (.cells #[.int .i64 k5, .string a5.n, .int .i64 a5.op, .int .i64 a5.v, .int .i64 a5.sl, .string a5.f, .bool a5.on, .string fl5, .bool nt5, .slice kp5 ks5.length kc5, .int .i64 k6, .string a6.n, .int .i64 a6.op, .int .i64 a6.v, .int .i64 a6.sl, .string a6.f, .bool a6.on, .string fl6, .bool nt6, .slice kp6 ks6.length kc6] 105)).grownBy w7 u5.ownBlock := grown_undrew h72
              have P7 := hid (PairRow.push (x := ks3[j]) (y := ks4[j]) s1 s2 HR6.out rfl HN3.out HN4.out h71)
              have N7 := hid (N6.out.grown h74 HOB.out)
              have L7 : Below w.heap.size W6 w7 := ((Below.refl _ W6).alloc hs6 _).grown h74 (by have := alloc_size W6 (.cells #[.int .i64 k5, .string a5.n, .int .i64 a5.op, .int .i64 a5.v, .int .i64 a5.sl, .string a5.f, .bool a5.on, .string fl5, .bool nt5, .slice kp5 ks5.length kc5, .int .i64 k6, .string a6.n, .int .i64 a6.op, .int .i64 a6.v, .int .i64 a6.sl, .string a6.f, .bool a6.on, .string fl6, .bool nt6, .slice kp6 ks6.length kc6] 105); omega) (fun g' hg' => (owns_lt HO6.out hg').1)
              have K7 := hid (Below.trans KQ6.out L7)
              have O7 : Hid (v7.ownBlock ≠ some b8) := by
                rcases h73 with h73 | h73
                · show _ ≠ _; rw [h73]; exact HOB.out
                · show _ ≠ _
                  rw [h73]
                  intro e
                  have e2 : (W6.alloc (.cells #[.int .i64 k5, .string a5.n, .int .i64 a5.op, .int .i64 a5.v, .int .i64 a5.sl, .string a5.f, .bool a5.on, .string fl5, .bool nt5, .slice kp5 ks5.length kc5, .int .i64 k6, .string a6.n, .int .i64 a6.op, .int .i64 a6.v, .int .i64 a6.sl, .string a6.f, .bool a6.on, .string fl6, .bool nt6, .slice kp6 ks6.length kc6] 105)).heap.size = b8 := Option.some.inj e
                  rw [alloc_size] at e2
                  omega
              clear h71 h72 h73 h74 L7 c0 c1 c2 c3 c4 c5 c6 c7 c8 c9 hcm hcn
              go_wp2_with fail
              go_roundg (ks3.length - (j + 1))
              case measure => omega
              case rel => exact ⟨j + 1, by omega, by go_num, by rw [HTK.out, ← List.append_assoc]; exact P7.out, O7.out, N7.out, K7.out⟩
          · have hj2 : Hid ((ks3.zip ks4).take j = ks3.zip ks4) := by
              show _ = _
              rw [List.take_of_length_le]
              rw [List.length_zip]
              omega
            have P9 := hid HPR.out
            go_wp2_with fail
            go_roundg (sizeP (init ++ ks3.zip ks4))
            case measure => exact HSZ.out
            case rel => exact ⟨init ++ ks3.zip ks4, by have := P9.out; rw [hj2.out] at this; exact this, HEQ.out.trans HYES.out, rfl, by have := HSZ.out; omega, HKQ.out⟩
end Go.Proofs.YtkckkjpkidcbnaaGreatDoor
