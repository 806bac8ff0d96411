/- A stack of needs that are open, in memory: rows of the call's own, and what is done with them. -/
import Derived.Test.YtkckkjpkidcbnaaGreatDoorRefMach
import Derived.Test.YtkckkjpkidcbnaaGreatDoorNeedSameAll
import Derived.Test.YtkckkjpkidcbnaaGreatDoorTreeChk
import Derived.Test.YtkckkjpkidcbnaaGreatDoorBoxAt
namespace Go.Proofs.YtkckkjpkidcbnaaGreatDoor
open Go.RowKit

/-- A need's own nine cells. -/
def NT.head9 : NT → List Value
  | .node k a fl nt _ => [.int .i64 k, .string a.n, .int .i64 a.op, .int .i64 a.v, .int .i64 a.sl, .string a.f, .bool a.on, .string fl, .bool nt]
theorem head9_len (t : NT) : t.head9.length = 9 := by cases t; rfl
theorem head9_add (p t : NT) : (p.addKid t).head9 = p.head9 := by cases p; rfl
theorem kids_add (p t : NT) : (p.addKid t).kids = p.kids ++ [t] := by cases p; rfl

theorem owns_other {B e sz n : Nat} {v : Value} {xs : List Value} {w w' : World} (h : w.ownsRow B e sz v n xs) (hb : ∀ g, v.ownBlock = some g → w'.heap[g]? = w.heap[g]?) : w'.ownsRow B e sz v n xs := by
  obtain ⟨h1, h2⟩ := h
  refine ⟨h1, h2.imp id ?_⟩
  rintro ⟨g, cap, cur, rfl, e2, e3, e4⟩
  exact ⟨g, cap, cur, rfl, e2, by rw [hb g rfl]; exact e3, e4⟩
theorem owns_in {B e sz n : Nat} {v : Value} {xs : List Value} {w : World} (h : w.ownsRow B e sz v n xs) {g : Nat} (hg : v.ownBlock = some g) : B ≤ g ∧ g < w.heap.size := by
  obtain ⟨-, ⟨rfl, -⟩ | ⟨g', cap, cur, rfl, e2, e3, -⟩⟩ := h
  · cases hg
  · cases hg; exact ⟨e2, (Array.getElem?_eq_some_iff.1 e3).1⟩

/-- A row of needs of the call's own; what they lead to lies in blocks of S. -/
def KRow (B : Nat) (S : Nat → Prop) (v : Value) (acc : List NT) (w : World) : Prop :=
  ∃ csl : List (List Value), csl.length = acc.length ∧ (∀ cs ∈ csl, cs.length = 10) ∧ w.ownsRow B 26 10 v acc.length csl.flatten ∧ ∀ (i : Nat) t cs, acc[i]? = some t → csl[i]? = some cs → NeedIs S w t cs
theorem KRow.nil (B : Nat) (S : Nat → Prop) (w : World) : KRow B S (.slice none 0 0) [] w := ⟨[], rfl, by simp, World.ownsRow_nil _ _ _ _, by simp⟩
theorem KRow.mono {B : Nat} {S S' : Nat → Prop} {v : Value} {acc : List NT} {w w' : World} (h : KRow B S v acc w) (hv : ∀ g, v.ownBlock = some g → w'.heap[g]? = w.heap[g]?) (hS : ∀ b, S b → w'.heap[b]? = w.heap[b]? ∧ S' b) : KRow B S' v acc w' := by
  obtain ⟨csl, h1, h2, h3, h4⟩ := h
  exact ⟨csl, h1, h2, owns_other h3 hv, fun i t cs hi hc => NeedIs.mono (fun p hp => World.cell?_of_block (w := w) (hS _ hp).1) (fun b hb => (hS b hb).2) t cs (h4 i t cs hi hc)⟩
theorem KRow.in {B : Nat} {S : Nat → Prop} {v : Value} {acc : List NT} {w : World} (h : KRow B S v acc w) {g : Nat} (hg : v.ownBlock = some g) : B ≤ g ∧ g < w.heap.size := by
  obtain ⟨csl, h1, h2, h3, h4⟩ := h; exact owns_in h3 hg
theorem krow_push {B : Nat} {S S' : Nat → Prop} {v' : Value} {acc : List NT} {csl : List (List Value)} {t : NT} {cs : List Value} {w w' : World} (h1 : csl.length = acc.length) (h2 : ∀ cs ∈ csl, cs.length = 10)
    (h4 : ∀ (i : Nat) t cs, acc[i]? = some t → csl[i]? = some cs → NeedIs S w t cs) (hn : NeedIs S w t cs) (hc : cs.length = 10) (hS : ∀ b, S b → w'.heap[b]? = w.heap[b]? ∧ S' b)
    (h5 : w'.ownsRow B 26 10 v' (acc.length + 1) (csl.flatten ++ cs)) : KRow B S' v' (acc ++ [t]) w' := by
  have mn : ∀ t cs, NeedIs S w t cs → NeedIs S' w' t cs := fun t cs h => NeedIs.mono (fun p hp => World.cell?_of_block (w := w) (hS _ hp).1) (fun b hb => (hS b hb).2) t cs h
  refine ⟨csl ++ [cs], by simp [h1], fun x hx => ?_, by simpa using h5, fun i u x hu hx => ?_⟩
  · rcases List.mem_append.1 hx with hx | hx
    · exact h2 x hx
    · rw [List.mem_singleton.1 hx]; exact hc
  · by_cases hi : i < acc.length
    · rw [List.getElem?_append_left hi] at hu
      rw [List.getElem?_append_left (by omega)] at hx
      exact mn _ _ (h4 i u x hu hx)
    · have hi2 : i = acc.length := by
        have := (List.getElem?_eq_some_iff.1 hu).1
        simp at this; omega
      subst hi2
      rw [List.getElem?_append_right (Nat.le_refl _), Nat.sub_self] at hu
      rw [← h1, List.getElem?_append_right (Nat.le_refl _), Nat.sub_self] at hx
      cases hu; cases hx
      exact mn _ _ hn
theorem KRow.final {B : Nat} {S : Nat → Prop} {v : Value} {acc : List NT} {w : World} (h : KRow B S v acc w) : ∃ kp cap, v = .slice kp acc.length cap ∧ acc.length ≤ cap ∧ acc.length ≤ 9223372036854775807 ∧ KidsIs (fun b => S b ∨ v.ownBlock = some b) w acc kp 0 := by
  obtain ⟨csl, h1, h2, ⟨h3, ⟨rfl, h0⟩ | ⟨g, cap, cur, rfl, e2, e3, e4, e5, e6, e7⟩⟩, h4⟩ := h
  · obtain rfl := List.length_eq_zero_iff.1 h0
    exact ⟨none, 0, rfl, Nat.le_refl _, by simp, by rw [KidsIs]; trivial⟩
  · refine ⟨some ⟨g, 0, none⟩, cap, rfl, e4, by unfold maxLen at e5; omega, ?_⟩
    have key : ∀ (ts : List NT) (i : Nat), ts = acc.drop i → i + ts.length = acc.length → KidsIs (fun b => S b ∨ (Value.slice (some ⟨g, 0, none⟩) acc.length cap).ownBlock = some b) w ts (some ⟨g, 0, none⟩) i := by
      intro ts
      induction ts with
      | nil => intro i _ _; rw [KidsIs]; trivial
      | cons t ts ih =>
        intro i he hl
        rw [List.length_cons] at hl
        have hi : i < acc.length := by omega
        rw [List.drop_eq_getElem_cons hi] at he
        injection he with he1 he2
        rw [KidsIs]
        refine ⟨⟨⟨g, 0, none⟩, csl[i], rfl, Or.inr rfl, fun m u hu => ?_, ?_⟩, ih (i + 1) he2 (by omega)⟩
        · have hlen : csl[i].length = 10 := h2 _ (List.getElem_mem _)
          have hm : m < 10 := by rw [← hlen]; exact (List.getElem?_eq_some_iff.1 hu).1
          have hf := flatten_get h2 i csl[i] (List.getElem?_eq_getElem (by omega)) m u hu
          have ha : ((⟨g, 0, none⟩ : Addr).add (i * 10)).add m = ⟨g, i * 10 + m, none⟩ := by
            rw [Addr.add_mid, Addr.add_mid, Nat.zero_add]
          rw [ha]
          rw [← e7, List.getElem?_take, if_pos (by omega)] at hf
          simp only [World.cell?, e3]
          simpa using hf
        · rw [he1]
          exact NeedIs.mono (fun _ _ => rfl) (fun b hb => Or.inl hb) _ _ (h4 i _ _ (List.getElem?_eq_getElem hi) (List.getElem?_eq_getElem (by omega)))
    exact key acc 0 (by simp) (by simp)

/-- The blocks that are still written. -/
def Live (v : Value) (kvs : List Value) (b : Nat) : Prop := v.ownBlock = some b ∨ ∃ kv ∈ kvs, kv.ownBlock = some b
def Dead (B : Nat) (v : Value) (kvs : List Value) (w : World) (b : Nat) : Prop := B ≤ b ∧ b < w.heap.size ∧ ¬ Live v kvs b
def stCells (st : List NT) (kvs : List Value) : List (List Value) := List.zipWith (fun t kv => t.head9 ++ [kv]) st kvs
theorem stCells_len {st : List NT} {kvs : List Value} (h : kvs.length = st.length) : (stCells st kvs).length = st.length := by unfold stCells; rw [List.length_zipWith, h, Nat.min_self]
theorem stCells_10 {st : List NT} {kvs : List Value} : ∀ cs ∈ stCells st kvs, cs.length = 10 := by
  intro cs hcs
  unfold stCells at hcs
  obtain ⟨i, hi, rfl⟩ := List.mem_iff_getElem.1 hcs
  rw [List.getElem_zipWith, List.length_append, head9_len]; rfl
theorem stCells_app {st : List NT} {kvs : List Value} (h : kvs.length = st.length) (p : NT) (kv : Value) : stCells (st ++ [p]) (kvs ++ [kv]) = stCells st kvs ++ [p.head9 ++ [kv]] := by
  unfold stCells; rw [List.zipWith_append (by omega)]; rfl
theorem flat_len : ∀ l : List (List Value), (∀ c ∈ l, c.length = 10) → l.flatten.length = l.length * 10
  | [], _ => rfl
  | c :: r, hl => by rw [List.flatten_cons, List.length_append, flat_len r (fun z hz => hl z (by simp [hz])), hl c (by simp), List.length_cons]; omega
/-- The stack: outermost first; kvs: the rows of kids. -/
structure Stk (B : Nat) (v : Value) (st : List NT) (kvs : List Value) (w : World) : Prop where
  len : kvs.length = st.length
  row : w.ownsRow B 26 10 v st.length (stCells st kvs).flatten
  kid : ∀ (i : Nat) t kv, st[i]? = some t → kvs[i]? = some kv → KRow B (Dead B v kvs w) kv t.kids w
  kv : ∀ kv ∈ kvs, ∀ g, kv.ownBlock = some g → v.ownBlock ≠ some g
  dis : ∀ (i j : Nat) a b g, i ≠ j → kvs[i]? = some a → kvs[j]? = some b → a.ownBlock = some g → b.ownBlock ≠ some g
theorem Stk.nil (B : Nat) (w : World) : Stk B (.slice none 0 0) [] [] w := ⟨rfl, World.ownsRow_nil _ _ _ _, by simp, by simp, by simp⟩
theorem Stk.live {B : Nat} {v : Value} {st : List NT} {kvs : List Value} {w : World} (h : Stk B v st kvs w) {g : Nat} (hg : Live v kvs g) : B ≤ g ∧ g < w.heap.size := by
  rcases hg with hg | ⟨kv, hm, hg⟩
  · exact owns_in h.row hg
  · obtain ⟨i, hi, rfl⟩ := List.mem_iff_getElem.1 hm
    have hi2 : i < st.length := by rw [← h.len]; exact hi
    exact (h.kid i _ _ (List.getElem?_eq_getElem hi2) (List.getElem?_eq_getElem hi)).in hg
theorem Stk.other {B : Nat} {v : Value} {st : List NT} {kvs : List Value} {w w' : World} (h : Stk B v st kvs w) (hs : w.heap.size ≤ w'.heap.size) (hb : ∀ b, B ≤ b → b < w.heap.size → w'.heap[b]? = w.heap[b]?) : Stk B v st kvs w' := by
  refine ⟨h.len, owns_other h.row fun g hg => ?_, fun i t kv ht hk => ?_, h.kv, h.dis⟩
  · have := owns_in h.row hg; exact hb g this.1 this.2
  · have hr := h.kid i t kv ht hk
    exact hr.mono (fun g hg => by have := hr.in hg; exact hb g this.1 this.2) fun b hd => ⟨hb b hd.1 hd.2.1, hd.1, Nat.lt_of_lt_of_le hd.2.1 hs, hd.2.2⟩
theorem Stk.keep {B : Nat} {v : Value} {st : List NT} {kvs : List Value} {w w' : World} (h : Stk B v st kvs w) (k : Keep w w') : Stk B v st kvs w' := h.other k.size fun b _ hb => k.block b hb
theorem Stk.shape {B : Nat} {v : Value} {st : List NT} {kvs : List Value} {w : World} (h : Stk B v st kvs w) : ∃ p cap, v = .slice p st.length cap := by
  obtain ⟨-, ⟨rfl, h0⟩ | ⟨g, cap, cur, rfl, -⟩⟩ := h.row
  · exact ⟨none, 0, by rw [h0]⟩
  · exact ⟨_, _, rfl⟩
/-- A need is opened. -/
theorem Stk.push {B : Nat} {v v' : Value} {st : List NT} {kvs : List Value} {w w' : World} {t : NT} (h : Stk B v st kvs w) (ht : t.kids = []) (hs : w.heap.size ≤ w'.heap.size) (hb : ∀ b, B ≤ b → b < w.heap.size → v.ownBlock ≠ some b → w'.heap[b]? = w.heap[b]?)
    (hv : v'.ownBlock = v.ownBlock ∨ ∃ g, v'.ownBlock = some g ∧ w.heap.size ≤ g) (h5 : w'.ownsRow B 26 10 v' (st.length + 1) ((stCells st kvs).flatten ++ (t.head9 ++ [.slice none 0 0]))) : Stk B v' (st ++ [t]) (kvs ++ [.slice none 0 0]) w' := by
  have hne : ∀ b, b < w.heap.size → v.ownBlock ≠ some b → v'.ownBlock ≠ some b := fun b hlt hn e => by
    rcases hv with hv | ⟨g, hg, hge⟩
    · rw [hv] at e; exact hn e
    · rw [hg] at e; have := Option.some.inj e; omega
  refine ⟨by simp [h.len], ?_, fun i u kv hu hk => ?_, fun kv hm g hg => ?_, fun i j a b g hij ha hbb hag => ?_⟩
  · rw [stCells_app h.len, List.flatten_append]
    simpa using h5
  · by_cases hi : i < st.length
    · rw [List.getElem?_append_left hi] at hu
      rw [List.getElem?_append_left (by rw [h.len]; exact hi)] at hk
      have hr := h.kid i u kv hu hk
      refine hr.mono (fun g hg => ?_) fun b hd => ?_
      · have := hr.in hg
        exact hb g this.1 this.2 (h.kv kv (List.mem_of_getElem? hk) g hg)
      · have hn : v.ownBlock ≠ some b := fun e => hd.2.2 (Or.inl e)
        refine ⟨hb b hd.1 hd.2.1 hn, hd.1, Nat.lt_of_lt_of_le hd.2.1 hs, ?_⟩
        rintro (e | ⟨kv', hm, e⟩)
        · exact hne b hd.2.1 hn e
        · rcases List.mem_append.1 hm with hm | hm
          · exact hd.2.2 (Or.inr ⟨kv', hm, e⟩)
          · rw [List.mem_singleton.1 hm] at e; cases e
    · have hi2 : i = st.length := by
        have := (List.getElem?_eq_some_iff.1 hu).1
        simp at this; omega
      subst hi2
      rw [List.getElem?_append_right (Nat.le_refl _), Nat.sub_self] at hu
      rw [← h.len, List.getElem?_append_right (Nat.le_refl _), Nat.sub_self] at hk
      cases hu; cases hk
      rw [ht]; exact KRow.nil _ _ _
  · rcases List.mem_append.1 hm with hm | hm
    · exact hne g (h.live (Or.inr ⟨kv, hm, hg⟩)).2 (h.kv kv hm g hg)
    · rw [List.mem_singleton.1 hm] at hg; cases hg
  · have hget : ∀ (i : Nat) (a : Value), (kvs ++ [Value.slice none 0 0])[i]? = some a → kvs[i]? = some a ∨ a = .slice none 0 0 := fun i a ha => by
      by_cases hi : i < kvs.length
      · rw [List.getElem?_append_left hi] at ha; exact Or.inl ha
      · rw [List.getElem?_append_right (by omega)] at ha
        have := List.mem_of_getElem? ha
        exact Or.inr (List.mem_singleton.1 this)
    rcases hget i a ha with ha | rfl
    · rcases hget j b hbb with hbb | rfl
      · exact h.dis i j a b g hij ha hbb hag
      · intro e; cases e
    · cases hag
/-- The innermost one is closed. -/
theorem Stk.pop {B : Nat} {v : Value} {st : List NT} {kvs : List Value} {t : NT} {kv : Value} {w : World} (h : Stk B v (st ++ [t]) (kvs ++ [kv]) w) :
    ∃ g cap, v = .slice (some ⟨g, 0, none⟩) (st.length + 1) cap ∧ st.length + 1 ≤ cap ∧ B ≤ g ∧ g < w.heap.size ∧ (∀ j u, (t.head9 ++ [kv])[j]? = some u → w.cell? ⟨g, st.length * 10 + j, none⟩ = some u) ∧ Stk B (.slice (some ⟨g, 0, none⟩) st.length cap) st kvs w ∧ NeedIs (Dead B (.slice (some ⟨g, 0, none⟩) st.length cap) kvs w) w t (t.head9 ++ [kv]) := by
  have hlen : kvs.length = st.length := by have := h.len; simpa using this
  obtain ⟨h3, h3'⟩ := h.row
  rw [stCells_app hlen, List.flatten_append] at h3 h3'
  simp only [List.length_append, List.length_cons, List.length_nil, List.flatten_cons, List.flatten_nil, List.append_nil] at h3 h3'
  rcases h3' with ⟨-, h0⟩ | ⟨g, cap, cur, rfl, e2, e3, e4, e5, e6, e7⟩
  · omega
  have hfl : (stCells st kvs).flatten.length = st.length * 10 := by rw [flat_len _ stCells_10, stCells_len hlen]
  have hgl := (Array.getElem?_eq_some_iff.1 e3).1
  have hrow : w.ownsRow B 26 10 (.slice (some ⟨g, 0, none⟩) st.length cap) st.length (stCells st kvs).flatten := by
    refine ⟨hfl, Or.inr ⟨g, cap, cur, rfl, e2, e3, by omega, e5, e6, ?_⟩⟩
    have := congrArg (List.take (st.length * 10)) e7
    rw [List.take_take, Nat.min_eq_left (by omega), ← hfl, List.take_left, hfl] at this
    exact this
  have hkvm : ∀ x, x ∈ kvs → x ∈ kvs ++ [kv] := fun x hx => List.mem_append_left _ hx
  have hkvl : (kvs ++ [kv])[st.length]? = some kv := by rw [← hlen]; simp
  refine ⟨g, cap, rfl, e4, e2, hgl, fun j u hu => ?_, ⟨hlen, hrow, fun i u x hu hx => ?_, fun x hx g' hg' => h.kv x (hkvm x hx) g' hg', fun i j a b g' hij ha hb hag => ?_⟩, ?_⟩
  · have hj : j < 10 := by have := (List.getElem?_eq_some_iff.1 hu).1; rw [List.length_append, head9_len] at this; simpa using this
    have hf : ((stCells st kvs).flatten ++ (t.head9 ++ [kv]))[st.length * 10 + j]? = some u := by rw [List.getElem?_append_right (by omega), hfl, Nat.add_sub_cancel_left]; exact hu
    rw [← e7, List.getElem?_take, if_pos (by omega)] at hf
    simp only [World.cell?, e3]
    simpa using hf
  · have hi : i < st.length := (List.getElem?_eq_some_iff.1 hu).1
    have hr := h.kid i u x (by rw [List.getElem?_append_left hi]; exact hu) (by rw [List.getElem?_append_left (by omega)]; exact hx)
    refine hr.mono (fun _ _ => rfl) fun b hd => ⟨rfl, hd.1, hd.2.1, ?_⟩
    rintro (e | ⟨x', hm, e⟩)
    · exact hd.2.2 (Or.inl e)
    · exact hd.2.2 (Or.inr ⟨x', hkvm x' hm, e⟩)
  · have hi : i < kvs.length := (List.getElem?_eq_some_iff.1 ha).1
    have hj : j < kvs.length := (List.getElem?_eq_some_iff.1 hb).1
    exact h.dis i j a b g' hij (by rw [List.getElem?_append_left hi]; exact ha) (by rw [List.getElem?_append_left hj]; exact hb) hag
  · have hr := h.kid st.length t kv (by simp) hkvl
    have hkb := fun b hb => hr.in (g := b) hb
    obtain ⟨kp, kc, rfl, f1, f2, f3⟩ := hr.final
    cases t with
    | node k a fl nt kids =>
      rw [NeedIs]
      refine ⟨kp, kc, rfl, f1, f2, KidsIs.mono (fun _ _ => rfl) (fun b hb => ?_) _ _ _ f3⟩
      rcases hb with hb | hb
      · refine ⟨hb.1, hb.2.1, ?_⟩
        rintro (e | ⟨x', hm, e⟩)
        · exact hb.2.2 (Or.inl e)
        · exact hb.2.2 (Or.inr ⟨x', hkvm x' hm, e⟩)
      · refine ⟨(hkb b hb).1, (hkb b hb).2, ?_⟩
        rintro (e | ⟨x', hm, e⟩)
        · exact h.kv _ (List.mem_append_right _ (by simp)) b hb e
        · obtain ⟨i, hi, rfl⟩ := List.mem_iff_getElem.1 hm
          exact h.dis i st.length kvs[i] _ b (by omega) (by rw [List.getElem?_append_left hi, List.getElem?_eq_getElem hi]) hkvl e hb
/-- The innermost one gets a kid. -/
theorem Stk.put {B : Nat} {v kv kv' : Value} {st : List NT} {kvs : List Value} {p t : NT} {w w' : World} {csl : List (List Value)} {cs : List Value} (h : Stk B v (st ++ [p]) (kvs ++ [kv]) w) (hs : w.heap.size ≤ w'.heap.size)
    (hb : ∀ b, B ≤ b → b < w.heap.size → v.ownBlock ≠ some b → kv.ownBlock ≠ some b → w'.heap[b]? = w.heap[b]?) (hk : kv'.ownBlock = kv.ownBlock ∨ ∃ g, kv'.ownBlock = some g ∧ w.heap.size ≤ g)
    (h1 : csl.length = p.kids.length) (h2 : ∀ cs ∈ csl, cs.length = 10) (h4 : ∀ (i : Nat) t cs, p.kids[i]? = some t → csl[i]? = some cs → NeedIs (Dead B v (kvs ++ [kv]) w) w t cs) (hn : NeedIs (Dead B v (kvs ++ [kv]) w) w t cs) (hc : cs.length = 10)
    (h5 : w'.ownsRow B 26 10 kv' (p.kids.length + 1) (csl.flatten ++ cs)) (h6 : w'.ownsRow B 26 10 v (st.length + 1) ((stCells st kvs).flatten ++ (p.head9 ++ [kv']))) : Stk B v (st ++ [p.addKid t]) (kvs ++ [kv']) w' := by
  have hlen : kvs.length = st.length := by have := h.len; simpa using this
  have hkvl : (kvs ++ [kv])[st.length]? = some kv := by rw [← hlen]; simp
  have hkm : kv ∈ kvs ++ [kv] := List.mem_append_right _ (by simp)
  have hne : ∀ b, b < w.heap.size → kv.ownBlock ≠ some b → kv'.ownBlock ≠ some b := fun b hlt hn e => by
    rcases hk with hk | ⟨g, hg, hge⟩
    · rw [hk] at e; exact hn e
    · rw [hg] at e; have := Option.some.inj e; omega
  have hvl : ∀ b, v.ownBlock = some b → b < w.heap.size := fun b e => (h.live (Or.inl e)).2
  have hkx : ∀ b, kv'.ownBlock = some b → v.ownBlock ≠ some b := fun b e1 e2 => hne b (hvl b e2) (fun e => h.kv kv hkm b e e2) e1
  have hdead : ∀ b, Dead B v (kvs ++ [kv]) w b → w'.heap[b]? = w.heap[b]? ∧ Dead B v (kvs ++ [kv']) w' b := fun b hd => by
    have n1 : v.ownBlock ≠ some b := fun e => hd.2.2 (Or.inl e)
    have n2 : kv.ownBlock ≠ some b := fun e => hd.2.2 (Or.inr ⟨kv, hkm, e⟩)
    refine ⟨hb b hd.1 hd.2.1 n1 n2, hd.1, Nat.lt_of_lt_of_le hd.2.1 hs, ?_⟩
    rintro (e | ⟨x, hm, e⟩)
    · exact n1 e
    · rcases List.mem_append.1 hm with hm | hm
      · exact hd.2.2 (Or.inr ⟨x, List.mem_append_left _ hm, e⟩)
      · rw [List.mem_singleton.1 hm] at e; exact hne b hd.2.1 n2 e
  have hget : ∀ (i : Nat) (a : Value), (kvs ++ [kv'])[i]? = some a → (i < kvs.length ∧ (kvs ++ [kv])[i]? = some a) ∨ (i = st.length ∧ a = kv') := fun i a ha => by
    by_cases hi : i < kvs.length
    · rw [List.getElem?_append_left hi] at ha
      exact Or.inl ⟨hi, by rw [List.getElem?_append_left hi]; exact ha⟩
    · have hi2 : i = st.length := by
        have := (List.getElem?_eq_some_iff.1 ha).1
        simp at this; omega
      subst hi2
      rw [← hlen, List.getElem?_append_right (Nat.le_refl _), Nat.sub_self] at ha
      cases ha
      exact Or.inr ⟨rfl, rfl⟩
  have hlt : ∀ (i : Nat) (a : Value), (kvs ++ [kv])[i]? = some a → ∀ g, a.ownBlock = some g → g < w.heap.size := fun i a ha g hg => (h.live (Or.inr ⟨a, List.mem_of_getElem? ha, hg⟩)).2
  refine ⟨by simp [hlen], ?_, fun i u x hu hx => ?_, fun x hm g hg => ?_, fun i j a b g hij ha hbb hag => ?_⟩
  · rw [stCells_app hlen, List.flatten_append, head9_add]
    simpa using h6
  · rcases hget i x hx with ⟨hi, hx⟩ | ⟨rfl, rfl⟩
    · rw [List.getElem?_append_left (by omega)] at hu
      have hr := h.kid i u x (by rw [List.getElem?_append_left (by omega)]; exact hu) hx
      refine hr.mono (fun g hg => ?_) hdead
      have := hr.in hg
      exact hb g this.1 this.2 (h.kv x (List.mem_of_getElem? hx) g hg) (h.dis i st.length x kv g (by omega) hx hkvl hg)
    · rw [List.getElem?_append_right (Nat.le_refl _), Nat.sub_self] at hu
      cases hu
      rw [kids_add]
      exact krow_push h1 h2 h4 hn hc hdead h5
  · rcases List.mem_append.1 hm with hm | hm
    · exact h.kv x (List.mem_append_left _ hm) g hg
    · rw [List.mem_singleton.1 hm] at hg; exact hkx g hg
  · rcases hget i a ha with ⟨hi, ha2⟩ | ⟨hi, ea⟩
    · rcases hget j b hbb with ⟨hj, hb2⟩ | ⟨hj, eb⟩
      · exact h.dis i j a b g hij ha2 hb2 hag
      · rw [eb]
        exact hne g (hlt i a ha2 g hag) (h.dis i st.length a kv g (by omega) ha2 hkvl hag)
    · rw [ea] at hag
      rcases hget j b hbb with ⟨hj, hb2⟩ | ⟨hj, eb⟩
      · intro e
        exact hne g (hlt j b hb2 g e) (h.dis j st.length b kv g (by omega) hb2 hkvl e) hag
      · omega
/-- The last one of a row is written anew. -/
theorem own_fill {w : World} {base e g n cap : Nat} {xs : List Value} {z0 z1 z2 z3 z4 z5 z6 z7 z8 z9 : Value} (h : w.ownsRow base e 10 (.slice (some ⟨g, 0, none⟩) (n + 1) cap) (n + 1) (xs ++ [z0, z1, z2, z3, z4, z5, z6, z7, z8, z9])) (hx : xs.length = n * 10) (v0 v1 v2 v3 v4 v5 v6 v7 v8 v9 : Value) :
    ((((((((((w.setCell ⟨g, n * 10, none⟩ v0).setCell ⟨g, n * 10 + 1, none⟩ v1).setCell ⟨g, n * 10 + 2, none⟩ v2).setCell ⟨g, n * 10 + 3, none⟩ v3).setCell ⟨g, n * 10 + 4, none⟩ v4).setCell ⟨g, n * 10 + 5, none⟩ v5).setCell ⟨g, n * 10 + 6, none⟩ v6).setCell ⟨g, n * 10 + 7, none⟩ v7).setCell ⟨g, n * 10 + 8, none⟩ v8).setCell ⟨g, n * 10 + 9, none⟩ v9).ownsRow base e 10 (.slice (some ⟨g, 0, none⟩) (n + 1) cap) (n + 1) (xs ++ [v0, v1, v2, v3, v4, v5, v6, v7, v8, v9]) := by
  have s : ∀ (k : Nat) (zs : List Value) (u : Value), (xs ++ zs).set (n * 10 + k) u = xs ++ zs.set k u := fun k zs u => by
    rw [List.set_append, if_neg (by omega), hx, Nat.add_sub_cancel_left]
  have h0 := (h.stored (n * 10 + 0) v0).1
  rw [s, Nat.add_zero] at h0
  have h1 := (h0.stored (n * 10 + 1) v1).1
  rw [s] at h1
  have h2 := (h1.stored (n * 10 + 2) v2).1
  rw [s] at h2
  have h3 := (h2.stored (n * 10 + 3) v3).1
  rw [s] at h3
  have h4 := (h3.stored (n * 10 + 4) v4).1
  rw [s] at h4
  have h5 := (h4.stored (n * 10 + 5) v5).1
  rw [s] at h5
  have h6 := (h5.stored (n * 10 + 6) v6).1
  rw [s] at h6
  have h7 := (h6.stored (n * 10 + 7) v7).1
  rw [s] at h7
  have h8 := (h7.stored (n * 10 + 8) v8).1
  rw [s] at h8
  have h9 := (h8.stored (n * 10 + 9) v9).1
  rw [s] at h9
  exact h9
end Go.Proofs.YtkckkjpkidcbnaaGreatDoor
