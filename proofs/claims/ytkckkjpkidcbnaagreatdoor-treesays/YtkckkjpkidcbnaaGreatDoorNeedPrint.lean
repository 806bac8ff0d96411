/- need.Print answers with the need's text, or its error, of any need that lies in memory; nothing that was there is changed. -/
import Derived.Test.YtkckkjpkidcbnaaGreatDoorNeedCheck
import Derived.Test.YtkckkjpkidcbnaaGreatDoorNeedText
import Derived.Maps.AppendAt
import Derived.Deep.Cut
import Derived.Test.YtkckkjpkidcbnaaGreatDoorShelfS
namespace Go.Proofs.YtkckkjpkidcbnaaGreatDoor
open Go.RowKit

theorem app_bytes (a b : ByteArray) : (a ++ b).data.toList = a.data.toList ++ b.data.toList := by simp
theorem marked_any (nt : Bool) (s : ByteArray) (hs : s.size ≤ 1000) (w : World) :
    Calls Tryz.prog 118 #[.bool nt, .string s] w fun e w' => e = .returned (.string (if nt then ⟨#[33]⟩ ++ s else s)) ∧ w' = w := by
  cases nt
  · go_enter Tryz.func118, Tryz.ntmps118
    go_wp2
    go_ret
    exact ⟨rfl, rfl⟩
  · go_enter Tryz.func118, Tryz.ntmps118
    go_wp2
    go_ret
    exact ⟨rfl, rfl⟩

theorem bytes_snoc {fl : ByteArray} {c : UInt8} (h : fl.size ≤ 8) : (fl ++ ⟨#[c]⟩ : ByteArray).size ≤ 1000 := by
  rw [ByteArray.size_append]
  have : (⟨#[c]⟩ : ByteArray).size = 1 := rfl
  omega
theorem infoStr : (Tryz.prog.info? 9).map (fun i => (i.zero, i.size, i.bytes)) = some (some (.string ByteArray.empty), 1, 16) := by kernel_rfl
/-- The words so far. -/
def WordsAt (B : Nat) (v : Value) (L : List ByteArray) (w : World) : Prop := w.ownsRow B 9 1 v L.length (L.map Value.string)
theorem WordsAt.alloc {B : Nat} {v : Value} {L : List ByteArray} {w : World} (h : WordsAt B v L w) (o : Obj) : WordsAt B v L (w.alloc o) := World.ownsRow.alloc h o

theorem owns_keep {B e sz n : Nat} {v : Value} {xs : List Value} {w w' : World} (h : w.ownsRow B e sz v n xs) (k : Keep w w') : w'.ownsRow B e sz v n xs := by
  obtain ⟨h1, h2⟩ := h
  refine ⟨h1, h2.imp id ?_⟩
  rintro ⟨g, cap, cur, e1, e2, e3, e4, e5, e6, e7⟩
  exact ⟨g, cap, cur, e1, e2, by rw [k.block g (Array.getElem?_eq_some_iff.1 e3).1]; exact e3, e4, e5, e6, e7⟩
theorem WordsAt.keep {B : Nat} {v : Value} {L : List ByteArray} {w w' : World} (h : WordsAt B v L w) (k : Keep w w') : WordsAt B v L w' := owns_keep h k
theorem owns_lt {B e sz n : Nat} {v : Value} {xs : List Value} {w : World} (h : w.ownsRow B e sz v n xs) {g : Nat} (hg : v.ownBlock = some g) : B ≤ g ∧ g < w.heap.size := by
  obtain ⟨-, ⟨rfl, -⟩ | ⟨g', cap, cur, rfl, e2, e3, -⟩⟩ := h
  · cases hg
  · cases hg
    exact ⟨e2, (Array.getElem?_eq_some_iff.1 e3).1⟩
theorem one_news {w : World} {x : Value} {T : TypeId} (j : Nat) (u : Value) (h : [x][j]? = some u) : (w.alloc (.cells #[x] T)).cell? ((⟨w.heap.size, 0, none⟩ : Addr).add j) = some u := by
  match j, h with
  | 0, h => simp at h; subst h; simp [Addr.add]
theorem one_cell {s : ByteArray} (u : Value) (h : u ∈ [Value.string s]) : u.oneCell' = true := by simp at h; subst h; rfl
/-- What an append of a word leaves. -/
theorem words_push {B : Nat} {v v' : Value} {L : List ByteArray} {x : ByteArray} {w w' : World} {o : Obj} (hB : B ≤ w.heap.size) (hw : WordsAt B v L w) (h1 : w'.ownsRow B 9 1 v' (L.length + 1) (L.map Value.string ++ [.string x])) (h2 : (w.alloc o).grownBy w' v.ownBlock) :
    WordsAt B v' (L ++ [x]) w' ∧ Below B w w' := by
  refine ⟨by unfold WordsAt; simpa using h1, ?_⟩
  exact ((Below.refl B w).alloc hB o).grown h2 (by have := alloc_size w o; omega) (fun g hg => (owns_lt hw hg).1)

set_option maxHeartbeats 2000000 in
theorem words_leaf (B : Nat) (v : Value) (L : List ByteArray) (k : Int) (a : At) (kp : Option Addr) (kc : Nat) (w : World) (hk : k = 1 ∨ k = 2) (hc : chkA a = 0) (hs : Signs w) (hB : B ≤ w.heap.size) (hw : WordsAt B v L w) (hL : L.length ≤ 1000) :
    Calls Tryz.prog 54 #[v, .agg #[.int .i64 k, .string a.n, .int .i64 a.op, .int .i64 a.v, .int .i64 a.sl, .string a.f, .bool a.on, .string ⟨#[]⟩, .bool false, .slice kp 0 kc]] w
      fun e w' => ∃ v' L', e = .returned v' ∧ WordsAt B v' (L ++ L') w' ∧ L'.map (·.data.toList) = (NT.node k a ⟨#[]⟩ false []).words ∧ Below B w w' := by
  obtain ⟨i0, hi, hz0, hz1, hz2⟩ := info_parts infoStr
  have HC : Hid (chkA a = 0) := hc
  have HW : Hid (WordsAt B v L w) := hw
  have HS : Hid (Signs w) := hs
  clear hc hw hs
  rcases hk with rfl | rfl
  · have hb0 : Hid (Boxed w.heap.size #[.int .i64 1, .string a.n, .int .i64 a.op, .int .i64 a.v, .int .i64 a.sl, .string a.f, .bool a.on, .string ⟨#[]⟩, .bool false, .slice kp 0 kc] (w.alloc (.cells #[.int .i64 1, .string a.n, .int .i64 a.op, .int .i64 a.v, .int .i64 a.sl, .string a.f, .bool a.on, .string ⟨#[]⟩, .bool false, .slice kp 0 kc] 26))) := Boxed.new w #[.int .i64 1, .string a.n, .int .i64 a.op, .int .i64 a.v, .int .i64 a.sl, .string a.f, .bool a.on, .string ⟨#[]⟩, .bool false, .slice kp 0 kc] 26
    have k0 := Keep.alloc w (.cells #[.int .i64 1, .string a.n, .int .i64 a.op, .int .i64 a.v, .int .i64 a.sl, .string a.f, .bool a.on, .string ⟨#[]⟩, .bool false, .slice kp 0 kc] 26)
    go_enter Tryz.func54, Tryz.ntmps54
    go_wp2_with fail
    generalize w.alloc (.cells #[.int .i64 1, .string a.n, .int .i64 a.op, .int .i64 a.v, .int .i64 a.sl, .string a.f, .bool a.on, .string ⟨#[]⟩, .bool false, .slice kp 0 kc] 26) = W0 at hb0 k0 ⊢
    refine (print_ok _ _ _ _ _ _ W0 (HS.out.keep k0) HC.out).mono ?_
    rintro e w1 ⟨rfl, k1⟩
    have K1 : Hid (Keep w w1) := k0.trans k1
    have HB1 : Hid (Boxed w.heap.size #[.int .i64 1, .string a.n, .int .i64 a.op, .int .i64 a.v, .int .i64 a.sl, .string a.f, .bool a.on, .string ⟨#[]⟩, .bool false, .slice kp 0 kc] w1) := hb0.out.keep k1 hb0.out.1
    have hc1 := HB1.out.2
    have hlt1 := HB1.out.1
    have hT : Hid ((⟨(textOf a.n.data.toList a.op a.v a.sl a.f.data.toList a.on).toArray⟩ : ByteArray).data.toList = textA a) := by show _ = _; simp [textA]
    have hl : (⟨(textOf a.n.data.toList a.op a.v a.sl a.f.data.toList a.on).toArray⟩ : ByteArray).size ≤ 100 := by have := text_len HC.out; rw [mk_size]; exact this
    generalize (⟨(textOf a.n.data.toList a.op a.v a.sl a.f.data.toList a.on).toArray⟩ : ByteArray) = tx at hT hl ⊢
    clear k0 k1 hb0
    go_wp2_with fail
    refine (marked_any _ tx (by omega) w1).mono ?_
    rintro e w2 ⟨rfl, rfl⟩
    have hw2 : WordsAt B v L w2 := HW.out.keep K1.out
    have HW2 : Hid (WordsAt B v L w2) := hw2
    have hB2 : B ≤ w2.heap.size := Nat.le_trans hB K1.out.size
    clear hc1 hw2
    go_wp2_with (at_builtin; refine wpList_append_own _ rfl _ _ 32 rfl B 9 i0 (.string ByteArray.empty) 1 16 Tryz.underlying32 hi hz0 hz1 hz2 rfl (by decide) v L.length (L.map Value.string) rfl (HW2.out.alloc _) ⟨w2.heap.size, 0, none⟩ 1 1 [.string tx] rfl rfl one_news one_cell (by unfold maxLen; omega) (by omega) (by have := alloc_size w2 (.cells #[.string tx] 9); omega) ?_)
    intro v' w3 h3 h4 _
    obtain ⟨h5, h6⟩ := words_push hB2 HW2.out h3 h4
    have H5 : Hid (WordsAt B v' (L ++ [tx]) w3) := h5
    have H6 : Hid (Below B w w3) := Below.trans (Below.mono K1.out hB) h6
    clear h3 h4 h5 h6
    go_wp2_with fail
    go_ret
    exact ⟨v', [tx], rfl, H5.out, by rw [NT.words, if_pos rfl, List.map_cons, hT.out]; rfl, H6.out⟩
  · have hb0 : Hid (Boxed w.heap.size #[.int .i64 2, .string a.n, .int .i64 a.op, .int .i64 a.v, .int .i64 a.sl, .string a.f, .bool a.on, .string ⟨#[]⟩, .bool false, .slice kp 0 kc] (w.alloc (.cells #[.int .i64 2, .string a.n, .int .i64 a.op, .int .i64 a.v, .int .i64 a.sl, .string a.f, .bool a.on, .string ⟨#[]⟩, .bool false, .slice kp 0 kc] 26))) := Boxed.new w #[.int .i64 2, .string a.n, .int .i64 a.op, .int .i64 a.v, .int .i64 a.sl, .string a.f, .bool a.on, .string ⟨#[]⟩, .bool false, .slice kp 0 kc] 26
    have k0 := Keep.alloc w (.cells #[.int .i64 2, .string a.n, .int .i64 a.op, .int .i64 a.v, .int .i64 a.sl, .string a.f, .bool a.on, .string ⟨#[]⟩, .bool false, .slice kp 0 kc] 26)
    go_enter Tryz.func54, Tryz.ntmps54
    go_wp2_with fail
    generalize w.alloc (.cells #[.int .i64 2, .string a.n, .int .i64 a.op, .int .i64 a.v, .int .i64 a.sl, .string a.f, .bool a.on, .string ⟨#[]⟩, .bool false, .slice kp 0 kc] 26) = W0 at hb0 k0 ⊢
    refine (print_ok _ _ _ _ _ _ W0 (HS.out.keep k0) HC.out).mono ?_
    rintro e w1 ⟨rfl, k1⟩
    have K1 : Hid (Keep w w1) := k0.trans k1
    have HB1 : Hid (Boxed w.heap.size #[.int .i64 2, .string a.n, .int .i64 a.op, .int .i64 a.v, .int .i64 a.sl, .string a.f, .bool a.on, .string ⟨#[]⟩, .bool false, .slice kp 0 kc] w1) := hb0.out.keep k1 hb0.out.1
    have hc1 := HB1.out.2
    have hlt1 := HB1.out.1
    have hT : Hid ((⟨(textOf a.n.data.toList a.op a.v a.sl a.f.data.toList a.on).toArray⟩ : ByteArray).data.toList = textA a) := by show _ = _; simp [textA]
    have hl : (⟨(textOf a.n.data.toList a.op a.v a.sl a.f.data.toList a.on).toArray⟩ : ByteArray).size ≤ 100 := by have := text_len HC.out; rw [mk_size]; exact this
    generalize (⟨(textOf a.n.data.toList a.op a.v a.sl a.f.data.toList a.on).toArray⟩ : ByteArray) = tx at hT hl ⊢
    clear k0 k1 hb0
    go_wp2_with fail
    refine (marked_any _ tx (by omega) w1).mono ?_
    rintro e w2 ⟨rfl, rfl⟩
    have hw2 : WordsAt B v L w2 := HW.out.keep K1.out
    have HW2 : Hid (WordsAt B v L w2) := hw2
    have hB2 : B ≤ w2.heap.size := Nat.le_trans hB K1.out.size
    clear hc1 hw2
    go_wp2_with (at_builtin; refine wpList_append_own _ rfl _ _ 32 rfl B 9 i0 (.string ByteArray.empty) 1 16 Tryz.underlying32 hi hz0 hz1 hz2 rfl (by decide) v L.length (L.map Value.string) rfl (HW2.out.alloc _) ⟨w2.heap.size, 0, none⟩ 1 1 [.string (⟨#[33]⟩ ++ tx)] rfl rfl one_news one_cell (by unfold maxLen; omega) (by omega) (by have := alloc_size w2 (.cells #[.string (⟨#[33]⟩ ++ tx)] 9); omega) ?_)
    intro v' w3 h3 h4 _
    obtain ⟨h5, h6⟩ := words_push hB2 HW2.out h3 h4
    have H5 : Hid (WordsAt B v' (L ++ [(⟨#[33]⟩ ++ tx)]) w3) := h5
    have H6 : Hid (Below B w w3) := Below.trans (Below.mono K1.out hB) h6
    clear h3 h4 h5 h6
    go_wp2_with fail
    go_ret
    exact ⟨v', [(⟨#[33]⟩ ++ tx)], rfl, H5.out, by rw [NT.words, if_neg (by decide), if_pos rfl, List.map_cons, app_bytes, hT.out]; rfl, H6.out⟩
theorem Signs.below {w w' : World} {B : Nat} (h : Signs w) (k : Below B w w') (hB : 0 < B) : Signs w' :=
  ⟨Nat.lt_of_lt_of_le h.1 k.size, (k.cell (p := ⟨0, 1, none⟩) hB).trans h.2.1, (k.cell (p := ⟨0, 2, none⟩) hB).trans h.2.2.1, (k.cell (p := ⟨0, 3, none⟩) hB).trans h.2.2.2⟩
theorem wordsL_app : ∀ a b : List NT, wordsL (a ++ b) = wordsL a ++ wordsL b
  | [], b => by rw [wordsL]; rfl
  | t :: a, b => by rw [List.cons_append, wordsL, wordsL, wordsL_app a b, List.append_assoc]
theorem wordsL_take {kids : List NT} {j : Nat} (h : j < kids.length) : wordsL (kids.take (j + 1)) = wordsL (kids.take j) ++ kids[j].words ∧ (wordsL (kids.take j)).length + kids[j].words.length ≤ (wordsL kids).length := by
  have e : wordsL (kids.take (j + 1)) = wordsL (kids.take j) ++ kids[j].words := by
    rw [List.take_succ_eq_append_getElem h, wordsL_app]
    simp [wordsL]
  refine ⟨e, ?_⟩
  have e2 : wordsL kids = wordsL (kids.take (j + 1)) ++ wordsL (kids.drop (j + 1)) := by rw [← wordsL_app, List.take_append_drop]
  rw [e2, e]; simp
theorem okL_get : ∀ {ts : List NT}, okL ts → ∀ (i : Nat) (h : i < ts.length), ts[i].ok
  | [], _, _, h => absurd h (Nat.not_lt_zero _)
  | t :: ts, hok, i, h => by
    rw [okL] at hok
    cases i with
    | zero => exact hok.1
    | succ i => exact okL_get hok.2 i (by simpa using h)
theorem box_push {b : Nat} {cs : Array Value} {v : Value} {w w' : World} {o : Obj} (h : Boxed b cs w) (hv : v.ownBlock ≠ some b) (hg : (w.alloc o).grownBy w' v.ownBlock) : Boxed b cs w' := by
  have e := alloc_size w o
  have h1 := h.keep (Keep.alloc w o) h.1
  exact ⟨Nat.lt_of_lt_of_le h1.1 hg.size, fun i => (World.cell?_of_block (w := w.alloc o) (a := ⟨b, i, none⟩) (hg.block b h1.1 (fun e => hv e.symm))).trans (h1.2 i)⟩

/-- What appendWords leaves. -/
def WordsDone (B : Nat) (L : List ByteArray) (ws : List Word) (w : World) (e : Ending) (w' : World) : Prop :=
  ∃ v' L', e = .returned v' ∧ WordsAt B v' (L ++ L') w' ∧ L'.map (·.data.toList) = ws ∧ Below B w w'

set_option maxHeartbeats 3000000 in
set_option maxRecDepth 100000 in
theorem words_any (B : Nat) (S : Nat → Prop) (hS : ∀ b, S b → b < B) (hg : 0 < B) :
    ∀ (m : Nat) (t : NT), t.size ≤ m → ∀ (v : Value) (L : List ByteArray) (cs : List Value) (w : World), t.ok → NeedIs S w t cs → Signs w → B ≤ w.heap.size → WordsAt B v L w → L.length + t.words.length ≤ 1000 →
      Calls Tryz.prog 54 #[v, .agg cs.toArray] w fun e w' => WordsDone B L t.words w e w' := by
  intro m
  induction m with
  | zero =>
    rintro ⟨k, a, fl, nt, kids⟩ hm
    rw [NT.size] at hm; omega
  | succ m ih =>
    rintro ⟨k, a, fl, nt, kids⟩ hm v L cs w hok hn hs hB hw hlen
    rw [NT.size] at hm
    rw [NT.ok] at hok
    rw [NeedIs] at hn
    obtain ⟨kp, kc, rfl, hcap, hmax, hkids⟩ := hn
    obtain ⟨i0, hi, hz0, hz1, hz2⟩ := info_parts infoStr
    rcases nodeE_zero hok.1 with ⟨hk, rfl, rfl, rfl, ha⟩ | hgrp
    · exact words_leaf B v L k a kp kc w hk ha hs hB hw (by omega)
    · obtain ⟨P, hP, hwords, hkind⟩ : ∃ P : List ByteArray, P.length ≤ 1 ∧ Hid ((NT.node k a fl nt kids).words = P.map (·.data.toList) ++ ([40] :: (wordsL kids ++ [[41]]))) ∧ ((k = 3 ∧ P = []) ∨ (k = 4 ∧ P = [⟨#[124, 124]⟩]) ∨ (k = 5 ∧ fl.size ≤ 8 ∧ P = [if nt then ⟨#[33]⟩ ++ (fl ++ ⟨#[63]⟩) else fl ++ ⟨#[63]⟩])) := by
        rcases hgrp with ⟨hk | hk, rfl, rfl, rfl⟩ | ⟨hk, rfl, hname⟩
        · exact ⟨[], by simp, by show _ = _; rw [NT.words, if_neg (by omega), if_neg (by omega), if_neg (by omega), if_neg (by omega)]; rfl, Or.inl ⟨hk, rfl⟩⟩
        · exact ⟨[⟨#[124, 124]⟩], by simp, by show _ = _; rw [NT.words, if_neg (by omega), if_neg (by omega), if_pos hk]; rfl, Or.inr (Or.inl ⟨hk, rfl⟩)⟩
        · refine ⟨[if nt then ⟨#[33]⟩ ++ (fl ++ ⟨#[63]⟩) else fl ++ ⟨#[63]⟩], by simp, ?_, Or.inr (Or.inr ⟨hk, by have := nameB_le hname; rw [size_list] at this; exact this, rfl⟩)⟩
          show _ = _
          rw [NT.words, if_neg (by omega), if_neg (by omega), if_neg (by omega), if_pos hk]
          cases nt <;> simp
      have hlen2 : L.length + (P.length + 1 + (wordsL kids).length + 1) ≤ 1000 := by
        have := congrArg List.length hwords.out
        simp at this
        omega
      have HOK : Hid (okL kids) := hok.2
      have HIH := hid ih
      have HK : Hid (KidsIs S w kids kp 0) := hkids
      have HS : Hid (Signs w) := hs
      have HW : Hid (WordsAt B v L w) := hw
      have hvb : v.ownBlock ≠ some w.heap.size := fun e => by have := (owns_lt hw e).2; omega
      clear hok hgrp hkids hs hw ih hlen
      have hb0 : Hid (Boxed w.heap.size #[.int .i64 k, .string a.n, .int .i64 a.op, .int .i64 a.v, .int .i64 a.sl, .string a.f, .bool a.on, .string fl, .bool nt, .slice kp kids.length kc] (w.alloc (.cells #[.int .i64 k, .string a.n, .int .i64 a.op, .int .i64 a.v, .int .i64 a.sl, .string a.f, .bool a.on, .string fl, .bool nt, .slice kp kids.length kc] 26))) := Boxed.new w #[.int .i64 k, .string a.n, .int .i64 a.op, .int .i64 a.v, .int .i64 a.sl, .string a.f, .bool a.on, .string fl, .bool nt, .slice kp kids.length kc] 26
      have k0 := hid (Keep.alloc w (.cells #[.int .i64 k, .string a.n, .int .i64 a.op, .int .i64 a.v, .int .i64 a.sl, .string a.f, .bool a.on, .string fl, .bool nt, .slice kp kids.length kc] 26))
      have HW0 : Hid (WordsAt B v L (w.alloc (.cells #[.int .i64 k, .string a.n, .int .i64 a.op, .int .i64 a.v, .int .i64 a.sl, .string a.f, .bool a.on, .string fl, .bool nt, .slice kp kids.length kc] 26))) := HW.out.keep k0.out
      have hx0 : Hid (v.ownBlock ≠ some w.heap.size) := hvb
      have hB0 : B ≤ (w.alloc (.cells #[.int .i64 k, .string a.n, .int .i64 a.op, .int .i64 a.v, .int .i64 a.sl, .string a.f, .bool a.on, .string fl, .bool nt, .slice kp kids.length kc] 26)).heap.size := Nat.le_trans hB k0.out.size
      have HL0 : Hid (Below B w (w.alloc (.cells #[.int .i64 k, .string a.n, .int .i64 a.op, .int .i64 a.v, .int .i64 a.sl, .string a.f, .bool a.on, .string fl, .bool nt, .slice kp kids.length kc] 26))) := Below.mono k0.out hB
      have hs0 := hid (alloc_size w (.cells #[.int .i64 k, .string a.n, .int .i64 a.op, .int .i64 a.v, .int .i64 a.sl, .string a.f, .bool a.on, .string fl, .bool nt, .slice kp kids.length kc] 26))
      clear hvb
      rcases hkind with ⟨rfl, hPe⟩ | ⟨rfl, hPe⟩ | ⟨rfl, hfl, hPe⟩
      · go_enter Tryz.func54, Tryz.ntmps54
        go_upto_region 10 with fail
        generalize w.alloc (.cells #[.int .i64 3, .string a.n, .int .i64 a.op, .int .i64 a.v, .int .i64 a.sl, .string a.f, .bool a.on, .string fl, .bool nt, .slice kp kids.length kc] 26) = w1 at hb0 k0 HW0 hB0 HL0 hs0 ⊢
        have hB1 : B ≤ w1.heap.size := hB0
        have HB1 : Hid (Boxed w.heap.size #[.int .i64 3, .string a.n, .int .i64 a.op, .int .i64 a.v, .int .i64 a.sl, .string a.f, .bool a.on, .string fl, .bool nt, .slice kp kids.length kc] w1) := hb0
        have HW1 : Hid (WordsAt B v (L ++ P) w1) := by rw [hPe, List.append_nil]; exact HW0.out
        have HL1 : Hid (Below B w w1) := HL0
        have hx1 : Hid (v.ownBlock ≠ some w.heap.size) := hx0
        obtain ⟨v1, hv1⟩ : ∃ v1, v1 = v := ⟨_, rfl⟩
        rw [← hv1] at HW1 hx1 ⊢
        clear HW0 hx0 hB0 HL0 hb0 k0 hs0 hv1
        clear hPe
        have hl1 : (L ++ P).length ≤ 998 := by rw [List.length_append]; omega
        go_wp2_with (at_builtin; refine wpList_append_own_at _ rfl _ _ 32 rfl B 9 i0 (.string ByteArray.empty) 1 16 Tryz.underlying32 hi hz0 hz1 hz2 rfl (by decide) v1 (L ++ P).length ((L ++ P).map Value.string) rfl (HW1.out.alloc _) ⟨w1.heap.size, 0, none⟩ 1 1 [.string ⟨#[40]⟩] rfl rfl one_news one_cell (by unfold maxLen; omega) (by omega) (by have := alloc_size w1 (.cells #[.string ⟨#[40]⟩] 9); omega) ?_)
        intro v2 w2 h1 h2 _ _
        obtain ⟨h5, h6⟩ := words_push (L := L ++ P) (x := ⟨#[40]⟩) (v' := v2) hB1 HW1.out (by simpa using h1) h2
        have HB2 : Hid (Boxed w.heap.size #[.int .i64 3, .string a.n, .int .i64 a.op, .int .i64 a.v, .int .i64 a.sl, .string a.f, .bool a.on, .string fl, .bool nt, .slice kp kids.length kc] w2) := box_push HB1.out hx1.out h2
        have HW2 : Hid (WordsAt B v2 (L ++ (P ++ [(⟨#[40]⟩ : ByteArray)])) w2) := by show WordsAt _ _ _ _; rw [← List.append_assoc]; exact h5
        have HL2 : Hid (Below B w w2) := Below.trans HL1.out h6
        clear h1 h2 h5 h6 HW1 HB1 HL1 hx1 hB1 HW
        have hc2 := HB2.out.2
        have hlt2 := HB2.out.1
        go_wp2_with fail
        clear hc2 HB2
        go_loopw [0, 50] (fun vv i wr => ∃ j : Nat, j ≤ kids.length ∧ i = .int .i64 j ∧ ∃ Lj : List ByteArray, WordsAt B vv (L ++ (P ++ [(⟨#[40]⟩ : ByteArray)]) ++ Lj) wr ∧ Lj.map (·.data.toList) = wordsL (kids.take j) ∧ Below B w wr) (fun _ i _ => kids.length - (intOf i).toNat)
        case atStart => exact ⟨0, Nat.zero_le _, rfl, [], by rw [List.append_nil]; exact HW2.out, by simp [wordsL], HL2.out⟩
        case round =>
          obtain ⟨j, hj, rfl, Lj, hwj, hLj, hbj⟩ := hrel
          have HWJ : Hid (WordsAt B _ (L ++ (P ++ [(⟨#[40]⟩ : ByteArray)]) ++ Lj) wr) := hwj
          have HLJ : Hid (Lj.map (·.data.toList) = wordsL (kids.take j)) := hLj
          have HBJ : Hid (Below B w wr) := hbj
          have hBr : B ≤ wr.heap.size := Nat.le_trans hB hbj.size
          have HLL : Hid (Lj.length = (wordsL (kids.take j)).length) := by show _ = _; rw [← hLj, List.length_map]
          clear hwj hLj hbj HW2 HL2
          by_cases hlt : j < kids.length
          · obtain ⟨p, cs, hp, hSp, hcell, hneed⟩ := kidsIs_get HK.out j hlt
            obtain ⟨htk, htl⟩ := wordsL_take hlt
            have HTK : Hid (wordsL (kids.take (j + 1)) = wordsL (kids.take j) ++ kids[j].words) := htk
            have hih := HIH.out kids[j] (by have := sizeL_get kids j hlt; omega)
            have hcr : ∀ q : Addr, S q.block → wr.cell? q = w.cell? q := fun q hq => HBJ.out.cell (hS _ hq)
            have hneed' : NeedIs S wr kids[j] cs := NeedIs.mono hcr (fun _ h => h) _ _ hneed
            have HN : Hid (NeedIs S wr kids[j] cs) := hneed'
            have hcell' : ∀ m v, cs[m]? = some v → wr.cell? ((p.add (j * 10)).add m) = some v := fun m v hv => by
              rw [hcr _ (by rw [add_block, add_block]; exact hSp)]
              have := hcell m v hv
              rwa [Nat.zero_add] at this
            have HOJ : Hid (kids[j].ok) := okL_get HOK.out j hlt
            have HLN : Hid ((L ++ (P ++ [(⟨#[40]⟩ : ByteArray)]) ++ Lj).length + kids[j].words.length ≤ 1000) := by
              show _ ≤ _
              have hlj := HLL.out
              simp only [List.length_append, List.length_cons, List.length_nil]; omega
            clear hcell hneed hcr htk
            subst hp
            cases hkid : kids[j] with
            | node k' a' fl' nt' kids' =>
            rw [hkid, NeedIs] at hneed'
            obtain ⟨kp', kc', rfl, -, -, -⟩ := hneed'
            obtain ⟨c0, c1, c2, c3, c4, c5, c6, c7, c8, c9⟩ := cells10 hcell'
            clear hcell' hkid
            have HIJ := hid hih
            clear hih
            have k2 := hid (Keep.alloc wr (.cells #[.int .i64 k', .string a'.n, .int .i64 a'.op, .int .i64 a'.v, .int .i64 a'.sl, .string a'.f, .bool a'.on, .string fl', .bool nt', .slice kp' kids'.length kc'] 26))
            have HN2 : Hid (NeedIs S (wr.alloc (.cells #[.int .i64 k', .string a'.n, .int .i64 a'.op, .int .i64 a'.v, .int .i64 a'.sl, .string a'.f, .bool a'.on, .string fl', .bool nt', .slice kp' kids'.length kc'] 26)) kids[j] [Value.int IntKind.i64 k', Value.string a'.n, Value.int IntKind.i64 a'.op, Value.int IntKind.i64 a'.v, Value.int IntKind.i64 a'.sl, Value.string a'.f, Value.bool a'.on, Value.string fl', Value.bool nt', Value.slice kp' kids'.length kc']) := HN.out.keep (fun b hb => Nat.lt_of_lt_of_le (hS b hb) hBr) k2.out
            go_wp2_with fail
            clear c0 c1 c2 c3 c4 c5 c6 c7 c8 c9
            generalize wr.alloc (.cells #[.int .i64 k', .string a'.n, .int .i64 a'.op, .int .i64 a'.v, .int .i64 a'.sl, .string a'.f, .bool a'.on, .string fl', .bool nt', .slice kp' kids'.length kc'] 26) = W2 at k2 HN2 ⊢
            refine (HIJ.out _ _ _ W2 HOJ.out HN2.out ((HS.out.below HBJ.out hg).keep k2.out) (Nat.le_trans hBr k2.out.size) (HWJ.out.keep k2.out) HLN.out).mono ?_
            rintro e w3 ⟨v3, L3, rfl, hw3, hL3, hb3⟩
            have HW3 : Hid (WordsAt B v3 (L ++ (P ++ [(⟨#[40]⟩ : ByteArray)]) ++ (Lj ++ L3)) w3) := by show WordsAt _ _ _ _; rw [← List.append_assoc]; exact hw3
            have HL3 : Hid ((Lj ++ L3).map (·.data.toList) = wordsL (kids.take (j + 1))) := by show _ = _; rw [List.map_append, HLJ.out, hL3, HTK.out]
            have HB3 : Hid (Below B w w3) := Below.trans HBJ.out (Below.trans (Below.mono k2.out hBr) hb3)
            clear hw3 hL3 hb3 HIJ
            go_wp2_with fail
            go_roundw
            case rel => exact ⟨j + 1, by omega, by go_num, Lj ++ L3, HW3.out, HL3.out, HB3.out⟩
            case measure => simp [intOf]; omega
          · have hjl : j = kids.length := by omega
            have hl4 : (L ++ (P ++ [(⟨#[40]⟩ : ByteArray)]) ++ Lj).length ≤ 1000 := by
              have hlj := HLL.out
              rw [hjl, List.take_length] at hlj
              simp only [List.length_append, List.length_cons, List.length_nil]; omega
            go_wp2_with (at_builtin; refine wpList_append_own_at _ rfl _ _ 32 rfl B 9 i0 (.string ByteArray.empty) 1 16 Tryz.underlying32 hi hz0 hz1 hz2 rfl (by decide) _ (L ++ (P ++ [(⟨#[40]⟩ : ByteArray)]) ++ Lj).length ((L ++ (P ++ [(⟨#[40]⟩ : ByteArray)]) ++ Lj).map Value.string) rfl (HWJ.out.alloc _) ⟨wr.heap.size, 0, none⟩ 1 1 [.string ⟨#[41]⟩] rfl rfl one_news one_cell (by unfold maxLen; omega) (by omega) (by have := alloc_size wr (.cells #[.string ⟨#[41]⟩] 9); omega) ?_)
            intro v4 w4 h1 h2 _ _
            obtain ⟨h5, h6⟩ := words_push (L := L ++ (P ++ [(⟨#[40]⟩ : ByteArray)]) ++ Lj) (x := ⟨#[41]⟩) (v' := v4) hBr HWJ.out (by simpa using h1) h2
            have HW4 : Hid (WordsAt B v4 (L ++ (P ++ [(⟨#[40]⟩ : ByteArray)] ++ Lj ++ [(⟨#[41]⟩ : ByteArray)])) w4) := by
              show WordsAt _ _ _ _
              have e : L ++ (P ++ [(⟨#[40]⟩ : ByteArray)] ++ Lj ++ [(⟨#[41]⟩ : ByteArray)]) = L ++ (P ++ [(⟨#[40]⟩ : ByteArray)]) ++ Lj ++ [(⟨#[41]⟩ : ByteArray)] := by simp only [List.append_assoc]
              rw [e]; exact h5
            have HL4 : Hid (Below B w w4) := Below.trans HBJ.out h6
            have HM4 : Hid ((P ++ [(⟨#[40]⟩ : ByteArray)] ++ Lj ++ [(⟨#[41]⟩ : ByteArray)]).map (·.data.toList) = (NT.node 3 a fl nt kids).words) := by
              show _ = _
              have hLj := HLJ.out
              rw [hjl, List.take_length] at hLj
              rw [hwords.out]
              simp only [List.map_append, hLj, List.append_assoc]
              rfl
            clear h1 h2 h5 h6
            go_wp2_with fail
            go_ret
            exact ⟨v4, P ++ [(⟨#[40]⟩ : ByteArray)] ++ Lj ++ [(⟨#[41]⟩ : ByteArray)], rfl, HW4.out, HM4.out, HL4.out⟩
      · go_enter Tryz.func54, Tryz.ntmps54
        go_upto_region 7 with fail
        generalize w.alloc (.cells #[.int .i64 4, .string a.n, .int .i64 a.op, .int .i64 a.v, .int .i64 a.sl, .string a.f, .bool a.on, .string fl, .bool nt, .slice kp kids.length kc] 26) = W0 at hb0 k0 HW0 hB0 HL0 hs0 ⊢
        go_wp2_with (at_builtin; refine wpList_append_own_at _ rfl _ _ 32 rfl B 9 i0 (.string ByteArray.empty) 1 16 Tryz.underlying32 hi hz0 hz1 hz2 rfl (by decide) v (L).length ((L).map Value.string) rfl (HW0.out.alloc _) ⟨W0.heap.size, 0, none⟩ 1 1 [.string ⟨#[124, 124]⟩] rfl rfl one_news one_cell (by unfold maxLen; omega) (by omega) (by have := alloc_size W0 (.cells #[.string ⟨#[124, 124]⟩] 9); omega) ?_)
        intro v1 w1 h1 h2 _ h4
        obtain ⟨h5, h6⟩ := words_push hB0 HW0.out h1 h2
        have HB1 : Hid (Boxed w.heap.size #[.int .i64 4, .string a.n, .int .i64 a.op, .int .i64 a.v, .int .i64 a.sl, .string a.f, .bool a.on, .string fl, .bool nt, .slice kp kids.length kc] w1) := box_push hb0.out hx0.out h2
        have HW1 : Hid (WordsAt B v1 (L ++ P) w1) := by rw [hPe]; exact h5
        have HL1 : Hid (Below B w w1) := Below.trans HL0.out h6
        have hB1 : B ≤ w1.heap.size := Nat.le_trans hB HL1.out.size
        have hx1 : Hid (v1.ownBlock ≠ some w.heap.size) := by
          rcases h4 with h4 | h4
          · show _ ≠ _; rw [h4]; exact hx0.out
          · show _ ≠ _; rw [h4]; have := alloc_size W0 (.cells #[.string ⟨#[124, 124]⟩] 9); intro e; have := Option.some.inj e; have := hs0.out; omega
        clear h1 h2 h4 h5 h6 HW0 hx0 hB0 HL0 hb0 k0 hs0
        go_upto_region 10 with fail
        clear hPe
        have hl1 : (L ++ P).length ≤ 998 := by rw [List.length_append]; omega
        go_wp2_with (at_builtin; refine wpList_append_own_at _ rfl _ _ 32 rfl B 9 i0 (.string ByteArray.empty) 1 16 Tryz.underlying32 hi hz0 hz1 hz2 rfl (by decide) v1 (L ++ P).length ((L ++ P).map Value.string) rfl (HW1.out.alloc _) ⟨w1.heap.size, 0, none⟩ 1 1 [.string ⟨#[40]⟩] rfl rfl one_news one_cell (by unfold maxLen; omega) (by omega) (by have := alloc_size w1 (.cells #[.string ⟨#[40]⟩] 9); omega) ?_)
        intro v2 w2 h1 h2 _ _
        obtain ⟨h5, h6⟩ := words_push (L := L ++ P) (x := ⟨#[40]⟩) (v' := v2) hB1 HW1.out (by simpa using h1) h2
        have HB2 : Hid (Boxed w.heap.size #[.int .i64 4, .string a.n, .int .i64 a.op, .int .i64 a.v, .int .i64 a.sl, .string a.f, .bool a.on, .string fl, .bool nt, .slice kp kids.length kc] w2) := box_push HB1.out hx1.out h2
        have HW2 : Hid (WordsAt B v2 (L ++ (P ++ [(⟨#[40]⟩ : ByteArray)])) w2) := by show WordsAt _ _ _ _; rw [← List.append_assoc]; exact h5
        have HL2 : Hid (Below B w w2) := Below.trans HL1.out h6
        clear h1 h2 h5 h6 HW1 HB1 HL1 hx1 hB1 HW
        have hc2 := HB2.out.2
        have hlt2 := HB2.out.1
        go_wp2_with fail
        clear hc2 HB2
        go_loopw [0, 50] (fun vv i wr => ∃ j : Nat, j ≤ kids.length ∧ i = .int .i64 j ∧ ∃ Lj : List ByteArray, WordsAt B vv (L ++ (P ++ [(⟨#[40]⟩ : ByteArray)]) ++ Lj) wr ∧ Lj.map (·.data.toList) = wordsL (kids.take j) ∧ Below B w wr) (fun _ i _ => kids.length - (intOf i).toNat)
        case atStart => exact ⟨0, Nat.zero_le _, rfl, [], by rw [List.append_nil]; exact HW2.out, by simp [wordsL], HL2.out⟩
        case round =>
          obtain ⟨j, hj, rfl, Lj, hwj, hLj, hbj⟩ := hrel
          have HWJ : Hid (WordsAt B _ (L ++ (P ++ [(⟨#[40]⟩ : ByteArray)]) ++ Lj) wr) := hwj
          have HLJ : Hid (Lj.map (·.data.toList) = wordsL (kids.take j)) := hLj
          have HBJ : Hid (Below B w wr) := hbj
          have hBr : B ≤ wr.heap.size := Nat.le_trans hB hbj.size
          have HLL : Hid (Lj.length = (wordsL (kids.take j)).length) := by show _ = _; rw [← hLj, List.length_map]
          clear hwj hLj hbj HW2 HL2
          by_cases hlt : j < kids.length
          · obtain ⟨p, cs, hp, hSp, hcell, hneed⟩ := kidsIs_get HK.out j hlt
            obtain ⟨htk, htl⟩ := wordsL_take hlt
            have HTK : Hid (wordsL (kids.take (j + 1)) = wordsL (kids.take j) ++ kids[j].words) := htk
            have hih := HIH.out kids[j] (by have := sizeL_get kids j hlt; omega)
            have hcr : ∀ q : Addr, S q.block → wr.cell? q = w.cell? q := fun q hq => HBJ.out.cell (hS _ hq)
            have hneed' : NeedIs S wr kids[j] cs := NeedIs.mono hcr (fun _ h => h) _ _ hneed
            have HN : Hid (NeedIs S wr kids[j] cs) := hneed'
            have hcell' : ∀ m v, cs[m]? = some v → wr.cell? ((p.add (j * 10)).add m) = some v := fun m v hv => by
              rw [hcr _ (by rw [add_block, add_block]; exact hSp)]
              have := hcell m v hv
              rwa [Nat.zero_add] at this
            have HOJ : Hid (kids[j].ok) := okL_get HOK.out j hlt
            have HLN : Hid ((L ++ (P ++ [(⟨#[40]⟩ : ByteArray)]) ++ Lj).length + kids[j].words.length ≤ 1000) := by
              show _ ≤ _
              have hlj := HLL.out
              simp only [List.length_append, List.length_cons, List.length_nil]; omega
            clear hcell hneed hcr htk
            subst hp
            cases hkid : kids[j] with
            | node k' a' fl' nt' kids' =>
            rw [hkid, NeedIs] at hneed'
            obtain ⟨kp', kc', rfl, -, -, -⟩ := hneed'
            obtain ⟨c0, c1, c2, c3, c4, c5, c6, c7, c8, c9⟩ := cells10 hcell'
            clear hcell' hkid
            have HIJ := hid hih
            clear hih
            have k2 := hid (Keep.alloc wr (.cells #[.int .i64 k', .string a'.n, .int .i64 a'.op, .int .i64 a'.v, .int .i64 a'.sl, .string a'.f, .bool a'.on, .string fl', .bool nt', .slice kp' kids'.length kc'] 26))
            have HN2 : Hid (NeedIs S (wr.alloc (.cells #[.int .i64 k', .string a'.n, .int .i64 a'.op, .int .i64 a'.v, .int .i64 a'.sl, .string a'.f, .bool a'.on, .string fl', .bool nt', .slice kp' kids'.length kc'] 26)) kids[j] [Value.int IntKind.i64 k', Value.string a'.n, Value.int IntKind.i64 a'.op, Value.int IntKind.i64 a'.v, Value.int IntKind.i64 a'.sl, Value.string a'.f, Value.bool a'.on, Value.string fl', Value.bool nt', Value.slice kp' kids'.length kc']) := HN.out.keep (fun b hb => Nat.lt_of_lt_of_le (hS b hb) hBr) k2.out
            go_wp2_with fail
            clear c0 c1 c2 c3 c4 c5 c6 c7 c8 c9
            generalize wr.alloc (.cells #[.int .i64 k', .string a'.n, .int .i64 a'.op, .int .i64 a'.v, .int .i64 a'.sl, .string a'.f, .bool a'.on, .string fl', .bool nt', .slice kp' kids'.length kc'] 26) = W2 at k2 HN2 ⊢
            refine (HIJ.out _ _ _ W2 HOJ.out HN2.out ((HS.out.below HBJ.out hg).keep k2.out) (Nat.le_trans hBr k2.out.size) (HWJ.out.keep k2.out) HLN.out).mono ?_
            rintro e w3 ⟨v3, L3, rfl, hw3, hL3, hb3⟩
            have HW3 : Hid (WordsAt B v3 (L ++ (P ++ [(⟨#[40]⟩ : ByteArray)]) ++ (Lj ++ L3)) w3) := by show WordsAt _ _ _ _; rw [← List.append_assoc]; exact hw3
            have HL3 : Hid ((Lj ++ L3).map (·.data.toList) = wordsL (kids.take (j + 1))) := by show _ = _; rw [List.map_append, HLJ.out, hL3, HTK.out]
            have HB3 : Hid (Below B w w3) := Below.trans HBJ.out (Below.trans (Below.mono k2.out hBr) hb3)
            clear hw3 hL3 hb3 HIJ
            go_wp2_with fail
            go_roundw
            case rel => exact ⟨j + 1, by omega, by go_num, Lj ++ L3, HW3.out, HL3.out, HB3.out⟩
            case measure => simp [intOf]; omega
          · have hjl : j = kids.length := by omega
            have hl4 : (L ++ (P ++ [(⟨#[40]⟩ : ByteArray)]) ++ Lj).length ≤ 1000 := by
              have hlj := HLL.out
              rw [hjl, List.take_length] at hlj
              simp only [List.length_append, List.length_cons, List.length_nil]; omega
            go_wp2_with (at_builtin; refine wpList_append_own_at _ rfl _ _ 32 rfl B 9 i0 (.string ByteArray.empty) 1 16 Tryz.underlying32 hi hz0 hz1 hz2 rfl (by decide) _ (L ++ (P ++ [(⟨#[40]⟩ : ByteArray)]) ++ Lj).length ((L ++ (P ++ [(⟨#[40]⟩ : ByteArray)]) ++ Lj).map Value.string) rfl (HWJ.out.alloc _) ⟨wr.heap.size, 0, none⟩ 1 1 [.string ⟨#[41]⟩] rfl rfl one_news one_cell (by unfold maxLen; omega) (by omega) (by have := alloc_size wr (.cells #[.string ⟨#[41]⟩] 9); omega) ?_)
            intro v4 w4 h1 h2 _ _
            obtain ⟨h5, h6⟩ := words_push (L := L ++ (P ++ [(⟨#[40]⟩ : ByteArray)]) ++ Lj) (x := ⟨#[41]⟩) (v' := v4) hBr HWJ.out (by simpa using h1) h2
            have HW4 : Hid (WordsAt B v4 (L ++ (P ++ [(⟨#[40]⟩ : ByteArray)] ++ Lj ++ [(⟨#[41]⟩ : ByteArray)])) w4) := by
              show WordsAt _ _ _ _
              have e : L ++ (P ++ [(⟨#[40]⟩ : ByteArray)] ++ Lj ++ [(⟨#[41]⟩ : ByteArray)]) = L ++ (P ++ [(⟨#[40]⟩ : ByteArray)]) ++ Lj ++ [(⟨#[41]⟩ : ByteArray)] := by simp only [List.append_assoc]
              rw [e]; exact h5
            have HL4 : Hid (Below B w w4) := Below.trans HBJ.out h6
            have HM4 : Hid ((P ++ [(⟨#[40]⟩ : ByteArray)] ++ Lj ++ [(⟨#[41]⟩ : ByteArray)]).map (·.data.toList) = (NT.node 4 a fl nt kids).words) := by
              show _ = _
              have hLj := HLJ.out
              rw [hjl, List.take_length] at hLj
              rw [hwords.out]
              simp only [List.map_append, hLj, List.append_assoc]
              rfl
            clear h1 h2 h5 h6
            go_wp2_with fail
            go_ret
            exact ⟨v4, P ++ [(⟨#[40]⟩ : ByteArray)] ++ Lj ++ [(⟨#[41]⟩ : ByteArray)], rfl, HW4.out, HM4.out, HL4.out⟩
      · go_enter Tryz.func54, Tryz.ntmps54
        go_wp2_with fail
        generalize w.alloc (.cells #[.int .i64 5, .string a.n, .int .i64 a.op, .int .i64 a.v, .int .i64 a.sl, .string a.f, .bool a.on, .string fl, .bool nt, .slice kp kids.length kc] 26) = W0 at hb0 k0 HW0 hB0 HL0 hs0 ⊢
        refine (marked_any _ _ (bytes_snoc hfl) W0).mono ?_
        rintro e w0 ⟨rfl, hw0⟩
        rw [hw0]
        clear hw0
        generalize (if nt = true then ⟨#[33]⟩ ++ (fl ++ ⟨#[63]⟩) else fl ++ ⟨#[63]⟩ : ByteArray) = fx at hPe ⊢
        go_wp2_with (at_builtin; refine wpList_append_own_at _ rfl _ _ 32 rfl B 9 i0 (.string ByteArray.empty) 1 16 Tryz.underlying32 hi hz0 hz1 hz2 rfl (by decide) v (L).length ((L).map Value.string) rfl (HW0.out.alloc _) ⟨W0.heap.size, 0, none⟩ 1 1 [.string fx] rfl rfl one_news one_cell (by unfold maxLen; omega) (by omega) (by have := alloc_size W0 (.cells #[.string fx] 9); omega) ?_)
        intro v1 w1 h1 h2 _ h4
        obtain ⟨h5, h6⟩ := words_push hB0 HW0.out h1 h2
        have HB1 : Hid (Boxed w.heap.size #[.int .i64 5, .string a.n, .int .i64 a.op, .int .i64 a.v, .int .i64 a.sl, .string a.f, .bool a.on, .string fl, .bool nt, .slice kp kids.length kc] w1) := box_push hb0.out hx0.out h2
        have HW1 : Hid (WordsAt B v1 (L ++ P) w1) := by rw [hPe]; exact h5
        have HL1 : Hid (Below B w w1) := Below.trans HL0.out h6
        have hB1 : B ≤ w1.heap.size := Nat.le_trans hB HL1.out.size
        have hx1 : Hid (v1.ownBlock ≠ some w.heap.size) := by
          rcases h4 with h4 | h4
          · show _ ≠ _; rw [h4]; exact hx0.out
          · show _ ≠ _; rw [h4]; have := alloc_size W0 (.cells #[.string fx] 9); intro e; have := Option.some.inj e; have := hs0.out; omega
        clear h1 h2 h4 h5 h6 HW0 hx0 hB0 HL0 hb0 k0 hs0
        go_upto_region 10 with fail
        clear hPe
        have hl1 : (L ++ P).length ≤ 998 := by rw [List.length_append]; omega
        go_wp2_with (at_builtin; refine wpList_append_own_at _ rfl _ _ 32 rfl B 9 i0 (.string ByteArray.empty) 1 16 Tryz.underlying32 hi hz0 hz1 hz2 rfl (by decide) v1 (L ++ P).length ((L ++ P).map Value.string) rfl (HW1.out.alloc _) ⟨w1.heap.size, 0, none⟩ 1 1 [.string ⟨#[40]⟩] rfl rfl one_news one_cell (by unfold maxLen; omega) (by omega) (by have := alloc_size w1 (.cells #[.string ⟨#[40]⟩] 9); omega) ?_)
        intro v2 w2 h1 h2 _ _
        obtain ⟨h5, h6⟩ := words_push (L := L ++ P) (x := ⟨#[40]⟩) (v' := v2) hB1 HW1.out (by simpa using h1) h2
        have HB2 : Hid (Boxed w.heap.size #[.int .i64 5, .string a.n, .int .i64 a.op, .int .i64 a.v, .int .i64 a.sl, .string a.f, .bool a.on, .string fl, .bool nt, .slice kp kids.length kc] w2) := box_push HB1.out hx1.out h2
        have HW2 : Hid (WordsAt B v2 (L ++ (P ++ [(⟨#[40]⟩ : ByteArray)])) w2) := by show WordsAt _ _ _ _; rw [← List.append_assoc]; exact h5
        have HL2 : Hid (Below B w w2) := Below.trans HL1.out h6
        clear h1 h2 h5 h6 HW1 HB1 HL1 hx1 hB1 HW
        have hc2 := HB2.out.2
        have hlt2 := HB2.out.1
        go_wp2_with fail
        clear hc2 HB2
        go_loopw [0, 50] (fun vv i wr => ∃ j : Nat, j ≤ kids.length ∧ i = .int .i64 j ∧ ∃ Lj : List ByteArray, WordsAt B vv (L ++ (P ++ [(⟨#[40]⟩ : ByteArray)]) ++ Lj) wr ∧ Lj.map (·.data.toList) = wordsL (kids.take j) ∧ Below B w wr) (fun _ i _ => kids.length - (intOf i).toNat)
        case atStart => exact ⟨0, Nat.zero_le _, rfl, [], by rw [List.append_nil]; exact HW2.out, by simp [wordsL], HL2.out⟩
        case round =>
          obtain ⟨j, hj, rfl, Lj, hwj, hLj, hbj⟩ := hrel
          have HWJ : Hid (WordsAt B _ (L ++ (P ++ [(⟨#[40]⟩ : ByteArray)]) ++ Lj) wr) := hwj
          have HLJ : Hid (Lj.map (·.data.toList) = wordsL (kids.take j)) := hLj
          have HBJ : Hid (Below B w wr) := hbj
          have hBr : B ≤ wr.heap.size := Nat.le_trans hB hbj.size
          have HLL : Hid (Lj.length = (wordsL (kids.take j)).length) := by show _ = _; rw [← hLj, List.length_map]
          clear hwj hLj hbj HW2 HL2
          by_cases hlt : j < kids.length
          · obtain ⟨p, cs, hp, hSp, hcell, hneed⟩ := kidsIs_get HK.out j hlt
            obtain ⟨htk, htl⟩ := wordsL_take hlt
            have HTK : Hid (wordsL (kids.take (j + 1)) = wordsL (kids.take j) ++ kids[j].words) := htk
            have hih := HIH.out kids[j] (by have := sizeL_get kids j hlt; omega)
            have hcr : ∀ q : Addr, S q.block → wr.cell? q = w.cell? q := fun q hq => HBJ.out.cell (hS _ hq)
            have hneed' : NeedIs S wr kids[j] cs := NeedIs.mono hcr (fun _ h => h) _ _ hneed
            have HN : Hid (NeedIs S wr kids[j] cs) := hneed'
            have hcell' : ∀ m v, cs[m]? = some v → wr.cell? ((p.add (j * 10)).add m) = some v := fun m v hv => by
              rw [hcr _ (by rw [add_block, add_block]; exact hSp)]
              have := hcell m v hv
              rwa [Nat.zero_add] at this
            have HOJ : Hid (kids[j].ok) := okL_get HOK.out j hlt
            have HLN : Hid ((L ++ (P ++ [(⟨#[40]⟩ : ByteArray)]) ++ Lj).length + kids[j].words.length ≤ 1000) := by
              show _ ≤ _
              have hlj := HLL.out
              simp only [List.length_append, List.length_cons, List.length_nil]; omega
            clear hcell hneed hcr htk
            subst hp
            cases hkid : kids[j] with
            | node k' a' fl' nt' kids' =>
            rw [hkid, NeedIs] at hneed'
            obtain ⟨kp', kc', rfl, -, -, -⟩ := hneed'
            obtain ⟨c0, c1, c2, c3, c4, c5, c6, c7, c8, c9⟩ := cells10 hcell'
            clear hcell' hkid
            have HIJ := hid hih
            clear hih
            have k2 := hid (Keep.alloc wr (.cells #[.int .i64 k', .string a'.n, .int .i64 a'.op, .int .i64 a'.v, .int .i64 a'.sl, .string a'.f, .bool a'.on, .string fl', .bool nt', .slice kp' kids'.length kc'] 26))
            have HN2 : Hid (NeedIs S (wr.alloc (.cells #[.int .i64 k', .string a'.n, .int .i64 a'.op, .int .i64 a'.v, .int .i64 a'.sl, .string a'.f, .bool a'.on, .string fl', .bool nt', .slice kp' kids'.length kc'] 26)) kids[j] [Value.int IntKind.i64 k', Value.string a'.n, Value.int IntKind.i64 a'.op, Value.int IntKind.i64 a'.v, Value.int IntKind.i64 a'.sl, Value.string a'.f, Value.bool a'.on, Value.string fl', Value.bool nt', Value.slice kp' kids'.length kc']) := HN.out.keep (fun b hb => Nat.lt_of_lt_of_le (hS b hb) hBr) k2.out
            go_wp2_with fail
            clear c0 c1 c2 c3 c4 c5 c6 c7 c8 c9
            generalize wr.alloc (.cells #[.int .i64 k', .string a'.n, .int .i64 a'.op, .int .i64 a'.v, .int .i64 a'.sl, .string a'.f, .bool a'.on, .string fl', .bool nt', .slice kp' kids'.length kc'] 26) = W2 at k2 HN2 ⊢
            refine (HIJ.out _ _ _ W2 HOJ.out HN2.out ((HS.out.below HBJ.out hg).keep k2.out) (Nat.le_trans hBr k2.out.size) (HWJ.out.keep k2.out) HLN.out).mono ?_
            rintro e w3 ⟨v3, L3, rfl, hw3, hL3, hb3⟩
            have HW3 : Hid (WordsAt B v3 (L ++ (P ++ [(⟨#[40]⟩ : ByteArray)]) ++ (Lj ++ L3)) w3) := by show WordsAt _ _ _ _; rw [← List.append_assoc]; exact hw3
            have HL3 : Hid ((Lj ++ L3).map (·.data.toList) = wordsL (kids.take (j + 1))) := by show _ = _; rw [List.map_append, HLJ.out, hL3, HTK.out]
            have HB3 : Hid (Below B w w3) := Below.trans HBJ.out (Below.trans (Below.mono k2.out hBr) hb3)
            clear hw3 hL3 hb3 HIJ
            go_wp2_with fail
            go_roundw
            case rel => exact ⟨j + 1, by omega, by go_num, Lj ++ L3, HW3.out, HL3.out, HB3.out⟩
            case measure => simp [intOf]; omega
          · have hjl : j = kids.length := by omega
            have hl4 : (L ++ (P ++ [(⟨#[40]⟩ : ByteArray)]) ++ Lj).length ≤ 1000 := by
              have hlj := HLL.out
              rw [hjl, List.take_length] at hlj
              simp only [List.length_append, List.length_cons, List.length_nil]; omega
            go_wp2_with (at_builtin; refine wpList_append_own_at _ rfl _ _ 32 rfl B 9 i0 (.string ByteArray.empty) 1 16 Tryz.underlying32 hi hz0 hz1 hz2 rfl (by decide) _ (L ++ (P ++ [(⟨#[40]⟩ : ByteArray)]) ++ Lj).length ((L ++ (P ++ [(⟨#[40]⟩ : ByteArray)]) ++ Lj).map Value.string) rfl (HWJ.out.alloc _) ⟨wr.heap.size, 0, none⟩ 1 1 [.string ⟨#[41]⟩] rfl rfl one_news one_cell (by unfold maxLen; omega) (by omega) (by have := alloc_size wr (.cells #[.string ⟨#[41]⟩] 9); omega) ?_)
            intro v4 w4 h1 h2 _ _
            obtain ⟨h5, h6⟩ := words_push (L := L ++ (P ++ [(⟨#[40]⟩ : ByteArray)]) ++ Lj) (x := ⟨#[41]⟩) (v' := v4) hBr HWJ.out (by simpa using h1) h2
            have HW4 : Hid (WordsAt B v4 (L ++ (P ++ [(⟨#[40]⟩ : ByteArray)] ++ Lj ++ [(⟨#[41]⟩ : ByteArray)])) w4) := by
              show WordsAt _ _ _ _
              have e : L ++ (P ++ [(⟨#[40]⟩ : ByteArray)] ++ Lj ++ [(⟨#[41]⟩ : ByteArray)]) = L ++ (P ++ [(⟨#[40]⟩ : ByteArray)]) ++ Lj ++ [(⟨#[41]⟩ : ByteArray)] := by simp only [List.append_assoc]
              rw [e]; exact h5
            have HL4 : Hid (Below B w w4) := Below.trans HBJ.out h6
            have HM4 : Hid ((P ++ [(⟨#[40]⟩ : ByteArray)] ++ Lj ++ [(⟨#[41]⟩ : ByteArray)]).map (·.data.toList) = (NT.node 5 a fl nt kids).words) := by
              show _ = _
              have hLj := HLJ.out
              rw [hjl, List.take_length] at hLj
              rw [hwords.out]
              simp only [List.map_append, hLj, List.append_assoc]
              rfl
            clear h1 h2 h5 h6
            go_wp2_with fail
            go_ret
            exact ⟨v4, P ++ [(⟨#[40]⟩ : ByteArray)] ++ Lj ++ [(⟨#[41]⟩ : ByteArray)], rfl, HW4.out, HM4.out, HL4.out⟩

theorem words_cells {B : Nat} {v : Value} {L : List ByteArray} {w : World} (h : WordsAt B v L w) (hL : L ≠ []) : ∃ g cap, v = .slice (some ⟨g, 0, none⟩) L.length cap ∧ g < w.heap.size ∧ L.length ≤ cap ∧ ∀ (j : Nat) x, L[j]? = some x → w.cell? ⟨g, 0 + j, none⟩ = some (.string x) := by
  obtain ⟨h1, ⟨-, h0⟩ | ⟨g, cap, cur, rfl, e2, e3, e4, e5, e6, e7⟩⟩ := h
  · exact absurd (List.length_eq_zero_iff.1 h0) hL
  · refine ⟨g, cap, rfl, (Array.getElem?_eq_some_iff.1 e3).1, e4, fun j x hx => ?_⟩
    have hj : j < L.length := (List.getElem?_eq_some_iff.1 hx).1
    have : cur.toList[j]? = some (.string x) := by
      have h2 := congrArg (·[j]?) e7
      simp only [List.getElem?_take, List.getElem?_map, hx, Option.map_some, Nat.mul_one, if_pos hj] at h2
      exact h2
    simp only [World.cell?, e3, Nat.zero_add]
    simpa using this

/-- What Print answers. -/
def PrintDone (t : NT) (w : World) (e : Ending) (w' : World) : Prop :=
  ∃ s : ByteArray, e = .returned (.tuple #[.string s, .int .i64 (chkN t)]) ∧ (chkN t = 0 → s.data.toList = t.text) ∧ (chkN t ≠ 0 → s = ⟨#[]⟩) ∧ Keep w w'
set_option maxHeartbeats 2000000 in
theorem needPrint_any (t : NT) (cs : List Value) (w : World) (S : Nat → Prop) (hS : ∀ b, S b → b < w.heap.size) (hn : NeedIs S w t cs) (hs : Signs w) :
    Calls Tryz.prog 10 #[.agg cs.toArray] w fun e w' => PrintDone t w e w' := by
  have HN : Hid (NeedIs S w t cs) := hn
  have HS : Hid (Signs w) := hs
  cases ht : t with
  | node k a fl nt kids =>
  rw [ht, NeedIs] at hn
  obtain ⟨kp, kc, rfl, -, -, -⟩ := hn
  rw [← ht]
  have k0 := hid (Keep.alloc w (.cells #[.int .i64 k, .string a.n, .int .i64 a.op, .int .i64 a.v, .int .i64 a.sl, .string a.f, .bool a.on, .string fl, .bool nt, .slice kp kids.length kc] 26))
  have hb0 : Hid (Boxed w.heap.size #[.int .i64 k, .string a.n, .int .i64 a.op, .int .i64 a.v, .int .i64 a.sl, .string a.f, .bool a.on, .string fl, .bool nt, .slice kp kids.length kc] (w.alloc (.cells #[.int .i64 k, .string a.n, .int .i64 a.op, .int .i64 a.v, .int .i64 a.sl, .string a.f, .bool a.on, .string fl, .bool nt, .slice kp kids.length kc] 26))) := Boxed.new w #[.int .i64 k, .string a.n, .int .i64 a.op, .int .i64 a.v, .int .i64 a.sl, .string a.f, .bool a.on, .string fl, .bool nt, .slice kp kids.length kc] 26
  clear ht hs
  go_enter Tryz.func10, Tryz.ntmps10
  go_wp2_with fail
  generalize w.alloc (.cells #[.int .i64 k, .string a.n, .int .i64 a.op, .int .i64 a.v, .int .i64 a.sl, .string a.f, .bool a.on, .string fl, .bool nt, .slice kp kids.length kc] 26) = W0 at k0 hb0 ⊢
  refine (needCheck_any t _ W0 S (fun b hb => Nat.lt_of_lt_of_le (hS b hb) k0.out.size) (HN.out.keep hS k0.out)).mono ?_
  rintro e w1 ⟨rfl, k1⟩
  have K1 : Hid (Keep w w1) := k0.out.trans k1
  have HB1 : Hid (Boxed w.heap.size #[.int .i64 k, .string a.n, .int .i64 a.op, .int .i64 a.v, .int .i64 a.sl, .string a.f, .bool a.on, .string fl, .bool nt, .slice kp kids.length kc] w1) := hb0.out.keep k1 hb0.out.1
  have hc1 := HB1.out.2
  have hlt1 := HB1.out.1
  clear k1 hb0 k0
  by_cases hz : chkN t = 0
  · have HZ : Hid (chkN t = 0) := hz
    rw [hz]
    clear hz
    go_wp2_with fail
    clear hc1
    obtain ⟨hlarge, hok⟩ := chkN_zero.1 HZ.out
    obtain ⟨hlen, hwl⟩ := text_short HZ.out
    have hww : Hid (∃ wd r, t.words = wd :: r) := words_pos t
    refine (words_any w1.heap.size S (fun b hb => Nat.lt_of_lt_of_le (hS b hb) K1.out.size) (Nat.lt_of_lt_of_le HS.out.1 K1.out.size) _ t (Nat.le_refl _) _ [] _ w1 hok (HN.out.keep hS K1.out) (HS.out.keep K1.out) (Nat.le_refl _) (World.ownsRow_nil _ _ _ _) (by simp; omega)).mono ?_
    rintro e w2 ⟨v2, L2, rfl, hw2, hL2, hb2⟩
    rw [List.nil_append] at hw2
    have hne : L2 ≠ [] := by
      rintro rfl
      obtain ⟨wd, r, e⟩ := hww.out
      rw [e] at hL2; cases hL2
    obtain ⟨g, cap, rfl, hgl, hcap, hcells⟩ := words_cells hw2 hne
    have K2 : Hid (Keep w w2) := K1.out.trans hb2
    have hL2l : L2.length ≤ 60 := by have := congrArg List.length hL2; rw [List.length_map] at this; omega
    have HT : Hid (Lib.join (L2.map (·.data.toList)) (⟨#[32]⟩ : ByteArray).data.toList = t.text) := by show _ = _; rw [hL2]; rfl
    have HCC := hid hcells
    clear hw2 hL2 hb2 hok hlarge hcells
    go_wp2_with fail
    refine (Tryz.strings_Join g 0 cap L2 ⟨#[32]⟩ w2 HCC.out hgl (by omega) hcap (by rw [HT.out]; omega)).mono ?_
    rintro e w3 ⟨rfl, k3⟩
    have K3 : Hid (Keep w w3) := K2.out.trans k3
    rw [HT.out]
    clear k3
    go_wp2_with fail
    go_ret2
    exact ⟨⟨t.text.toArray⟩, by rw [HZ.out]; rfl, fun _ => by simp, fun h => absurd HZ.out h, K3.out⟩
  · have hz' : (chkN t == 0) = false := by simpa using hz
    have hz2 : (chkN t != 0) = true := by simpa using hz
    have HZ : Hid (chkN t ≠ 0) := hz
    clear hz
    go_wp2_with fail
    go_ret2
    exact ⟨⟨#[]⟩, rfl, fun h => absurd h HZ.out, fun _ => rfl, K1.out⟩
end Go.Proofs.YtkckkjpkidcbnaaGreatDoor
