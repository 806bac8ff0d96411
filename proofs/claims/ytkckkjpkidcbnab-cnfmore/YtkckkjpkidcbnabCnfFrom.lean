/- follow's From: all literals that are known, by variable, just where nothing fails. -/
import Derived.Test.YtkckkjpkidcbnabCnfAsk
import Derived.Test.YtkckkjpkidcbnabShelf
import Derived.Lib.OwnBridge
namespace Go.Proofs.Ytkckkjpkidcbnab
open Go.RowKit Go.Lib Go.Sort

theorem enter_from1 (args : Array Value) (w : World) : (callFunc 34 args).run Try.prog w = .ok (.enter 34 args) w := enters_of Try.func34 (by kernel_rfl) rfl args w
theorem enter_from2 (args : Array Value) (w : World) : (callFunc 38 args).run Try.prog w = .ok (.enter 38 args) w := enters_of Try.func38 (by kernel_rfl) rfl args w
set_option maxHeartbeats 1000000 in
theorem from2_any (x : Int) (w : World) : Calls Try.prog 38 #[.int .i64 x] w fun e w' => e = .returned (.bool (x == 0)) ∧ ∃ q, w' = w.drewN q := by
  go_enter Try.func38, Try.ntmps38
  go_wp2_with fail
  go_ret
  exact ⟨rfl, 0, rfl⟩
theorem deleted_any (bg n B0 : Nat) (K : List Int) (w : World) (hl : K.length = n + 1) (hn : n ≤ 1000) (hB : B0 ≤ bg) (hb : BoxAt bg 3 (K.map (Value.int .i64)).toArray w) :
    Calls Try.prog 37 #[.slice (some ⟨bg, 0, none⟩) (n + 1) (n + 1), .func (.func 38) #[] #[]] w fun e w' => ∃ v, e = .returned v ∧ NumsIs (fun b => b = bg) w' (known K) v ∧ Below B0 w w' := by
  have hH : Holds (Value.int .i64) w bg 0 K.toArray := by
    intro j hj
    have hj' : j < K.length := by simpa using hj
    refine ⟨?_, hb.facts.2.1 _⟩
    rw [Nat.zero_add, hb.facts.1]
    simp [hj']
  have hsz : K.toArray.size = n + 1 := by simp [hl]
  have := Try.slices_DeleteFunc (Value.int .i64) (fun _ => rfl) (fun x => x == 0) 38 #[] enter_from2 0 Try.zeroValue3 bg 0 (n + 1) K.toArray w (fun W x _ => from2_any x W) (fun k os dk x _ => from2_any x _) hH (by omega) (by omega)
  rw [hsz] at this
  refine this.mono ?_
  rintro e w' ⟨rfl, q, rfl⟩
  have hkl : (known K).length ≤ n + 1 := by rw [← hl]; exact known_len K
  refine ⟨_, rfl, ⟨_, n + 1, rfl, by show (known K).length ≤ _; omega, fun _ => ⟨bg, 0, rfl, rfl, fun j x hx => ?_⟩⟩, below_putRow (Below.refl B0 w) hB⟩
  have hsz2 : ((known K) ++ List.replicate (n + 1 - (known K).length) 0).toArray.size = K.toArray.size := by simp; omega
  have hH2 := holds_putRow (Value.int .i64) (Sort.ahead w q) bg 0 K.toArray ((known K) ++ List.replicate (n + 1 - (known K).length) 0).toArray hH hsz2
  have hj : j < (known K).length := (List.getElem?_eq_some_iff.1 hx).1
  have := (hH2 j (by rw [hsz2, hsz]; omega)).1
  have hx2 : (known K)[j] = x := by
    have := List.getElem?_eq_getElem hj
    rw [hx] at this
    exact (Option.some.inj this).symm
  have e2 : (((known K) ++ List.replicate (n + 1 - (known K).length) 0).toArray)[j]! = x := by
    rw [getElem!_pos _ j (by rw [hsz2, hsz]; omega)]
    simp [hj, hx2]
  rw [e2] at this
  exact this
/-- A clause that has two literals asks for nothing while nothing is known. -/
theorem closed_long {n m : Nat} {c : List Int} (hc : LitsC n c) (h : shortB c = false) : Closed (List.replicate m 0) c := by
  have hz : ∀ y, kn (List.replicate m 0) y = 0 := fun y => by
    simp [kn, List.getD_eq_getElem?_getD, List.getElem?_replicate]; split <;> simp
  have h2 : (c.any fun x => !(x == c.headD 0)) = true := by unfold shortB at h; simpa using h
  obtain ⟨x, hx, hxh⟩ := List.any_eq_true.1 h2
  have hne : x ≠ c.headD 0 := by simpa using hxh
  have hh : c.headD 0 ∈ c := by cases c with
    | nil => simp at hx
    | cons a l => simp
  refine ⟨⟨x, hx, by rw [hz]; have := (hc x hx).1; omega⟩, fun y _ hall => ?_⟩
  exfalso
  by_cases e : x = y
  · have := hall _ hh (fun e2 => hne (e.trans e2.symm))
    rw [hz] at this
    have := (hc _ hh).1; omega
  · have := hall x hx e
    rw [hz] at this
    have := (hc x hx).1; omega

theorem one_clause (w : World) (a : Int) : ClsIs (fun b => w.heap.size ≤ b ∧ b < w.heap.size + 2) ((w.alloc (.cells #[.int .i64 a] 3)).alloc (.cells #[.slice (some ⟨w.heap.size, 0, none⟩) 1 1] 38)) [[a]] (.slice (some ⟨w.heap.size + 1, 0, none⟩) 1 1) := by
  have v0 := VarAt.new w 3 (.int .i64 a)
  have v1 := VarAt.new (w.alloc (.cells #[.int .i64 a] 3)) 38 (.slice (some ⟨w.heap.size, 0, none⟩) 1 1)
  rw [alloc_size] at v1
  have v2 := v0.keep (Keep.alloc _ (.cells #[.slice (some ⟨w.heap.size, 0, none⟩) 1 1] 38)) v0.facts.2.2
  refine Or.inr ⟨w.heap.size + 1, 0, 1, rfl, ⟨⟨by omega, by omega⟩, Nat.le_refl _⟩, by simp, fun j c hc => ?_⟩
  cases j with
  | zero =>
    have hc2 : [a] = c := by simpa using hc
    subst hc2
    refine ⟨_, v1.facts.1, _, 1, rfl, by simp, fun _ => ⟨w.heap.size, 0, rfl, ⟨Nat.le_refl _, by omega⟩, fun i x hx => ?_⟩⟩
    cases i with
    | zero =>
      have hx2 : a = x := by simpa using hx
      subst hx2
      exact v2.facts.1
    | succ i => simp at hx
  | succ j => simp at hc

/-- What From leaves. -/
def FromDone (n : Nat) (F : List (List Int)) (A : List Int) (w : World) (e : Ending) (w' : World) : Prop :=
  Keep w w' ∧ ((∃ v K L, e = .returned (.tuple #[v, .bool true]) ∧ Good n F A K L ∧ (∀ x, x ∈ L ↔ Der F A x) ∧ ¬ FailsF F A ∧ NumsIs (fun b => w.heap.size ≤ b ∧ b < w'.heap.size) w' (known K) v) ∨ (e = .returned (.tuple #[.slice none 0 0, .bool false]) ∧ FailsF F A))
/-- How far From has come. -/
def FromAt (B1 bk bg bf n : Nat) (F : List (List Int)) (A : List Int) (P : List Int → List Int → Prop) (okv : Value) (w : World) : Prop :=
  (okv = .bool true ∧ ∃ fv K L, AskSt B1 bk bg bf n fv K L w ∧ Good n F A K L ∧ P K L) ∨ (okv = .bool false ∧ FailsF F A)

set_option maxHeartbeats 8000000 in
set_option maxRecDepth 100000 in
theorem from_any (B : Nat) (S : Nat → Prop) (bx bw n : Nat) (sv : Value) (rv : List Value) (sh : List (List Int)) (R : List (List (List Int))) (F : List (List Int)) (A : List Int) (av : Value) (w : World) (h : Cls B S bx bw n sv rv sh R w) (hn : n ≤ 1000) (hSw : ∀ b, S b → b < w.heap.size) (ha : NumsIs S w A av)
    (hAl : LitsC n A) (hF : ∀ c ∈ F, LitsC n c) (hs1 : ∀ d ∈ sh, d ∈ F) (hs2 : ∀ d ∈ F, shortB d = true → d ∈ sh) (hr1 : ∀ i, ∀ d ∈ R.getD i [], d ∈ F) (hr2 : ∀ d ∈ F, ∀ x ∈ d, d ∈ R.getD ((n : Int) + x).toNat []) :
    Calls Try.prog 26 #[.pointer (some ⟨bx, 0, none⟩), av] w fun e w' => FromDone n F A w e w' := by
  obtain ⟨i0, hi, hz0, hz1, hz2⟩ := info_parts infoInt
  have HC := hid h
  have HAV := hid ha
  have HAL := hid hAl
  have HF := hid hF
  have HS1 := hid hs1
  have HS2 := hid hs2
  have HR1 := hid hr1
  have HR2 := hid hr2
  obtain ⟨ap, ac, rfl, halen⟩ := ha.shape
  have hlow := h.low
  obtain ⟨hbc, -, hbl⟩ := h.box.facts
  have hb0 : w.cell? ⟨bx, 0, none⟩ = some (.int .i64 n) := hbc 0
  have e1 : (n : Int) + 1 = ((n + 1 : Nat) : Int) := by omega
  have HEQ := hid e1
  have h1n : (n : Int) ≤ 1000 := by omega
  have hmf : ∀ (fn : Fn) (first cap : Array Value) (w : World), (Instr.makeFunc fn first cap).run Try.prog w = .ok (.func fn first cap) w := fun _ _ _ _ => rfl
  have hent := enter_from1
  clear h ha hAl hF hs1 hs2 hr1 hr2 hbc e1
  go_enter Try.func26, Try.ntmps26
  go_upto_region 5 with (at_make; refine wpList_make_full _ rfl _ _ 26 rfl w.heap.size 3 i0 (.int .i64 0) 1 Try.underlying26 hi hz0 hz1 .i64 .i64 ((n : Int) + 1) ((n : Int) + 1) (n + 1) rfl rfl HEQ.out HEQ.out (by rw [hz2]; omega) (by unfold maxLen; omega) (Nat.le_refl _) ?_; intro w1 h1 h2)
  have hbw := made_box (v := .int .i64 0) rfl h1
  have k1 : Keep w w1 := ⟨h2.os, h2.tape, h2.output, h2.size, fun b hb => h2.block b hb (by simp)⟩
  have hlt1 := hbw.facts.2.2
  refine at_wp (fun W' => Keep w W' ∧ W'.heap.size = w1.heap.size + 2 ∧ AskSt (w1.heap.size + 2) w1.heap.size w.heap.size (w1.heap.size + 1) n (.slice none 0 0) (List.replicate (n + 1) 0) [] W') ⟨(k1.alloc' _).alloc' _, by rw [alloc_size, alloc_size], ?_⟩ ?_
  · have v0 := VarAt.new w1 26 (.slice (some ⟨w.heap.size, 0, none⟩) (n + 1) (n + 1))
    have v1 := VarAt.new (w1.alloc (.cells #[.slice (some ⟨w.heap.size, 0, none⟩) (n + 1) (n + 1)] 26)) 26 (.slice none 0 0)
    rw [alloc_size] at v1
    refine ⟨v0.keep (Keep.alloc _ _) v0.facts.2.2, ?_, by simp, v1, World.ownsRow_nil _ _ _ _, by omega, by omega, by omega, by omega, by omega, by omega, by rw [alloc_size, alloc_size]; omega⟩
    have hb2 := hbw.keep ((Keep.alloc w1 (.cells #[.slice (some ⟨w.heap.size, 0, none⟩) (n + 1) (n + 1)] 26)).alloc' (.cells #[.slice none 0 0] 26)) hlt1
    rwa [show (List.replicate (n + 1) (Value.int .i64 0)) = (List.replicate (n + 1) (0 : Int)).map (Value.int .i64) by simp] at hb2
  rintro W0 ⟨k0, hs0, st0⟩
  have hbg : w.heap.size < w1.heap.size := hlt1
  have K0 := hid k0
  have ST0 := hid st0
  have hsz0 : w1.heap.size + 2 ≤ W0.heap.size := by omega
  generalize hbk : w1.heap.size = bk at hbg ST0 hsz0 ⊢
  clear hbw k1 hlt1 h1 h2 k0 st0 hs0 hbk hb0
  have HI0 := hid (show Inv F (List.replicate (n + 1) 0) [] 0 (fun d => d ∈ sh) from fun c hc => by
    cases hb : shortB c
    · exact .inr (.inl (closed_long (HF.out c hc) hb))
    · exact .inl (HS2.out c hc hb))
  go_wp2_with fail
  go_loopg [9, 22] A.length (fun gn okv iv wr => ∃ j : Nat, j + gn = A.length ∧ iv = .int .i64 j ∧ Keep w wr ∧ bk + 2 ≤ wr.heap.size ∧ FromAt (bk + 2) bk w.heap.size (bk + 1) n F A (fun K L => Inv F K L 0 (fun d => d ∈ sh) ∧ ∀ a ∈ A.take j, a ∈ L) okv wr)
  case atStart => exact ⟨0, by simp, rfl, K0.out, hsz0, .inl ⟨rfl, _, _, _, ST0.out, good_none n F A, HI0.out, by simp⟩⟩
  case round =>
    obtain ⟨j, hj, rfl, hk, hsz, hat⟩ := hrel
    have HK := hid hk
    clear hk
    by_cases hlt : j < A.length
    · obtain ⟨ab, ao, hap, hab, hcell⟩ := (HAV.out.keep hSw HK.out).cellD hlt
      subst hap
      have hal := HAL.out _ (List.getElem_mem hlt)
      have HTK := hid (List.take_succ_eq_append_getElem hlt)
      have HIA := hid (List.getElem_mem hlt)
      generalize A[j] = a at hcell hal HTK HIA
      have habl : ab < wr.heap.size := Nat.lt_of_lt_of_le (hSw ab hab) HK.out.size
      rcases hat with ⟨rfl, fv, K, L, hst, hgo, hinv, hin⟩ | ⟨rfl, hfail⟩
      · have HST := hid hst
        have HGO := hid hgo
        have HINV := hid hinv
        have HIN := hid hin
        clear hst hgo hinv hin
        go_wp2_with fail
        refine at_calls (fun W' => Keep wr W' ∧ W'.heap.size = wr.heap.size + 2 ∧ ClsIs (fun b => wr.heap.size ≤ b ∧ b < wr.heap.size + 2) W' [[a]] (.slice (some ⟨wr.heap.size + 1, 0, none⟩) 1 1)) ⟨(Keep.alloc _ _).alloc' _, by rw [alloc_size, alloc_size], one_clause wr a⟩ ?_
        rintro W1 ⟨k1, hs1, hcl⟩
        have hcond : ∀ c ∈ [[a]], LitsC n c ∧ (c ∈ F ∨ ∃ a ∈ A, c = [a]) := fun c hc => by
          rw [List.mem_singleton.1 hc]
          exact ⟨fun x hx => by rw [List.mem_singleton.1 hx]; exact hal, .inr ⟨a, HIA.out, rfl⟩⟩
        refine (ask_any w.heap.size (bk + 2) bk w.heap.size (bk + 1) n _ fv F A [[a]] _ K L W1 (HST.out.keep k1) HGO.out hn ⟨by omega, Nat.le_refl _, by omega⟩ (fun b hb => ⟨by omega, by omega, by omega, fun e => by have := (owns_in HST.out.own e).2; omega⟩) hcl hcond).mono ?_
        rintro e w2 ⟨fv2, K2, L2, st2, be2, -, hr⟩
        have HG2 := hid (askL_good (T := fun d => d ∈ sh) (k := 0) HF.out HGO.out hcond (Nat.zero_le _) (fun c hc => by
          rcases HINV.out c hc with h | h
          · exact .inl (.inr h)
          · exact .inr h))
        have K2' := hid (show Keep w w2 from Below.trans (HK.out.trans k1) be2)
        have hsz2 : bk + 2 ≤ w2.heap.size := st2.low.2.2.2.2.2.2
        have ST2 := hid st2
        clear hcond hcl k1 hs1 st2 be2
        rcases hr with ⟨rfl, hak, hgo2⟩ | ⟨rfl, hak⟩
        · have HGO2 := hid hgo2
          have HX := HG2.out
          rw [hak] at HX
          have HX2 := hid HX
          clear hak hgo2 HX HG2
          go_wp2_with fail
          go_roundg (A.length - (j + 1))
          case rel => exact ⟨j + 1, by omega, by go_num, K2'.out, hsz2, .inl ⟨rfl, fv2, K2, L2, ST2.out, HGO2.out, HX2.out.2.2.1, fun x hx => by
            rw [HTK.out] at hx
            rcases List.mem_append.1 hx with hx | hx
            · exact HX2.out.2.2.2.1 x (HIN.out x hx)
            · rw [List.mem_singleton.1 hx]; exact HX2.out.2.2.2.2.1 a (by simp)⟩⟩
          case measure => omega
        · have HX := HG2.out
          rw [hak] at HX
          have HX2 := hid HX
          clear hak HX HG2
          go_wp2_with fail
          go_roundg (A.length - (j + 1))
          case rel => exact ⟨j + 1, by omega, by go_num, K2'.out, hsz2, .inr ⟨rfl, HX2.out⟩⟩
          case measure => omega
      · have HFL := hid hfail
        clear hfail
        go_wp2_with fail
        go_roundg (A.length - (j + 1))
        case rel => exact ⟨j + 1, by omega, by go_num, HK.out, hsz, .inr ⟨rfl, HFL.out⟩⟩
        case measure => omega
    · obtain rfl : j = A.length := by omega
      have HAT := hid hat
      clear hat hlt hj
      go_upto_region 10 with fail
      go_cut [9] from 35 to 43 (fun okv wc => Keep w wc ∧ bk + 2 ≤ wc.heap.size ∧ FromAt (bk + 2) bk w.heap.size (bk + 1) n F A (fun K L => Inv F K L 0 (fun _ => False) ∧ ∀ a ∈ A, a ∈ L) okv wc)
      case first =>
        rcases HAT.out with ⟨hok, fv, K, L, hst, hgo, hinv, hin⟩ | ⟨hok, hfail⟩
        · subst hok
          have HST := hid hst
          have HGO := hid hgo
          have HINV := hid hinv
          have HIN := hid hin
          have HROW := hid (HC.out.tab.row 0 sv sh rfl rfl)
          obtain ⟨sp, sc, hsv⟩ := HROW.out.shape
          have hb1 : wr.cell? ⟨bx, 1, none⟩ = some sv := (HK.out.cell (p := ⟨bx, 1, none⟩) hbl).trans (HC.out.box.facts.1 1)
          have hbl1 : bx < wr.heap.size := Nat.lt_of_lt_of_le hbl HK.out.size
          have hrin : ∀ b, (S b ∨ sv.ownBlock = some b) → b < w.heap.size := fun b hb => hb.elim (hSw b) fun e => (HROW.out.in e).2
          have hcl := HROW.out.cls.keep hrin HK.out
          subst hsv
          have HCL := hid hcl
          clear hst hgo hinv hin hcl HAT
          go_wp2_with fail
          have hcond : ∀ c ∈ sh, LitsC n c ∧ (c ∈ F ∨ ∃ a ∈ A, c = [a]) := fun c hc => ⟨HF.out c (HS1.out c hc), .inl (HS1.out c hc)⟩
          refine (ask_any w.heap.size (bk + 2) bk w.heap.size (bk + 1) n _ fv F A sh _ K L wr HST.out HGO.out hn ⟨by omega, Nat.le_refl _, by omega⟩ (fun b hb => by
            have := hrin b hb
            exact ⟨Nat.lt_of_lt_of_le this HK.out.size, by omega, by omega, fun e => by have := (owns_in HST.out.own e).1; omega⟩) HCL.out hcond).mono ?_
          rintro e w2 ⟨fv2, K2, L2, st2, be2, -, hr⟩
          have HG2 := hid (askL_good (T := fun _ => False) (k := 0) HF.out HGO.out hcond (Nat.zero_le _) (fun c hc => by
            rcases HINV.out c hc with h | h
            · exact .inl (.inl h)
            · exact .inr h))
          have K2' := hid (show Keep w w2 from Below.trans HK.out be2)
          have hsz2 : bk + 2 ≤ w2.heap.size := st2.low.2.2.2.2.2.2
          have ST2 := hid st2
          clear hcond st2 be2 hb1 hrin
          rcases hr with ⟨rfl, hak, hgo2⟩ | ⟨rfl, hak⟩
          · have HGO2 := hid hgo2
            have HX := HG2.out
            rw [hak] at HX
            have HX2 := hid HX
            clear hak hgo2 HX HG2
            go_wp2_with fail
            go_meet
            exact ⟨K2'.out, hsz2, .inl ⟨rfl, fv2, K2, L2, ST2.out, HGO2.out, HX2.out.2.2.1, fun x hx => HX2.out.2.2.2.1 x (HIN.out x (by rw [List.take_length]; exact hx))⟩⟩
          · have HX := HG2.out
            rw [hak] at HX
            have HX2 := hid HX
            clear hak HX HG2
            go_wp2_with fail
            go_meet
            exact ⟨K2'.out, hsz2, .inr ⟨rfl, HX2.out⟩⟩
        · subst hok
          have HFL := hid hfail
          clear hfail HAT
          go_wp2_with fail
          go_meet
          exact ⟨HK.out, hsz, .inr ⟨rfl, HFL.out⟩⟩
      case rest =>
        obtain ⟨hkc, hszc, hatc⟩ := hcut
        have HKC := hid hkc
        have HATC := hid hatc
        clear hkc hatc HAT HK hsz
        go_wp2_with fail
        go_loopg [9, 12] (n + 2) (fun gn okv nv wi => ∃ k : Nat, k + gn = n + 2 ∧ nv = .int .i64 k ∧ Keep w wi ∧ bk + 2 ≤ wi.heap.size ∧ FromAt (bk + 2) bk w.heap.size (bk + 1) n F A (fun K L => k ≤ L.length ∧ Inv F K L k (fun _ => False) ∧ ∀ a ∈ A, a ∈ L) okv wi)
        case atStart =>
          refine ⟨0, by omega, rfl, HKC.out, hszc, ?_⟩
          rcases HATC.out with ⟨h1, fv, K, L, h2, h3, h4, h5⟩ | h
          · exact .inl ⟨h1, fv, K, L, h2, h3, Nat.zero_le _, h4, h5⟩
          · exact .inr h
        case round =>
          obtain ⟨k, hkg, rfl, hkw, hsz, hat⟩ := hrel
          have HK := hid hkw
          clear hkw
          rcases hat with ⟨rfl, fv, K, L, hst, hgo, hkl, hinv, hin⟩ | ⟨rfl, hfail⟩
          · have HST := hid hst
            have HGO := hid hgo
            have HINV := hid hinv
            have HIN := hid hin
            have HLE := hid hgo.le
            obtain ⟨fp, fcap, hfv⟩ := hst.own.ints.len
            subst hfv
            obtain ⟨hfc, -, hfl⟩ := hst.fd.facts
            clear hst hgo hinv hin
            by_cases hkL : k < L.length
            · have hkL' : (k : Int) < (L.length : Int) := by omega
              obtain ⟨g, gcap, hgv, hgl0, hgcell⟩ := HST.out.own.ints.resolve_left (fun h => by have := h.1; subst this; simp at hkL)
              cases hgv
              have hx0 := hgcell k _ (List.getElem?_eq_getElem hkL)
              have hxl := HGO.out.lits (List.getElem_mem hkL)
              have HXK := hid (List.getElem?_eq_getElem hkL)
              generalize L[k] = x at hx0 hxl HXK
              clear hgcell
              obtain ⟨q, hq⟩ : ∃ q : Nat, (n : Int) - x = q := ⟨((n : Int) - x).toNat, by have := hxl.2; omega⟩
              have hq2 : q < 2 * n + 1 := by have := hxl.2; omega
              have hqv : q < rv.length := by rw [HC.out.rlen]; exact hq2
              have hqr : q < R.length := by rw [HC.out.len]; exact hq2
              have HROW := hid (HC.out.tab.row (q + 1) rv[q] R[q] (by simp [hqv]) (by simp [hqr]))
              obtain ⟨rp, rc, hrs⟩ := HROW.out.shape
              have hbwl : bw < w.heap.size := HC.out.arr.facts.2.2
              have hwq : wr.cell? ⟨bw, q, none⟩ = some rv[q] := (HK.out.cell (p := ⟨bw, q, none⟩) hbwl).trans (by rw [HC.out.arr.facts.1]; simp [hqv])
              have hb0 : wr.cell? ⟨bx, 0, none⟩ = some (.int .i64 n) := (HK.out.cell (p := ⟨bx, 0, none⟩) hbl).trans (HC.out.box.facts.1 0)
              have hb2 : wr.cell? ⟨bx, 2, none⟩ = some (.slice (some ⟨bw, 0, none⟩) (2 * n + 1) (2 * n + 1)) := (HK.out.cell (p := ⟨bx, 2, none⟩) hbl).trans (HC.out.box.facts.1 2)
              have HRG := hid (show R.getD q [] = R[q] by simp [List.getD_eq_getElem?_getD, hqr])
              have hrin : ∀ b, (S b ∨ rv[q].ownBlock = some b) → b < w.heap.size := fun b hb => hb.elim (hSw b) fun e => (HROW.out.in e).2
              have hcl := HROW.out.cls.keep hrin HK.out
              have hcond : ∀ c ∈ R[q], LitsC n c ∧ (c ∈ F ∨ ∃ a ∈ A, c = [a]) := fun c hc => by
                have := HR1.out q c (by rw [HRG.out]; exact hc)
                exact ⟨HF.out c this, .inl this⟩
              have HG2 := hid (askL_good (T := fun _ => False) (k := k + 1) (cs := R[q]) HF.out HGO.out hcond (by omega) (fun c hc => by
                rcases HINV.out c hc with h | h | ⟨j, hj, y, hy, hyc⟩
                · exact h.elim
                · exact .inr (.inl h)
                · by_cases e : j = k
                  · refine .inl (.inl ?_)
                    rw [e, HXK.out] at hy
                    have hxy := Option.some.inj hy
                    subst hxy
                    have := HR2.out c hc (-x) hyc
                    rw [show ((n : Int) + -x).toNat = q by omega, HRG.out] at this
                    exact this
                  · exact .inr (.inr ⟨j, by omega, y, hy, hyc⟩)))
              have HCL := hid hcl
              have HCOND := hid hcond
              have HRIN := hid hrin
              clear hcl hcond hrin HRG
              generalize rv[q] = v at HROW hrs hwq HCL HRIN
              generalize R[q] = r at HROW hrs HCL HCOND HG2
              subst hrs
              have hbl1 : bx < wr.heap.size := Nat.lt_of_lt_of_le hbl HK.out.size
              have hbwl1 : bw < wr.heap.size := Nat.lt_of_lt_of_le hbwl HK.out.size
              have hq0 : (0 : Int) ≤ q := by omega
              have hq3 : (q : Int) < 2 * n + 1 := by omega
              have hqw : IntKind.i64.wrap (q : Int) = q := by rw [IntKind.wrap_i64]; omega
              have hk0 : (0 : Int) ≤ k := by omega
              have hcallW := hid (show Calls Try.prog 34 #[.slice rp r.length rc, .pointer (some ⟨bk, 0, none⟩), .pointer (some ⟨bk + 1, 0, none⟩)] wr.drew _ from ask_any w.heap.size (bk + 2) bk w.heap.size (bk + 1) n _ _ F A r _ K L wr.drew (HST.out.keep (Keep.drew (Keep.refl _))) HGO.out hn ⟨by omega, Nat.le_refl _, by omega⟩ (fun b hb => by
                have := HRIN.out b hb
                exact ⟨Nat.lt_of_lt_of_le this HK.out.size, by omega, by omega, fun e => by have := (owns_in HST.out.own e).1; omega⟩) HCL.out HCOND.out)
              go_upto_region 14 with fail
              refine wp_region_held_drew (S := fun W' => W'.cell? ⟨bx, 0, none⟩ = some (.int .i64 n) ∧ W'.cell? ⟨bx, 2, none⟩ = some (.slice (some ⟨bw, 0, none⟩) (2 * n + 1) (2 * n + 1)) ∧ W'.cell? ⟨bw, q, none⟩ = some (.slice rp r.length rc)) (by kernel_rfl) ⟨hb0, hb2, hwq⟩ (fun hHeld => ?_)
              refine wpAnyH_take (i := 0) (v := ?_) rfl (by kernel_rfl) (by kernel_rfl) (by kernel_rfl) (fun _ _ _ h => h) (Or.inl ⟨by rfl, ?_⟩) (by assumption) ?_
              rotate_left
              · intro w hSw
                (try dsimp only at hSw)
                go_simp
                try with_reducible rfl
              simp only [Act.put, List.setIfInBounds_toArray, List.set_cons_zero, List.set_cons_succ, List.getElem_toArray, List.getElem_cons_zero]
              refine wpAnyH_take (i := 1) (v := ?_) rfl (by kernel_rfl) (by kernel_rfl) (by kernel_rfl) (fun _ _ _ h => h) (Or.inl ⟨by rfl, ?_⟩) (by assumption) ?_
              rotate_left
              · intro w hSw
                (try dsimp only at hSw)
                go_simp
                try with_reducible rfl
              simp only [Act.put, List.setIfInBounds_toArray, List.set_cons_zero, List.set_cons_succ, List.getElem_toArray, List.getElem_cons_zero, List.getElem_cons_succ]
              refine wpAnyH_take (i := 2) (v := ?_) rfl (by kernel_rfl) (by kernel_rfl) (by kernel_rfl) (fun _ _ _ h => h) (Or.inl ⟨by rfl, ?_⟩) (by assumption) ?_
              rotate_left
              · intro w hSw
                (try dsimp only at hSw)
                go_simp
                try with_reducible rfl
              simp only [Act.put, List.setIfInBounds_toArray, List.set_cons_zero, List.set_cons_succ, List.getElem_toArray, List.getElem_cons_zero, List.getElem_cons_succ]
              refine wpAnyH_take (i := 3) (v := ?_) rfl (by kernel_rfl) (by kernel_rfl) (by kernel_rfl) (fun _ _ _ h => h) (Or.inl ⟨by rfl, ?_⟩) (by assumption) ?_
              rotate_left
              · intro w hSw
                (try dsimp only at hSw)
                go_simp
                try with_reducible rfl
              simp only [Act.put, List.setIfInBounds_toArray, List.set_cons_zero, List.set_cons_succ, List.getElem_toArray, List.getElem_cons_zero, List.getElem_cons_succ]
              refine wpAnyH_take (i := 4) (v := ?_) rfl (by kernel_rfl) (by kernel_rfl) (by kernel_rfl) (fun _ _ _ h => h) (Or.inl ⟨by rfl, ?_⟩) (by assumption) ?_
              rotate_left
              · intro w hSw
                (try dsimp only at hSw)
                go_simp
                try with_reducible rfl
              simp only [Act.put, List.setIfInBounds_toArray, List.set_cons_zero, List.set_cons_succ, List.getElem_toArray, List.getElem_cons_zero, List.getElem_cons_succ]
              refine wpAnyH_take (i := 5) (v := ?_) rfl (by kernel_rfl) (by kernel_rfl) (by kernel_rfl) (fun _ _ _ h => h) (Or.inl ⟨by rfl, ?_⟩) (by assumption) ?_
              rotate_left
              · intro w hSw
                (try dsimp only at hSw)
                go_simp
                try with_reducible rfl
              simp only [Act.put, List.setIfInBounds_toArray, List.set_cons_zero, List.set_cons_succ, List.getElem_toArray, List.getElem_cons_zero, List.getElem_cons_succ]
              refine wpAnyH_take (i := 6) (v := ?_) rfl (by kernel_rfl) (by kernel_rfl) (by kernel_rfl) (fun _ _ _ h => h) (Or.inl ⟨by rfl, ?_⟩) (by assumption) ?_
              rotate_left
              · intro w hSw
                (try dsimp only at hSw)
                go_simp
                try with_reducible rfl
              simp only [Act.put, List.setIfInBounds_toArray, List.set_cons_zero, List.set_cons_succ, List.getElem_toArray, List.getElem_cons_zero, List.getElem_cons_succ]
              refine wpAnyH_take (i := 7) (v := ?_) rfl (by kernel_rfl) (by kernel_rfl) (by kernel_rfl) (fun _ _ _ h => h) (Or.inl ⟨by rfl, ?_⟩) (by assumption) ?_
              rotate_left
              · intro w hSw
                (try dsimp only at hSw)
                go_simp
                try with_reducible rfl
              simp only [Act.put, List.setIfInBounds_toArray, List.set_cons_zero, List.set_cons_succ, List.getElem_toArray, List.getElem_cons_zero, List.getElem_cons_succ]
              refine wpAnyH_take (i := 8) (v := ?_) rfl (by kernel_rfl) (by kernel_rfl) (by kernel_rfl) (fun _ _ _ h => h) (Or.inl ⟨by rfl, ?_⟩) (by assumption) ?_
              rotate_left
              · intro w hSw
                (try dsimp only at hSw)
                go_simp
                try with_reducible rfl
              simp only [Act.put, List.setIfInBounds_toArray, List.set_cons_zero, List.set_cons_succ, List.getElem_toArray, List.getElem_cons_zero, List.getElem_cons_succ]
              refine wpAnyH_take (i := 10) (v := ?_) rfl (by kernel_rfl) (by kernel_rfl) (by kernel_rfl) (fun _ _ _ h => h) (Or.inl ⟨by rfl, ?_⟩) (by assumption) ?_
              rotate_left
              · intro w hSw
                (try dsimp only at hSw)
                go_simp
                try with_reducible rfl
              simp only [Act.put, List.setIfInBounds_toArray, List.set_cons_zero, List.set_cons_succ, List.getElem_toArray, List.getElem_cons_zero, List.getElem_cons_succ]
              refine wpAnyH_ready (rs := [9]) (by kernel_rfl) (by simp) ?_
              refine AllReadyH.cons rfl (fun KK hK => ?_) AllReadyH.nil
              go_simp
              refine hK.out _ _ ⟨hb0, hb2, hwq⟩ (fun hH1 => ?_)
              clear hK KK
              refine wpAnyH_take (i := 11) (v := ?_) rfl (by kernel_rfl) (by kernel_rfl) (by kernel_rfl) (fun _ _ _ h => h) (Or.inl ⟨by rfl, ?_⟩) (by assumption) ?_
              rotate_left
              · intro w hSw
                (try dsimp only at hSw)
                go_simp
                try with_reducible rfl
              simp only [Act.put, List.setIfInBounds_toArray, List.set_cons_zero, List.set_cons_succ, List.getElem_toArray, List.getElem_cons_zero, List.getElem_cons_succ]
              refine wpAnyH_ready (rs := [12]) (by kernel_rfl) (by simp) ?_
              refine AllReadyH.cons rfl (fun KK hK => ?_) AllReadyH.nil
              go_simp
              refine hK.out _ _ ⟨hb0, hb2, hwq⟩ (fun hH2 => ?_)
              clear hK KK
              refine wpAnyH_take (i := 13) (v := ?_) rfl (by kernel_rfl) (by kernel_rfl) (by kernel_rfl) (fun _ _ _ h => h) (Or.inl ⟨by rfl, ?_⟩) (by assumption) ?_
              rotate_left
              · intro w hSw
                (try dsimp only at hSw)
                go_simp
                try with_reducible rfl
              simp only [Act.put, List.setIfInBounds_toArray, List.set_cons_zero, List.set_cons_succ, List.getElem_toArray, List.getElem_cons_zero, List.getElem_cons_succ]
              refine wpAnyH_take (i := 14) (v := ?_) rfl (by kernel_rfl) (by kernel_rfl) (by kernel_rfl) (fun _ _ _ h => h) (Or.inl ⟨by rfl, ?_⟩) (by assumption) ?_
              rotate_left
              · intro w hSw
                (try dsimp only at hSw)
                go_simp
                try with_reducible rfl
              simp only [Act.put, List.setIfInBounds_toArray, List.set_cons_zero, List.set_cons_succ, List.getElem_toArray, List.getElem_cons_zero, List.getElem_cons_succ]
              refine wpAnyH_take (i := 15) (v := ?_) rfl (by kernel_rfl) (by kernel_rfl) (by kernel_rfl) (fun _ _ _ h => h) (Or.inl ⟨by rfl, ?_⟩) (by assumption) ?_
              rotate_left
              · intro w hSw
                (try dsimp only at hSw)
                go_simp
                try with_reducible rfl
              simp only [Act.put, List.setIfInBounds_toArray, List.set_cons_zero, List.set_cons_succ, List.getElem_toArray, List.getElem_cons_zero, List.getElem_cons_succ]
              refine wpAnyH_ready (rs := [16]) (by kernel_rfl) (by simp) ?_
              refine AllReadyH.cons rfl (fun KK hK => ?_) AllReadyH.nil
              go_simp
              refine hcallW.out.mono ?_
              rintro e w2 ⟨fv2, K2, L2, st2, be2, -, hr⟩
              have K2' := hid (show Keep w w2 from Below.trans (HK.out.trans (Keep.drew (Keep.refl _))) be2)
              have hsz2 : bk + 2 ≤ w2.heap.size := st2.low.2.2.2.2.2.2
              have ST2 := hid st2
              have hbb0 : w2.cell? ⟨bx, 0, none⟩ = some (.int .i64 n) := (be2.cell (p := ⟨bx, 0, none⟩) hbl).trans hb0
              have hbb2 : w2.cell? ⟨bx, 2, none⟩ = some (.slice (some ⟨bw, 0, none⟩) (2 * n + 1) (2 * n + 1)) := (be2.cell (p := ⟨bx, 2, none⟩) hbl).trans hb2
              have hbwq : w2.cell? ⟨bw, q, none⟩ = some (.slice rp r.length rc) := (be2.cell (p := ⟨bw, q, none⟩) hbwl).trans hwq
              clear st2 be2
              have HR := hid hr
              clear hr
              rcases HR.out with ⟨rfl, hak, hgo2⟩ | ⟨rfl, hak⟩
              · have HGO2 := hid hgo2
                have HX := HG2.out
                rw [hak] at HX
                have HX2 := hid HX
                clear hak hgo2 HX
                refine hK.out _ _ ⟨hbb0, hbb2, hbwq⟩ (fun hH3 => ?_)
                clear hK KK
                refine wpAnyH_take (i := 17) (v := ?_) rfl (by kernel_rfl) (by kernel_rfl) (by kernel_rfl) (fun _ _ _ h => h) (Or.inl ⟨by rfl, ?_⟩) (by assumption) ?_
                rotate_left
                · intro w hSw
                  (try dsimp only at hSw)
                  go_simp
                  try with_reducible rfl
                simp only [Act.put, List.setIfInBounds_toArray, List.set_cons_zero, List.set_cons_succ, List.getElem_toArray, List.getElem_cons_zero, List.getElem_cons_succ]
                refine wpAnyH_done (by kernel_rfl) ?_ _
                clear hHeld hH1 hH2 hH3 hbb0 hbb2 hbwq hb0 hb2 hwq hx0 hfc
                go_wp2_with fail
                go_roundg (n + 2 - (k + 1))
                case rel => exact ⟨k + 1, by have := HLE.out; omega, by go_num, K2'.out, hsz2, .inl ⟨rfl, fv2, K2, L2, ST2.out, HGO2.out, HX2.out.2.1, HX2.out.2.2.1, fun a ha => HX2.out.2.2.2.1 a (HIN.out a ha)⟩⟩
                case measure => have := HLE.out; omega
              · have HX := HG2.out
                rw [hak] at HX
                have HX2 := hid HX
                clear hak HX
                refine hK.out _ _ ⟨hbb0, hbb2, hbwq⟩ (fun hH3 => ?_)
                clear hK KK
                refine wpAnyH_take (i := 17) (v := ?_) rfl (by kernel_rfl) (by kernel_rfl) (by kernel_rfl) (fun _ _ _ h => h) (Or.inl ⟨by rfl, ?_⟩) (by assumption) ?_
                rotate_left
                · intro w hSw
                  (try dsimp only at hSw)
                  go_simp
                  try with_reducible rfl
                simp only [Act.put, List.setIfInBounds_toArray, List.set_cons_zero, List.set_cons_succ, List.getElem_toArray, List.getElem_cons_zero, List.getElem_cons_succ]
                refine wpAnyH_done (by kernel_rfl) ?_ _
                clear hHeld hH1 hH2 hH3 hbb0 hbb2 hbwq hb0 hb2 hwq hx0 hfc
                go_wp2_with fail
                go_roundg (n + 2 - (k + 1))
                case rel => exact ⟨k + 1, by have := HLE.out; omega, by go_num, K2'.out, hsz2, .inr ⟨rfl, HX2.out⟩⟩
                case measure => have := HLE.out; omega
            · have hkL' : ¬ ((k : Int) < (L.length : Int)) := by omega
              have HD := hid (good_done HF.out HGO.out HIN.out (by have e : k = L.length := by omega
                                                                   rw [← e]; exact HINV.out))
              obtain ⟨hgc, -, hgl⟩ := HST.out.kv.facts
              clear hkL
              go_wp2_with fail
              refine (deleted_any w.heap.size n w.heap.size K wr HST.out.len hn (Nat.le_refl _) HST.out.kc).mono ?_
              rintro e w3 ⟨v, rfl, hnu, hb3⟩
              have HNU := hid hnu
              have HB3 := hid (show Keep w w3 from Below.trans HK.out hb3)
              have hw3 : w.heap.size < w3.heap.size := Nat.lt_of_lt_of_le (by omega) hb3.size
              clear hnu hb3 hfc hgc
              go_wp2_with fail
              go_ret2
              refine ⟨HB3.out, .inl ⟨v, K, L, rfl, HGO.out, HD.out.1, HD.out.2, HNU.out.mono (fun _ _ => rfl) fun b hb => ?_⟩⟩
              subst hb
              exact ⟨Nat.le_refl _, hw3⟩
          · have HFL := hid hfail
            clear hfail
            go_wp2_with fail
            go_ret2
            exact ⟨HK.out, .inr ⟨rfl, HFL.out⟩⟩
end Go.Proofs.Ytkckkjpkidcbnab
