/- follow's settle: literals are known, and all that follows, or it fails. -/
import Derived.Test.YtbblgmkjgcjcaabFolAskWalk
namespace Go.Proofs.Ytbblgmkjgcjcaab
open Go.RowKit Go.Lib

/-- What settle leaves. -/
def SetLeft (J : List Value) (x : XD) (B bg : Nat) (F G : List (List Int)) (A K lits : List Int) (w : World) (e : Ending) (w' : World) : Prop :=
  ∃ (ok : Bool) (C' : List (List Int)) (rv' : List Value) (W' : List (List Nat)) (K' L' : List Int), e = .returned (.bool ok) ∧ XM (x.turned C' rv' W') B w' ∧ BoxAt bg 3 (K'.map (Value.int .i64) ++ J).toArray w' ∧ Turn (fun b => x.own b ∨ b = bg) (fun b => (x.turned C' rv' W').own b ∨ b = bg) w w' ∧ (∀ b, (x.turned C' rv' W').own b → x.own b ∨ w.heap.size ≤ b) ∧ C'.length = x.C.length ∧
    ((ok = true ∧ SetI x.n F G A K K' L' L'.length C' W' ∧ ∀ a ∈ lits, kn K' a = a) ∨ (ok = false ∧ SetN x.n F G A K K' L' C' W'))
/-- The boxes of settle's own are left out. -/
theorem settled {kc : Nat} {J : List Value} {x x' : XD} {B B1 bk bg bf : Nat} {fv fv' : Value} {K' L' : List Int} {w W0 w' : World} (hk : Keep w W0) (h' : SM kc J x' B B1 bk bg bf fv' K' L' w') (t : Turn (SO x bg bf fv) (SO x' bg bf fv') W0 w') (hf : w.heap.size ≤ bf) (hv : fv.ownBlock = none) :
    Turn (fun b => x.own b ∨ b = bg) (fun b => x'.own b ∨ b = bg) w w' ∧ ∀ b, x'.own b → x.own b ∨ w.heap.size ≤ b := by
  have hnew : ∀ b, x'.own b → x.own b ∨ w.heap.size ≤ b := fun b hb => by
    rcases t.new b (.inl hb) with (e | e | e | e) | e
    · exact .inl e
    · exact absurd e (h'.sep b hb).2.1
    · exact .inr (by omega)
    · rw [hv] at e; cases e
    · exact .inr (Nat.le_trans hk.size e)
  refine ⟨⟨t.os.trans hk.os, t.tape.trans hk.tape, t.output.trans hk.output, Nat.le_trans hk.size t.size, fun b hb hn => ?_, fun b hb => ?_⟩, hnew⟩
  · rw [t.block b (Nat.lt_of_lt_of_le hb hk.size) (by
      rintro (e | e | e | e)
      · exact hn (.inl e)
      · exact hn (.inr e)
      · omega
      · rw [hv] at e; cases e), hk.block b hb]
  · rcases hb with hb | hb
    · exact (hnew b hb).imp .inl id
    · exact .inl (.inr hb)

set_option maxHeartbeats 16000000 in
set_option maxRecDepth 100000 in
theorem settle_any (kc : Nat) (J : List Value) (x : XD) (B bg : Nat) (S : Nat → Prop) (F G : List (List Int)) (A K lits : List Int) (av : Value) (w : World) (h : XM x B w) (hkb : BoxAt bg 3 (K.map (Value.int .i64) ++ J).toArray w) (hbg : ¬ x.own bg) (ha : NumsIs S w lits av) (hS : ∀ b, S b → b < w.heap.size ∧ ¬ x.own b ∧ b ≠ bg) (hn : x.n ≤ 1000) (hC : x.C.length ≤ 1000000) (hG : ∀ c ∈ G, LitsC x.n c)
    (hI : SetI x.n F G A K K [] 0 x.C x.W) (hl : ∀ a ∈ lits, Lit x.n a ∧ Der G A a) :
    Calls Try.prog 63 #[.pointer (some ⟨x.bx, 0, none⟩), .slice (some ⟨bg, 0, none⟩) (x.n + 1) kc, av] w fun e w' => SetLeft J x B bg F G A K lits w e w' := by
  have HX := hid h
  have HI := hid hI
  have HG := hid hG
  have HLI := hid hl
  have HA := hid ha
  obtain ⟨ap, ac, rfl, halen⟩ := ha.shape
  have hmf : ∀ (fn : Fn) (first cap : Array Value) (w : World), (Instr.makeFunc fn first cap).run Try.prog w = .ok (.func fn first cap) w := fun _ _ _ _ => rfl
  have hent := enter_take
  have hbgl := hkb.facts.2.2
  have HST := hid (show SM kc J x B (w.heap.size + 2) w.heap.size bg (w.heap.size + 1) (.slice none 0 0) K [] ((w.alloc (.cells #[.slice (some ⟨bg, 0, none⟩) (x.n + 1) kc] 26)).alloc (.cells #[.slice none 0 0] 26)) from by
    have v0 := VarAt.new w 26 (.slice (some ⟨bg, 0, none⟩) (x.n + 1) kc)
    have v1 := VarAt.new (w.alloc (.cells #[.slice (some ⟨bg, 0, none⟩) (x.n + 1) kc] 26)) 26 (.slice none 0 0)
    rw [alloc_size] at v1
    have k2 : Keep w ((w.alloc (.cells #[.slice (some ⟨bg, 0, none⟩) (x.n + 1) kc] 26)).alloc (.cells #[.slice none 0 0] 26)) := (Keep.alloc _ _).alloc' _
    refine ⟨h.keep k2, ⟨v0.keep (Keep.alloc _ _) v0.facts.2.2, hkb.keep k2 hbgl, hI.sk.tb.len, v1, World.ownsRow_nil _ _ _ _, by omega, by omega, by omega, by omega, by omega, by omega, by rw [alloc_size, alloc_size]; omega⟩, fun b hb => ?_⟩
    have := h.lt hb
    exact ⟨by omega, fun e => hbg (e ▸ hb), by omega, by simp [Value.ownBlock]⟩)
  clear h hI hG hl ha hkb
  go_enter Try.func63, Try.ntmps63
  go_upto_region 3 with fail
  have HQ := hid (And.intro ((Keep.alloc w (.cells #[.slice (some ⟨bg, 0, none⟩) (x.n + 1) kc] 26)).alloc' (.cells #[.slice none 0 0] 26)) HST.out)
  refine at_wp (fun W' => Keep w W' ∧ SM kc J x B (w.heap.size + 2) w.heap.size bg (w.heap.size + 1) (.slice none 0 0) K [] W') ?_ ?_
  · exact HQ.out
  rintro W0 ⟨hk0, hsm0⟩
  have K0 := hid hk0
  have SM0 := hid hsm0
  have HNU := hid (HA.out.keep (fun b hb => (hS b hb).1) hk0)
  have HSO := hid (show ∀ b, S b → b < W0.heap.size ∧ ¬ SO x bg (w.heap.size + 1) (.slice none 0 0) b from fun b hb => ⟨Nat.lt_of_lt_of_le (hS b hb).1 hk0.size, by
    have h1 := hS b hb
    rintro (e | e | e | e)
    · exact h1.2.1 e
    · exact h1.2.2 e
    · omega
    · cases e⟩)
  clear hk0 hsm0 HQ HST HX HA
  generalize hbke : w.heap.size = bk at SM0 HSO ⊢
  have HBK := hid hbke
  clear hbke
  go_wp2_with fail
  go_loopg [15] lits.length (fun gn iv wr => ∃ (j : Nat) (fv1 : Value) (K1 L1 : List Int), j + gn = lits.length ∧ iv = .int .i64 j ∧ SM kc J x B (bk + 2) bk bg (bk + 1) fv1 K1 L1 wr ∧ Turn (SO x bg (bk + 1) (.slice none 0 0)) (SO x bg (bk + 1) fv1) W0 wr ∧ SetI x.n F G A K K1 L1 0 x.C x.W ∧ ∀ a ∈ lits.take j, kn K1 a = a)
  case atStart => exact ⟨0, _, K, [], by omega, rfl, SM0.out, Turn.refl _ _, HI.out, by simp⟩
  case round =>
    obtain ⟨j, fv1, K1, L1, hj, rfl, hsm, htu, hsi, hin⟩ := hrel
    have SM1 := hid hsm
    have TU1 := hid htu
    have SI1 := hid hsi
    have HIN := hid hin
    clear hsm htu hsi hin
    by_cases hlt : j < lits.length
    · obtain ⟨ab, ao, hap, hab, hcell⟩ := (HNU.out.turn TU1.out HSO.out).nth hlt
      subst hap
      have hcj := hcell j _ (List.getElem?_eq_getElem hlt)
      have hal := HLI.out _ (List.getElem_mem hlt)
      have HTK := hid (List.take_succ_eq_append_getElem hlt)
      have habl : ab < wr.heap.size := Nat.lt_of_lt_of_le (HSO.out ab hab).1 TU1.out.size
      have hjI : (j : Int) < (lits.length : Int) := by omega
      generalize lits[j] = a at hcj hal HTK
      have HTA := hid (take_any kc J (bk + 2) bk bg (bk + 1) x.n fv1 K1 L1 a wr SM1.out.st hn hal.1 (by have := SI1.out.sk.le; omega))
      have HT2 := hid (SI1.out.take hal.1 hal.2)
      have HE2 := hid (tkK_ext SI1.out.sk.tb hal.1)
      have HLA := hid (fun b (hb : b ∈ lits.take j) => (HLI.out b (List.mem_of_mem_take hb)).1.1)
      clear hcell
      go_wp2_with fail
      refine HTA.out.mono ?_
      clear HTA
      rintro e w2 ⟨fv2, rfl, hs2, ht2⟩
      obtain ⟨hsm, hto⟩ := SM1.out.taken hs2 ht2
      have SM2 := hid hsm
      have TU2 := hid (TU1.out.trans hto)
      clear hsm hto hs2 ht2 hcj
      by_cases he : kn (tkK K1 a) a = a
      · have he' : (kn (tkK K1 a) a == a) = true := beq_iff_eq.2 he
        rw [he']
        have HNX := hid (HT2.out.1 he)
        have HIN2 := hid (show ∀ b ∈ lits.take (j + 1), kn (tkK K1 a) b = b from fun b hb => by
          rw [HTK.out] at hb
          rcases List.mem_append.1 hb with hb | hb
          · exact HE2.out.pos (HLA.out b hb) (HIN.out b hb)
          · rw [List.mem_singleton.1 hb]; exact he)
        clear he he'
        go_wp2_with fail
        go_roundg (lits.length - (j + 1))
        case rel => exact ⟨j + 1, fv2, _, _, by omega, by go_num, SM2.out, TU2.out, HNX.out, HIN2.out⟩
        case measure => omega
      · have he' : (kn (tkK K1 a) a == a) = false := beq_eq_false_iff_ne.2 he
        rw [he']
        have HNX := hid (HT2.out.2 he)
        clear he he'
        go_wp2_with fail
        go_ret
        obtain ⟨e1, e2⟩ := settled K0.out SM2.out TU2.out (by have := HBK.out; omega) rfl
        exact ⟨false, x.C, x.rv, x.W, _, _, rfl, SM2.out.xm, SM2.out.st.kb, e1, e2, rfl, .inr ⟨rfl, HNX.out⟩⟩
    · obtain rfl : j = lits.length := by omega
      have HIN2 := hid (show ∀ a ∈ lits, kn K1 a = a by have := HIN.out; rw [List.take_length] at this; exact this)
      go_wp2_with fail
      go_loopg [11] (x.n + 2) (fun gn nv wi => ∃ (k : Nat) (C2 : List (List Int)) (rv2 : List Value) (W2 : List (List Nat)) (fv2 : Value) (K2 L2 : List Int), k + gn = x.n + 2 ∧ nv = .int .i64 k ∧ SM kc J (x.turned C2 rv2 W2) B (bk + 2) bk bg (bk + 1) fv2 K2 L2 wi ∧ Turn (SO x bg (bk + 1) (.slice none 0 0)) (SO (x.turned C2 rv2 W2) bg (bk + 1) fv2) W0 wi ∧ C2.length = x.C.length ∧ SetI x.n F G A K K2 L2 k C2 W2 ∧ ∀ a ∈ lits, kn K2 a = a)
      case atStart => exact ⟨0, x.C, x.rv, x.W, fv1, K1, L1, by omega, rfl, SM1.out, TU1.out, rfl, SI1.out, HIN2.out⟩
      case round =>
        obtain ⟨k, C2, rv2, W2, fv2, K2, L2, hkg, rfl, hsm, htu, hcl, hsi, hin⟩ := hrel
        have SM2 := hid hsm
        have TU2 := hid htu
        have HCL := hid hcl
        have SI2 := hid hsi
        have HIN3 := hid hin
        clear hsm htu hcl hsi hin SM1 TU1 SI1 HIN HIN2
        have hkl := SI2.out.kl
        have hle := SI2.out.sk.le
        obtain ⟨hfc, -, hfl⟩ := SM2.out.st.fd.facts
        obtain ⟨hkc, -, hkl2⟩ := SM2.out.st.kv.facts
        have hkc : wr.cell? ⟨bk, 0, none⟩ = some (.slice (some ⟨bg, 0, none⟩) (x.n + 1) kc) := hkc
        obtain ⟨fp, fcap, hfv⟩ := SM2.out.st.own.ints.len
        subst hfv
        by_cases hkL : k < L2.length
        · have hkL' : (k : Int) < (L2.length : Int) := by omega
          obtain ⟨g, gcap, hgv, hgl0, hgcell⟩ := SM2.out.st.own.ints.resolve_left (fun h => by have := h.1; subst this; simp at hkL)
          cases hgv
          have hx0 := hgcell k _ (List.getElem?_eq_getElem hkL)
          have hask := SI2.out.ask (List.getElem?_eq_getElem hkL)
          generalize L2[k] = z at hx0 hask
          have hz1 : -1000 ≤ z := by have := hask.1.2; omega
          have hz2 : z ≤ 1000 := by have := hask.1.2; omega
          have hzw : IntKind.i64.wrap (-z) = -z := by rw [IntKind.wrap_i64]; omega
          have hNL := wst_len SI2.out.ws hask.1
          have HCA := hid (show Calls Try.prog 74 #[.pointer (some ⟨x.bx, 0, none⟩), .int .i64 (-z), .slice (some ⟨bg, 0, none⟩) (x.n + 1) kc, .func (.func 73) #[] #[.pointer (some ⟨bk, 0, none⟩), .pointer (some ⟨bk + 1, 0, none⟩)]] wr.drew _ from ask_any kc J (x.turned C2 rv2 W2) B (bk + 2) bk bg (bk + 1) _ F G A K K2 L2 (k + 1) (-z) wr.drew (SM2.out.keep (Keep.drew (Keep.refl _))) hn (by show C2.length ≤ _; rw [HCL.out]; exact hC) HG.out hask.2 hNL)
          have HLT := hid (fun a (h : a ∈ lits) => (HLI.out a h).1.1)
          clear hgcell hask hNL
          go_upto_region 12 with fail
          refine wp_region_held_drew (S := fun W' => W'.cell? ⟨bk, 0, none⟩ = some (.slice (some ⟨bg, 0, none⟩) (x.n + 1) kc)) (by kernel_rfl) hkc (fun hHeld => ?_)
          refine wpAnyH_take (i := 0) (v := ?_) rfl (by kernel_rfl) (by kernel_rfl) (by kernel_rfl) (fun _ _ _ h => h) (Or.inl ⟨by rfl, ?_⟩) (by assumption) ?_
          rotate_left
          · intro w hSw
            (try dsimp only at hSw)
            go_simp
            try with_reducible rfl
          simp only [Act.put, List.setIfInBounds_toArray, List.set_cons_zero, List.set_cons_succ, List.getElem_toArray, List.getElem_cons_zero]
          refine wpAnyH_take (i := 2) (v := ?_) rfl (by kernel_rfl) (by kernel_rfl) (by kernel_rfl) (fun _ _ _ h => h) (Or.inl ⟨by rfl, ?_⟩) (by assumption) ?_
          rotate_left
          · intro w hSw
            (try dsimp only at hSw)
            go_simp
            try with_reducible rfl
          simp only [Act.put, List.setIfInBounds_toArray, List.set_cons_zero, List.set_cons_succ, List.getElem_toArray, List.getElem_cons_zero, List.getElem_cons_succ]
          refine wpAnyH_take (i := 6) (v := ?_) rfl (by kernel_rfl) (by kernel_rfl) (by kernel_rfl) (fun _ _ _ h => h) (Or.inl ⟨by rfl, ?_⟩) (by assumption) ?_
          rotate_left
          · intro w hSw
            (try dsimp only at hSw)
            go_simp
            try with_reducible rfl
          simp only [Act.put, List.setIfInBounds_toArray, List.set_cons_zero, List.set_cons_succ, List.getElem_toArray, List.getElem_cons_zero, List.getElem_cons_succ]
          refine wpAnyH_take (i := 7) (v := ?_) rfl (by kernel_rfl) (by kernel_rfl) (by kernel_rfl) (fun _ _ _ h => h) (Or.inl ⟨by rfl, ?_⟩) (by assumption) ?_
          rotate_left
          · intro w hSw
            (try dsimp only at hSw)
            go_simp
            try with_reducible rfl
          simp only [Act.put, List.setIfInBounds_toArray, List.set_cons_zero, List.set_cons_succ, List.getElem_toArray, List.getElem_cons_zero, List.getElem_cons_succ]
          refine wpAnyH_ready (rs := [1]) (by kernel_rfl) (by simp) ?_
          refine AllReadyH.cons rfl (fun KK hK => ?_) AllReadyH.nil
          go_simp
          refine hK.out _ _ hkc (fun hH1 => ?_)
          clear hK KK
          refine wpAnyH_take (i := 3) (v := ?_) rfl (by kernel_rfl) (by kernel_rfl) (by kernel_rfl) (fun _ _ _ h => h) (Or.inl ⟨by rfl, ?_⟩) (by assumption) ?_
          rotate_left
          · intro w hSw
            (try dsimp only at hSw)
            go_simp
            try with_reducible rfl
          simp only [Act.put, List.setIfInBounds_toArray, List.set_cons_zero, List.set_cons_succ, List.getElem_toArray, List.getElem_cons_zero, List.getElem_cons_succ]
          refine wpAnyH_ready (rs := [4]) (by kernel_rfl) (by simp) ?_
          refine AllReadyH.cons rfl (fun KK hK => ?_) AllReadyH.nil
          go_simp
          refine hK.out _ _ hkc (fun hH2 => ?_)
          clear hK KK
          refine wpAnyH_take (i := 5) (v := ?_) rfl (by kernel_rfl) (by kernel_rfl) (by kernel_rfl) (fun _ _ _ h => h) (Or.inl ⟨by rfl, ?_⟩) (by assumption) ?_
          rotate_left
          · intro w hSw
            (try dsimp only at hSw)
            go_simp
            try with_reducible rfl
          simp only [Act.put, List.setIfInBounds_toArray, List.set_cons_zero, List.set_cons_succ, List.getElem_toArray, List.getElem_cons_zero, List.getElem_cons_succ]
          refine wpAnyH_ready (rs := [8]) (by kernel_rfl) (by simp) ?_
          refine AllReadyH.cons rfl (fun KK hK => ?_) AllReadyH.nil
          go_simp
          refine HCA.out.mono ?_
          rintro e w3 ⟨ok, C3, rv3, W3, fv3, K3, L3, rfl, hsm3, htu3, hcl3, hex3, hd⟩
          have SM3 := hid (show SM kc J (x.turned C3 rv3 W3) B (bk + 2) bk bg (bk + 1) fv3 K3 L3 w3 from hsm3)
          have TU3 := hid (show Turn (SO x bg (bk + 1) (.slice none 0 0)) (SO (x.turned C3 rv3 W3) bg (bk + 1) fv3) W0 w3 from (TU2.out.trans (Turn.keep (Keep.drew (Keep.refl _)))).trans htu3)
          have HCL3 := hid (show C3.length = x.C.length from hcl3.trans HCL.out)
          have HIN4 := hid (show ∀ a ∈ lits, kn K3 a = a from fun a ha => hex3.pos (HLT.out a ha) (HIN3.out a ha))
          have HD := hid hd
          have hkc3 : w3.cell? ⟨bk, 0, none⟩ = some (.slice (some ⟨bg, 0, none⟩) (x.n + 1) kc) := SM3.out.st.kv.facts.1
          clear hsm3 htu3 hcl3 hex3 hd
          refine hK.out _ _ hkc3 (fun hH3 => ?_)
          clear hK KK
          rcases HD.out with ⟨rfl, hsi⟩ | ⟨rfl, hsn⟩
          · have SI3 := hid (show SetI x.n F G A K K3 L3 (k + 1) C3 W3 from hsi)
            clear hsi HD
            refine wpAnyH_take (i := 9) (v := ?_) rfl (by kernel_rfl) (by kernel_rfl) (by kernel_rfl) (fun _ _ _ h => h) (Or.inl ⟨by rfl, ?_⟩) (by assumption) ?_
            rotate_left
            · intro w hSw
              (try dsimp only at hSw)
              go_simp
              try with_reducible rfl
            simp only [Act.put, List.setIfInBounds_toArray, List.set_cons_zero, List.set_cons_succ, List.getElem_toArray, List.getElem_cons_zero, List.getElem_cons_succ]
            refine wpAnyH_done (by kernel_rfl) ?_ _
            clear hHeld hH1 hH2 hH3 hkc3 hkc hx0 hfc
            go_wp2_with fail
            go_roundg (x.n + 2 - (k + 1))
            case rel => exact ⟨k + 1, C3, rv3, W3, fv3, K3, L3, by omega, by go_num, SM3.out, TU3.out, HCL3.out, SI3.out, HIN4.out⟩
            case measure => omega
          · have SN3 := hid (show SetN x.n F G A K K3 L3 C3 W3 from hsn)
            clear hsn HD
            refine wpAnyH_take (i := 9) (v := ?_) rfl (by kernel_rfl) (by kernel_rfl) (by kernel_rfl) (fun _ _ _ h => h) (Or.inl ⟨by rfl, ?_⟩) (by assumption) ?_
            rotate_left
            · intro w hSw
              (try dsimp only at hSw)
              go_simp
              try with_reducible rfl
            simp only [Act.put, List.setIfInBounds_toArray, List.set_cons_zero, List.set_cons_succ, List.getElem_toArray, List.getElem_cons_zero, List.getElem_cons_succ]
            refine wpAnyH_done (by kernel_rfl) ?_ _
            clear hHeld hH1 hH2 hH3 hkc3 hkc hx0 hfc
            go_wp2_with fail
            go_ret
            obtain ⟨e1, e2⟩ := settled K0.out SM3.out TU3.out (by have := HBK.out; omega) rfl
            exact ⟨false, C3, rv3, W3, K3, L3, rfl, SM3.out.xm, SM3.out.st.kb, e1, e2, HCL3.out, .inr ⟨rfl, SN3.out⟩⟩
        · obtain rfl : k = L2.length := by omega
          go_wp2_with fail
          go_ret
          obtain ⟨e1, e2⟩ := settled K0.out SM2.out TU2.out (by have := HBK.out; omega) rfl
          exact ⟨true, C2, rv2, W2, K2, L2, rfl, SM2.out.xm, SM2.out.st.kb, e1, e2, HCL.out, .inl ⟨rfl, SI2.out, HIN3.out⟩⟩
end Go.Proofs.Ytbblgmkjgcjcaab
