/- follow's ask, walked: what it leaves is what the plain invariants say. -/
import Derived.Test.YtbblgmkjgcjcaabFolAsk
namespace Go.Proofs.Ytbblgmkjgcjcaab
open Go.RowKit Go.Lib

theorem SO_turned {x : XD} {bg bf : Nat} {fv : Value} {w : World} : Turn (SO x bg bf fv) (SO x bg bf fv) w w := Turn.refl _ _
/-- What ask leaves. -/
def AskLeft (kc : Nat) (J : List Value) (x : XD) (B B1 bk bg bf : Nat) (fv : Value) (F G : List (List Int)) (A K0 K : List Int) (k : Nat) (w : World) (e : Ending) (w' : World) : Prop :=
  ∃ (ok : Bool) (C' : List (List Int)) (rv' : List Value) (W' : List (List Nat)) (fv' : Value) (K' L' : List Int), e = .returned (.bool ok) ∧ SM kc J (x.turned C' rv' W') B B1 bk bg bf fv' K' L' w' ∧ Turn (SO x bg bf fv) (SO (x.turned C' rv' W') bg bf fv') w w' ∧ C'.length = x.C.length ∧ Ext K K' ∧
    ((ok = true ∧ SetI x.n F G A K0 K' L' k C' W') ∨ (ok = false ∧ SetN x.n F G A K0 K' L' C' W'))
theorem row_get {kept orig : List Nat} {m i : Nat} (hm : kept.length = m) (hmi : m ≤ i) {p : Nat} (hp : orig[i]? = some p) : (kept ++ orig.drop m)[i]? = some p := by
  rw [List.getElem?_append_right (by omega), List.getElem?_drop, hm, show m + (i - m) = i by omega]; exact hp
theorem row_set {kept orig : List Nat} {m : Nat} (hm : kept.length = m) (hml : m < orig.length) (p : Nat) : (kept ++ orig.drop m).set m p = (kept ++ [p]) ++ orig.drop (m + 1) := by
  rw [List.set_append_right _ _ (by omega), hm, Nat.sub_self, List.drop_eq_getElem_cons hml, List.set_cons_zero]
  simp
theorem pushW_other {n : Nat} {W : List (List Nat)} {z lit : Int} {p : Nat} (hW : W.length = 2 * n + 1) (hz : Lit n z) (hl : Lit n lit) (hne : z ≠ lit) : (pushW n W z p).getD ((n : Int) + lit).toNat [] = W.getD ((n : Int) + lit).toNat [] := by
  unfold pushW
  rw [getDN_set _ _ _ _ (by have := hz.2; omega), if_neg (by have := hz.2; have := hl.2; omega)]

set_option maxHeartbeats 16000000 in
set_option maxRecDepth 100000 in
theorem ask_any (kc : Nat) (J : List Value) (x : XD) (B B1 bk bg bf : Nat) (fv : Value) (F G : List (List Int)) (A K0 K L : List Int) (k : Nat) (lit : Int) (w : World) (h : SM kc J x B B1 bk bg bf fv K L w) (hn : x.n ≤ 1000) (hC : x.C.length ≤ 1000000) (hG : ∀ c ∈ G, LitsC x.n c)
    (hI : AskI x.n F G A K0 K L k lit [] (x.W.getD ((x.n : Int) + lit).toNat []) x.C x.W) (hN : (x.W.getD ((x.n : Int) + lit).toNat []).length ≤ x.C.length) :
    Calls Try.prog 74 #[.pointer (some ⟨x.bx, 0, none⟩), .int .i64 lit, .slice (some ⟨bg, 0, none⟩) (x.n + 1) kc, .func (.func 73) #[] #[.pointer (some ⟨bk, 0, none⟩), .pointer (some ⟨bf, 0, none⟩)]] w fun e w' => AskLeft kc J x B B1 bk bg bf fv F G A K0 K k w e w' := by
  obtain ⟨i0, hi, hz0, hz1, hz2⟩ := info_parts infoInt
  have HSM := hid h
  have HI := hid hI
  have HG := hid hG
  have hl := hI.hl
  have HL := hid hl
  obtain ⟨q, hq⟩ : ∃ q : Nat, (x.n : Int) + lit = q := ⟨((x.n : Int) + lit).toNat, by have := hl.2; omega⟩
  have hq2 : q < 2 * x.n + 1 := by have := hl.2; omega
  have HQN := hid (show ((x.n : Int) + lit).toNat = q by rw [hq, Int.toNat_natCast])
  have hq0 : (0 : Int) ≤ q := by omega
  have hq3 : (q : Int) < 2 * x.n + 1 := by omega
  have hqw : IntKind.i64.wrap (q : Int) = q := by rw [IntKind.wrap_i64]; omega
  have hl1 : -1000 ≤ lit := by have := hl.2; omega
  have hl2 : lit ≤ 1000 := by have := hl.2; omega
  obtain ⟨v, hrv, hac, -, -, hx2⟩ := h.xm.row hq2
  rw [HQN.out] at hN
  generalize horig : x.W.getD q [] = orig at hx2 hN
  have HORIG := hid horig
  obtain ⟨vp, vc, hvs⟩ : ∃ vp vc, v = .slice vp orig.length vc := by
    obtain ⟨-, ⟨e, e0⟩ | ⟨g, cap, cur, e, -⟩⟩ := hx2
    · exact ⟨none, 0, by rw [e, e0]⟩
    · exact ⟨_, cap, e⟩
  subst hvs
  have HVP := hid (show vp = none → orig.length = 0 ∧ vc = 0 from fun e => by
    subst e
    obtain ⟨-, ⟨e, e0⟩ | ⟨g, cap, cur, e, -⟩⟩ := hx2
    · injection e with _ _ e3; exact ⟨e0, e3⟩
    · injection e with e1; cases e1)
  have hcapN : orig.length ≤ vc ∧ vc ≤ 9223372036854775807 := by
    obtain ⟨-, ⟨e, e0⟩ | ⟨g, cap, cur, e, -, -, h1, h2, -⟩⟩ := hx2
    · injection e with _ _ e3; omega
    · injection e with _ _ e3; unfold maxLen at h2; omega
  have hNb : orig.length ≤ 1000000 := Nat.le_trans hN hC
  have HRV := hid hrv
  obtain ⟨hbc, hbf, hbl⟩ := h.xm.box.facts
  obtain ⟨-, hwf, hwl⟩ := h.xm.wb.facts
  have hb0 : w.cell? ⟨x.bx, 0, none⟩ = some (.int .i64 x.n) := hbc 0
  have hb4 : w.cell? ⟨x.bx, 4, none⟩ = some (.slice (some ⟨x.bw, 0, none⟩) (2 * x.n + 1) (2 * x.n + 1)) := hbc 4
  have hent := enter_take
  have HI0 := hid (show AskI x.n F G A K0 K L k lit [] orig x.C x.W by have := HI.out; rw [HQN.out, HORIG.out] at this; exact this)
  clear h hI hG hx2 hrv hbc horig
  go_enter Try.func74, Try.ntmps74
  go_upto_region 1 with fail
  go_quiet (fail)
  have k0 : Keep w (w.drewN nq) := Keep.drewN (Keep.refl _) _
  have SM0 := hid (HSM.out.keep k0)
  have TU0 := hid (show Turn (SO x bg bf fv) (SO x bg bf fv) w (w.drewN nq) from Turn.keep k0)
  generalize w.drewN nq = W0 at k0 SM0 TU0
  clear k0 hb0 hb4 hac hbl hwl hwf hbf
  go_wp2_with fail
  go_loopg [10, 11, 30] orig.length (fun gn kv okv iv wr => ∃ (i m : Nat) (ok : Bool) (C1 : List (List Int)) (rv1 : List Value) (W1 : List (List Nat)) (fv1 : Value) (K1 L1 : List Int) (kept : List Nat),
    i + gn = orig.length ∧ iv = .int .i64 i ∧ kept.length = m ∧ m ≤ i ∧ kv = .slice vp m vc ∧ okv = .bool ok ∧ SM kc J (x.turned C1 rv1 W1) B B1 bk bg bf fv1 K1 L1 wr ∧ Turn (SO x bg bf fv) (SO (x.turned C1 rv1 W1) bg bf fv1) w wr ∧ C1.length = x.C.length ∧ Ext K K1 ∧
    rv1[q]? = some (.slice vp orig.length vc) ∧ W1.getD q [] = kept ++ orig.drop m ∧
    ((ok = true ∧ AskI x.n F G A K0 K1 L1 k lit kept (orig.drop i) C1 W1) ∨ (ok = false ∧ AskN x.n F G A K0 K1 L1 lit (kept ++ orig.drop i) C1 W1)))
  case atStart => exact ⟨0, 0, true, x.C, x.rv, x.W, fv, K, L, [], by omega, rfl, rfl, Nat.le_refl _, rfl, rfl, SM0.out, TU0.out, rfl, Ext.refl _, HRV.out, HORIG.out, .inl ⟨rfl, HI0.out⟩⟩
  case round =>
    obtain ⟨i, m, ok, C1, rv1, W1, fv1, K1, L1, kept, hig, rfl, hkm, hmi, rfl, rfl, hsm, htu, hcl, hext, hrv1, hrow, hst⟩ := hrel
    have HEXT := hid hext
    have SM1 := hid hsm
    have TU1 := hid htu
    have HCL := hid hcl
    have HRV1 := hid hrv1
    have HROW := hid hrow
    have HST := hid hst
    have HKM := hid hkm
    clear hsm htu hcl hrv1 hrow hst hkm hext SM0 TU0
    by_cases hlt : i < orig.length
    · obtain ⟨g, hvp⟩ : ∃ g, vp = some ⟨g, 0, none⟩ := by
        obtain ⟨v1, h1, -, -, -, h5⟩ := SM1.out.xm.row hq2
        have h1' : rv1[q]? = some v1 := h1
        rw [HRV1.out] at h1'
        cases h1'
        obtain ⟨-, ⟨e, e0⟩ | ⟨g, cap, cur, e, -⟩⟩ := h5
        · injection e with _ e2; omega
        · injection e with e1; exact ⟨g, e1⟩
      subst hvp
      have hlen1 : (kept ++ orig.drop m).length = orig.length := by rw [List.length_append, List.length_drop, HKM.out]; omega
      have HR1 := hid (show rv1[q]? = some (.slice (some ⟨g, 0, none⟩) ((x.turned C1 rv1 W1).W.getD q []).length vc) by
        have : ((x.turned C1 rv1 W1).W.getD q []).length = orig.length := by show (W1.getD q []).length = _; rw [HROW.out]; exact hlen1
        rw [this]; exact HRV1.out)
      obtain ⟨p, hp⟩ : ∃ p, orig[i]? = some p := ⟨_, List.getElem?_eq_getElem hlt⟩
      have HOWN := hid (show wr.ownsRow B 3 1 (.slice (some ⟨g, 0, none⟩) orig.length vc) orig.length (ivN (kept ++ orig.drop m)) by
        obtain ⟨v1, h1, -, -, -, h5⟩ := SM1.out.xm.row hq2
        have h1' : rv1[q]? = some v1 := h1
        rw [HRV1.out] at h1'
        cases h1'
        have h6 : (x.turned C1 rv1 W1).W.getD q [] = kept ++ orig.drop m := HROW.out
        rw [h6, hlen1] at h5
        exact h5)
      obtain ⟨g', cap', e1, hgB, hgl, -, -, hcell, hfro, hsome⟩ := own_cells HOWN.out (by omega)
      cases e1
      have hci : wr.cell? ⟨g, i, none⟩ = some (.int .i64 (p : Int)) := hcell i _ (by
        have := row_get HKM.out hmi hp
        simp only [ivN, List.getElem?_map, this, Option.map_some])
      have hiI : (i : Int) < (orig.length : Int) := by omega
      have HDR := hid (show orig.drop i = p :: orig.drop (i + 1) by
        rw [List.drop_eq_getElem_cons hlt]
        have := List.getElem?_eq_getElem hlt
        rw [hp] at this
        rw [Option.some.inj this])
      have HP := hid hp
      have hml : m < orig.length := by omega
      clear hcell hp
      rcases HST.out with ⟨rfl, hask⟩ | ⟨rfl, hask⟩
      · rw [HDR.out] at hask
        have HASK := hid hask
        obtain ⟨c, hc, h2, hw⟩ := hask.at
        have HC1 := hid hc
        have hrows : ∀ z, Lit (x.turned C1 rv1 W1).n z → ((x.turned C1 rv1 W1).W.getD (((x.turned C1 rv1 W1).n : Int) + z).toNat []).length ≤ 1000000 := fun z hz => by
          show (W1.getD ((x.n : Int) + z).toNat []).length ≤ 1000000
          have hz' : Lit x.n z := hz
          by_cases e : z = lit
          · rw [e, HQN.out, HROW.out, hlen1]; exact hNb
          · have := wst_len HASK.out.ws hz'
            rw [wst_other HASK.out.hl hz' HASK.out.wl e, HCL.out] at this
            omega
        have HMV := hid (move_any kc J (x.turned C1 rv1 W1) B p bg K1 lit c wr SM1.out.xm hn hc h2 hw HASK.out.sk.tb SM1.out.st.kb (fun e => (SM1.out.sep _ e).2.1 rfl) hrows)
        clear hask hc h2 hw hrows
        go_wp2_with fail
        refine HMV.out.mono ?_
        clear HMV
        rintro e w2 ⟨r, c', rfl, hmv, hd⟩
        rcases hd with ⟨rfl, hx, ht⟩ | ⟨rfl, v2, hx, ht⟩
        · have hST := HASK.out.stay HG.out HC1.out hmv
          obtain ⟨hsm, hto⟩ := SM1.out.table (x' := { x.turned C1 rv1 W1 with C := C1.set p c' }) rfl hx ht
          have SM2 := hid (show SM kc J (x.turned (C1.set p c') rv1 W1) B B1 bk bg bf fv1 K1 L1 w2 from hsm)
          have TU2 := hid (show Turn (SO x bg bf fv) (SO (x.turned (C1.set p c') rv1 W1) bg bf fv1) w w2 from TU1.out.trans hto)
          have HSTAY := hid hST
          clear hx ht hsm hto hmv hci hST SM1 TU1 HOWN
          have HR2 := hid (show (x.turned (C1.set p c') rv1 W1).rv[q]? = some (.slice (some ⟨g, 0, none⟩) ((x.turned (C1.set p c') rv1 W1).W.getD q []).length vc) from HR1.out)
          have hOW2 : w2.ownsRow B 3 1 (.slice (some ⟨g, 0, none⟩) orig.length vc) orig.length (ivN (kept ++ orig.drop m)) := by
            obtain ⟨v1, h1, -, -, -, h5⟩ := SM2.out.xm.row hq2
            have h1' : rv1[q]? = some v1 := h1
            rw [HRV1.out] at h1'
            cases h1'
            have h6 : (x.turned (C1.set p c') rv1 W1).W.getD q [] = kept ++ orig.drop m := HROW.out
            rw [h6, hlen1] at h5
            exact h5
          obtain ⟨g', cap', e1, -, hgl2, -, -, -, hfro2, hsome2⟩ := own_cells hOW2 (by omega)
          cases e1
          have hroom : m + 1 ≤ vc := by omega
          have hsA : ∀ o : Obj, ((w2.alloc o).cell? ⟨g, m, none⟩).isSome = true ∧ (w2.alloc o).frozen? ⟨g, m, none⟩ = false := fun o => ⟨by rw [(Keep.alloc w2 o).cell (p := ⟨g, m, none⟩) hgl2]; exact hsome2 m (by omega), ((Keep.alloc w2 o).cells.2 g m hgl2).trans (hfro2 m)⟩
          clear hOW2 hfro2 hsome2 hfro hsome
          go_upto_region 8 with (at_builtin; refine wpList_append_fits rfl _ _ 26 rfl 3 i0 Try.underlying26 hi hz1 g m vc rfl ⟨w2.heap.size, 0, none⟩ 1 (.int .i64 (p : Int)) rfl one_newsC rfl hroom (hsA _).1 (hsA _).2 ?_)
          obtain ⟨hX3, hT3⟩ := SM2.out.xm.setR (i := q) (g := g) (cap := vc) (j := m) (p := p) hq2 HR2.out
          obtain ⟨hsm, hto⟩ := SM2.out.table (x' := x.turned (C1.set p c') rv1 (W1.set q ((W1.getD q []).set m p))) rfl hX3 hT3
          have HRW := hid (show (W1.getD q []).set m p = (kept ++ [p]) ++ orig.drop (m + 1) by rw [HROW.out]; exact row_set HKM.out hml p)
          have HQ := hid (show SM kc J (x.turned (C1.set p c') rv1 (W1.set q ((kept ++ [p]) ++ orig.drop (m + 1)))) B B1 bk bg bf fv1 K1 L1 ((w2.setCell ⟨g, m, none⟩ (.int .i64 (p : Int))).alloc (.cells #[.int .i64 (p : Int)] 3)) ∧ Turn (SO x bg bf fv) (SO (x.turned (C1.set p c') rv1 (W1.set q ((kept ++ [p]) ++ orig.drop (m + 1)))) bg bf fv1) w ((w2.setCell ⟨g, m, none⟩ (.int .i64 (p : Int))).alloc (.cells #[.int .i64 (p : Int)] 3)) from by
            rw [← HRW.out]
            exact ⟨hsm.keep (Keep.alloc _ _), (TU2.out.trans hto).trans (Turn.keep (Keep.alloc _ _))⟩)
          clear hX3 hT3 hsm hto hsA SM2 TU2 HR2
          refine at_wp (fun W' => SM kc J (x.turned (C1.set p c') rv1 (W1.set q ((kept ++ [p]) ++ orig.drop (m + 1)))) B B1 bk bg bf fv1 K1 L1 W' ∧ Turn (SO x bg bf fv) (SO (x.turned (C1.set p c') rv1 (W1.set q ((kept ++ [p]) ++ orig.drop (m + 1)))) bg bf fv1) w W') ?_ ?_
          · exact HQ.out
          rintro w3 ⟨hsm, htu⟩
          have SM3 := hid hsm
          have TU3 := hid htu
          clear hsm htu HQ
          have hpC : p < C1.length := (List.getElem?_eq_some_iff.1 HC1.out).1
          obtain ⟨v4, hv4, -, -, ho4⟩ := SM3.out.xm.cls (p := p) (c := c') (List.getElem?_set_self hpC)
          obtain ⟨ga, capa, hav, hgal, hac⟩ := SM3.out.xm.arr_cell hv4
          have h2l := HSTAY.out.2.1.len
          obtain ⟨gc, capc, hve, -, hgcl, -, -, hcell, -, -⟩ := own_cells ho4 (by omega)
          subst hve
          have hc0 : w3.cell? ⟨gc, 0, none⟩ = some (.int .i64 (w0 c')) := hcell 0 _ (by
            unfold w0
            rw [List.getD_eq_getElem?_getD, List.getElem?_eq_getElem (show 0 < c'.length by omega)]
            simp [ivI])
          obtain ⟨hbc, -, hbl⟩ := SM3.out.xm.box.facts
          have hb3 : w3.cell? ⟨x.bx, 3, none⟩ = some (.slice (some ⟨ga, 0, none⟩) (C1.set p c').length capa) := (hbc 3).trans (congrArg some hav)
          have hpl : (p : Int) < ((C1.set p c').length : Int) := by rw [List.length_set]; omega
          have hcl4 : (C1.set p c').length ≤ 1000000 := by rw [List.length_set, HCL.out]; exact hC
          have hcl5 : (0 : Int) < (c'.length : Int) := by omega
          have HTK := hid (take_any kc J B1 bk bg bf x.n fv1 K1 L1 (w0 c') w3 SM3.out.st hn HSTAY.out.1 (by have := HASK.out.sk.le; omega))
          generalize ho : w0 c' = o at hc0 HTK
          have HO := hid ho
          generalize (C1.set p c').length = nc at hb3 hpl hcl4
          clear hcell hbc ho hav
          go_wp2_with fail
          refine HTK.out.mono ?_
          clear HTK
          rintro e w4 ⟨fv4, rfl, hs4, ht4⟩
          obtain ⟨hsm, hto⟩ := SM3.out.taken hs4 ht4
          have SM4 := hid hsm
          have TU4 := hid (TU3.out.trans hto)
          clear hsm hto hs4 ht4 hac hc0 hb3
          have HRV4 := hid HRV1.out
          have HROW4 := hid (show (W1.set q ((kept ++ [p]) ++ orig.drop (m + 1))).getD q [] = (kept ++ [p]) ++ orig.drop (m + 1) by rw [getDN_set _ _ _ _ (by rw [HASK.out.wl]; exact hq2), if_pos rfl])
          have hsetset : ∀ r : List Nat, (W1.set q ((kept ++ [p]) ++ orig.drop (m + 1))).set ((x.n : Int) + lit).toNat r = W1.set ((x.n : Int) + lit).toNat r := fun r => by rw [HQN.out, List.set_set]
          have hres : (∃ b : Bool, (kn (tkK K1 o) o == o) = b ∧ ((b = true ∧ AskI x.n F G A K0 (tkK K1 o) (tkL K1 L1 o) k lit (kept ++ [p]) (orig.drop (i + 1)) (C1.set p c') (W1.set q ((kept ++ [p]) ++ orig.drop (m + 1)))) ∨ (b = false ∧ AskN x.n F G A K0 (tkK K1 o) (tkL K1 L1 o) lit ((kept ++ [p]) ++ orig.drop (i + 1)) (C1.set p c') (W1.set q ((kept ++ [p]) ++ orig.drop (m + 1)))))) := by
            refine ⟨_, rfl, ?_⟩
            obtain ⟨-, -, s1, s2⟩ := HSTAY.out
            rw [HO.out] at s1 s2
            by_cases e : kn (tkK K1 o) o = o
            · have s := s1 e
              exact .inl ⟨beq_iff_eq.2 e, ⟨s.sk, s.kl, s.hl, s.no, by rw [List.length_set]; exact s.wl, by rw [hsetset]; exact s.ws, s.base, s.rep, s.watch⟩⟩
            · have s := s2 e
              exact .inr ⟨beq_eq_false_iff_ne.2 e, ⟨s.fails, s.sk, s.hl, by rw [List.length_set]; exact s.wl, by rw [hsetset]; exact s.ws, s.base, s.rep⟩⟩
          obtain ⟨bo, hbo, hres⟩ := hres
          rw [hbo]
          have HRES := hid hres
          clear hres hbo hsetset
          go_wp2_with fail
          go_roundg (orig.length - (i + 1))
          case rel => exact ⟨i + 1, m + 1, bo, _, _, _, fv4, _, _, kept ++ [p], by omega, by go_num, by rw [List.length_append, HKM.out]; rfl, by omega, rfl, by cases bo <;> rfl, SM4.out, TU4.out, by rw [List.length_set]; exact HCL.out, HEXT.out.trans (HO.out ▸ tkK_ext HASK.out.sk.tb HSTAY.out.1), HRV4.out, HROW4.out, HRES.out⟩
          case measure => omega
        · have HMV := hid (HASK.out.move HC1.out hmv)
          obtain ⟨hsm, hto⟩ := SM1.out.table (x' := { x.turned C1 rv1 W1 with C := C1.set p c', rv := rv1.set ((x.n : Int) + w1 c').toNat v2, W := pushW x.n W1 (w1 c') p }) rfl hx ht
          have SM2 := hid (show SM kc J (x.turned (C1.set p c') (rv1.set ((x.n : Int) + w1 c').toNat v2) (pushW x.n W1 (w1 c') p)) B B1 bk bg bf fv1 K1 L1 w2 from hsm)
          have TU2 := hid (show Turn (SO x bg bf fv) (SO (x.turned (C1.set p c') (rv1.set ((x.n : Int) + w1 c').toNat v2) (pushW x.n W1 (w1 c') p)) bg bf fv1) w w2 from TU1.out.trans hto)
          have HRV2 := hid (show (rv1.set ((x.n : Int) + w1 c').toNat v2)[q]? = some (.slice (some ⟨g, 0, none⟩) orig.length vc) by
            have := HMV.out.2.1.2
            have h3 := HMV.out.2.2
            rw [List.getElem?_set_ne (by omega)]; exact HRV1.out)
          have HROW2 := hid (show (pushW x.n W1 (w1 c') p).getD q [] = kept ++ orig.drop m by
            have := pushW_other (p := p) HASK.out.wl HMV.out.2.1 HASK.out.hl HMV.out.2.2
            rw [HQN.out] at this
            rw [this]; exact HROW.out)
          clear hx ht hsm hto hmv hci
          go_wp2_with fail
          go_roundg (orig.length - (i + 1))
          case rel => exact ⟨i + 1, m, true, _, _, _, fv1, K1, L1, kept, by omega, by go_num, HKM.out, by omega, rfl, rfl, SM2.out, TU2.out, by simp [HCL.out], HEXT.out, HRV2.out, HROW2.out, .inl ⟨rfl, HMV.out.1⟩⟩
          case measure => omega
      · rw [HDR.out] at hask
        have HASK := hid hask
        have hroom : m + 1 ≤ vc := by omega
        have hsA : ∀ o : Obj, ((wr.alloc o).cell? ⟨g, m, none⟩).isSome = true ∧ (wr.alloc o).frozen? ⟨g, m, none⟩ = false := fun o => ⟨by rw [(Keep.alloc wr o).cell (p := ⟨g, m, none⟩) hgl]; exact hsome m (by omega), ((Keep.alloc wr o).cells.2 g m hgl).trans (hfro m)⟩
        clear hask hfro hsome HST
        go_upto_region 8 with (at_builtin; refine wpList_append_fits rfl _ _ 26 rfl 3 i0 Try.underlying26 hi hz1 g m vc rfl ⟨wr.heap.size, 0, none⟩ 1 (.int .i64 (p : Int)) rfl one_newsC rfl hroom (hsA _).1 (hsA _).2 ?_)
        obtain ⟨hX3, hT3⟩ := SM1.out.xm.setR (i := q) (g := g) (cap := vc) (j := m) (p := p) hq2 HR1.out
        obtain ⟨hsm, hto⟩ := SM1.out.table (x' := x.turned C1 rv1 (W1.set q ((W1.getD q []).set m p))) rfl hX3 hT3
        have HRW := hid (show (W1.getD q []).set m p = (kept ++ [p]) ++ orig.drop (m + 1) by rw [HROW.out]; exact row_set HKM.out hml p)
        have HQ := hid (show SM kc J (x.turned C1 rv1 (W1.set q ((kept ++ [p]) ++ orig.drop (m + 1)))) B B1 bk bg bf fv1 K1 L1 ((wr.setCell ⟨g, m, none⟩ (.int .i64 (p : Int))).alloc (.cells #[.int .i64 (p : Int)] 3)) ∧ Turn (SO x bg bf fv) (SO (x.turned C1 rv1 (W1.set q ((kept ++ [p]) ++ orig.drop (m + 1)))) bg bf fv1) w ((wr.setCell ⟨g, m, none⟩ (.int .i64 (p : Int))).alloc (.cells #[.int .i64 (p : Int)] 3)) from by
          rw [← HRW.out]
          exact ⟨hsm.keep (Keep.alloc _ _), (TU1.out.trans hto).trans (Turn.keep (Keep.alloc _ _))⟩)
        clear hX3 hT3 hsm hto hsA SM1 TU1 HR1 HOWN hci
        refine at_wp (fun W' => SM kc J (x.turned C1 rv1 (W1.set q ((kept ++ [p]) ++ orig.drop (m + 1)))) B B1 bk bg bf fv1 K1 L1 W' ∧ Turn (SO x bg bf fv) (SO (x.turned C1 rv1 (W1.set q ((kept ++ [p]) ++ orig.drop (m + 1)))) bg bf fv1) w W') ?_ ?_
        · exact HQ.out
        rintro w3 ⟨hsm, htu⟩
        have SM3 := hid hsm
        have TU3 := hid htu
        clear hsm htu HQ hgl
        have HROW4 := hid (show (W1.set q ((kept ++ [p]) ++ orig.drop (m + 1))).getD q [] = (kept ++ [p]) ++ orig.drop (m + 1) by rw [getDN_set _ _ _ _ (by rw [HASK.out.wl]; exact hq2), if_pos rfl])
        have HN := hid (show AskN x.n F G A K0 K1 L1 lit ((kept ++ [p]) ++ orig.drop (i + 1)) C1 (W1.set q ((kept ++ [p]) ++ orig.drop (m + 1))) from by
          have s := HASK.out
          refine ⟨s.fails, s.sk, s.hl, by rw [List.length_set]; exact s.wl, ?_, s.base, s.rep⟩
          have := s.ws
          rw [HQN.out] at this ⊢
          rw [List.set_set, List.append_assoc]
          exact this)
        go_wp2_with fail
        go_roundg (orig.length - (i + 1))
        case rel => exact ⟨i + 1, m + 1, false, _, _, _, fv1, _, _, kept ++ [p], by omega, by go_num, by rw [List.length_append, HKM.out]; rfl, by omega, rfl, rfl, SM3.out, TU3.out, HCL.out, HEXT.out, HRV1.out, HROW4.out, .inr ⟨rfl, HN.out⟩⟩
        case measure => omega
    · obtain rfl : i = orig.length := by omega
      have HOWN := hid (show wr.ownsRow B 3 1 (.slice vp orig.length vc) orig.length (ivN (kept ++ orig.drop m)) by
        obtain ⟨v1, h1, -, -, -, h5⟩ := SM1.out.xm.row hq2
        have h1' : rv1[q]? = some v1 := h1
        rw [HRV1.out] at h1'
        cases h1'
        have h6 : (x.turned C1 rv1 W1).W.getD q [] = kept ++ orig.drop m := HROW.out
        rw [h6] at h5
        have hlen1 : (kept ++ orig.drop m).length = orig.length := by rw [List.length_append, List.length_drop, HKM.out]; omega
        rw [hlen1] at h5
        exact h5)
      have HK := hid (show wr.ownsRow B 3 1 (.slice vp m vc) kept.length (ivN kept) by
        cases hvp : vp with
        | none =>
          obtain ⟨e0, e1⟩ := HVP.out hvp
          have hm0 : m = 0 := by omega
          have hk0 : kept = [] := List.length_eq_zero_iff.1 (by rw [HKM.out]; exact hm0)
          rw [e1, hm0, hk0]; exact World.ownsRow_nil _ _ _ _
        | some ad =>
          have h7 := HOWN.out
          rw [hvp] at h7
          obtain ⟨-, ⟨e, -⟩ | ⟨g, cap, cur, e, -⟩⟩ := id h7
          · cases e
          · injection e with e1
            cases e1
            have h8 := own_take h7 (m := m) hmi
            rw [HKM.out]
            rwa [show (ivN (kept ++ orig.drop m)).take m = ivN kept by rw [ivN, ← List.map_take, List.take_left' HKM.out, ivN]] at h8)
      obtain ⟨hX2, hT2⟩ := SM1.out.xm.setW (i := q) hq2 (w5 := wr) (v' := .slice vp m vc) (r := kept) HRV1.out (fun _ _ _ => rfl) ⟨rfl, rfl, rfl, Nat.le_refl _, fun _ _ _ => rfl⟩ (.inl (by cases vp <;> rfl)) HK.out
      obtain ⟨hsm, hto⟩ := SM1.out.table (x' := x.turned C1 (rv1.set q (.slice vp m vc)) (W1.set q kept)) rfl hX2 hT2
      have HQ := hid (show SM kc J (x.turned C1 (rv1.set q (.slice vp m vc)) (W1.set q kept)) B B1 bk bg bf fv1 K1 L1 (wr.setCell ⟨x.bw, q, none⟩ (.slice vp m vc)) ∧ Turn (SO x bg bf fv) (SO (x.turned C1 (rv1.set q (.slice vp m vc)) (W1.set q kept)) bg bf fv1) w (wr.setCell ⟨x.bw, q, none⟩ (.slice vp m vc)) from ⟨hsm, TU1.out.trans hto⟩)
      obtain ⟨hbc, hbf, hbl⟩ := SM1.out.xm.box.facts
      obtain ⟨hwc, hwf, hwl⟩ := SM1.out.xm.wb.facts
      have hb0 : wr.cell? ⟨x.bx, 0, none⟩ = some (.int .i64 x.n) := hbc 0
      have hb4 : wr.cell? ⟨x.bx, 4, none⟩ = some (.slice (some ⟨x.bw, 0, none⟩) (2 * x.n + 1) (2 * x.n + 1)) := hbc 4
      have hwq : wr.cell? ⟨x.bw, q, none⟩ = some (.slice vp orig.length vc) := (show wr.cell? ⟨x.bw, q, none⟩ = rv1.toArray[q]? from hwc q).trans (by simpa using HRV1.out)
      have hwfq : wr.frozen? ⟨x.bw, q, none⟩ = false := hwf q
      have hwl' : x.bw < wr.heap.size := hwl
      have hbl' : x.bx < wr.heap.size := hbl
      have HDONE := hid (show (ok = true ∧ SetI x.n F G A K0 K1 L1 k C1 (W1.set q kept)) ∨ (ok = false ∧ SetN x.n F G A K0 K1 L1 C1 (W1.set q kept)) from by
        rcases HST.out with ⟨h1, h2⟩ | ⟨h1, h2⟩
        · rw [List.drop_length] at h2
          have := h2.done
          rw [HQN.out] at this
          exact .inl ⟨h1, this⟩
        · rw [List.drop_length, List.append_nil] at h2
          have := h2.done
          rw [HQN.out] at this
          exact .inr ⟨h1, this⟩)
      clear hX2 hT2 hsm hto hbc hwc hwf hbf hbl hwl
      go_upto_region 10 with fail
      go_region
      generalize wr.setCell ⟨x.bw, q, none⟩ (.slice vp m vc) = Ws at HQ ⊢
      have k5 : Keep Ws Ws.drew := Keep.drew (Keep.refl _)
      have SM5 := hid (HQ.out.1.keep k5)
      have TU5 := hid (HQ.out.2.trans (Turn.keep k5))
      generalize Ws.drew = W5 at SM5 TU5 k5 ⊢
      clear k5 HQ hwq hwfq hb0 hb4
      go_wp2_with fail
      go_ret
      exact ⟨ok, _, _, _, fv1, K1, L1, rfl, SM5.out, TU5.out, HCL.out, HEXT.out, HDONE.out⟩
end Go.Proofs.Ytbblgmkjgcjcaab
