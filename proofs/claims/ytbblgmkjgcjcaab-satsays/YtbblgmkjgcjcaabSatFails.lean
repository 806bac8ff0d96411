/- The reference's Fails, of one list of clauses. -/
import Derived.Test.YtbblgmkjgcjcaabRupFails
namespace Go.Proofs.Ytbblgmkjgcjcaab
open Go.RowKit Go.Lib

/-- What the first lists hold. -/
def prc1 (F : List (List Int)) (i : Nat) : List (List Int) := if i = 0 then [] else F
/-- Where no clause asks for more, all that is derived is there. -/
theorem GS.all {n : Nat} {F : List (List Int)} {A s : List Int} (h : GS n F A s) (hcl : ∀ c ∈ F, ClS s c) : ∀ x, Der F A x → x ∈ s := by
  intro x hx
  induction hx with
  | told hx => exact h.has _ hx
  | @unit c x hc hx _ ih =>
    rcases hcl c hc with ⟨y, hy, hys⟩ | ⟨y, hy, z, hz, hyz, h1, h2⟩
    · by_cases e : y = x
      · exact e ▸ hys
      · exact absurd (ih y hy e) (h.con y hys)
    · by_cases e : y = x
      · exact absurd (ih z hz (fun e2 => hyz (e.trans e2.symm))) h2
      · exact absurd (ih y hy e) h1
/-- What Fails of one list leaves. -/
def FailsDone1 (n g : Nat) (F : List (List Int)) (A : List Int) (w : World) (e : Ending) (w' : World) : Prop := ∃ r : Bool, e = .returned (.bool r) ∧ Turn (OneB g) (OneB g) w w' ∧ (r = true ↔ FailsF F A) ∧ (r = false → ∃ s, SetMap g s w' ∧ GS n F A s ∧ ∀ x, Der F A x → x ∈ s)
set_option maxHeartbeats 16000000 in
set_option maxRecDepth 100000 in
theorem fails1_any (S : Nat → Prop) (n g bl : Nat) (F : List (List Int)) (p : Option Addr) (cap : Nat) (A s0 : List Int) (w : World) (hS : ∀ b, S b → b < w.heap.size ∧ ¬ OneB g b) (hbl : BoxAt bl 22 #[.slice p F.length cap] w) (hblg : bl ≠ g)
    (hF : ClsIs S w F (.slice p F.length cap)) (hs : SetMap g s0 w) (hgs : GS n F A s0) (hn : n ≤ 1000) (hL : ∀ c ∈ F, LitsC n c ∧ c.length ≤ 60) (hl : F.length ≤ 100000) :
    Calls Try.prog 51 #[.map (some g), .slice (some ⟨bl, 0, none⟩) 1 1] w fun e w' => FailsDone1 n g F A w e w' := by
  have HBX := hid hbl
  have HF := hid hF
  have HS0 := hid hs
  have HG0 := hid hgs
  have HL := hid hL
  have hbll := hbl.facts.2.2
  have hmm := @run_makeMap Try.prog
  clear hbl hF hs hgs hL
  go_enter Try.func51, Try.ntmps51
  go_wp2_with fail
  go_loopg [4, 5] (n + 1) (fun gn rv nv wr => ∃ (s : List Int) (m : Int), rv = .bool false ∧ nv = .int .i64 m ∧ -1 ≤ m ∧ m ≤ s.length ∧ (gn : Int) = n - m ∧ SetMap g s wr ∧ GS n F A s ∧ Turn (OneB g) (OneB g) w wr ∧ (m = s.length → ∀ c ∈ F, ClS s c))
  case atStart => exact ⟨s0, -1, rfl, rfl, by omega, by omega, by omega, HS0.out, HG0.out, Turn.refl _ _, fun h => by omega⟩
  case round =>
    obtain ⟨s, m, rfl, rfl, hm1, hm2, hgn, hsm, hgs, htu, hdone⟩ := hrel
    have SM := hid hsm
    have GS1 := hid hgs
    have TU := hid htu
    have HD := hid hdone
    have hsl := hgs.len
    have hlen := fun ty => hsm.len und_known ty
    clear hsm hgs htu hdone
    by_cases hms : m = (s.length : Int)
    · have hms' : (m != (s.length : Int)) = false := by simp [hms]
      have HR := hid (GS1.out.done (HD.out hms))
      have HDD := hid (GS1.out.all (HD.out hms))
      clear hms
      go_wp2_with fail
      go_ret
      exact ⟨false, rfl, TU.out, by simp; exact HR.out, fun _ => ⟨s, SM.out, GS1.out, HDD.out⟩⟩
    · have hms' : (m != (s.length : Int)) = true := by simp [hms]
      have hms2 : m < (s.length : Int) := by omega
      clear hms
      go_wp2_with fail
      clear hlen
      obtain ⟨wo, rfl⟩ : ∃ wo : World, wo = wr := ⟨_, rfl⟩
      obtain ⟨go, rfl⟩ : ∃ go : Nat, go = gk := ⟨_, rfl⟩
      go_loopg [4, 23] 1 (fun gn rv iv wi => ∃ (i : Nat) (t : List Int), rv = .bool false ∧ iv = .int .i64 i ∧ i + gn = 1 ∧ SetMap g (s ++ t) wi ∧ GS n F A (s ++ t) ∧ Turn (OneB g) (OneB g) w wi ∧ (t = [] → ∀ c ∈ prc1 F i, ClS s c))
      case atStart => exact ⟨0, [], rfl, rfl, rfl, by rw [List.append_nil]; exact SM.out, by rw [List.append_nil]; exact GS1.out, TU.out, fun _ c hc => by simp [prc1] at hc⟩
      case round =>
        obtain ⟨i, t, rfl, rfl, hi, hsm, hgs, htu, hdone⟩ := hrel
        have SM2 := hid hsm
        have GS2 := hid hgs
        have TU2 := hid htu
        have HD2 := hid hdone
        clear hsm hgs htu hdone
        by_cases hi2 : i < 1
        · obtain ⟨L, lp, lc, hcell, hLis, hprc, hLin, hLl⟩ : ∃ (L : List (List Int)) (lp : Option Addr) (lc : Nat), wr.cell? ⟨bl, i, none⟩ = some (.slice lp L.length lc) ∧ ClsIs S w L (.slice lp L.length lc) ∧ prc1 F (i + 1) = prc1 F i ++ L ∧ (∀ c ∈ L, c ∈ F) ∧ L.length ≤ 100000 := by
            have hb := (HBX.out.turn TU2.out hblg).facts.1
            obtain rfl : i = 0 := by omega
            exact ⟨F, p, cap, hb 0, HF.out, by simp [prc1], fun c hc => hc, hl⟩
          have HLI := hid hLis
          have HPR := hid hprc
          have HLN := hid hLin
          have hbl2 : bl < wr.heap.size := Nat.lt_of_lt_of_le hbll TU2.out.size
          have hi2I : (i : Int) < 1 := by omega
          clear hLis hprc hLin
          go_wp2_with fail
          obtain ⟨w1, rfl⟩ : ∃ w1 : World, w1 = wr := ⟨_, rfl⟩
          obtain ⟨g1, rfl⟩ : ∃ g1 : Nat, g1 = gk := ⟨_, rfl⟩
          go_loopg [4, 29] L.length (fun gn rv jv wi => ∃ (j : Nat) (t : List Int), rv = .bool false ∧ jv = .int .i64 j ∧ j + gn = L.length ∧ SetMap g (s ++ t) wi ∧ GS n F A (s ++ t) ∧ Turn (OneB g) (OneB g) w wi ∧ (t = [] → ∀ c ∈ prc1 F i ++ L.take j, ClS s c))
          case atStart => exact ⟨0, t, rfl, rfl, by omega, SM2.out, GS2.out, TU2.out, fun h c hc => HD2.out h c (by simpa using hc)⟩
          case round =>
            obtain ⟨j, t3, rfl, rfl, hj, hsm, hgs, htu, hdone⟩ := hrel
            have SM3 := hid hsm
            have GS3 := hid hgs
            have TU3 := hid htu
            have HD3 := hid hdone
            clear hsm hgs htu hdone SM2 GS2 TU2 HD2
            by_cases hlt : j < L.length
            · obtain ⟨cb, coff, ccap, cp, cc, hfv, hcbS, -, hcl, hnum, -⟩ := (HLI.out.turn TU3.out hS).get hlt
              cases hfv
              have hcf := HL.out _ (HLN.out _ (List.getElem_mem hlt))
              have HCIN := hid (HLN.out _ (List.getElem_mem hlt))
              have HTK := hid (List.take_succ_eq_append_getElem hlt)
              have hcbl : cb < wr.heap.size := World.block_lt_of_cell? wr ⟨cb, coff + j, none⟩ hcl
              have hjI : (j : Int) < (L.length : Int) := by omega
              generalize L[j] = c at hcl hnum hcf HTK HCIN
              have HCF := hid hcf
              have hc60 : c.length ≤ 60 := hcf.2
              have hgr := World.grownBy_alloc wr (.map #[] 0) none
              have HNU := hid (hnum.mono (w' := wr.alloc (.map #[] 0)) (S' := S) (fun q hq => (Keep.alloc wr _).cell (p := q) (Nat.lt_of_lt_of_le (hS _ hq).1 TU3.out.size)) fun _ h => h)
              have SM4 := hid (SM3.out.keep (Keep.alloc wr (.map #[] 0)))
              have OP4 := hid (setmap_made wr)
              have TU4 := hid (turn_none TU3.out hgr)
              have hgne : g < wr.heap.size := SM3.out.lt
              have hwo : w.heap.size ≤ wr.heap.size := TU3.out.size
              clear hnum hcf hgr
              go_upto_region 12 with fail
              have HQ := hid (And.intro SM4.out (And.intro OP4.out (And.intro TU4.out HNU.out)))
              refine at_wp (fun W' => SetMap g (s ++ t3) W' ∧ SetMap wr.heap.size [] W' ∧ Turn (OneB g) (OneB g) w W' ∧ NumsIs S W' c (.slice cp c.length cc)) ?_ ?_
              · exact HQ.out
              rintro W4 ⟨hsm4, hop4, htu4, hnu4⟩
              have SM5 := hid hsm4
              have OP5 := hid hop4
              have TU5 := hid htu4
              have NU5 := hid hnu4
              clear hsm4 hop4 htu4 hnu4 HQ SM4 OP4 TU4 HNU hcl hcbl
              generalize wr.heap.size = bo at OP5 hgne hwo ⊢
              obtain ⟨w2, rfl⟩ : ∃ w2 : World, w2 = wr := ⟨_, rfl⟩
              obtain ⟨g2, rfl⟩ : ∃ g2 : Nat, g2 = gk := ⟨_, rfl⟩
              go_wp2_with fail
              go_loopg [11, 36] c.length (fun gn hv mv wi => ∃ (m : Nat) (os : List Int), hv = .bool ((c.take m).any fun x => decide (x ∈ s ++ t3)) ∧ mv = .int .i64 m ∧ m + gn = c.length ∧ SetMap g (s ++ t3) wi ∧ SetMap bo os wi ∧ Turn (OneB g) (OneB g) w wi ∧ NumsIs S wi c (.slice cp c.length cc) ∧ opn (s ++ t3) os (c.drop m) = opn (s ++ t3) [] c ∧ os.length ≤ m)
              case atStart => exact ⟨0, [], rfl, rfl, by omega, SM5.out, OP5.out, TU5.out, NU5.out, by simp, by simp⟩
              case round =>
                obtain ⟨k, os, rfl, rfl, hk, hsm, hop, htu, hnu, hopn, hosl⟩ := hrel
                have SM6 := hid hsm
                have OP6 := hid hop
                have TU6 := hid htu
                have NU6 := hid hnu
                have HOPN := hid hopn
                clear hsm hop htu hnu hopn SM5 OP5 TU5 NU5
                by_cases hkl : k < c.length
                · obtain ⟨xb, xo, hxp, hxS, hxc⟩ := NU6.out.nth hkl
                  subst hxp
                  have hxk := hxc k _ (List.getElem?_eq_getElem hkl)
                  have hxL := HCF.out.1 _ (List.getElem_mem hkl)
                  have HANY := hid (any_step (s := s ++ t3) hkl)
                  have HOS := hid ((opn_step (s := s ++ t3) (acc := os) hkl).symm.trans HOPN.out)
                  have hxbl : xb < wr.heap.size := World.block_lt_of_cell? wr ⟨xb, xo + k, none⟩ hxk
                  have hkI : (k : Int) < (c.length : Int) := by omega
                  generalize c[k] = x at hxk hxL HANY HOS
                  have hsx : Sm x := Nat.le_trans hxL.2 hn
                  have hsnx : Sm (-x) := Nat.le_trans hxL.neg.2 hn
                  have hx1 : -1000 ≤ x := by unfold Sm at hsx; omega
                  have hx2 : x ≤ 1000 := by unfold Sm at hsx; omega
                  have hlk1 := SM6.out.look und_known hsx
                  have hlk2 := SM6.out.look und_known hsnx
                  generalize hb0e : ((c.take k).any fun x => decide (x ∈ s ++ t3)) = b0 at HANY ⊢
                  generalize hb1e : decide (x ∈ s ++ t3) = b1 at hlk1 HANY
                  by_cases hneg : -x ∈ s ++ t3
                  · rw [decide_eq_true hneg] at hlk2
                    have HOS2 := hid ((if_pos hneg).symm.trans HOS.out)
                    clear hneg hxc hb0e hb1e
                    cases b0 <;> cases b1
                    all_goals
                      go_wp2_with fail
                      go_roundg (c.length - (k + 1))
                      case rel => exact ⟨k + 1, os, by rw [HANY.out]; rfl, by go_num, by omega, SM6.out, OP6.out, TU6.out, NU6.out, HOS2.out, by omega⟩
                      case measure => omega
                  · rw [decide_eq_false hneg] at hlk2
                    have HOS2 := hid ((if_neg hneg).symm.trans HOS.out)
                    obtain ⟨w7, hrun, hop7, hgr7⟩ := OP6.out.put und_map hsx (by omega)
                    have SM7 := hid (SM6.out.kept hgr7 (fun e => by have := Option.some.inj e; omega))
                    have OP7 := hid hop7
                    have TU7 := hid (turn_new TU6.out hgr7 hwo)
                    have NU7 := hid (NU6.out.mono (w' := w7) (S' := S) (fun q hq => World.cell?_of_block (w := wr) (hgr7.block _ (Nat.lt_of_lt_of_le (hS _ hq).1 TU6.out.size) (fun e => by have := Option.some.inj e; have := (hS _ hq).1; omega))) fun _ h => h)
                    have hal : (addS os x).length ≤ os.length + 1 := by unfold addS; split <;> simp
                    clear hneg hxc hb0e hb1e hop7 hgr7
                    cases b0 <;> cases b1
                    all_goals
                      go_wp2_with fail
                      go_roundg (c.length - (k + 1))
                      case rel => exact ⟨k + 1, addS os x, by rw [HANY.out]; rfl, by go_num, by omega, SM7.out, OP7.out, TU7.out, NU7.out, HOS2.out, by omega⟩
                      case measure => omega
                · obtain rfl : k = c.length := by omega
                  rw [List.take_length]
                  have HOS2 := hid (show os = opn (s ++ t3) [] c by have := HOPN.out; rwa [List.drop_length, opn] at this)
                  have hln := fun ty => OP6.out.len und_map ty
                  have hoN := OP6.out.nodup
                  have HLF := hid (show ∀ d ∈ F, LitsC n d from fun d hd => (HL.out d hd).1)
                  have HGT := hid (show L.take (j + 1) = L.take j ++ [c] from HTK.out)
                  have HANYB := hid (show ∀ b : Bool, (c.any fun x => decide (x ∈ s ++ t3)) = b → (b = true → ∃ x ∈ c, x ∈ s ++ t3) ∧ (b = false → ∀ x ∈ c, x ∉ s ++ t3) from fun b e => ⟨fun h => by
                    rw [h] at e
                    obtain ⟨x, hx, h2⟩ := List.any_eq_true.1 e
                    exact ⟨x, hx, of_decide_eq_true h2⟩, fun h x hx hm => by
                    rw [h] at e
                    have := List.any_eq_false.1 e x hx
                    exact this (decide_eq_true hm)⟩)
                  generalize (c.any fun x => decide (x ∈ s ++ t3)) = hb at HANYB ⊢
                  have HAB := hid (HANYB.out hb rfl)
                  have HNXT := hid (fun hcs : t3 = [] → ClS s c => show t3 = [] → ∀ d ∈ prc1 F i ++ L.take (j + 1), ClS s d from fun h d hd => by
                    rw [HGT.out, ← List.append_assoc] at hd
                    rcases List.mem_append.1 hd with hd | hd
                    · exact HD3.out h d hd
                    · rw [List.mem_singleton.1 hd]; exact hcs h)
                  clear HANYB
                  cases hb with
                  | true =>
                    have HN2 := hid (HNXT.out fun h => .inl (by have := HAB.out.1 rfl; rwa [h, List.append_nil] at this))
                    go_wp2_with fail
                    go_roundg (L.length - (j + 1))
                    case rel => exact ⟨j + 1, t3, rfl, by go_num, by omega, SM6.out, GS3.out, TU6.out, HN2.out⟩
                    case measure => omega
                  | false =>
                    have HNOH := hid (HAB.out.2 rfl)
                    by_cases h1 : 1 < os.length
                    · have h1' : (1 : Int) < (os.length : Int) := by omega
                      have HN2 := hid (HNXT.out fun h => by
                        have h2 := cls_two (s := s ++ t3) (c := c) (by rw [← HOS2.out]; exact h1) (by rw [← HOS2.out]; exact hoN)
                        rwa [h, List.append_nil] at h2)
                      clear h1
                      go_wp2_with fail
                      go_roundg (L.length - (j + 1))
                      case rel => exact ⟨j + 1, t3, rfl, by go_num, by omega, SM6.out, GS3.out, TU6.out, HN2.out⟩
                      case measure => omega
                    · have h1' : ¬ (1 : Int) < (os.length : Int) := by omega
                      by_cases h0 : os.length = 0
                      · have h0' : ((os.length : Int) == 0) = true := by rw [h0]; rfl
                        have HFL := hid (GS3.out.fails HCIN.out (by rw [← HOS2.out]; exact List.length_eq_zero_iff.1 h0))
                        clear h0 h1
                        go_wp2_with fail
                        go_ret
                        exact ⟨true, rfl, TU6.out, by simp; exact HFL.out, fun h => by cases h⟩
                      · have h0' : ((os.length : Int) == 0) = false := beq_eq_false_iff_ne.2 (by omega)
                        obtain ⟨x, hox⟩ : ∃ x, os = [x] := by
                          cases os with
                          | nil => simp at h0
                          | cons a l =>
                            cases l with
                            | nil => exact ⟨a, rfl⟩
                            | cons b l => simp at h1
                        subst hox
                        obtain ⟨hxs, hgs8⟩ := GS3.out.add HLF.out HCIN.out HNOH.out HOS2.out.symm
                        have GS8 := hid hgs8
                        have HXS := hid hxs
                        have hxL := hgs8.lit x (by simp)
                        have hsx : Sm x := Nat.le_trans hxL.2 hn
                        have hst3 := GS3.out.len
                        clear h0 h1 hxs hgs8
                        obtain ⟨D, hDown, hDsz, -, hDhas, -⟩ := id OP6.out
                        have HDO := hid hDown
                        have HDS := hid hDsz
                        have HDH := hid hDhas
                        clear hDown hDsz hDhas
                        go_wp2_with (first
                          | (at_range; refine wpList_range_own _ rfl _ 74 rfl 3 4 law_int und_map _ bo _ _ rfl HDO.out ?_; intro w8 hrg8 hgr8 hsz8)
                          | go_in)
                        have HRG8 := hid hrg8
                        have SM8 := hid (SM6.out.kept hgr8 (by simp))
                        have TU8 := hid (turn_none TU6.out hgr8)
                        have hrb : w.heap.size ≤ wr.heap.size := TU6.out.size
                        have hgr0 : g < wr.heap.size := SM6.out.lt
                        have hbor : bo < wr.heap.size := OP6.out.lt
                        have HLT9 := hid (show w8.heap.size = wr.heap.size + 1 from hsz8)
                        rw [HDS.out] at HRG8
                        generalize hbi : wr.heap.size = bi at HRG8 hrb hgr0 hbor HLT9 ⊢
                        clear hrg8 hgr8 hsz8 hln hbi
                        obtain ⟨w9, rfl⟩ : ∃ w9 : World, w9 = wr := ⟨_, rfl⟩
                        obtain ⟨g9, rfl⟩ : ∃ g9 : Nat, g9 = gk := ⟨_, rfl⟩
                        go_loopg [14] 1 (fun gn xv wi => ∃ (left : Go.Lit → Bool) (cnt : Nat), wi.ranges Try.prog 3 (plainElem Try.prog 4) bo bi 1 D left cnt ∧ Turn (OneB g) (OneB g) w wi ∧ ((gn = 1 ∧ cnt = 1 ∧ left = Maps.has D ∧ SetMap g (s ++ t3) wi) ∨ (gn = 0 ∧ cnt = 0 ∧ SetMap g (s ++ t3 ++ [x]) wi)))
                        case atStart => exact ⟨_, _, HRG8.out, TU8.out, .inl ⟨rfl, rfl, rfl, SM8.out⟩⟩
                        case round =>
                          obtain ⟨left, cnt, hrg, htu, hst⟩ := hrel
                          have HRG := hid hrg
                          have TU9 := hid htu
                          have HST := hid hst
                          clear hrg htu hst
                          go_wp2_with (first
                            | (at_next; refine wpList_next_ranges _ rfl _ rfl 3 law_int (plainElem Try.prog 4) (fun z : Int => Value.int .i64 z) encB (fun key kl hk => by obtain ⟨z, hz, _⟩ := Maps.keyOf_int_inv Try.underlying3 hk; exact ⟨z, hz⟩) (fun v y hv => by obtain ⟨b, hb, _⟩ := plain_bool_inv hv; exact ⟨if b then 1 else 0, by rw [hb]; cases b <;> rfl⟩) bo bi _ _ _ _ rfl HRG.out ?_ ?_)
                            | go_in)
                          · intro hc0 _
                            have SM10 := hid (show SetMap g (s ++ (t3 ++ [x])) wr from by
                              rcases HST.out with ⟨-, h, -⟩ | ⟨-, -, h⟩
                              · omega
                              · rw [← List.append_assoc]; exact h)
                            have GS10 := hid (show GS n F A (s ++ (t3 ++ [x])) by rw [← List.append_assoc]; exact GS8.out)
                            clear hc0
                            go_wp2_with fail
                            go_roundg (L.length - (j + 1))
                            case rel => exact ⟨j + 1, t3 ++ [x], rfl, by go_num, by omega, SM10.out, GS10.out, TU9.out, fun h => by simp at h⟩
                            case measure => omega
                          · intro x' cbv kl ya yb w10 cnt' hkey hleft hR hat hrg10 hclt hgr10 hsz10 hen
                            rcases HST.out with ⟨hgn, hc1, hlf, hsm⟩ | ⟨-, hc0, -⟩
                            · obtain ⟨z, hz1, hz2, -⟩ := Maps.keyOf_int_inv Try.underlying3 hkey
                              have hzx : x' = z := by injection hz1
                              subst hzx
                              have hxx : x' = x := by
                                rw [hlf, hz2, HDH.out] at hleft
                                simpa using hleft
                              subst hxx
                              have hcn : cnt' = 0 := by omega
                              have sm10 := hsm.kept hgr10 (fun e => by have := Option.some.inj e; omega)
                              obtain ⟨w11, hrun, hsm11, hgr11⟩ := sm10.put und_known hsx (by omega)
                              have SM11 := hid (show SetMap g (s ++ t3 ++ [x']) w11 from by
                                have : addS (s ++ t3) x' = s ++ t3 ++ [x'] := by unfold addS; rw [if_neg HXS.out]
                                rw [← this]; exact hsm11)
                              have TU11 := hid ((turn_new TU9.out hgr10 hrb).trans (turn_grown hgr11))
                              have HRG11 := hid (hrg10.kept hgr11 (fun e => by have := Option.some.inj e; omega) (fun e => by have := Option.some.inj e; omega))
                              subst hcn
                              clear hkey hleft hR hat hrg10 hclt hgr10 hsz10 hsm sm10 hsm11 hgr11 hlf hc1 hz1 hz2 HST
                              go_wp2_with fail
                              go_roundg 0
                              case rel => exact ⟨_, 0, HRG11.out, TU11.out, .inr ⟨rfl, rfl, SM11.out⟩⟩
                              case measure => omega
                            · omega
            · obtain rfl : j = L.length := by omega
              go_wp2_with fail
              go_roundg (1 - (i + 1))
              case rel => exact ⟨i + 1, t3, rfl, by go_num, by omega, SM3.out, GS3.out, TU3.out, fun h c hc => HD3.out h c (by rw [HPR.out] at hc; rw [List.take_length]; exact hc)⟩
              case measure => omega
        · obtain rfl : i = 1 := by omega
          have hsl2 := GS2.out.len
          have hsl3 : (s ++ t).length = s.length + t.length := by simp
          have HFIN := hid (show (s.length : Int) = ((s ++ t).length : Int) → ∀ c ∈ F, ClS (s ++ t) c from fun h c hc => by
            have ht : t = [] := List.length_eq_zero_iff.1 (by omega)
            rw [ht, List.append_nil]
            exact HD2.out ht c (by simpa [prc1] using hc))
          go_wp2_with fail
          go_roundg (n - s.length)
          case rel => exact ⟨s ++ t, s.length, rfl, rfl, by omega, by omega, by omega, SM2.out, GS2.out, TU2.out, HFIN.out⟩
          case measure => omega
end Go.Proofs.Ytbblgmkjgcjcaab
