/- follow.canHold: what is left of a clause, each literal once, or that one of it holds. -/
import Derived.Test.YtbblgmkjgcjcaabFolSettle
import Derived.OwnWalk
namespace Go.Proofs.Ytbblgmkjgcjcaab
open Go.RowKit Go.Lib

theorem NumsIs.cellD {S : Nat → Prop} {w : World} {zs : List Int} {p : Option Addr} {n cap : Nat} (h : NumsIs S w zs (.slice p n cap)) {k : Nat} (hk : k < zs.length) : ∃ b off, p = some ⟨b, off, none⟩ ∧ S b ∧ w.cell? ⟨b, off + k, none⟩ = some (.int .i64 zs[k]) := by
  obtain ⟨b, off, h1, h2, h3⟩ := h.nth hk
  exact ⟨b, off, h1, h2, h3 k _ (List.getElem?_eq_getElem hk)⟩
--?f slices.IndexFunc[[]int,int]
theorem take_contains {zs : List Int} {j : Nat} (hlt : j < zs.length) {y : Int} (h : (zs.take j).contains y = false) : (zs.take (j + 1)).contains y = (y == zs[j]) := by
  rw [List.take_succ_eq_append_getElem hlt]
  generalize zs.take j = t at *
  generalize zs[j] = x
  have h0 : y ∉ t := by simpa using h
  by_cases e : y = x
  · simp [e]
  · simp [e, h0]
set_option maxHeartbeats 2000000 in
theorem indexCl_any (S : Nat → Prop) (zs : List Int) (y : Int) (p : Option Addr) (cp : Nat) (w : World) (hS : ∀ b, S b → b < w.heap.size) (hz : NumsIs S w zs (.slice p zs.length cp)) :
    Calls Try.prog 76 #[.slice p zs.length cp, .int .i64 y] w fun e w' => ∃ n : Int, e = .returned (.int .i64 n) ∧ decide (0 ≤ n) = zs.contains y ∧ w' = w := by
  have hmax : zs.length ≤ 9223372036854775807 := by obtain ⟨_, _, _, h⟩ := hz.shape; exact h
  have HZ := hid hz
  clear hz
  go_enter Try.func76, Try.ntmps76
  go_wp2_with fail
  go_loopg [8] zs.length (fun gk i wr => ∃ j : Nat, j + gk = zs.length ∧ i = .int .i64 j ∧ (zs.take j).contains y = false ∧ wr = w)
  case atStart => exact ⟨0, by simp, rfl, by simp, rfl⟩
  case round =>
    obtain ⟨j, hj, rfl, hno, hw⟩ := hrel
    subst hw
    have HNO := hid hno
    clear hno
    by_cases hlt : j < zs.length
    · obtain ⟨b, off, rfl, hb, hcell⟩ := HZ.out.cellD hlt
      have HST : Hid ((zs.take (j + 1)).contains y = (y == zs[j])) := take_contains hlt HNO.out
      have HUP : Hid ((y == zs[j]) = true → zs.contains y = true) := fun h => by
        have : y = zs[j] := by simpa using h
        rw [this]; simp
      have hbl := hS b hb
      generalize zs[j] = x at HST HUP hcell
      clear HNO
      cases hyx : (y == x)
      · rw [hyx] at HST
        go_wp2_with fail
        go_roundg (zs.length - (j + 1))
        case rel => exact ⟨j + 1, by omega, by go_num, HST.out, rfl⟩
        case measure => omega
      · have HUP2 := hid (HUP.out hyx)
        go_wp2_with fail
        go_ret
        exact ⟨(j : Int), rfl, by rw [HUP2.out]; exact decide_eq_true (by omega), rfl⟩
    · obtain rfl : j = zs.length := by omega
      go_wp2_with fail
      go_ret
      refine ⟨-1, rfl, ?_, rfl⟩
      have := HNO.out
      rw [List.take_length] at this
      rw [this]; rfl
set_option maxHeartbeats 1000000 in
theorem containsCl_any (S : Nat → Prop) (zs : List Int) (y : Int) (p : Option Addr) (cp : Nat) (w : World) (hS : ∀ b, S b → b < w.heap.size) (hz : NumsIs S w zs (.slice p zs.length cp)) :
    Calls Try.prog 72 #[.slice p zs.length cp, .int .i64 y] w fun e w' => e = .returned (.bool (zs.contains y)) ∧ w' = w := by
  have HI := hid (indexCl_any S zs y p cp w hS hz)
  clear hz
  go_enter Try.func72, Try.ntmps72
  go_wp2_with fail
  refine HI.out.mono ?_
  rintro e w1 ⟨n, rfl, hn, hw1⟩
  rw [hw1]
  have HN := hid hn
  clear hn hw1 HI
  go_wp2_with fail
  go_ret
  exact ⟨ret_bool HN.out, rfl⟩
theorem made_one (v : Value) (hv : v.cells = #[v]) (n : Nat) : (madeCells v.cells (n * 1)).toList = List.replicate n v := by
  rw [hv, Nat.mul_one]
  apply List.ext_getElem
  · simp [madeCells]
  · intro i h1 h2
    simp [madeCells, Nat.mod_one]
/-- A row that was made whole lies in a block of its own. -/
theorem made_box {w w' : World} {B T n : Nat} {v : Value} (hv : v.cells = #[v]) (h : w'.ownsRow B T 1 (.slice (some ⟨w.heap.size, 0, none⟩) n n) n (madeCells v.cells (n * 1)).toList) : BoxAt w.heap.size T (List.replicate n v).toArray w' := by
  obtain ⟨h1, ⟨h2, -⟩ | ⟨g, cap, cur, h2, e2, e3, e4, e5, e6, e7⟩⟩ := h
  · cases h2
  · cases h2
    unfold BoxAt
    rw [e3]
    rw [made_one v hv, List.take_of_length_le (by simp; omega)] at e7
    rw [← e7]
theorem infoRow : (Try.prog.info? 26).map (fun i => (i.zero, i.size, i.bytes)) = some (some (.slice none 0 0), 1, 24) := by kernel_rfl
theorem infoCl : (Try.prog.info? 38).map (fun i => (i.zero, i.size, i.bytes)) = some (some (.slice none 0 0), 1, 24) := by kernel_rfl
theorem IntsOwn.numsO {B : Nat} {v : Value} {zs : List Int} {w : World} (h : IntsOwn B v zs w) : NumsIs (fun b => v.ownBlock = some b) w zs v := by
  obtain ⟨hlen, ⟨rfl, h0⟩ | ⟨g, cap, cur, rfl, hbase, hb, hn1, hn2, hn3, hn4⟩⟩ := id h
  · exact ⟨none, 0, by rw [h0], by omega, fun h => by omega⟩
  · refine ⟨_, cap, rfl, by unfold maxLen at hn2; omega, fun _ => ⟨g, 0, rfl, rfl, fun j x hx => ?_⟩⟩
    rcases h.ints with ⟨h1, -⟩ | ⟨g', cap', e, -, h2⟩
    · subst h1; simp at hx
    · cases e
      rw [Nat.zero_add]; exact h2 j x hx

set_option maxHeartbeats 4000000 in
set_option maxRecDepth 100000 in
theorem canHold_any (S : Nat → Prop) (n bg : Nat) (c K : List Int) (cv : Value) (w : World) (hS : ∀ b, S b → b < w.heap.size) (hc : NumsIs S w c cv) (hkb : BoxAt bg 3 (K.map (Value.int .i64)).toArray w) (hl : LitsC n c) (hn : n ≤ 1000) (hK : K.length = n + 1) (hcl : c.length ≤ 1000) :
    Calls Try.prog 62 #[cv, .slice (some ⟨bg, 0, none⟩) (n + 1) (n + 1)] w fun e w' => Keep w w' ∧ ((lft K [] c = none ∧ e = .returned (.tuple #[.slice none 0 0, .bool true])) ∨ ∃ l lv, lft K [] c = some l ∧ e = .returned (.tuple #[lv, .bool false]) ∧ IntsOwn w.heap.size lv l w') := by
  obtain ⟨i0, hi, hz0, hz1, hz2⟩ := info_parts infoInt
  have HC := hid hc
  have HL := hid hl
  obtain ⟨cp, cc, rfl, hcl1⟩ := hc.shape
  have HKB := hid hkb
  have HKL := hid hK
  clear hc hl hK hkb
  go_enter Try.func62, Try.ntmps62
  go_wp2_with fail
  go_loopg [4, 5, 10] c.length (fun gk lv hv iv wr => ∃ (j : Nat) (acc : List Int), j + gk = c.length ∧ hv = .bool false ∧ iv = .int .i64 j ∧ Keep w wr ∧ IntsOwn w.heap.size lv acc wr ∧ acc.length ≤ j ∧ lft K acc (c.drop j) = lft K [] c)
  case atStart => exact ⟨0, [], by simp, rfl, rfl, Keep.refl _, World.ownsRow_nil _ _ _ _, by simp, by simp⟩
  case round =>
    obtain ⟨j, acc, hj, rfl, rfl, hk, how, hal, hlf⟩ := hrel
    have HK := hid hk
    have HOW := hid how
    have HLF := hid hlf
    clear hk how hlf
    by_cases hlt : j < c.length
    · obtain ⟨cb, co, rfl, hcb, hcc⟩ := (HC.out.keep hS HK.out).nth hlt
      have hc1 := hcc j _ (List.getElem?_eq_getElem hlt)
      have hx := HL.out c[j] (List.getElem_mem hlt)
      have HD := hid (List.drop_eq_getElem_cons hlt)
      have hbl := Nat.lt_of_lt_of_le (hS cb hcb) HK.out.size
      generalize c[j] = x at hc1 hx HD
      have HSTEP := hid (show (if kn K x = x then none else if kn K x = 0 ∧ x ∉ acc then lft K (acc ++ [x]) (c.drop (j + 1)) else lft K acc (c.drop (j + 1))) = lft K [] c by rw [← HLF.out, HD.out, lft])
      have hxK : x.natAbs < K.length := by have := hx.2; have := HKL.out; omega
      have KB := hid (HKB.out.keep HK.out HKB.out.facts.2.2)
      obtain ⟨hgc, -, hgl⟩ := KB.out.facts
      have hk1 : wr.cell? ⟨bg, x.natAbs, none⟩ = some (.int .i64 K[x.natAbs]) := by rw [hgc]; simp [hxK]
      have HX := hid (show kn K x = K[x.natAbs] by simp [kn, List.getD_eq_getElem?_getD, hxK])
      generalize K[x.natAbs] = y at hk1 HX
      have hxa : x.natAbs ≤ n := hx.2
      have hxn : (x.natAbs : Int) < (n : Int) + 1 := by omega
      have hv := hid (variable_any x wr (by omega))
      have hx1 : -1000 ≤ x := by omega
      have hx2 : x ≤ 1000 := by omega
      have hjI : (j : Int) < (c.length : Int) := by omega
      have HXL := hid hx
      clear hcc hx hgc
      go_wp2_with fail
      refine hv.out.mono ?_
      rintro e w1 ⟨rfl, hw1⟩
      rw [hw1]
      clear hw1
      by_cases h1 : y = x
      · have h1' : (y == x) = true := by simp [h1]
        have HN := hid (show lft K [] c = none by rw [← HSTEP.out, if_pos (HX.out.trans h1)])
        clear h1
        go_wp2_with fail
        go_ret2
        exact ⟨HK.out, .inl ⟨HN.out, rfl⟩⟩
      · have h1' : (y == x) = false := by simp [h1]
        have HS2 := hid (show (if kn K x = 0 ∧ x ∉ acc then lft K (acc ++ [x]) (c.drop (j + 1)) else lft K acc (c.drop (j + 1))) = lft K [] c from (if_neg (c := kn K x = x) (by rw [HX.out]; exact h1)).symm.trans HSTEP.out)
        clear h1
        go_wp2_with fail
        refine hv.out.mono ?_
        rintro e w1 ⟨rfl, hw1⟩
        rw [hw1]
        clear hw1 hv
        by_cases h2 : y = 0
        · have h2' : (y == 0) = true := by simp [h2]
          have HY := hid (HX.out.trans h2)
          obtain ⟨lp, lc, hlv⟩ := HOW.out.ints.len
          subst hlv
          have HCO := hid (containsCl_any (fun b => (Value.slice lp acc.length lc).ownBlock = some b) acc x lp lc wr (fun b hb => (owns_in HOW.out hb).2) HOW.out.numsO)
          clear h2
          go_wp2_with fail
          refine HCO.out.mono ?_
          rintro e w1 ⟨rfl, hw1⟩
          rw [hw1]
          clear hw1 HCO
          by_cases h3 : x ∈ acc
          · have h3' : acc.contains x = true := by simpa using h3
            have HN := hid (show lft K acc (c.drop (j + 1)) = lft K [] c by rw [← HS2.out, if_neg (fun h => h.2 h3)])
            rw [h3']
            clear h3 h3'
            go_wp2_with fail
            go_roundg (c.length - (j + 1))
            case rel => exact ⟨j + 1, acc, by omega, rfl, by go_num, HK.out, HOW.out, by omega, HN.out⟩
            case measure => omega
          · have h3' : acc.contains x = false := by simpa using h3
            have HN := hid (show lft K (acc ++ [x]) (c.drop (j + 1)) = lft K [] c by rw [← HS2.out, if_pos ⟨HY.out, h3⟩])
            rw [h3']
            clear h3 h3' hc1 hk1
            have hsz := HK.out.size
            go_wp2_with (at_builtin; refine wpList_append_own_at _ rfl _ _ 38 rfl w.heap.size 3 i0 (.int .i64 0) 1 8 Try.underlying38 hi hz0 hz1 hz2 rfl (by decide) (.slice lp acc.length lc) acc.length (acc.map (Value.int .i64)) rfl (HOW.out.alloc _) ⟨wr.heap.size, 0, none⟩ 1 1 [.int .i64 x] rfl rfl one_newsC one_cellI (by unfold maxLen; omega) (by omega) (by have := alloc_size wr (.cells #[.int .i64 x] 3); omega) ?_; intro v5 w5 h1 h2 _ h4; have P5 := hid (ints_push HK.out.size HOW.out h1 h2); clear h1 h2 h4)
            go_roundg (c.length - (j + 1))
            case rel => exact ⟨j + 1, acc ++ [x], by omega, rfl, by go_num, Below.trans HK.out P5.out.2, P5.out.1, by simp; omega, HN.out⟩
            case measure => omega
        · have h2' : (y == 0) = false := by simp [h2]
          have HN := hid (show lft K acc (c.drop (j + 1)) = lft K [] c by rw [← HS2.out, if_neg (fun h => h2 (HX.out.symm.trans h.1))])
          clear h2
          go_wp2_with fail
          go_roundg (c.length - (j + 1))
          case rel => exact ⟨j + 1, acc, by omega, rfl, by go_num, HK.out, HOW.out, by omega, HN.out⟩
          case measure => omega
    · obtain rfl : j = c.length := by omega
      have HN := hid (show lft K [] c = some acc by rw [← HLF.out, List.drop_length, lft])
      go_wp2_with fail
      go_ret2
      exact ⟨HK.out, .inr ⟨acc, _, HN.out, rfl, HOW.out⟩⟩
end Go.Proofs.Ytbblgmkjgcjcaab
