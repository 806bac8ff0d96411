/- tree.Means answers with the places of the packages that an atom may mean, or with an error, as the document says. -/
import Derived.Test.YtkckkjpkidcbnaaGreatDoorTreeChk
import Derived.Maps.AppendAt
namespace Go.Proofs.YtkckkjpkidcbnaaGreatDoor
open Go.RowKit Go.Sort

def meantB (p : PK) (a : At) : Bool := (p.n.toList == a.n.toList) && (fitB a.op a.v a.sl p.v p.sl && (a.f.toList.isEmpty || hasF p.fl a.f.data.toList))
def meansL (ps : List PK) (a : At) : Nat → List Int
  | 0 => []
  | k + 1 => meansL ps a k ++ (if meantB (ps.getD k PK.zero) a = true then [(k : Int)] else [])
def meansE (ps : List PK) (a : At) : Int := if chkT ps ≠ 0 then chkT ps else chkA a
/-- A row of numbers that a slice leads to. -/
def IntsAt (v : Value) (zs : List Int) (w : World) : Prop := (zs = [] ∧ v = .slice none 0 0) ∨ ∃ g cap, v = .slice (some ⟨g, 0, none⟩) zs.length cap ∧ g < w.heap.size ∧ ∀ (j : Nat) x, zs[j]? = some x → w.cell? ⟨g, j, none⟩ = some (.int .i64 x)
theorem IntsAt.keep {v : Value} {zs : List Int} {w w' : World} (h : IntsAt v zs w) (k : Keep w w') : IntsAt v zs w' := by
  rcases h with h | ⟨g, cap, h1, h2, h3⟩
  · exact Or.inl h
  · exact Or.inr ⟨g, cap, h1, Nat.lt_of_lt_of_le h2 k.size, fun j x hx => (k.cell (p := ⟨g, j, none⟩) h2).trans (h3 j x hx)⟩
theorem IntsAt.len {v : Value} {zs : List Int} {w : World} (h : IntsAt v zs w) : ∃ p cap, v = .slice p zs.length cap := by
  rcases h with ⟨rfl, h⟩ | ⟨g, cap, h, -⟩
  · exact ⟨none, 0, h⟩
  · exact ⟨_, cap, h⟩

set_option maxHeartbeats 4000000 in
set_option maxRecDepth 100000 in
theorem isMeant_any (S : Nat → Prop) (p : PK) (cs : List Value) (an af : ByteArray) (aop av asl : Int) (aon : Bool) (w : World) (hS : ∀ b, S b → b < w.heap.size) (hp : PkgIs S w p cs) :
    Calls Tryz.prog 85 #[.agg cs.toArray, .agg #[.string an, .int .i64 aop, .int .i64 av, .int .i64 asl, .string af, .bool aon]] w fun e w' => e = .returned (.bool (meantB p ⟨an, aop, av, asl, af, aon⟩)) ∧ Keep w w' := by
  obtain ⟨k, a, fl, nt, kids, kp, fp, kc, fc, -, hfl, rfl, hf, -⟩ := hp.spelt
  have HF := hid hf
  clear hp hf
  rcases p with ⟨n, v, sl, fs, nd⟩
  have HM : Hid (meantB ⟨n, v, sl, fs, nd⟩ ⟨an, aop, av, asl, af, aon⟩ = ((n.toList == an.toList) && (fitB aop av asl v sl && (af.toList.isEmpty || hasF fs af.data.toList)))) := rfl
  have KW := hid ((Keep.alloc w (.cells #[.string n, .int .i64 v, .int .i64 sl, .slice fp fs.length fc, .int .i64 k, .string a.n, .int .i64 a.op, .int .i64 a.v, .int .i64 a.sl, .string a.f, .bool a.on, .string fl, .bool nt, .slice kp kids.length kc] 58)).alloc' (.cells #[.string an, .int .i64 aop, .int .i64 av, .int .i64 asl, .string af, .bool aon] 23))
  cases h1 : (n.toList == an.toList)
  · rw [h1] at HM
    go_enter Tryz.func85, Tryz.ntmps85
    go_wp2_with fail
    go_ret
    exact ⟨ret_bool (by rw [HM.out]; rfl), KW.out⟩
  · rw [h1] at HM
    go_enter Tryz.func85, Tryz.ntmps85
    go_wp2_with fail
    refine at_calls (fun W' => Keep w W' ∧ Boxed w.heap.size #[.string n, .int .i64 v, .int .i64 sl, .slice fp fs.length fc, .int .i64 k, .string a.n, .int .i64 a.op, .int .i64 a.v, .int .i64 a.sl, .string a.f, .bool a.on, .string fl, .bool nt, .slice kp kids.length kc] W' ∧ Boxed (w.heap.size + 1) #[.string an, .int .i64 aop, .int .i64 av, .int .i64 asl, .string af, .bool aon] W') ⟨(Keep.alloc _ _).alloc' _, (Boxed.new _ _ _).keep (Keep.alloc _ _) (by simp), ?_⟩ ?_
    · have := Boxed.new (w.alloc (.cells #[.string n, .int .i64 v, .int .i64 sl, .slice fp fs.length fc, .int .i64 k, .string a.n, .int .i64 a.op, .int .i64 a.v, .int .i64 a.sl, .string a.f, .bool a.on, .string fl, .bool nt, .slice kp kids.length kc] 58)) #[.string an, .int .i64 aop, .int .i64 av, .int .i64 asl, .string af, .bool aon] 23
      rw [alloc_size] at this; exact this
    rintro W0 ⟨k0, b0, b1⟩
    refine (fits_any _ _ _ _ _ _ _ _ W0).mono ?_
    rintro e w1 ⟨rfl, k1⟩
    have K1 := hid (k0.trans k1)
    have B0 := hid (b0.keep k1 b0.1)
    have B1 := hid (b1.keep k1 b1.1)
    clear k0 b0 b1 k1 KW
    generalize fitB aop av asl v sl = β at HM ⊢
    have hc0 := B0.out.2
    have hl0 := B0.out.1
    have hc1 := B1.out.2
    have hl1 := B1.out.1
    cases β
    · go_wp2_with fail
      go_ret
      exact ⟨ret_bool (by rw [HM.out]; rfl), K1.out⟩
    · cases h2 : af.toList.isEmpty
      · rw [h2] at HM
        have h3 : (af.toList == []) = false := by simpa using h2
        go_wp2_with fail
        refine (contains_any S fs _ af w1 (HF.out.keep hS K1.out)).mono ?_
        rintro e w2 ⟨rfl, hw2⟩
        rw [hw2]
        clear hw2
        go_wp2_with fail
        go_ret
        exact ⟨ret_bool (by rw [HM.out]; simp), K1.out⟩
      · rw [h2] at HM
        have h3 : (af.toList == []) = true := by simpa using h2
        go_wp2_with fail
        go_ret
        exact ⟨ret_bool (by rw [HM.out]; rfl), K1.out⟩

theorem infoInt : (Tryz.prog.info? 3).map (fun i => (i.zero, i.size, i.bytes)) = some (some (.int .i64 0), 1, 8) := by kernel_rfl
def IntsOwn (B : Nat) (v : Value) (zs : List Int) (w : World) : Prop := w.ownsRow B 3 1 v zs.length (zs.map (Value.int .i64))
theorem one_cellI {s : Int} (u : Value) (h : u ∈ [Value.int .i64 s]) : u.oneCell' = true := by rw [List.mem_singleton.1 h]; rfl
theorem IntsOwn.ints {B : Nat} {v : Value} {zs : List Int} {w : World} (h : IntsOwn B v zs w) : IntsAt v zs w := by
  obtain ⟨hlen, ⟨rfl, h0⟩ | ⟨g, cap, cur, rfl, hbase, hb, hn1, hn2, hn3, hn4⟩⟩ := h
  · exact Or.inl ⟨List.length_eq_zero_iff.1 h0, rfl⟩
  · refine Or.inr ⟨g, cap, rfl, (Array.getElem?_eq_some_iff.1 hb).1, fun j x hx => ?_⟩
    have hj : j < zs.length := (List.getElem?_eq_some_iff.1 hx).1
    have h1 := congrArg (·[j]?) hn4
    simp only [Nat.mul_one, List.getElem?_take, List.getElem?_map, hx, Option.map_some] at h1
    rw [if_pos hj] at h1
    simp only [World.cell?, hb]
    simpa using h1
theorem ints_push {B : Nat} {v v' : Value} {zs : List Int} {x : Int} {w w' : World} {o : Obj} (hB : B ≤ w.heap.size) (hw : IntsOwn B v zs w) (h1 : w'.ownsRow B 3 1 v' (zs.length + 1) (zs.map (Value.int .i64) ++ [.int .i64 x])) (h2 : (w.alloc o).grownBy w' v.ownBlock) :
    IntsOwn B v' (zs ++ [x]) w' ∧ Below B w w' := by
  refine ⟨?_, ?_⟩
  · unfold IntsOwn
    rw [List.length_append, List.map_append]
    exact h1
  · exact Below.grown ((Below.refl B w).alloc hB o) h2 (by have := alloc_size w o; omega) (fun g hg => (owns_lt hw hg).1)
theorem meansL_len (ps : List PK) (a : At) : ∀ k, (meansL ps a k).length ≤ k
  | 0 => by simp [meansL]
  | k + 1 => by
    have := meansL_len ps a k
    rw [meansL, List.length_append]
    split <;> simp <;> omega
/-- What Means answers. -/
def MeansDone (ps : List PK) (a : At) (w : World) (e : Ending) (w' : World) : Prop :=
  ∃ v, e = .returned (.tuple #[v, .int .i64 (meansE ps a)]) ∧ (meansE ps a ≠ 0 → v = .slice none 0 0) ∧ (meansE ps a = 0 → IntsAt v (meansL ps a ps.length) w') ∧ Keep w w'

set_option maxHeartbeats 4000000 in
set_option maxRecDepth 100000 in
theorem means_any (S : Nat → Prop) (ps : List PK) (v : Value) (an af : ByteArray) (aop av asl : Int) (aon : Bool) (w : World) (hS : ∀ b, S b → b < w.heap.size) (hp : PkgsIs S w ps v) :
    Calls Tryz.prog 24 #[.agg #[v], .agg #[.string an, .int .i64 aop, .int .i64 av, .int .i64 asl, .string af, .bool aon]] w fun e w' => MeansDone ps ⟨an, aop, av, asl, af, aon⟩ w e w' := by
  obtain ⟨i0, hi, hz0, hz1, hz2⟩ := info_parts infoInt
  have HP := hid hp
  obtain ⟨p, cap, rfl, hlen⟩ := hp.len
  have hl8 : chkT ps = 0 → ps.length ≤ 8 := fun h => (chkT_get h).1
  have HE : Hid (meansE ps ⟨an, aop, av, asl, af, aon⟩ = if chkT ps ≠ 0 then chkT ps else chk an.data.toList aop av asl af.data.toList aon) := rfl
  clear hp
  go_enter Tryz.func24, Tryz.ntmps24
  go_wp2_with fail
  refine at_calls (fun W' => Keep w W' ∧ VarAt w.heap.size 44 (.slice p ps.length cap) W' ∧ Boxed (w.heap.size + 1) #[.string an, .int .i64 aop, .int .i64 av, .int .i64 asl, .string af, .bool aon] W') ⟨(Keep.alloc _ _).alloc' _, (VarAt.new _ _ _).keep (Keep.alloc _ _) (by simp), ?_⟩ ?_
  · have := Boxed.new (w.alloc (.cells #[.slice p ps.length cap] 44)) #[.string an, .int .i64 aop, .int .i64 av, .int .i64 asl, .string af, .bool aon] 23
    rw [alloc_size] at this; exact this
  rintro W0 ⟨k0, v0, b0⟩
  refine (treeCheck_any S ps _ W0 (fun b hb => Nat.lt_of_lt_of_le (hS b hb) k0.size) (HP.out.keep hS k0)).mono ?_
  rintro e w1 ⟨rfl, k1⟩
  have K1 := hid (k0.trans k1)
  have V1 := hid (v0.keep k1 v0.facts.2.2)
  have B1 := hid (b0.keep k1 b0.1)
  clear k0 v0 b0 k1
  generalize hct : chkT ps = ct at HE hl8 ⊢
  obtain ⟨hcv, -, hlv⟩ := V1.out.facts
  have hcb := B1.out.2
  have hlb := B1.out.1
  by_cases hz : ct = 0
  · subst hz
    have h8 := hl8 rfl
    clear hl8
    go_wp2_with fail
    clear hcv hcb
    refine (check_any an af aop av asl aon w1).mono ?_
    rintro e w2 ⟨rfl, k2⟩
    have K2 := hid (K1.out.trans k2)
    have V2 := hid (V1.out.keep k2 V1.out.facts.2.2)
    have B2 := hid (B1.out.keep k2 B1.out.1)
    clear k2 K1 V1 B1
    generalize hca : chk an.data.toList aop av asl af.data.toList aon = ca at HE ⊢
    obtain ⟨hcv, -, hlv2⟩ := V2.out.facts
    have hcb := B2.out.2
    by_cases hza : ca = 0
    · subst hza
      have HE0 : Hid (meansE ps ⟨an, aop, av, asl, af, aon⟩ = 0) := by show _ = _; rw [HE.out]; simp
      clear HE hca hct
      go_wp2_with fail
      go_loopg [8, 24] ps.length (fun gk pv i wr => ∃ j : Nat, j + gk = ps.length ∧ i = .int .i64 j ∧ IntsOwn (w.heap.size + 2) pv (meansL ps ⟨an, aop, av, asl, af, aon⟩ j) wr ∧ Boxed (w.heap.size + 1) #[.string an, .int .i64 aop, .int .i64 av, .int .i64 asl, .string af, .bool aon] wr ∧ Keep w wr)
      case atStart => exact ⟨0, by simp, rfl, World.ownsRow_nil _ _ _ _, B2.out, K2.out⟩
      case round =>
        obtain ⟨j, hj, rfl, hown, hbx, hkp⟩ := hrel
        have HOWN := hid hown
        have HBX := hid hbx
        have HKP := hid hkp
        clear hown hbx hkp B2 K2 V2 hcv hcb hlv hlb hlv2
        by_cases hlt : j < ps.length
        · obtain ⟨b, off, cap2, hv2, hb2, -, hrow2⟩ := (HP.out.keep hS HKP.out).get hlt
          cases hv2
          obtain ⟨cs, hcs, hpj⟩ := hrow2 j hlt
          have HML : Hid (meansL ps ⟨an, aop, av, asl, af, aon⟩ (j + 1) = meansL ps ⟨an, aop, av, asl, af, aon⟩ j ++ (if meantB ps[j] ⟨an, aop, av, asl, af, aon⟩ = true then [(j : Int)] else [])) := by
            show _ = _
            rw [meansL, List.getD_eq_getElem?_getD, List.getElem?_eq_getElem hlt, Option.getD_some]
          have hml := meansL_len ps ⟨an, aop, av, asl, af, aon⟩ j
          generalize ps[j] = q at hpj HML
          have HPJ := hid hpj
          obtain ⟨k, a, fl, nt, kids, kp, fp, kc, fc, -, hfl, rfl, -, -⟩ := hpj.spelt
          obtain ⟨c0, c1, c2, c3, c4, c5, c6, c7, c8, c9, c10, c11, c12, c13⟩ := cells14 hcs
          rcases q with ⟨n, v, sl, fs, nd⟩
          simp only at hfl c0 c1 c2 c3
          have hcb := HBX.out.2
          have hlb := HBX.out.1
          have hsw : w.heap.size ≤ wr.heap.size := HKP.out.size
          have hS2 : ∀ b, S b → b < wr.heap.size := fun b hb => Nat.lt_of_lt_of_le (hS b hb) hsw
          clear hrow2 hcs hpj
          go_wp2_with fail
          refine at_calls (fun W' => Keep wr W') (Keep.alloc _ _) ?_
          intro W3 k3
          refine (isMeant_any S _ _ an af aop av asl aon W3 (fun b hb => Nat.lt_of_lt_of_le (hS2 b hb) k3.size) (HPJ.out.keep hS2 k3)).mono ?_
          rintro e w4 ⟨rfl, k4⟩
          have K4' := hid (k3.trans k4)
          have K4 := hid (HKP.out.trans K4'.out)
          have OWN4 : Hid (IntsOwn (w.heap.size + 2) u8 (meansL ps ⟨an, aop, av, asl, af, aon⟩ j) w4) := owns_keep HOWN.out K4'.out
          have BX4 := hid (HBX.out.keep K4'.out HBX.out.1)
          clear k3 k4 c0 c1 c2 c3 c4 c5 c6 c7 c8 c9 c10 c11 c12 c13 hcb
          generalize meantB ⟨n, v, sl, fs, nd⟩ ⟨an, aop, av, asl, af, aon⟩ = β at HML ⊢
          cases β
          · have HM2 : Hid (meansL ps ⟨an, aop, av, asl, af, aon⟩ (j + 1) = meansL ps ⟨an, aop, av, asl, af, aon⟩ j) := by show _ = _; rw [HML.out]; simp
            clear HML
            go_wp2_with fail
            go_roundg (ps.length - (j + 1))
            case rel => exact ⟨j + 1, by omega, by go_num, by rw [HM2.out]; exact OWN4.out, BX4.out, K4.out⟩
            case measure => omega
          · have HM2 : Hid (meansL ps ⟨an, aop, av, asl, af, aon⟩ (j + 1) = meansL ps ⟨an, aop, av, asl, af, aon⟩ j ++ [(j : Int)]) := by show _ = _; rw [HML.out]; simp
            have hsw4 : w.heap.size + 2 ≤ w4.heap.size := BX4.out.1
            clear HML
            generalize meansL ps ⟨an, aop, av, asl, af, aon⟩ j = zs at hml OWN4 HM2
            go_wp2_with (at_builtin; refine wpList_append_own_at _ rfl _ _ 49 rfl (w.heap.size + 2) 3 i0 (.int .i64 0) 1 8 Tryz.underlying49 hi hz0 hz1 hz2 rfl (by decide) u8 zs.length (zs.map (Value.int .i64)) rfl (World.ownsRow.alloc OWN4.out _) ⟨w4.heap.size, 0, none⟩ 1 1 [.int .i64 j] rfl rfl one_news one_cellI (by unfold maxLen; omega) (by omega) (by have := alloc_size w4 (.cells #[.int .i64 j] 3); omega) ?_)
            intro v' w5 h5 h6 _ _
            obtain ⟨h7, h8'⟩ := ints_push hsw4 OWN4.out h5 h6
            have H7 := hid h7
            have K5 : Hid (Keep w w5) := Below.trans K4.out (h8'.mono (by omega))
            have BX5 : Hid (Boxed (w.heap.size + 1) #[.string an, .int .i64 aop, .int .i64 av, .int .i64 asl, .string af, .bool aon] w5) := BX4.out.keep h8' (by omega)
            clear h5 h6 h7 h8'
            go_wp2_with fail
            go_roundg (ps.length - (j + 1))
            case rel => exact ⟨j + 1, by omega, by go_num, by rw [HM2.out]; exact H7.out, BX5.out, K5.out⟩
            case measure => omega
        · go_wp2_with fail
          go_ret2
          obtain rfl : j = ps.length := by omega
          exact ⟨_, by rw [HE0.out]; rfl, fun h => absurd HE0.out h, fun _ => HOWN.out.ints, HKP.out⟩
    · have HX : Hid (meansE ps ⟨an, aop, av, asl, af, aon⟩ = ca) := by show _ = _; rw [HE.out]; simp
      have hz1 : (ca == 0) = false := by simp [hza]
      have hz2' : (ca != 0) = true := by simp [hza]
      have HZ := hid hza
      clear hza HE hca
      go_wp2_with fail
      go_ret2
      exact ⟨_, by rw [HX.out]; rfl, fun _ => rfl, fun h => absurd (HX.out.symm.trans h) HZ.out, K2.out⟩
  · have HX : Hid (meansE ps ⟨an, aop, av, asl, af, aon⟩ = ct) := by show _ = _; rw [HE.out, if_pos hz]
    have hz1 : (ct == 0) = false := by simp [hz]
    have hz2' : (ct != 0) = true := by simp [hz]
    have HZ := hid hz
    clear hz HE hct hl8
    go_wp2_with fail
    go_ret2
    exact ⟨_, by rw [HX.out]; rfl, fun _ => rfl, fun h => absurd (HX.out.symm.trans h) HZ.out, K1.out⟩
end Go.Proofs.YtkckkjpkidcbnaaGreatDoor
