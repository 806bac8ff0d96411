/- R.ReadTree answers as tree.Parse does: with the tree that a text says, or with an error and its place. -/
import Derived.Test.YtkckkjpkidcbnaaGreatDoorRefLines
namespace Go.Proofs.YtkckkjpkidcbnaaGreatDoor
open Go.RowKit

/-- What stays as it was while a line is read. -/
structure RtEnv (w : World) (bl : Nat) (ws : List ByteArray) (tv : Value) (acc : List PK) (W : World) : Prop where
  keep : Keep w W
  res : VarAt w.heap.size 44 (.slice none 0 0) W
  var : VarAt (w.heap.size + 1) 44 tv W
  row : PkgRow (w.heap.size + 3) tv acc W
  lines : WsAt bl ws W
theorem RtEnv.on {w : World} {bl : Nat} {ws : List ByteArray} {tv : Value} {acc : List PK} {W W' : World} (h : RtEnv w bl ws tv acc W) (k : Keep W W') : RtEnv w bl ws tv acc W' :=
  ⟨h.keep.trans k, h.res.keep k h.res.facts.2.2, h.var.keep k h.var.facts.2.2, h.row.keep k, h.lines.keep k⟩
theorem WsAt.below {b B : Nat} {ws : List ByteArray} {w w' : World} (h : WsAt b ws w) (k : Below B w w') (hb : b < B) : WsAt b ws w' := ⟨Nat.lt_of_lt_of_le h.1 k.size, fun j x hx => (k.cell (p := ⟨b, j, none⟩) hb).trans (h.2 j x hx)⟩
theorem rdT_sp (l : List UInt8) : rdLs (l.length + 1) l 0 [] = rdSp (Lib.split l [10]) 0 [] := rdLs_split _ _ _ _ (by omega)

theorem list4 {α : Type} {cs : List α} (h : cs.length = 4) : ∃ c0 c1 c2 c3, cs = [c0, c1, c2, c3] := by
  match cs, h with
  | [c0, c1, c2, c3], _ => exact ⟨c0, c1, c2, c3, rfl⟩
theorem fourA_next (pre : List ByteArray) (h : pre.length < 4) : (fourA pre)[pre.length]? = some (.string ⟨#[]⟩) := by
  obtain ⟨d, hd⟩ : ∃ d, 4 - pre.length = d + 1 := ⟨3 - pre.length, by omega⟩
  unfold fourA
  rw [hd]
  simp [List.replicate_succ]

set_option maxHeartbeats 8000000 in
set_option maxRecDepth 100000 in
theorem refReadTree_any (s : ByteArray) (w : World) (hE : Env w) (hM : MaxAt w) (hs : s.size ≤ 20000) :
    Calls Tryz.prog 38 #[.string s] w fun e w' => TParsed s.data.toList w e w' := by
  obtain ⟨i0, hi, hz0, hz1, hz2⟩ := info_parts infoPkg
  have hsz := size_list s
  have hlong : ¬ 20000 < s.data.toList.length := by omega
  obtain ⟨ws, hws, hwl, hwl2, hwd, hwx⟩ := lines_of s
  have HWS := hid hws
  have HWX := hid hwx
  have HSP : Hid (rdLs (s.data.toList.length + 1) s.data.toList 0 [] = rdSp (ws.map (·.data.toList)) 0 []) := by show _ = _; rw [rdT_sp, hwd]
  have HE := hid hE
  have HM := hid hM
  have HWL := hid hwl
  clear hE hM hwx hwd hws
  go_enter Tryz.func38, Tryz.ntmps38
  go_wp2_with fail
  refine at_calls (fun W' => Keep w W' ∧ VarAt w.heap.size 44 (.slice none 0 0) W' ∧ VarAt (w.heap.size + 1) 44 (.slice none 0 0) W' ∧ W'.heap.size = w.heap.size + 2) ?_ ?_
  · have e := alloc_size w (.cells #[.slice none 0 0] 44)
    have hv := VarAt.new (w.alloc (.cells #[.slice none 0 0] 44)) 44 (.slice none 0 0)
    rw [e] at hv
    exact ⟨(Keep.alloc _ _).alloc' _, (VarAt.new w _ _).keep (Keep.alloc _ _) (by rw [e]; omega), hv, by rw [alloc_size, e]⟩
  rintro W1 ⟨k1, v1, u1, hs1⟩
  obtain ⟨hml, mm, hmm⟩ := HM.out.keep k1
  refine (Tryz.strings_Split s ⟨#[10]⟩ mm W1 (by omega) hmm (by decide)).mono ?_
  rintro e w2 ⟨rfl, hw2⟩
  rw [← HWS.out] at hw2
  rw [← HWL.out]
  have RT2 : Hid (RtEnv w (w.heap.size + 2) ws (.slice none 0 0) [] w2) := by
    have k2 : Keep W1 w2 := by rw [hw2]; exact Keep.alloc _ _
    refine ⟨k1.trans k2, v1.keep k2 v1.facts.2.2, u1.keep k2 u1.facts.2.2, PkgRow.nil _ _, ?_⟩
    rw [hw2, ← hs1]
    refine ⟨by rw [alloc_size]; omega, fun j x hx => ?_⟩
    have := many_news (w := W1) (cs := ws.map Value.string) (T := 9) j (.string x) (by simp [hx])
    rwa [Addr.add_mid, Nat.zero_add] at this
  rw [hs1]
  clear hw2 k1 v1 u1 hmm hml hs1
  have hw1 : 1 ≤ ws.length := by have := HWL.out; omega
  have hwi : (ws.length : Int) ≤ 20001 := by omega
  clear hwl
  go_wp2_with fail
  go_loopg [25] ws.length (fun gk i wr => ∃ (j : Nat) (acc : List PK) (tv : Value), j + gk = ws.length ∧ 0 < gk ∧ i = .int .i64 j ∧ rdSp (ws.map (·.data.toList)) 0 [] = rdSp ((ws.map (·.data.toList)).drop j) j acc ∧ acc.length = j ∧ RtEnv w (w.heap.size + 2) ws tv acc wr)
  case atStart => exact ⟨0, [], _, by simp, hw1, rfl, rfl, rfl, RT2.out⟩
  case round =>
    obtain ⟨j, acc, tv, hj, hgk, rfl, heq, hacc, hrt⟩ := hrel
    have HEQ := hid heq
    have HACC := hid hacc
    have RT := hid hrt
    clear heq hacc hrt RT2
    have hlt : j < ws.length := by omega
    have hx : ws[j]? = some ws[j] := List.getElem?_eq_getElem hlt
    have hcx := RT.out.lines.2 j _ hx
    have hxs := HWX.out ws[j] (List.getElem_mem hlt)
    have HDR : Hid ((ws.map (·.data.toList)).drop j = ws[j].data.toList :: (ws.map (·.data.toList)).drop (j + 1)) := by
      show _ = _
      rw [List.drop_eq_getElem_cons (by simpa using hlt)]; simp
    generalize ws[j] = x at hcx hxs HDR
    clear hx
    by_cases hlast : j + 1 = ws.length
    · have hq1 : ((j : Int) == (ws.length : Int) - 1) = true := by rw [beq_iff_eq]; omega
      have HDE : Hid ((ws.map (·.data.toList)).drop (j + 1) = []) := by show _ = _; rw [List.drop_eq_nil_iff]; simp; omega
      have HLJ := hid hlast
      clear hlast
      obtain ⟨hcr, hzr, hlr⟩ := RT.out.res.facts
      rcases word_is x [] with ⟨h1, h2, h3⟩ | ⟨h1, h2, h3⟩
      · have HEND : Hid (rdT s.data.toList = if chkT acc ≠ 0 then (chkT acc, 0, []) else (0, 0, acc)) := rdT_end hlong (k := j) (by rw [HSP.out, HEQ.out, HDR.out, HDE.out, rdSp, if_pos h1])
        obtain ⟨tp, tc, rfl⟩ := RT.out.row.shape
        obtain ⟨hcv, hzv, hlv⟩ := RT.out.var.facts
        have HFIN := hid RT.out.row.final
        clear h1
        go_wp2_with fail
        refine (refCheckTree_any (fun b => w.heap.size + 3 ≤ b ∧ b < wr.heap.size) acc _ wr (fun _ h => h.2) HFIN.out).mono ?_
        rintro e w2 ⟨rfl, k2⟩
        have RT2 := hid (RT.out.on k2)
        have F2 := hid (HFIN.out.keep (fun _ h => h.2) k2)
        have hs2 : wr.heap.size ≤ w2.heap.size := k2.size
        obtain ⟨hc2, hzz2, hl2⟩ := RT2.out.res.facts
        obtain ⟨hd2, hy2, hm2⟩ := RT2.out.var.facts
        clear k2 hcv hzv hcr hzr
        generalize hct : chkT acc = ct at HEND ⊢
        by_cases hz : ct = 0
        · subst hz
          have HX : Hid (rdT s.data.toList = (0, 0, acc)) := by show _ = _; rw [HEND.out]; simp
          clear HEND hct
          go_wp2_with fail
          refine at_ret (v := .tuple #[.agg #[.slice tp acc.length tc], .int .i64 0, .int .i64 0]) (fun W' => VarAt w.heap.size 44 (.slice tp acc.length tc) W' ∧ Keep w W' ∧ W'.heap.size = w2.heap.size ∧ ∀ b, b ≠ w.heap.size → W'.heap[b]? = w2.heap[b]?) ⟨RT2.out.res.set _, Below.trans RT2.out.keep (below_set _ _ _ _), set_size _ _ _ _, set_other _ _ _ _⟩ rfl ?_
          rintro W ⟨hb, hk', hzW, hoW⟩
          obtain ⟨hcW, -, -⟩ := hb.facts
          refine ⟨by simp [results, Tryz.results38, go_sem, hcW], .slice tp acc.length tc, by rw [HX.out]; rfl, fun h => absurd (by rw [HX.out]) h, ?_, hk'⟩
          rw [HX.out]
          exact PkgsIs.mono (fun p hp => World.cell?_of_block (w := w2) (hoW _ (by have := hp.1; omega))) (fun b hb => ⟨by have := hb.1; omega, by rw [hzW]; have := hb.2; omega⟩) F2.out
        · have HX : Hid (rdT s.data.toList = (ct, 0, [])) := by show _ = _; rw [HEND.out]; simp [hz]
          have hz1' : (ct == 0) = false := by simp [hz]
          have hz2' : (ct != 0) = true := by simp [hz]
          clear HEND hz hct
          go_wp2_with fail
          refine at_ret (v := .tuple #[.agg #[.slice none 0 0], .int .i64 0, .int .i64 ct]) (fun W' => VarAt w.heap.size 44 (.slice none 0 0) W' ∧ Keep w W') ⟨RT2.out.res.set _, Below.trans RT2.out.keep (below_set _ _ _ _)⟩ rfl ?_
          rintro W ⟨hb, hk⟩
          obtain ⟨hcW, -, -⟩ := hb.facts
          refine ⟨by simp [results, Tryz.results38, go_sem, hcW], .slice none 0 0, by rw [HX.out]; rfl, fun _ => rfl, by rw [HX.out]; exact Or.inl ⟨rfl, none, 0, rfl⟩, hk⟩
      · have HX : Hid (rdT s.data.toList = (1, j, [])) := rdT_bad hlong (by decide) (by rw [HSP.out, HEQ.out, HDR.out, HDE.out, rdSp, if_neg h1])
        clear h1
        go_wp2_with fail
        refine at_ret (v := .tuple #[.agg #[.slice none 0 0], .int .i64 j, .int .i64 1]) (fun W' => VarAt w.heap.size 44 (.slice none 0 0) W' ∧ Keep w W') ⟨RT.out.res.set _, Below.trans RT.out.keep (below_set _ _ _ _)⟩ rfl ?_
        rintro W ⟨hb, hk⟩
        obtain ⟨hcW, -, -⟩ := hb.facts
        refine ⟨by simp [results, Tryz.results38, go_sem, hcW], .slice none 0 0, by rw [HX.out], fun _ => rfl, by rw [HX.out]; exact Or.inl ⟨rfl, none, 0, rfl⟩, hk⟩
    · have hq1 : ((j : Int) == (ws.length : Int) - 1) = false := by rw [beq_eq_false_iff_ne]; intro e; exact hlast (by omega)
      obtain ⟨y, rest0, hdy⟩ : ∃ y r, (ws.map (·.data.toList)).drop (j + 1) = y :: r := by
        cases h : (ws.map (·.data.toList)).drop (j + 1) with
        | nil => rw [List.drop_eq_nil_iff] at h; simp at h; omega
        | cons y r => exact ⟨y, r, rfl⟩
      have HST : Hid (rdLs (s.data.toList.length + 1) s.data.toList 0 [] = if lineE x.data.toList ≠ 0 then (lineE x.data.toList, j, []) else rdSp ((ws.map (·.data.toList)).drop (j + 1)) (j + 1) (acc ++ [lineP x.data.toList])) := by
        show _ = _; rw [HSP.out, HEQ.out, HDR.out, hdy, rdSp]
      have HLE : Hid (lineE x.data.toList = wordsE (Lib.splitK [32] 0 4 x.data.toList)) := by show _ = _; unfold lineE; rw [splitN_four]
      have HLP : Hid (lineP x.data.toList = wordsP (Lib.splitK [32] 0 4 x.data.toList)) := by show _ = _; unfold lineP; rw [splitN_four]
      have HLJ := hid hlast
      clear hdy hlast HDR HEQ
      obtain ⟨wo, rfl⟩ : ∃ wo : World, wo = wr := ⟨wr, rfl⟩
      go_wp2_with fail
      refine at_wp (fun W' => BoxAt wo.heap.size 139 (fourA []) W' ∧ Keep wo W') ⟨BoxAt.new _ _ _, Keep.alloc _ _⟩ ?_
      rintro W3 ⟨b3, k3⟩
      have B3 := hid b3
      have K3 := hid k3
      clear b3 k3 hcx
      go_loopg [40, 10, 11] 4 (fun gk i rv ov wr => ∃ (pre : List ByteArray) (rest : ByteArray), pre.length + gk = 4 ∧ i = .int .i64 pre.length ∧ rv = .string rest ∧ ov = .bool true ∧ Lib.splitK [32] 0 4 x.data.toList = pre.map (·.data.toList) ++ Lib.splitK [32] 0 gk rest.data.toList ∧ rest.size ≤ 20000 ∧ (∀ y ∈ pre, y.size ≤ 20000) ∧ BoxAt wo.heap.size 139 (fourA pre) wr ∧ Keep wo wr)
      case atStart => exact ⟨[], x, rfl, rfl, rfl, rfl, rfl, by omega, by simp, B3.out, K3.out⟩
      case round =>
        obtain ⟨pre, rest, hpre, rfl, rfl, rfl, hspl, hrs, hprs, hbx, hkw⟩ := hrel
        have HSPL := hid hspl
        have HPRS := hid hprs
        have HBX := hid hbx
        have HKW := hid hkw
        clear hspl hprs hbx hkw B3 K3
        by_cases h4 : pre.length < 4
        · obtain ⟨m, rfl⟩ : ∃ m, gk = m + 1 := ⟨gk - 1, by omega⟩
          obtain ⟨hml, mm, hmm⟩ := HM.out.keep (RT.out.keep.trans HKW.out)
          go_wp2_with fail
          refine (Tryz.strings_Cut rest ⟨#[32]⟩ mm wr (by omega) hmm).mono ?_
          rintro e w2 ⟨rfl, nq, hw2⟩
          have k2 : Keep wr w2 := by rw [hw2]; exact Keep.drewN (Keep.refl _) _
          have K2 := hid (HKW.out.trans k2)
          have B2 := hid (HBX.out.keep k2 HBX.out.facts.2.2)
          clear hw2 k2 hmm hml HBX HKW
          rw [show (ByteArray.mk #[32]).data.toList = [32] from rfl]
          have hc := cut32 rest.data.toList
          have hrl := size_list rest
          generalize Lib.cut rest.data.toList [32] = ct at hc ⊢
          obtain ⟨a, r, b⟩ := ct
          simp only at hc ⊢
          obtain ⟨hcb, hzb, hlb⟩ := B2.out.facts
          have hkc : (fourA pre)[pre.length]? = some (.string ⟨#[]⟩) := fourA_next pre h4
          have hcb2 : w2.cell? ⟨wo.heap.size, pre.length, none⟩ = some (.string ⟨#[]⟩) := (hcb _).trans hkc
          have hzb2 : w2.frozen? ⟨wo.heap.size, pre.length, none⟩ = false := hzb _
          clear hcb hzb hkc
          go_upto_region 15 with fail
          refine at_wp (fun W' => BoxAt wo.heap.size 139 (fourA (pre ++ [(⟨a.toArray⟩ : ByteArray)])) W' ∧ Keep wo W') ⟨by rw [← fourA_set pre ⟨a.toArray⟩ h4]; exact B2.out.set _ _, Below.trans K2.out (below_set _ _ _ _)⟩ ?_
          rintro W4 ⟨b4, k4⟩
          have B4 := hid b4
          have K4 := hid k4
          clear b4 k4 hcb2 hzb2
          rcases hc with ⟨rfl, hsp, hla, hlr⟩ | ⟨rfl, hsp⟩
          · have HS4 : Hid (Lib.splitK [32] 0 4 x.data.toList = (pre ++ [(⟨a.toArray⟩ : ByteArray)]).map (·.data.toList) ++ Lib.splitK [32] 0 m (⟨r.toArray⟩ : ByteArray).data.toList) := by
              show _ = _; rw [HSPL.out, hsp m]; simp
            have hrs2 : (⟨r.toArray⟩ : ByteArray).size ≤ 20000 := by rw [mk_size]; omega
            have HPR : Hid (∀ y ∈ pre ++ [(⟨a.toArray⟩ : ByteArray)], y.size ≤ 20000) := fun y hy => by
              rcases List.mem_append.1 hy with h | h
              · exact HPRS.out y h
              · rw [List.mem_singleton.1 h, mk_size]; omega
            clear hsp
            go_wp2_with fail
            go_roundg m
            case measure => omega
            case rel => exact ⟨pre ++ [⟨a.toArray⟩], ⟨r.toArray⟩, by simp; omega, by rw [List.length_append]; go_num, rfl, rfl, HS4.out, hrs2, HPR.out, B4.out, K4.out⟩
          · have HX : Hid (rdT s.data.toList = (1, j, [])) := by
              have e1 : lineE x.data.toList = 1 := by rw [HLE.out]; exact words5 (by rw [HSPL.out, hsp (m + 1)]; simp; omega)
              exact rdT_bad hlong (by decide) (by rw [HST.out, e1]; simp)
            have RT4 := hid (RT.out.on K4.out)
            obtain ⟨hcr, hzr, hlr⟩ := RT4.out.res.facts
            clear hsp
            go_wp2_with fail
            refine at_ret (v := .tuple #[.agg #[.slice none 0 0], .int .i64 j, .int .i64 1]) (fun W' => VarAt w.heap.size 44 (.slice none 0 0) W' ∧ Keep w W') ⟨RT4.out.res.set _, Below.trans RT4.out.keep (below_set _ _ _ _)⟩ rfl ?_
            rintro W ⟨hb, hk⟩
            obtain ⟨hcW, -, -⟩ := hb.facts
            refine ⟨by simp [results, Tryz.results38, go_sem, hcW], .slice none 0 0, by rw [HX.out], fun _ => rfl, by rw [HX.out]; exact Or.inl ⟨rfl, none, 0, rfl⟩, hk⟩
        · obtain rfl : gk = 0 := by omega
          obtain ⟨x0, x1, x2, x3, rfl⟩ := list4 (show pre.length = 4 by omega)
          have HW : Hid (lineE x.data.toList = if numB x1.data.toList = false ∨ numB x2.data.toList = false then 1 else rdE rest.data.toList) := by show _ = _; rw [HLE.out, HSPL.out]; rfl
          have HP : Hid (lineP x.data.toList = ⟨⟨x0.data.toList.toArray⟩, numV x1.data.toList, numV x2.data.toList, flagsW x3.data.toList, (rdText rest.data.toList).getD NT.zero⟩) := by show _ = _; rw [HLP.out, HSPL.out]; rfl
          have hx0 : x0.size ≤ 20000 := HPRS.out x0 (by simp)
          have hx1 : x1.size ≤ 20000 := HPRS.out x1 (by simp)
          have hx2 : x2.size ≤ 20000 := HPRS.out x2 (by simp)
          have hx3 : x3.size ≤ 20000 := HPRS.out x3 (by simp)
          have BX : Hid (BoxAt wo.heap.size 139 #[.string x0, .string x1, .string x2, .string x3] wr) := HBX.out
          have RTw := hid (RT.out.on HKW.out)
          obtain ⟨hcb, hzb, hlb⟩ := BX.out.facts
          clear HLE HLP HSPL HPRS HBX h4 hpre
          go_wp2_with fail
          refine (whole_any x1 wr (HE.out.keep RTw.out.keep) (by omega)).mono ?_
          rintro e w3 ⟨n1, rfl, hn1, k3⟩
          have K3 := hid (HKW.out.trans k3)
          have B3 := hid (BX.out.keep k3 BX.out.facts.2.2)
          have RT3 := hid (RTw.out.on k3)
          have HN1 := hid hn1
          clear k3 BX RTw hn1 hcb hzb
          obtain ⟨hcb, hzb, -⟩ := B3.out.facts
          generalize numB x1.data.toList = β1 at HW HN1 ⊢
          go_wp2_with fail
          refine (whole_any x2 w3 (HE.out.keep RT3.out.keep) (by omega)).mono ?_
          rintro e w4 ⟨n2, rfl, hn2, k4⟩
          have K4 := hid (K3.out.trans k4)
          have B4 := hid (B3.out.keep k4 B3.out.facts.2.2)
          have RT4 := hid (RT3.out.on k4)
          have HN2 := hid hn2
          clear k4 K3 B3 RT3 hn2 hcb hzb
          obtain ⟨hcb, hzb, -⟩ := B4.out.facts
          generalize numB x2.data.toList = β2 at HW HN2 ⊢
          go_wp2_with fail
          refine (refReadNeed_any rest w4 (HE.out.keep RT4.out.keep) (HM.out.keep RT4.out.keep) (by omega)).mono ?_
          rintro e w5 ⟨cs, rfl, hgood, hbad, k5⟩
          have K5 := hid (K4.out.trans k5)
          have B5 := hid (B4.out.keep k5 B4.out.facts.2.2)
          have RT5 := hid (RT4.out.on k5)
          have h45 : w4.heap.size ≤ w5.heap.size := k5.size
          have hww4 : wo.heap.size < w4.heap.size := B4.out.facts.2.2
          have hwwo : w.heap.size + 3 ≤ wo.heap.size := by have := RT.out.lines.1; omega
          clear k5 K4 B4 RT4 hcb hzb
          generalize hre : rdE rest.data.toList = re at HW hgood hbad ⊢
          have HER : Hid (re ≠ 0 → cs = zeroL) := hbad
          have HGD : Hid (re = 0 → ∃ t, rdText rest.data.toList = some t ∧ NeedIs (fun b => w4.heap.size ≤ b ∧ b < w5.heap.size) w5 t cs) := hgood
          clear hbad hgood hre
          by_cases hz : re = 0
          · subst hz
            obtain ⟨t, ht, hn⟩ := HGD.out rfl
            have HT : Hid ((rdText rest.data.toList).getD NT.zero = t) := by show _ = _; rw [ht]; rfl
            have HNI := hid hn
            cases htt : t with
            | node k a fl nt kids =>
            have hn' := hn
            rw [htt, NeedIs] at hn'
            obtain ⟨kp, kc, rfl, -, -, -⟩ := hn'
            clear hn ht HGD HER
            go_upto_region 21 with fail
            refine at_wp (fun W' => Keep w5 W' ∧ BoxAt w5.heap.size 26 #[.int .i64 k, .string a.n, .int .i64 a.op, .int .i64 a.v, .int .i64 a.sl, .string a.f, .bool a.on, .string fl, .bool nt, .slice kp kids.length kc] W') ⟨Keep.alloc _ _, BoxAt.new _ _ _⟩ ?_
            rintro W6 ⟨k6, n6⟩
            have K6 := hid (K5.out.trans k6)
            have K56 := hid k6
            have N6 := hid n6
            have B6 := hid (B5.out.keep k6 B5.out.facts.2.2)
            have RT6 := hid (RT5.out.on k6)
            have NI6 : Hid (NeedIs (fun b => w4.heap.size ≤ b ∧ b < w5.heap.size) W6 t #[.int .i64 k, .string a.n, .int .i64 a.op, .int .i64 a.v, .int .i64 a.sl, .string a.f, .bool a.on, .string fl, .bool nt, .slice kp kids.length kc].toList) := HNI.out.keep (fun _ h => h.2) k6
            clear k6 n6 K5 B5 RT5 HNI
            cases β1
            · have HX : Hid (rdT s.data.toList = (1, j, [])) := rdT_bad hlong (by decide) (by have e1 : lineE x.data.toList = 1 := (by rw [HW.out]; simp); rw [HST.out, e1]; simp)
              obtain ⟨hcr, hzr, hlr⟩ := RT6.out.res.facts
              go_wp2_with fail
              refine at_ret (v := .tuple #[.agg #[.slice none 0 0], .int .i64 j, .int .i64 1]) (fun W' => VarAt w.heap.size 44 (.slice none 0 0) W' ∧ Keep w W') ⟨RT6.out.res.set _, Below.trans RT6.out.keep (below_set _ _ _ _)⟩ rfl ?_
              rintro W ⟨hb, hk⟩
              obtain ⟨hcW, -, -⟩ := hb.facts
              refine ⟨by simp [results, Tryz.results38, go_sem, hcW], .slice none 0 0, by rw [HX.out], fun _ => rfl, by rw [HX.out]; exact Or.inl ⟨rfl, none, 0, rfl⟩, hk⟩
            cases β2
            · have HX : Hid (rdT s.data.toList = (1, j, [])) := rdT_bad hlong (by decide) (by have e1 : lineE x.data.toList = 1 := (by rw [HW.out]; simp); rw [HST.out, e1]; simp)
              obtain ⟨hcr, hzr, hlr⟩ := RT6.out.res.facts
              go_wp2_with fail
              refine at_ret (v := .tuple #[.agg #[.slice none 0 0], .int .i64 j, .int .i64 1]) (fun W' => VarAt w.heap.size 44 (.slice none 0 0) W' ∧ Keep w W') ⟨RT6.out.res.set _, Below.trans RT6.out.keep (below_set _ _ _ _)⟩ rfl ?_
              rintro W ⟨hb, hk⟩
              obtain ⟨hcW, -, -⟩ := hb.facts
              refine ⟨by simp [results, Tryz.results38, go_sem, hcW], .slice none 0 0, by rw [HX.out], fun _ => rfl, by rw [HX.out]; exact Or.inl ⟨rfl, none, 0, rfl⟩, hk⟩
            have HX0 : Hid (lineE x.data.toList = 0) := by show _ = _; rw [HW.out]; simp
            have HS7 : Hid (rdLs (s.data.toList.length + 1) s.data.toList 0 [] = rdSp ((ws.map (·.data.toList)).drop (j + 1)) (j + 1) (acc ++ [lineP x.data.toList])) := by show _ = _; rw [HST.out, HX0.out]; simp
            obtain rfl := HN1.out rfl
            obtain rfl := HN2.out rfl
            obtain ⟨hcb, hzb, hlb6⟩ := B6.out.facts
            obtain ⟨hcn, hzn, hln⟩ := N6.out.facts
            clear HW HN1 HN2 HST HX0
            go_upto_region 26 with fail
            refine at_wp (fun W' => Keep W6 W' ∧ BoxAt W6.heap.size 58 #[.string x0, .int .i64 (numV x1.data.toList), .int .i64 (numV x2.data.toList), .slice none 0 0, .int .i64 k, .string a.n, .int .i64 a.op, .int .i64 a.v, .int .i64 a.sl, .string a.f, .bool a.on, .string fl, .bool nt, .slice kp kids.length kc] W') ⟨Keep.alloc _ _, BoxAt.new _ _ _⟩ ?_
            rintro W7 ⟨k7, p7⟩
            have K67 := hid k7
            have P7 := hid p7
            have B7 := hid (B6.out.keep k7 B6.out.facts.2.2)
            have h67 : W6.heap.size < W7.heap.size := p7.facts.2.2
            have h56 : w5.heap.size ≤ W6.heap.size := K56.out.size
            clear k7 p7 B6 N6 hcb hzb hcn hzn
            obtain ⟨hcb, hzb, -⟩ := B7.out.facts
            rcases word_is x3 [] with ⟨h1, h2, h3⟩ | ⟨h1, h2, h3⟩
            · have HF : Hid (flagsW x3.data.toList = []) := by show _ = _; unfold flagsW; rw [if_pos h1]
              clear h1
              go_upto_region 28 with fail
              obtain ⟨fp, fc, hfv⟩ : ∃ (fp : Option Addr) (fc : Nat), Value.slice none 0 0 = .slice fp (flagsW x3.data.toList).length fc := ⟨none, 0, by rw [HF.out]; rfl⟩
              refine at_wp (fun W' => Keep W6 W' ∧ BoxAt W6.heap.size 58 #[.string x0, .int .i64 (numV x1.data.toList), .int .i64 (numV x2.data.toList), .slice fp (flagsW x3.data.toList).length fc, .int .i64 k, .string a.n, .int .i64 a.op, .int .i64 a.v, .int .i64 a.sl, .string a.f, .bool a.on, .string fl, .bool nt, .slice kp kids.length kc] W' ∧ StrsIs (fun b => W6.heap.size ≤ b ∧ b < W'.heap.size) W' (flagsW x3.data.toList) (.slice fp (flagsW x3.data.toList).length fc)) ⟨K67.out, by rw [← hfv]; exact P7.out, by rw [← hfv]; exact Or.inl ⟨HF.out, none, 0, rfl⟩⟩ ?_
              rintro W9 ⟨k9, p9, f9⟩
              have K69 := hid k9
              have P9 := hid p9
              have F9 := hid f9
              clear k9 p9 f9 hfv HF
              -- at hand: W9, P9 (the package's block), F9 (its flags), K69 : Keep W6 W9
              have RT9 := hid (RT6.out.on K69.out)
              have PK9 : Hid (PkgIs (fun b => w4.heap.size ≤ b ∧ b < W9.heap.size) W9 ⟨x0, numV x1.data.toList, numV x2.data.toList, flagsW x3.data.toList, t⟩ [.string x0, .int .i64 (numV x1.data.toList), .int .i64 (numV x2.data.toList), .slice fp (flagsW x3.data.toList).length fc, .int .i64 k, .string a.n, .int .i64 a.op, .int .i64 a.v, .int .i64 a.sl, .string a.f, .bool a.on, .string fl, .bool nt, .slice kp kids.length kc]) := by
                have h69 : W6.heap.size ≤ W9.heap.size := K69.out.size
                refine ⟨_, _, rfl, ?_, ?_⟩
                · exact StrsIs.mono (fun _ _ => rfl) (fun b hb => ⟨by have := hb.1; omega, hb.2⟩) F9.out
                · exact NeedIs.mono (fun p hp => K69.out.cell (p := p) (by have := hp.2; omega)) (fun b hb => ⟨hb.1, by have := hb.2; omega⟩) _ _ NI6.out
              have HP9 : Hid (lineP x.data.toList = ⟨x0, numV x1.data.toList, numV x2.data.toList, flagsW x3.data.toList, t⟩) := by show _ = _; rw [HP.out, HT.out, bytes_back]
              have HOWN := hid RT.out.row.own
              obtain ⟨csl, d1, d2, d3, d4⟩ := RT9.out.row
              have HC3 := hid d3
              have HC4 := hid d4
              obtain ⟨hcp, hzp, hlp⟩ := P9.out.facts
              obtain ⟨hct, hzt, hlt9⟩ := RT9.out.var.facts
              have hjl : acc.length ≤ 20001 := by rw [HACC.out]; omega
              clear d3 d4 HP hcb hzb
              go_wp2_with (at_builtin; refine wpList_append_own_at _ rfl _ _ 42 rfl (w.heap.size + 3) 58 i0 (.agg #[.string ⟨#[]⟩, .int .i64 0, .int .i64 0, .slice none 0 0, .int .i64 0, .string ⟨#[]⟩, .int .i64 0, .int .i64 0, .int .i64 0, .string ⟨#[]⟩, .bool false, .string ⟨#[]⟩, .bool false, .slice none 0 0]) 14 176 Tryz.underlying42 hi hz0 hz1 hz2 rfl (by decide) tv acc.length csl.flatten rfl (HC3.out.alloc _) ⟨W9.heap.size, 0, none⟩ 1 1 [.string x0, .int .i64 (numV x1.data.toList), .int .i64 (numV x2.data.toList), .slice fp (flagsW x3.data.toList).length fc, .int .i64 k, .string a.n, .int .i64 a.op, .int .i64 a.v, .int .i64 a.sl, .string a.f, .bool a.on, .string fl, .bool nt, .slice kp kids.length kc] rfl rfl many_news (by intro u hu; simp at hu; rcases hu with rfl | rfl | rfl | rfl | rfl | rfl | rfl | rfl | rfl | rfl | rfl | rfl | rfl | rfl <;> rfl) (by unfold maxLen; omega) (by omega) (by have := alloc_size W9 (.cells #[.string x0, .int .i64 (numV x1.data.toList), .int .i64 (numV x2.data.toList), .slice fp (flagsW x3.data.toList).length fc, .int .i64 k, .string a.n, .int .i64 a.op, .int .i64 a.v, .int .i64 a.sl, .string a.f, .bool a.on, .string fl, .bool nt, .slice kp kids.length kc] 58); omega) ?_)
              intro v5 w10 h1 h2 _ h4
              obtain ⟨g5, cap5, rfl⟩ := owns_shape h1 (Nat.succ_pos _)
              have hne5 : tv.ownBlock ≠ some (w.heap.size + 1) := fun e => by have := HOWN.out _ e; omega
              have V5 := hid (RT9.out.var.grown h2 hne5)
              have row5 := hid (PkgRow.push (B' := w4.heap.size) d1 d2 HC4.out (by omega) (fun g' hg' => by have := (HOWN.out g' hg').2; omega) PK9.out rfl (by simpa using h1) h2 (by rw [alloc_size]; exact h4))
              have L5 : Hid (Below (w.heap.size + 3) W9 w10) := ((Below.refl _ W9).alloc (by omega) _).grown h2 (by have := alloc_size W9 (.cells #[.string x0, .int .i64 (numV x1.data.toList), .int .i64 (numV x2.data.toList), .slice fp (flagsW x3.data.toList).length fc, .int .i64 k, .string a.n, .int .i64 a.op, .int .i64 a.v, .int .i64 a.sl, .string a.f, .bool a.on, .string fl, .bool nt, .slice kp kids.length kc] 58); omega) (fun g' hg' => (HOWN.out g' hg').1)
              obtain ⟨hc5, hz5, hl5⟩ := V5.out.facts
              clear h1 h2 h4 hct hzt hcp hzp hne5 HC3 HC4
              have RT10 : Hid (RtEnv w (w.heap.size + 2) ws (.slice (some ⟨g5, 0, none⟩) (acc.length + 1) cap5) (acc ++ [⟨x0, numV x1.data.toList, numV x2.data.toList, flagsW x3.data.toList, t⟩]) (w10.setCell ⟨w.heap.size + 1, 0, none⟩ (.slice (some ⟨g5, 0, none⟩) (acc.length + 1) cap5))) := by
                refine ⟨Below.trans (Below.trans RT9.out.keep (L5.out.mono (by omega))) ((below_set _ _ _ _).mono (by omega)), ?_, V5.out.set _, ?_, ?_⟩
                · exact (RT9.out.res.keep L5.out (by omega)).apart (one_setO _ _ _ _) (by omega)
                · exact row5.out.other (by rw [set_size]; exact Nat.le_refl _) (fun b hb _ => set_other w10 (w.heap.size + 1) 0 _ b (by omega))
                · refine ⟨by rw [set_size]; exact (RT9.out.lines.below L5.out (by omega)).1, fun i y hy => ?_⟩
                  exact (World.cell?_of_block (w := w10) (set_other w10 (w.heap.size + 1) 0 _ _ (by show w.heap.size + 2 ≠ _; omega))).trans ((RT9.out.lines.below L5.out (by omega)).2 i y hy)
              have HN7 : Hid (rdSp (ws.map (·.data.toList)) 0 [] = rdSp ((ws.map (·.data.toList)).drop (j + 1)) (j + 1) (acc ++ [⟨x0, numV x1.data.toList, numV x2.data.toList, flagsW x3.data.toList, t⟩])) := by show _ = _; rw [← HP9.out, ← HS7.out, HSP.out]
              have hjj : j + 1 < ws.length := by have := HLJ.out; omega
              go_wp2_with fail
              go_roundg (ws.length - (j + 1))
              case measure => omega
              case rel => exact ⟨j + 1, _, _, by omega, by omega, by go_num, HN7.out, by rw [List.length_append, HACC.out]; rfl, RT10.out⟩
            · have HF : Hid (flagsW x3.data.toList = (Lib.split x3.data.toList [44]).map fun x => ⟨x.toArray⟩) := by show _ = _; unfold flagsW; rw [if_neg h1]
              obtain ⟨hml, mm, hmm⟩ := HM.out.keep (RT6.out.keep.trans K67.out)
              have hl := Lib.splitB_all ⟨#[44]⟩ (by decide) 0 _ x3 rfl
              have hc := Lib.countB_le ⟨#[44]⟩ (by decide) x3.size x3 (Nat.le_refl _)
              have hd : (Lib.splitB ⟨#[44]⟩ 0 (Lib.countB x3 ⟨#[44]⟩) x3).map (·.data.toList) = Lib.split x3.data.toList [44] := Lib.splitB_data ⟨#[44]⟩ 0 _ x3
              have HFS : Hid (flagsW x3.data.toList = Lib.splitB ⟨#[44]⟩ 0 (Lib.countB x3 ⟨#[44]⟩) x3) := by
                show _ = _
                rw [HF.out, ← hd, List.map_map]
                conv => rhs; rw [← List.map_id (Lib.splitB ⟨#[44]⟩ 0 (Lib.countB x3 ⟨#[44]⟩) x3)]
                apply List.map_congr_left
                intro x _; exact bytes_back x
              have HL := hid hl
              have HC := hid hc
              clear h1 hd hl hc HF
              go_wp2_with fail
              refine (Tryz.strings_Split x3 ⟨#[44]⟩ mm W7 (by omega) hmm (by decide)).mono ?_
              rintro e w8 ⟨rfl, hw8⟩
              have K8 : Hid (Keep W7 w8) := by rw [hw8]; exact Keep.alloc _ _
              have HS1 : Hid (w8.heap.size = W7.heap.size + 1) := by show _ = _; rw [hw8, alloc_size]
              have HC1 : Hid (∀ (j : Nat) (x : ByteArray), (Lib.splitB ⟨#[44]⟩ 0 (Lib.countB x3 ⟨#[44]⟩) x3)[j]? = some x → w8.cell? ⟨W7.heap.size, 0 + j, none⟩ = some (.string x)) := by
                intro j x hx
                rw [hw8]
                have := many_news (w := W7) (cs := (Lib.splitB ⟨#[44]⟩ 0 (Lib.countB x3 ⟨#[44]⟩) x3).map Value.string) (T := 9) j (.string x) (by simp [hx])
                rwa [Addr.add_mid] at this
              have hlen8 : (flagsW x3.data.toList).length = Lib.countB x3 ⟨#[44]⟩ + 1 := by rw [HFS.out, HL.out]
              have F8 : Hid (StrsIs (fun b => W7.heap.size ≤ b ∧ b < w8.heap.size) w8 (flagsW x3.data.toList) (.slice (some ⟨W7.heap.size, 0, none⟩) (flagsW x3.data.toList).length (flagsW x3.data.toList).length)) := by
                refine Or.inr ⟨W7.heap.size, 0, (flagsW x3.data.toList).length, rfl, ⟨⟨Nat.le_refl _, by rw [HS1.out]; omega⟩, Nat.le_refl _⟩, ?_, ?_⟩
                · have := HC.out; omega
                · rw [HFS.out]; exact HC1.out
              have P8 := hid (P7.out.keep K8.out P7.out.facts.2.2)
              obtain ⟨hcp, hzp, hlp⟩ := P8.out.facts
              rw [← hlen8]
              clear hw8 hmm hml hlen8 HFS HL HC HC1 hcb hzb
              obtain ⟨hcb, hzb, -⟩ := (B7.out.keep K8.out B7.out.facts.2.2).facts
              generalize hn8 : (flagsW x3.data.toList).length = n8 at F8 ⊢
              go_upto_region 28 with fail
              obtain ⟨fp, fc, hfv⟩ : ∃ (fp : Option Addr) (fc : Nat), Value.slice (some ⟨W7.heap.size, 0, none⟩) n8 n8 = .slice fp (flagsW x3.data.toList).length fc := ⟨_, n8, by rw [hn8]⟩
              refine at_wp (fun W' => Keep W6 W' ∧ BoxAt W6.heap.size 58 #[.string x0, .int .i64 (numV x1.data.toList), .int .i64 (numV x2.data.toList), .slice fp (flagsW x3.data.toList).length fc, .int .i64 k, .string a.n, .int .i64 a.op, .int .i64 a.v, .int .i64 a.sl, .string a.f, .bool a.on, .string fl, .bool nt, .slice kp kids.length kc] W' ∧ StrsIs (fun b => W6.heap.size ≤ b ∧ b < W'.heap.size) W' (flagsW x3.data.toList) (.slice fp (flagsW x3.data.toList).length fc)) ?_ ?_
              · rw [← hfv]
                refine ⟨Below.trans (K67.out.trans K8.out) (below_set _ _ _ _), P8.out.set 3 _, ?_⟩
                exact StrsIs.mono (fun p hp => World.cell?_of_block (w := w8) (set_other w8 W6.heap.size 3 _ _ (by have := hp.1; omega))) (fun b hb => ⟨by have := hb.1; omega, by rw [set_size]; exact hb.2⟩) F8.out
              rintro W9 ⟨k9, p9, f9⟩
              have K69 := hid k9
              have P9 := hid p9
              have F9 := hid f9
              clear k9 p9 f9 hfv F8 P8 hcp hzp hn8
              -- at hand: W9, P9 (the package's block), F9 (its flags), K69 : Keep W6 W9
              have RT9 := hid (RT6.out.on K69.out)
              have PK9 : Hid (PkgIs (fun b => w4.heap.size ≤ b ∧ b < W9.heap.size) W9 ⟨x0, numV x1.data.toList, numV x2.data.toList, flagsW x3.data.toList, t⟩ [.string x0, .int .i64 (numV x1.data.toList), .int .i64 (numV x2.data.toList), .slice fp (flagsW x3.data.toList).length fc, .int .i64 k, .string a.n, .int .i64 a.op, .int .i64 a.v, .int .i64 a.sl, .string a.f, .bool a.on, .string fl, .bool nt, .slice kp kids.length kc]) := by
                have h69 : W6.heap.size ≤ W9.heap.size := K69.out.size
                refine ⟨_, _, rfl, ?_, ?_⟩
                · exact StrsIs.mono (fun _ _ => rfl) (fun b hb => ⟨by have := hb.1; omega, hb.2⟩) F9.out
                · exact NeedIs.mono (fun p hp => K69.out.cell (p := p) (by have := hp.2; omega)) (fun b hb => ⟨hb.1, by have := hb.2; omega⟩) _ _ NI6.out
              have HP9 : Hid (lineP x.data.toList = ⟨x0, numV x1.data.toList, numV x2.data.toList, flagsW x3.data.toList, t⟩) := by show _ = _; rw [HP.out, HT.out, bytes_back]
              have HOWN := hid RT.out.row.own
              obtain ⟨csl, d1, d2, d3, d4⟩ := RT9.out.row
              have HC3 := hid d3
              have HC4 := hid d4
              obtain ⟨hcp, hzp, hlp⟩ := P9.out.facts
              obtain ⟨hct, hzt, hlt9⟩ := RT9.out.var.facts
              have hjl : acc.length ≤ 20001 := by rw [HACC.out]; omega
              clear d3 d4 HP hcb hzb
              go_wp2_with (at_builtin; refine wpList_append_own_at _ rfl _ _ 42 rfl (w.heap.size + 3) 58 i0 (.agg #[.string ⟨#[]⟩, .int .i64 0, .int .i64 0, .slice none 0 0, .int .i64 0, .string ⟨#[]⟩, .int .i64 0, .int .i64 0, .int .i64 0, .string ⟨#[]⟩, .bool false, .string ⟨#[]⟩, .bool false, .slice none 0 0]) 14 176 Tryz.underlying42 hi hz0 hz1 hz2 rfl (by decide) tv acc.length csl.flatten rfl (HC3.out.alloc _) ⟨W9.heap.size, 0, none⟩ 1 1 [.string x0, .int .i64 (numV x1.data.toList), .int .i64 (numV x2.data.toList), .slice fp (flagsW x3.data.toList).length fc, .int .i64 k, .string a.n, .int .i64 a.op, .int .i64 a.v, .int .i64 a.sl, .string a.f, .bool a.on, .string fl, .bool nt, .slice kp kids.length kc] rfl rfl many_news (by intro u hu; simp at hu; rcases hu with rfl | rfl | rfl | rfl | rfl | rfl | rfl | rfl | rfl | rfl | rfl | rfl | rfl | rfl <;> rfl) (by unfold maxLen; omega) (by omega) (by have := alloc_size W9 (.cells #[.string x0, .int .i64 (numV x1.data.toList), .int .i64 (numV x2.data.toList), .slice fp (flagsW x3.data.toList).length fc, .int .i64 k, .string a.n, .int .i64 a.op, .int .i64 a.v, .int .i64 a.sl, .string a.f, .bool a.on, .string fl, .bool nt, .slice kp kids.length kc] 58); omega) ?_)
              intro v5 w10 h1 h2 _ h4
              obtain ⟨g5, cap5, rfl⟩ := owns_shape h1 (Nat.succ_pos _)
              have hne5 : tv.ownBlock ≠ some (w.heap.size + 1) := fun e => by have := HOWN.out _ e; omega
              have V5 := hid (RT9.out.var.grown h2 hne5)
              have row5 := hid (PkgRow.push (B' := w4.heap.size) d1 d2 HC4.out (by omega) (fun g' hg' => by have := (HOWN.out g' hg').2; omega) PK9.out rfl (by simpa using h1) h2 (by rw [alloc_size]; exact h4))
              have L5 : Hid (Below (w.heap.size + 3) W9 w10) := ((Below.refl _ W9).alloc (by omega) _).grown h2 (by have := alloc_size W9 (.cells #[.string x0, .int .i64 (numV x1.data.toList), .int .i64 (numV x2.data.toList), .slice fp (flagsW x3.data.toList).length fc, .int .i64 k, .string a.n, .int .i64 a.op, .int .i64 a.v, .int .i64 a.sl, .string a.f, .bool a.on, .string fl, .bool nt, .slice kp kids.length kc] 58); omega) (fun g' hg' => (HOWN.out g' hg').1)
              obtain ⟨hc5, hz5, hl5⟩ := V5.out.facts
              clear h1 h2 h4 hct hzt hcp hzp hne5 HC3 HC4
              have RT10 : Hid (RtEnv w (w.heap.size + 2) ws (.slice (some ⟨g5, 0, none⟩) (acc.length + 1) cap5) (acc ++ [⟨x0, numV x1.data.toList, numV x2.data.toList, flagsW x3.data.toList, t⟩]) (w10.setCell ⟨w.heap.size + 1, 0, none⟩ (.slice (some ⟨g5, 0, none⟩) (acc.length + 1) cap5))) := by
                refine ⟨Below.trans (Below.trans RT9.out.keep (L5.out.mono (by omega))) ((below_set _ _ _ _).mono (by omega)), ?_, V5.out.set _, ?_, ?_⟩
                · exact (RT9.out.res.keep L5.out (by omega)).apart (one_setO _ _ _ _) (by omega)
                · exact row5.out.other (by rw [set_size]; exact Nat.le_refl _) (fun b hb _ => set_other w10 (w.heap.size + 1) 0 _ b (by omega))
                · refine ⟨by rw [set_size]; exact (RT9.out.lines.below L5.out (by omega)).1, fun i y hy => ?_⟩
                  exact (World.cell?_of_block (w := w10) (set_other w10 (w.heap.size + 1) 0 _ _ (by show w.heap.size + 2 ≠ _; omega))).trans ((RT9.out.lines.below L5.out (by omega)).2 i y hy)
              have HN7 : Hid (rdSp (ws.map (·.data.toList)) 0 [] = rdSp ((ws.map (·.data.toList)).drop (j + 1)) (j + 1) (acc ++ [⟨x0, numV x1.data.toList, numV x2.data.toList, flagsW x3.data.toList, t⟩])) := by show _ = _; rw [← HP9.out, ← HS7.out, HSP.out]
              have hjj : j + 1 < ws.length := by have := HLJ.out; omega
              go_wp2_with fail
              go_roundg (ws.length - (j + 1))
              case measure => omega
              case rel => exact ⟨j + 1, _, _, by omega, by omega, by go_num, HN7.out, by rw [List.length_append, HACC.out]; rfl, RT10.out⟩
          · obtain rfl := HER.out hz
            have hz1 : (re == 0) = false := by simp [hz]
            have hz2 : (re != 0) = true := by simp [hz]
            have HZ := hid hz
            clear hz HGD HER
            unfold zeroL
            go_upto_region 21 with fail
            refine at_wp (fun W' => Keep w5 W') (Keep.alloc _ _) ?_
            intro W6 k6
            have RT6 := hid (RT5.out.on k6)
            clear k6 K5 B5 RT5
            cases β1
            · have HX : Hid (rdT s.data.toList = (1, j, [])) := rdT_bad hlong (by decide) (by have e1 : lineE x.data.toList = 1 := (by rw [HW.out]; simp); rw [HST.out, e1]; simp)
              obtain ⟨hcr, hzr, hlr⟩ := RT6.out.res.facts
              go_wp2_with fail
              refine at_ret (v := .tuple #[.agg #[.slice none 0 0], .int .i64 j, .int .i64 1]) (fun W' => VarAt w.heap.size 44 (.slice none 0 0) W' ∧ Keep w W') ⟨RT6.out.res.set _, Below.trans RT6.out.keep (below_set _ _ _ _)⟩ rfl ?_
              rintro W ⟨hb, hk⟩
              obtain ⟨hcW, -, -⟩ := hb.facts
              refine ⟨by simp [results, Tryz.results38, go_sem, hcW], .slice none 0 0, by rw [HX.out], fun _ => rfl, by rw [HX.out]; exact Or.inl ⟨rfl, none, 0, rfl⟩, hk⟩
            cases β2
            · have HX : Hid (rdT s.data.toList = (1, j, [])) := rdT_bad hlong (by decide) (by have e1 : lineE x.data.toList = 1 := (by rw [HW.out]; simp); rw [HST.out, e1]; simp)
              obtain ⟨hcr, hzr, hlr⟩ := RT6.out.res.facts
              go_wp2_with fail
              refine at_ret (v := .tuple #[.agg #[.slice none 0 0], .int .i64 j, .int .i64 1]) (fun W' => VarAt w.heap.size 44 (.slice none 0 0) W' ∧ Keep w W') ⟨RT6.out.res.set _, Below.trans RT6.out.keep (below_set _ _ _ _)⟩ rfl ?_
              rintro W ⟨hb, hk⟩
              obtain ⟨hcW, -, -⟩ := hb.facts
              refine ⟨by simp [results, Tryz.results38, go_sem, hcW], .slice none 0 0, by rw [HX.out], fun _ => rfl, by rw [HX.out]; exact Or.inl ⟨rfl, none, 0, rfl⟩, hk⟩
            have HX : Hid (rdT s.data.toList = (re, j, [])) := rdT_bad hlong HZ.out (by have e1 : lineE x.data.toList = re := (by rw [HW.out]; simp); rw [HST.out, e1, if_pos HZ.out])
            obtain ⟨hcr, hzr, hlr⟩ := RT6.out.res.facts
            go_wp2_with fail
            refine at_ret (v := .tuple #[.agg #[.slice none 0 0], .int .i64 j, .int .i64 re]) (fun W' => VarAt w.heap.size 44 (.slice none 0 0) W' ∧ Keep w W') ⟨RT6.out.res.set _, Below.trans RT6.out.keep (below_set _ _ _ _)⟩ rfl ?_
            rintro W ⟨hb, hk⟩
            obtain ⟨hcW, -, -⟩ := hb.facts
            refine ⟨by simp [results, Tryz.results38, go_sem, hcW], .slice none 0 0, by rw [HX.out], fun _ => rfl, by rw [HX.out]; exact Or.inl ⟨rfl, none, 0, rfl⟩, hk⟩
end Go.Proofs.YtkckkjpkidcbnaaGreatDoor
