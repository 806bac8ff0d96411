/- quartermasterref.CheckNeed answers with the error that chkN says, of any need that lies in memory. -/
import Derived.Test.YtkckkjpkidcbnaaGreatDoorRefSame
import Derived.Test.YtkckkjpkidcbnaaGreatDoorRefCheck
import Derived.Laws.EntriesVeiled
namespace Go.Proofs.YtkckkjpkidcbnaaGreatDoor
open Go.RowKit

mutual
/-- The first error, each node ahead of its kids. -/
def errW : NT → Int
  | .node k a fl nt kids => if nodeE (.node k a fl nt kids) ≠ 0 then nodeE (.node k a fl nt kids) else errL kids
def errL : List NT → Int
  | [] => 0
  | t :: ts => if errW t ≠ 0 then errW t else errL ts
end
mutual
theorem walkE_err (inc : Int → Int) : ∀ (t : NT) (s d : Int), walkS inc fE s t d = (errW t, errW t == 0)
  | .node k a fl nt kids, s, d => by
    rw [walkS, errW]
    by_cases h : nodeE (.node k a fl nt kids) = 0
    · have e : (fE s (.node k a fl nt kids) d).2 = true := by simp [fE, h]
      have e1 : (fE s (.node k a fl nt kids) d).1 = 0 := by simp [fE, h]
      rw [if_pos e, e1, if_neg (by simp [h]), kidsE_err]
    · have e : ¬ (fE s (.node k a fl nt kids) d).2 = true := by simp [fE, h]
      rw [if_neg e, if_pos h]
      refine Prod.ext rfl ?_
      simp [h]
theorem kidsE_err (inc : Int → Int) : ∀ (ts : List NT) (d : Int), kidsS inc fE 0 ts d = (errL ts, errL ts == 0)
  | [], d => by rw [kidsS, errL]; rfl
  | t :: ts, d => by
    rw [kidsS, walkE_err inc t 0 d, errL]
    by_cases h : errW t = 0
    · rw [if_pos (by simp [h]), if_neg (by simp [h]), h, kidsE_err]
    · rw [if_neg (by simp [h]), if_pos h]
      refine Prod.ext rfl ?_
      simp [h]
end
theorem chkN_err (t : NT) : chkN t = if largeB t = true then 2 else errW t := by
  unfold chkN; rw [walkE_err]

theorem errW_nil (k : Int) (a : At) (fl : ByteArray) (n : Bool) : errW (.node k a fl n []) = nodeE (.node k a fl n []) := by
  rw [errW, errL]
  split
  · rfl
  · rename_i h
    simp at h
    exact h.symm
theorem nodeE_one (k : Int) (a : At) (fl : ByteArray) (n : Bool) (hk : k = 1 ∨ k = 2) : nodeE (.node k a fl n []) = if (fl.toList.isEmpty && !n) = true then chkA a else 4 := by
  rw [nodeE]
  rcases hk with rfl | rfl
  · cases h : fl.toList.isEmpty <;> cases n <;> simp [formB, leafB, h]
  · cases h : fl.toList.isEmpty <;> cases n <;> simp [formB, leafB, h]

/-- The variable that holds the closure itself. -/
def SelfAt (c : Nat) (w : World) : Prop := VarAt c 35 (.func (.func 64) #[] #[.pointer (some ⟨c, 0, none⟩)]) w
theorem enter_refCheck (args : Array Value) (w : World) : (callFunc 64 args).run Tryz.prog w = .ok (.enter 64 args) w := enters_of Tryz.func64 (by kernel_rfl) rfl args w

set_option maxHeartbeats 4000000 in
set_option maxRecDepth 100000 in
theorem refWalk_any (c : Nat) (S : Nat → Prop) : ∀ (m : Nat) (t : NT), t.size ≤ m → ∀ (cs : List Value) (w : World), (∀ b, S b → b < w.heap.size) → SelfAt c w → NeedIs S w t cs →
    Calls Tryz.prog 64 #[.agg cs.toArray, .pointer (some ⟨c, 0, none⟩)] w fun e w' => e = .returned (.int .i64 (errW t)) ∧ Keep w w' := by
  intro m
  induction m with
  | zero =>
    rintro ⟨k, a, fl, nt, kids⟩ hm
    rw [NT.size] at hm; omega
  | succ m ih =>
    rintro ⟨k, a, fl, nt, kids⟩ hm cs w hS hself hn
    rw [NT.size] at hm
    rw [NeedIs] at hn
    obtain ⟨kp, kc, rfl, hcap, hmax, hkids⟩ := hn
    have hent := enter_refCheck
    have HK := hid hkids
    have HIH := hid ih
    have HV : Hid (VarAt c 35 (.func (.func 64) #[] #[.pointer (some ⟨c, 0, none⟩)]) w) := hself
    have KB0 := hid (Keep.alloc w (.cells #[.int .i64 k, .string a.n, .int .i64 a.op, .int .i64 a.v, .int .i64 a.sl, .string a.f, .bool a.on, .string fl, .bool nt, .slice kp kids.length kc] 26))
    have HB0 : Hid (Boxed w.heap.size #[.int .i64 k, .string a.n, .int .i64 a.op, .int .i64 a.v, .int .i64 a.sl, .string a.f, .bool a.on, .string fl, .bool nt, .slice kp kids.length kc] (w.alloc (.cells #[.int .i64 k, .string a.n, .int .i64 a.op, .int .i64 a.v, .int .i64 a.sl, .string a.f, .bool a.on, .string fl, .bool nt, .slice kp kids.length kc] 26))) := Boxed.new w #[.int .i64 k, .string a.n, .int .i64 a.op, .int .i64 a.v, .int .i64 a.sl, .string a.f, .bool a.on, .string fl, .bool nt, .slice kp kids.length kc] 26
    clear ih hkids hself
    go_enter Tryz.func64, Tryz.ntmps64
    go_upto_region 1 with fail
    generalize w.alloc (.cells #[.int .i64 k, .string a.n, .int .i64 a.op, .int .i64 a.v, .int .i64 a.sl, .string a.f, .bool a.on, .string fl, .bool nt, .slice kp kids.length kc] 26) = W0 at KB0 HB0 ⊢
    have hc0 := HB0.out.2
    have hl0 := HB0.out.1
    have KBW := KB0
    by_cases hk1 : k < 1
    · have q1 : (k == 1) = false := by simp; omega
      have q2 : (k == 2) = false := by simp; omega
      have HE : Hid (errW (.node k a fl nt kids) = 4) := by
        show _ = _
        rw [errW, show nodeE (.node k a fl nt kids) = 4 by rw [nodeE, if_pos]; simp [formB]; omega]; rfl
      go_wp2_with fail
      go_ret
      exact ⟨ret_int HE.out.symm, KBW.out⟩
    · by_cases hk5 : 5 < k
      · have q1 : (k == 1) = false := by simp; omega
        have q2 : (k == 2) = false := by simp; omega
        have HE : Hid (errW (.node k a fl nt kids) = 4) := by
          show _ = _
          rw [errW, show nodeE (.node k a fl nt kids) = 4 by rw [nodeE, if_pos]; simp [formB]; omega]; rfl
        go_wp2_with fail
        go_ret
        exact ⟨ret_int HE.out.symm, KBW.out⟩
      · have hk : k = 1 ∨ k = 2 ∨ k = 3 ∨ k = 4 ∨ k = 5 := by omega
        clear hk1 hk5
        rcases hk with rfl | rfl | rfl | rfl | rfl
        · by_cases hlen : kids = []
          · have HE0 : Hid (∀ n, errW (.node 1 a fl n kids) = if (fl.toList.isEmpty && !n) = true then chkA a else 4) := fun n => by
              rw [hlen, errW_nil, nodeE_one 1 a fl n (by decide)]
            have hl0' : kids.length = 0 := by rw [hlen]; rfl
            cases hfe : fl.toList.isEmpty <;> cases nt
            · have HE := hid (HE0.out false)
              rw [hfe] at HE
              go_wp2_with fail
              go_ret
              exact ⟨ret_int HE.out.symm, KBW.out⟩
            · have HE := hid (HE0.out true)
              rw [hfe] at HE
              go_wp2_with fail
              go_ret
              exact ⟨ret_int HE.out.symm, KBW.out⟩
            · have HE := hid (HE0.out false)
              rw [hfe] at HE
              go_wp2_with fail
              refine (refCheck_any _ _ _ _ _ _ _).mono ?_
              rintro e w3 ⟨rfl, k3⟩
              have K3 := hid (KBW.out.trans k3)
              clear k3
              go_wp2_with fail
              go_ret
              exact ⟨ret_int HE.out.symm, K3.out⟩
            · have HE := hid (HE0.out true)
              rw [hfe] at HE
              go_wp2_with fail
              go_ret
              exact ⟨ret_int HE.out.symm, KBW.out⟩
          · have hpos : 0 < kids.length := List.length_pos_iff.2 hlen
            have hne0 : ((kids.length : Int) != 0) = true := by simp; omega
            have HE : Hid (errW (.node 1 a fl nt kids) = 4) := by
              show _ = _
              rw [errW, show nodeE (.node 1 a fl nt kids) = 4 by rw [nodeE, if_pos]; simp [formB, leafB, hpos]]; rfl
            go_wp2_with fail
            go_ret
            exact ⟨ret_int HE.out.symm, KBW.out⟩
        · by_cases hlen : kids = []
          · have HE0 : Hid (∀ n, errW (.node 2 a fl n kids) = if (fl.toList.isEmpty && !n) = true then chkA a else 4) := fun n => by
              rw [hlen, errW_nil, nodeE_one 2 a fl n (by decide)]
            have hl0' : kids.length = 0 := by rw [hlen]; rfl
            cases hfe : fl.toList.isEmpty <;> cases nt
            · have HE := hid (HE0.out false)
              rw [hfe] at HE
              go_wp2_with fail
              go_ret
              exact ⟨ret_int HE.out.symm, KBW.out⟩
            · have HE := hid (HE0.out true)
              rw [hfe] at HE
              go_wp2_with fail
              go_ret
              exact ⟨ret_int HE.out.symm, KBW.out⟩
            · have HE := hid (HE0.out false)
              rw [hfe] at HE
              go_wp2_with fail
              refine (refCheck_any _ _ _ _ _ _ _).mono ?_
              rintro e w3 ⟨rfl, k3⟩
              have K3 := hid (KBW.out.trans k3)
              clear k3
              go_wp2_with fail
              go_ret
              exact ⟨ret_int HE.out.symm, K3.out⟩
            · have HE := hid (HE0.out true)
              rw [hfe] at HE
              go_wp2_with fail
              go_ret
              exact ⟨ret_int HE.out.symm, KBW.out⟩
          · have hpos : 0 < kids.length := List.length_pos_iff.2 hlen
            have hne0 : ((kids.length : Int) != 0) = true := by simp; omega
            have HE : Hid (errW (.node 2 a fl nt kids) = 4) := by
              show _ = _
              rw [errW, show nodeE (.node 2 a fl nt kids) = 4 by rw [nodeE, if_pos]; simp [formB, leafB, hpos]]; rfl
            go_wp2_with fail
            go_ret
            exact ⟨ret_int HE.out.symm, KBW.out⟩
        · have heq := fun wx => eqAtom a.n a.op a.v a.sl a.f a.on ⟨#[]⟩ 0 0 0 ⟨#[]⟩ false wx
          cases hz : zeroB a
          · rw [show sameB a.n a.op a.v a.sl a.f a.on ⟨#[]⟩ 0 0 0 ⟨#[]⟩ false = false from hz] at heq
            have HE : Hid (errW (.node 3 a fl nt kids) = 4) := by
              show _ = _
              rw [errW, show nodeE (.node 3 a fl nt kids) = 4 by rw [nodeE, if_pos]; simp [formB, leafB, hz]]; rfl
            go_wp2_with fail
            go_ret
            exact ⟨ret_int HE.out.symm, KBW.out⟩
          · rw [show sameB a.n a.op a.v a.sl a.f a.on ⟨#[]⟩ 0 0 0 ⟨#[]⟩ false = true from hz] at heq
            cases hfe : fl.toList.isEmpty <;> cases nt
            iterate 2
              · have HE : Hid (∀ n, errW (.node 3 a fl n kids) = 4) := fun n => by
                  rw [errW, show nodeE (.node 3 a fl n kids) = 4 by rw [nodeE, if_pos]; simp [formB, leafB, hz, hfe]]; rfl
                go_wp2_with fail
                go_ret
                exact ⟨ret_int (HE.out _).symm, KBW.out⟩
            rotate_left
            · have HE : Hid (errW (.node 3 a fl true kids) = 4) := by
                show _ = _
                rw [errW, show nodeE (.node 3 a fl true kids) = 4 by rw [nodeE, if_pos]; simp [formB, leafB, hz, hfe]]; rfl
              go_wp2_with fail
              go_ret
              exact ⟨ret_int HE.out.symm, KBW.out⟩
            · have HE : Hid (errW (.node 3 a fl false kids) = errL kids) := by
                show _ = _
                rw [errW, show nodeE (.node 3 a fl false kids) = 0 by simp [nodeE, formB, leafB, hz, hfe]]; rfl
              have HBW : Hid (Boxed w.heap.size #[.int .i64 3, .string a.n, .int .i64 a.op, .int .i64 a.v, .int .i64 a.sl, .string a.f, .bool a.on, .string fl, .bool false, .slice kp kids.length kc] W0) := HB0
              have hc1 := HBW.out.2
              have hl1 := HBW.out.1
              go_wp2_with fail
              clear hc1
              go_loopg [73] kids.length (fun gk i wr => ∃ j : Nat, j + gk = kids.length ∧ i = .int .i64 j ∧ errL kids = errL (kids.drop j) ∧ Keep w wr)
              case atStart => exact ⟨0, by simp, rfl, by simp, KBW.out⟩
              case round =>
                obtain ⟨j, hj, rfl, heq, hkw⟩ := hrel
                have HEQ := hid heq
                have HKW := hid hkw
                clear heq hkw HBW KBW
                by_cases hlt : j < kids.length
                · obtain ⟨p, cs, hp, hSp, hcell, hneed⟩ := kidsIs_get HK.out j hlt
                  have HN := hid hneed
                  have HDR : Hid (errL kids = if errW kids[j] ≠ 0 then errW kids[j] else errL (kids.drop (j + 1))) := by show _ = _; rw [HEQ.out, List.drop_eq_getElem_cons hlt, errL]
                  have hih := HIH.out kids[j] (by have := sizeL_get kids j hlt; omega)
                  subst hp
                  rw [Nat.zero_add] at hcell
                  cases hkid : kids[j] with
                  | node k' a' fl' nt' kids' =>
                  rw [hkid, NeedIs] at hneed
                  obtain ⟨kp', kc', rfl, -, -, -⟩ := hneed
                  have hcell' : ∀ m v, ([.int .i64 k', .string a'.n, .int .i64 a'.op, .int .i64 a'.v, .int .i64 a'.sl, .string a'.f, .bool a'.on, .string fl', .bool nt', .slice kp' kids'.length kc'] : List Value)[m]? = some v → wr.cell? ((p.add (j * 10)).add m) = some v := fun m v hv => (HKW.out.cell (by rw [add_block, add_block]; exact hS _ hSp)).trans (hcell m v hv)
                  obtain ⟨c0, c1, c2, c3, c4, c5, c6, c7, c8, c9⟩ := cells10 hcell'
                  clear hcell hcell' hkid
                  have K2 := hid (HKW.out.alloc' (.cells #[.int .i64 k', .string a'.n, .int .i64 a'.op, .int .i64 a'.v, .int .i64 a'.sl, .string a'.f, .bool a'.on, .string fl', .bool nt', .slice kp' kids'.length kc'] 26))
                  have HV2 := HV.out.keep HKW.out HV.out.facts.2.2
                  obtain ⟨hcv, -, hlv⟩ := HV2.facts
                  have HIJ := hid (hih [.int .i64 k', .string a'.n, .int .i64 a'.op, .int .i64 a'.v, .int .i64 a'.sl, .string a'.f, .bool a'.on, .string fl', .bool nt', .slice kp' kids'.length kc'] _ (fun b hb => Nat.lt_of_lt_of_le (hS b hb) K2.out.size) (HV.out.keep K2.out HV.out.facts.2.2) (HN.out.keep hS K2.out))
                  clear hih HV2
                  generalize errW kids[j] = r at HDR HIJ
                  go_wp2_with fail
                  clear c0 c1 c2 c3 c4 c5 c6 c7 c8 c9
                  refine HIJ.out.mono ?_
                  rintro e w3 ⟨rfl, k3⟩
                  have K3 := hid (K2.out.trans k3)
                  clear k3 hcv
                  by_cases hr : r = 0
                  · have HX : Hid (errL kids = errL (kids.drop (j + 1))) := by show _ = _; rw [HDR.out, if_neg (by simp [hr])]
                    subst hr
                    go_wp2_with fail
                    go_roundg (kids.length - (j + 1))
                    case measure => omega
                    case rel => exact ⟨j + 1, by omega, by go_num, HX.out, K3.out⟩
                  · have hr1 : (r != 0) = true := by simpa using hr
                    have HX : Hid (errL kids = r) := by show _ = _; rw [HDR.out, if_pos hr]
                    clear hr
                    go_wp2_with fail
                    go_ret
                    exact ⟨ret_int (by rw [HE.out, HX.out]), K3.out⟩
                · have HX : Hid (errL kids = 0) := by show _ = _; rw [HEQ.out, List.drop_eq_nil_of_le (by omega), errL]
                  go_wp2_with fail
                  go_ret
                  exact ⟨ret_int (by rw [HE.out, HX.out]), HKW.out⟩
        · have heq := fun wx => eqAtom a.n a.op a.v a.sl a.f a.on ⟨#[]⟩ 0 0 0 ⟨#[]⟩ false wx
          cases hz : zeroB a
          · rw [show sameB a.n a.op a.v a.sl a.f a.on ⟨#[]⟩ 0 0 0 ⟨#[]⟩ false = false from hz] at heq
            have HE : Hid (errW (.node 4 a fl nt kids) = 4) := by
              show _ = _
              rw [errW, show nodeE (.node 4 a fl nt kids) = 4 by rw [nodeE, if_pos]; simp [formB, leafB, hz]]; rfl
            go_wp2_with fail
            go_ret
            exact ⟨ret_int HE.out.symm, KBW.out⟩
          · rw [show sameB a.n a.op a.v a.sl a.f a.on ⟨#[]⟩ 0 0 0 ⟨#[]⟩ false = true from hz] at heq
            cases hfe : fl.toList.isEmpty <;> cases nt
            iterate 2
              · have HE : Hid (∀ n, errW (.node 4 a fl n kids) = 4) := fun n => by
                  rw [errW, show nodeE (.node 4 a fl n kids) = 4 by rw [nodeE, if_pos]; simp [formB, leafB, hz, hfe]]; rfl
                go_wp2_with fail
                go_ret
                exact ⟨ret_int (HE.out _).symm, KBW.out⟩
            rotate_left
            · have HE : Hid (errW (.node 4 a fl true kids) = 4) := by
                show _ = _
                rw [errW, show nodeE (.node 4 a fl true kids) = 4 by rw [nodeE, if_pos]; simp [formB, leafB, hz, hfe]]; rfl
              go_wp2_with fail
              go_ret
              exact ⟨ret_int HE.out.symm, KBW.out⟩
            · have HE : Hid (errW (.node 4 a fl false kids) = errL kids) := by
                show _ = _
                rw [errW, show nodeE (.node 4 a fl false kids) = 0 by simp [nodeE, formB, leafB, hz, hfe]]; rfl
              have HBW : Hid (Boxed w.heap.size #[.int .i64 4, .string a.n, .int .i64 a.op, .int .i64 a.v, .int .i64 a.sl, .string a.f, .bool a.on, .string fl, .bool false, .slice kp kids.length kc] W0) := HB0
              have hc1 := HBW.out.2
              have hl1 := HBW.out.1
              go_wp2_with fail
              clear hc1
              go_loopg [73] kids.length (fun gk i wr => ∃ j : Nat, j + gk = kids.length ∧ i = .int .i64 j ∧ errL kids = errL (kids.drop j) ∧ Keep w wr)
              case atStart => exact ⟨0, by simp, rfl, by simp, KBW.out⟩
              case round =>
                obtain ⟨j, hj, rfl, heq, hkw⟩ := hrel
                have HEQ := hid heq
                have HKW := hid hkw
                clear heq hkw HBW KBW
                by_cases hlt : j < kids.length
                · obtain ⟨p, cs, hp, hSp, hcell, hneed⟩ := kidsIs_get HK.out j hlt
                  have HN := hid hneed
                  have HDR : Hid (errL kids = if errW kids[j] ≠ 0 then errW kids[j] else errL (kids.drop (j + 1))) := by show _ = _; rw [HEQ.out, List.drop_eq_getElem_cons hlt, errL]
                  have hih := HIH.out kids[j] (by have := sizeL_get kids j hlt; omega)
                  subst hp
                  rw [Nat.zero_add] at hcell
                  cases hkid : kids[j] with
                  | node k' a' fl' nt' kids' =>
                  rw [hkid, NeedIs] at hneed
                  obtain ⟨kp', kc', rfl, -, -, -⟩ := hneed
                  have hcell' : ∀ m v, ([.int .i64 k', .string a'.n, .int .i64 a'.op, .int .i64 a'.v, .int .i64 a'.sl, .string a'.f, .bool a'.on, .string fl', .bool nt', .slice kp' kids'.length kc'] : List Value)[m]? = some v → wr.cell? ((p.add (j * 10)).add m) = some v := fun m v hv => (HKW.out.cell (by rw [add_block, add_block]; exact hS _ hSp)).trans (hcell m v hv)
                  obtain ⟨c0, c1, c2, c3, c4, c5, c6, c7, c8, c9⟩ := cells10 hcell'
                  clear hcell hcell' hkid
                  have K2 := hid (HKW.out.alloc' (.cells #[.int .i64 k', .string a'.n, .int .i64 a'.op, .int .i64 a'.v, .int .i64 a'.sl, .string a'.f, .bool a'.on, .string fl', .bool nt', .slice kp' kids'.length kc'] 26))
                  have HV2 := HV.out.keep HKW.out HV.out.facts.2.2
                  obtain ⟨hcv, -, hlv⟩ := HV2.facts
                  have HIJ := hid (hih [.int .i64 k', .string a'.n, .int .i64 a'.op, .int .i64 a'.v, .int .i64 a'.sl, .string a'.f, .bool a'.on, .string fl', .bool nt', .slice kp' kids'.length kc'] _ (fun b hb => Nat.lt_of_lt_of_le (hS b hb) K2.out.size) (HV.out.keep K2.out HV.out.facts.2.2) (HN.out.keep hS K2.out))
                  clear hih HV2
                  generalize errW kids[j] = r at HDR HIJ
                  go_wp2_with fail
                  clear c0 c1 c2 c3 c4 c5 c6 c7 c8 c9
                  refine HIJ.out.mono ?_
                  rintro e w3 ⟨rfl, k3⟩
                  have K3 := hid (K2.out.trans k3)
                  clear k3 hcv
                  by_cases hr : r = 0
                  · have HX : Hid (errL kids = errL (kids.drop (j + 1))) := by show _ = _; rw [HDR.out, if_neg (by simp [hr])]
                    subst hr
                    go_wp2_with fail
                    go_roundg (kids.length - (j + 1))
                    case measure => omega
                    case rel => exact ⟨j + 1, by omega, by go_num, HX.out, K3.out⟩
                  · have hr1 : (r != 0) = true := by simpa using hr
                    have HX : Hid (errL kids = r) := by show _ = _; rw [HDR.out, if_pos hr]
                    clear hr
                    go_wp2_with fail
                    go_ret
                    exact ⟨ret_int (by rw [HE.out, HX.out]), K3.out⟩
                · have HX : Hid (errL kids = 0) := by show _ = _; rw [HEQ.out, List.drop_eq_nil_of_le (by omega), errL]
                  go_wp2_with fail
                  go_ret
                  exact ⟨ret_int (by rw [HE.out, HX.out]), HKW.out⟩
        · have heq := fun wx => eqAtom a.n a.op a.v a.sl a.f a.on ⟨#[]⟩ 0 0 0 ⟨#[]⟩ false wx
          cases hz : zeroB a
          · rw [show sameB a.n a.op a.v a.sl a.f a.on ⟨#[]⟩ 0 0 0 ⟨#[]⟩ false = false from hz] at heq
            have HE : Hid (errW (.node 5 a fl nt kids) = 4) := by
              show _ = _
              rw [errW, show nodeE (.node 5 a fl nt kids) = 4 by rw [nodeE, if_pos]; simp [formB, leafB, hz]]; rfl
            go_wp2_with fail
            go_ret
            exact ⟨ret_int HE.out.symm, KBW.out⟩
          · rw [show sameB a.n a.op a.v a.sl a.f a.on ⟨#[]⟩ 0 0 0 ⟨#[]⟩ false = true from hz] at heq
            go_wp2_with fail
            refine (isName_any _ _).mono ?_
            rintro e w1 ⟨rfl, k1⟩
            have HBW := hid (HB0.out.keep k1 HB0.out.1)
            have KBW := hid (KB0.out.trans k1)
            clear k1 hc0
            cases hnm : nameB fl.data.toList
            · have HE : Hid (errW (.node 5 a fl nt kids) = 1) := by
                show _ = _
                rw [errW, show nodeE (.node 5 a fl nt kids) = 1 by simp [nodeE, formB, leafB, hz, hnm]]; rfl
              go_wp2_with fail
              go_ret
              exact ⟨ret_int HE.out.symm, KBW.out⟩
            · have HE : Hid (errW (.node 5 a fl nt kids) = errL kids) := by
                show _ = _
                rw [errW, show nodeE (.node 5 a fl nt kids) = 0 by simp [nodeE, formB, leafB, hz, hnm]]; rfl
              have hc1 := HBW.out.2
              have hl1 := HBW.out.1
              go_wp2_with fail
              clear hc1
              go_loopg [73] kids.length (fun gk i wr => ∃ j : Nat, j + gk = kids.length ∧ i = .int .i64 j ∧ errL kids = errL (kids.drop j) ∧ Keep w wr)
              case atStart => exact ⟨0, by simp, rfl, by simp, KBW.out⟩
              case round =>
                obtain ⟨j, hj, rfl, heq, hkw⟩ := hrel
                have HEQ := hid heq
                have HKW := hid hkw
                clear heq hkw HBW KBW
                by_cases hlt : j < kids.length
                · obtain ⟨p, cs, hp, hSp, hcell, hneed⟩ := kidsIs_get HK.out j hlt
                  have HN := hid hneed
                  have HDR : Hid (errL kids = if errW kids[j] ≠ 0 then errW kids[j] else errL (kids.drop (j + 1))) := by show _ = _; rw [HEQ.out, List.drop_eq_getElem_cons hlt, errL]
                  have hih := HIH.out kids[j] (by have := sizeL_get kids j hlt; omega)
                  subst hp
                  rw [Nat.zero_add] at hcell
                  cases hkid : kids[j] with
                  | node k' a' fl' nt' kids' =>
                  rw [hkid, NeedIs] at hneed
                  obtain ⟨kp', kc', rfl, -, -, -⟩ := hneed
                  have hcell' : ∀ m v, ([.int .i64 k', .string a'.n, .int .i64 a'.op, .int .i64 a'.v, .int .i64 a'.sl, .string a'.f, .bool a'.on, .string fl', .bool nt', .slice kp' kids'.length kc'] : List Value)[m]? = some v → wr.cell? ((p.add (j * 10)).add m) = some v := fun m v hv => (HKW.out.cell (by rw [add_block, add_block]; exact hS _ hSp)).trans (hcell m v hv)
                  obtain ⟨c0, c1, c2, c3, c4, c5, c6, c7, c8, c9⟩ := cells10 hcell'
                  clear hcell hcell' hkid
                  have K2 := hid (HKW.out.alloc' (.cells #[.int .i64 k', .string a'.n, .int .i64 a'.op, .int .i64 a'.v, .int .i64 a'.sl, .string a'.f, .bool a'.on, .string fl', .bool nt', .slice kp' kids'.length kc'] 26))
                  have HV2 := HV.out.keep HKW.out HV.out.facts.2.2
                  obtain ⟨hcv, -, hlv⟩ := HV2.facts
                  have HIJ := hid (hih [.int .i64 k', .string a'.n, .int .i64 a'.op, .int .i64 a'.v, .int .i64 a'.sl, .string a'.f, .bool a'.on, .string fl', .bool nt', .slice kp' kids'.length kc'] _ (fun b hb => Nat.lt_of_lt_of_le (hS b hb) K2.out.size) (HV.out.keep K2.out HV.out.facts.2.2) (HN.out.keep hS K2.out))
                  clear hih HV2
                  generalize errW kids[j] = r at HDR HIJ
                  go_wp2_with fail
                  clear c0 c1 c2 c3 c4 c5 c6 c7 c8 c9
                  refine HIJ.out.mono ?_
                  rintro e w3 ⟨rfl, k3⟩
                  have K3 := hid (K2.out.trans k3)
                  clear k3 hcv
                  by_cases hr : r = 0
                  · have HX : Hid (errL kids = errL (kids.drop (j + 1))) := by show _ = _; rw [HDR.out, if_neg (by simp [hr])]
                    subst hr
                    go_wp2_with fail
                    go_roundg (kids.length - (j + 1))
                    case measure => omega
                    case rel => exact ⟨j + 1, by omega, by go_num, HX.out, K3.out⟩
                  · have hr1 : (r != 0) = true := by simpa using hr
                    have HX : Hid (errL kids = r) := by show _ = _; rw [HDR.out, if_pos hr]
                    clear hr
                    go_wp2_with fail
                    go_ret
                    exact ⟨ret_int (by rw [HE.out, HX.out]), K3.out⟩
                · have HX : Hid (errL kids = 0) := by show _ = _; rw [HEQ.out, List.drop_eq_nil_of_le (by omega), errL]
                  go_wp2_with fail
                  go_ret
                  exact ⟨ret_int (by rw [HE.out, HX.out]), HKW.out⟩
end Go.Proofs.YtkckkjpkidcbnaaGreatDoor
/- quartermasterref.CheckNeed answers as chkN says, of any need that lies in memory. -/
namespace Go.Proofs.YtkckkjpkidcbnaaGreatDoor
open Go.RowKit

set_option maxHeartbeats 2000000 in
theorem refCheckNeed_any (t : NT) (cs : List Value) (w : World) (S : Nat → Prop) (hS : ∀ b, S b → b < w.heap.size) (hn : NeedIs S w t cs) :
    Calls Tryz.prog 13 #[.agg cs.toArray] w fun e w' => e = .returned (.int .i64 (chkN t)) ∧ Keep w w' := by
  have HN := hid hn
  cases ht : t with
  | node k a fl nt kids =>
  rw [ht, NeedIs] at hn
  obtain ⟨kp, kc, rfl, -, -, -⟩ := hn
  rw [← ht]
  have hent := enter_refCheck
  have hmf : ∀ (fn : Fn) (first cap : Array Value) (w : World), (Instr.makeFunc fn first cap).run Tryz.prog w = .ok (.func fn first cap) w := fun _ _ _ _ => rfl
  have K0 := hid (Keep.alloc w (.cells #[.int .i64 k, .string a.n, .int .i64 a.op, .int .i64 a.v, .int .i64 a.sl, .string a.f, .bool a.on, .string fl, .bool nt, .slice kp kids.length kc] 26))
  have HB0 : Hid (Boxed w.heap.size #[.int .i64 k, .string a.n, .int .i64 a.op, .int .i64 a.v, .int .i64 a.sl, .string a.f, .bool a.on, .string fl, .bool nt, .slice kp kids.length kc] (w.alloc (.cells #[.int .i64 k, .string a.n, .int .i64 a.op, .int .i64 a.v, .int .i64 a.sl, .string a.f, .bool a.on, .string fl, .bool nt, .slice kp kids.length kc] 26))) := Boxed.new w #[.int .i64 k, .string a.n, .int .i64 a.op, .int .i64 a.v, .int .i64 a.sl, .string a.f, .bool a.on, .string fl, .bool nt, .slice kp kids.length kc] 26
  have HC := hid (chkN_err t)
  have HL := hid (sized_large t)
  have hb := szN_bounds t 4
  clear ht
  go_enter Tryz.func13, Tryz.ntmps13
  go_wp2_with fail
  generalize w.alloc (.cells #[.int .i64 k, .string a.n, .int .i64 a.op, .int .i64 a.v, .int .i64 a.sl, .string a.f, .bool a.on, .string fl, .bool nt, .slice kp kids.length kc] 26) = W0 at K0 HB0 ⊢
  refine (sized_any S _ t (Nat.le_refl _) 4 _ W0 (by decide) (fun b hb => Nat.lt_of_lt_of_le (hS b hb) K0.out.size) (HN.out.keep hS K0.out)).mono ?_
  rintro e w1 ⟨rfl, k1⟩
  have K1 := hid (K0.out.trans k1)
  have HB1 := hid (HB0.out.keep k1 HB0.out.1)
  clear k1 K0 HB0
  generalize szN t 4 = r at HL hb ⊢
  obtain ⟨r1, r2⟩ := r
  simp only at hb
  have BIG : (r1 > 20 ∨ r2 > 4) → Hid (chkN t = 2) := fun h => by
    show _ = _
    rw [HC.out, if_pos (HL.out.1 h)]
  have SML : ¬ (r1 > 20 ∨ r2 > 4) → Hid (chkN t = errW t) := fun h => by
    show _ = _
    rw [HC.out, if_neg (fun e => h (HL.out.2 e))]
  have HBIG := hid BIG
  have HSML := hid SML
  clear BIG SML
  by_cases h1 : r1 > 20
  · have HX := HBIG.out (Or.inl h1)
    go_wp2_with fail
    go_ret
    exact ⟨ret_int HX.out.symm, K1.out⟩
  · by_cases h2 : r2 > 4
    · have HX := HBIG.out (Or.inr h2)
      go_wp2_with fail
      go_ret
      exact ⟨ret_int HX.out.symm, K1.out⟩
    · have HX := HSML.out (by omega)
      have hc1 := HB1.out.2
      have hl1 := HB1.out.1
      have V1 : Hid (VarAt w1.heap.size 35 .nilFunc (w1.alloc (.cells #[.nilFunc] 35))) := VarAt.new _ _ _
      have KA := hid (K1.out.alloc' (.cells #[.nilFunc] 35))
      have HBA := hid (HB1.out.keep (Keep.alloc w1 (.cells #[.nilFunc] 35)) HB1.out.1)
      go_upto_region 5 with fail
      generalize w1.alloc (.cells #[.nilFunc] 35) = W1 at V1 KA HBA ⊢
      clear hc1
      have hc1 := HBA.out.2
      obtain ⟨hcv, hzv, hlv⟩ := V1.out.facts
      have hws := K1.out.size
      have V2 := hid (V1.out.set (.func (.func 64) #[] #[.pointer (some ⟨w1.heap.size, 0, none⟩)]))
      have K2 : Hid (Keep w (W1.setCell ⟨w1.heap.size, 0, none⟩ (.func (.func 64) #[] #[.pointer (some ⟨w1.heap.size, 0, none⟩)]))) := KA.out.set (p := ⟨w1.heap.size, 0, none⟩) hws _
      have hne : w.heap.size ≠ w1.heap.size := by omega
      go_wp2_with fail
      clear hc1
      refine (refWalk_any w1.heap.size S _ t (Nat.le_refl _) _ _ (fun b hb => Nat.lt_of_lt_of_le (hS b hb) K2.out.size) V2.out (HN.out.keep hS K2.out)).mono ?_
      rintro e w3 ⟨rfl, k3⟩
      have K3 := hid (K2.out.trans k3)
      clear k3
      go_wp2_with fail
      go_ret
      exact ⟨ret_int HX.out.symm, K3.out⟩
end Go.Proofs.YtkckkjpkidcbnaaGreatDoor
