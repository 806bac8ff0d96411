/- quartermasterref.ReadNeed answers as the plain functions rdE and rdText say. -/
import Derived.Test.YtkckkjpkidcbnaaGreatDoorRefRdSt
import Derived.Test.YtkckkjpkidcbnaaGreatDoorShelfB
import Derived.Deep.CutRange
import Derived.Deep.CutBlock
namespace Go.Proofs.YtkckkjpkidcbnaaGreatDoor
open Go.RowKit

theorem mach_none (op : List NT) : mach op none [] = none := by rw [mach]
theorem mach_done (op : List NT) (t : NT) : mach op (some t) [] = some t := by rw [mach]
theorem mach_more (op : List NT) (t : NT) (x : Word) (ws : List Word) : mach op (some t) (x :: ws) = none := by rw [mach]
theorem dead_all {B : Nat} {v : Value} {kvs : List Value} {w : World} {t : NT} {cs : List Value} {n : Nat} (hn : n ≤ B) (h : NeedIs (Dead B v kvs w) w t cs) : NeedIs (fun b => n ≤ b ∧ b < w.heap.size) w t cs :=
  NeedIs.mono (fun _ _ => rfl) (fun _ hb => ⟨Nat.le_trans hn hb.1, hb.2.1⟩) t cs h
theorem no_prefix {l : List UInt8} (h : Lib.hasPrefix l [33] = false) : Lib.trimPrefix l [33] = l := by unfold Lib.trimPrefix; rw [h]; rfl
theorem nil_or_snoc {α : Type} (l : List α) : l = [] ∨ ∃ (L : List α) (b : α), l = L ++ [b] := by
  rcases List.eq_nil_or_concat l with h | ⟨L, b, h⟩
  · exact Or.inl h
  · exact Or.inr ⟨L, b, by rw [h, List.concat_eq_append]⟩
theorem NBox.set1 {b : Nat} {cs : Array Value} {w : World} (h : NBox b cs w) (o : Nat) (x : Value) : NBox b (cs.setIfInBounds o x) (w.setCell ⟨b, o, none⟩ x) := heap_set h o x

set_option maxHeartbeats 8000000 in
set_option maxRecDepth 100000 in
theorem refReadNeed_any (s : ByteArray) (w : World) (hE : Env w) (hM : MaxAt w) (hs : s.size ≤ 20000) :
    Calls Tryz.prog 21 #[.string s] w fun e w' => ParseN s.data.toList w e w' := by
  have HL : Hid (¬ 20000 < s.data.toList.length) := by show ¬ _; rw [size_list]; omega
  have HE := hid hE
  obtain ⟨mm, hmm⟩ := hM.2
  have hmlt := hM.1
  obtain ⟨ws, hws, hwl, hwl2, hwd, hwsz⟩ := words_of s
  have HWS := hid hws
  have HSZ := hid hwsz
  have HWL := hid hwl
  have HRT : Hid (rdText s.data.toList = rdWords (ws.map (·.data.toList))) := by show _ = _; unfold rdText; rw [← hwd]
  have HNONE : Hid (rdWords (ws.map (·.data.toList)) = none → rdE s.data.toList = 1) := fun h => by unfold rdE; rw [if_neg HL.out, HRT.out, h]
  have HSOME : Hid (∀ t, rdWords (ws.map (·.data.toList)) = some t → rdE s.data.toList = chkN t ∧ rdText s.data.toList = some t) := fun t h => by
    refine ⟨?_, by rw [HRT.out, h]⟩
    unfold rdE; rw [if_neg HL.out, HRT.out, h]
  have hmf : ∀ (fn : Fn) (first cap : Array Value) (w : World), (Instr.makeFunc fn first cap).run Tryz.prog w = .ok (.func fn first cap) w := fun _ _ _ _ => rfl
  have hent1 := enter_badN
  have hent2 := enter_put
  obtain ⟨i0, hi, hz0, hz1, hz2⟩ := info_parts infoNeed
  clear hE hM hws hwd hwsz hwl
  go_enter Tryz.func21, Tryz.ntmps21
  go_upto_region 4 with fail
  refine at_wp (fun W' => Keep w W' ∧ NBox w.heap.size #[.int .i64 0, .string ⟨#[]⟩, .int .i64 0, .int .i64 0, .int .i64 0, .string ⟨#[]⟩, .bool false, .string ⟨#[]⟩, .bool false, .slice none 0 0] W' ∧ VarAt (w.heap.size + 1) 24 (.slice none 0 0) W' ∧ VarAt (w.heap.size + 1 + 1) 111 (.pointer none) W' ∧ W'.heap.size = w.heap.size + 1 + 1 + 1) ⟨((Keep.alloc _ _).alloc' _).alloc' _, ?_, ?_, ?_, by simp⟩ ?_
  · exact ((NBox.new _ _).keep (Keep.alloc _ _) (by simp)).keep (Keep.alloc _ _) (by simp; omega)
  · have := VarAt.new (w.alloc (.cells #[.int .i64 0, .string ⟨#[]⟩, .int .i64 0, .int .i64 0, .int .i64 0, .string ⟨#[]⟩, .bool false, .string ⟨#[]⟩, .bool false, .slice none 0 0] 26)) 24 (.slice none 0 0)
    rw [alloc_size] at this
    exact this.keep (Keep.alloc _ _) (by simp)
  · have := VarAt.new ((w.alloc (.cells #[.int .i64 0, .string ⟨#[]⟩, .int .i64 0, .int .i64 0, .int .i64 0, .string ⟨#[]⟩, .bool false, .string ⟨#[]⟩, .bool false, .slice none 0 0] 26)).alloc (.cells #[.slice none 0 0] 24)) 111 (.pointer none)
    rw [alloc_size, alloc_size] at this
    exact this
  rintro W1 ⟨k1, r1, o1, p1, hsz1⟩
  have K1 := hid k1
  have R1 := hid r1
  have O1 := hid o1
  have P1 := hid p1
  have HZ1 := hid hsz1
  have hmm1 := (k1.cell (p := ⟨1, 0, none⟩) hmlt).trans hmm
  clear k1 r1 o1 p1 hsz1
  go_wp2_with fail
  refine (Tryz.strings_Split s ⟨#[32]⟩ mm W1 (by omega) hmm1 (by decide)).mono ?_
  rintro e w2 ⟨rfl, hw2⟩
  rw [hw2, ← HWS.out, ← HWL.out, HZ1.out]
  clear hw2 w2 hmm1 hmm
  have S2 : Hid (RdSt w ws (.slice none 0 0) [] [] (W1.alloc (.cells (ws.map Value.string).toArray 9))) := by
    have k2 := Keep.alloc W1 (.cells (ws.map Value.string).toArray 9)
    refine ⟨Stk.nil _ _, O1.out.keep k2 O1.out.facts.2.2, P1.out.keep k2 P1.out.facts.2.2, R1.out.keep k2 R1.out.facts.2.2, fun j x hx => ?_, by rw [alloc_size, HZ1.out]; omega, K1.out.trans k2⟩
    rw [← HZ1.out]
    have hb : (W1.alloc (.cells (ws.map Value.string).toArray 9)).heap[W1.heap.size]? = some (.cells (ws.map Value.string).toArray 9 (0, 0)) := by
      show (W1.heap.push _)[W1.heap.size]? = _
      rw [Array.getElem?_push, if_pos rfl]
    simp only [World.cell?, hb]
    simp [hx]
  clear K1 R1 O1 P1
  go_upto_region 6 with fail
  generalize W1.alloc (.cells (ws.map Value.string).toArray 9) = W2 at S2 ⊢
  clear HZ1
  go_wp2_with fail
  go_loopg [9] ws.length (fun gk i wr => ∃ j : Nat, j + gk = ws.length ∧ i = .int .i64 j ∧ ((∃ v st kvs, RdSt w ws v st kvs wr ∧ st.length ≤ 4 ∧ (∀ t ∈ st, t.kids.length ≤ j) ∧ mach st.reverse none ((ws.map (·.data.toList)).drop j) = rdWords (ws.map (·.data.toList))) ∨
    (∃ nb cs t, VarAt (w.heap.size + 1 + 1) 111 (.pointer (some ⟨nb, 0, none⟩)) wr ∧ NBox nb (List.toArray cs) wr ∧ NeedIs (fun b => w.heap.size + 4 ≤ b ∧ b < wr.heap.size) wr t cs ∧ NBox w.heap.size #[.int .i64 0, .string ⟨#[]⟩, .int .i64 0, .int .i64 0, .int .i64 0, .string ⟨#[]⟩, .bool false, .string ⟨#[]⟩, .bool false, .slice none 0 0] wr ∧ Keep w wr ∧ mach [] (some t) ((ws.map (·.data.toList)).drop j) = rdWords (ws.map (·.data.toList)))))
  case atStart => exact ⟨0, by simp, rfl, Or.inl ⟨_, [], [], S2.out, by simp, by simp, by rw [List.drop_zero]; exact mach_words _⟩⟩
  case round =>
    obtain ⟨j, hj, rfl, hst⟩ := hrel
    clear S2
    rcases hst with ⟨v, st, kvs, hrd, hst4, hkl, hmach⟩ | ⟨nb, cs, t, hvw, hnb, hnd, hres, hkp, hmach⟩
    · have HS := hid hrd
      have HKL := hid hkl
      obtain ⟨vp, vc, rfl⟩ := hrd.stk.shape
      obtain ⟨hwc, hwf, hwl0⟩ := hrd.whl.facts
      obtain ⟨hoc0, hof0, hol0⟩ := hrd.opn.facts
      have hlow := hrd.low
      by_cases hlt : j < ws.length
      case neg =>
        obtain rfl : j = ws.length := by omega
        have HN2 : Hid (rdWords (ws.map (·.data.toList)) = none) := by show _ = _; rw [← hmach, List.drop_of_length_le (by simp), mach_none]
        clear hrd hkl hmach
        have HRE := hid (HNONE.out (HN2.out))
        go_wp2_with fail
        refine (badN_any _).mono ?_
        rintro e w9 ⟨rfl, k9⟩
        have S9 := hid ((HS.out.keep (Keep.refl _)).keep k9)
        obtain ⟨hcR, hzR, hlR⟩ := S9.out.res.facts
        go_wp2_with fail
        obtain ⟨b1, b2, -, -⟩ := S9.out.res.set rfl (.int .i64 0) (.string ⟨#[]⟩) (.int .i64 0) (.int .i64 0) (.int .i64 0) (.string ⟨#[]⟩) (.bool false) (.string ⟨#[]⟩) (.bool false) (.slice none 0 0)
        have KW := hid (Below.trans S9.out.kep b2)
        have BW := hid b1
        clear b1 b2 hcR hzR
        generalize ((((((((((w9.setCell ⟨w.heap.size, 0, none⟩ (.int .i64 0)).setCell ⟨w.heap.size, 1, none⟩ (.string ⟨#[]⟩)).setCell ⟨w.heap.size, 2, none⟩ (.int .i64 0)).setCell ⟨w.heap.size, 3, none⟩ (.int .i64 0)).setCell ⟨w.heap.size, 4, none⟩ (.int .i64 0)).setCell ⟨w.heap.size, 5, none⟩ (.string ⟨#[]⟩)).setCell ⟨w.heap.size, 6, none⟩ (.bool false)).setCell ⟨w.heap.size, 7, none⟩ (.string ⟨#[]⟩)).setCell ⟨w.heap.size, 8, none⟩ (.bool false)).setCell ⟨w.heap.size, 9, none⟩ (.slice none 0 0)) = W at BW KW ⊢
        obtain ⟨hcW, -, -⟩ := BW.out.facts
        exact bodyPost_ret (v := .tuple #[.agg #[.int .i64 0, .string ⟨#[]⟩, .int .i64 0, .int .i64 0, .int .i64 0, .string ⟨#[]⟩, .bool false, .string ⟨#[]⟩, .bool false, .slice none 0 0], .int .i64 1]) (by simp [results, Tryz.results21, go_sem, hcW]) rfl ⟨zeroL, by rw [HRE.out]; rfl, fun e => by (rw [HRE.out] at e; cases e), fun _ => rfl, KW.out⟩
      have hcx := hrd.wds j _ (List.getElem?_eq_getElem hlt)
      have hxs : ws[j].size ≤ 20000 := Nat.le_trans (HSZ.out _ (List.getElem_mem hlt)) hs
      have HM : Hid (mach st.reverse none (ws[j].data.toList :: (ws.map (·.data.toList)).drop (j + 1)) = rdWords (ws.map (·.data.toList))) := by
        show _ = _
        rw [← hmach, List.drop_eq_getElem_cons (l := ws.map (·.data.toList)) (i := j) (by simpa using hlt)]; simp
      have HXJ : Hid (ws[j]? = some ws[j]) := List.getElem?_eq_getElem hlt
      generalize ws[j] = x at hcx hxs HM HXJ
      clear hrd hkl hmach
      rcases word_is x [41] with ⟨hx, hx1, hx2⟩ | ⟨hx, hx1, hx2⟩
      · rcases nil_or_snoc st with rfl | ⟨st', t, rfl⟩
        · have HN2 : Hid (rdWords (ws.map (·.data.toList)) = none) := by show _ = _; rw [← HM.out, mach_step, if_pos hx]; rfl
          clear hx HM
          have HRE := hid (HNONE.out (HN2.out))
          go_wp2_with fail
          refine (badN_any _).mono ?_
          rintro e w9 ⟨rfl, k9⟩
          have S9 := hid ((HS.out.keep (Keep.refl _)).keep k9)
          obtain ⟨hcR, hzR, hlR⟩ := S9.out.res.facts
          go_wp2_with fail
          obtain ⟨b1, b2, -, -⟩ := S9.out.res.set rfl (.int .i64 0) (.string ⟨#[]⟩) (.int .i64 0) (.int .i64 0) (.int .i64 0) (.string ⟨#[]⟩) (.bool false) (.string ⟨#[]⟩) (.bool false) (.slice none 0 0)
          have KW := hid (Below.trans S9.out.kep b2)
          have BW := hid b1
          clear b1 b2 hcR hzR
          generalize ((((((((((w9.setCell ⟨w.heap.size, 0, none⟩ (.int .i64 0)).setCell ⟨w.heap.size, 1, none⟩ (.string ⟨#[]⟩)).setCell ⟨w.heap.size, 2, none⟩ (.int .i64 0)).setCell ⟨w.heap.size, 3, none⟩ (.int .i64 0)).setCell ⟨w.heap.size, 4, none⟩ (.int .i64 0)).setCell ⟨w.heap.size, 5, none⟩ (.string ⟨#[]⟩)).setCell ⟨w.heap.size, 6, none⟩ (.bool false)).setCell ⟨w.heap.size, 7, none⟩ (.string ⟨#[]⟩)).setCell ⟨w.heap.size, 8, none⟩ (.bool false)).setCell ⟨w.heap.size, 9, none⟩ (.slice none 0 0)) = W at BW KW ⊢
          obtain ⟨hcW, -, -⟩ := BW.out.facts
          exact bodyPost_ret (v := .tuple #[.agg #[.int .i64 0, .string ⟨#[]⟩, .int .i64 0, .int .i64 0, .int .i64 0, .string ⟨#[]⟩, .bool false, .string ⟨#[]⟩, .bool false, .slice none 0 0], .int .i64 1]) (by simp [results, Tryz.results21, go_sem, hcW]) rfl ⟨zeroL, by rw [HRE.out]; rfl, fun e => by (rw [HRE.out] at e; cases e), fun _ => rfl, KW.out⟩
        · rcases nil_or_snoc kvs with rfl | ⟨kvs', kv0, rfl⟩
          · have := HS.out.stk.len; simp at this
          have HMT : Hid ((match st'.reverse with
            | [] => mach [] (some t) ((ws.map (·.data.toList)).drop (j + 1))
            | p :: q => mach (p.addKid t :: q) none ((ws.map (·.data.toList)).drop (j + 1))) = rdWords (ws.map (·.data.toList))) := by
            show _ = _
            rw [← HM.out, mach_step, if_pos hx, List.reverse_append]
            show _ = (match t :: st'.reverse with
              | [] => none
              | [n] => mach [] (some n) ((ws.map (fun (y : ByteArray) => y.data.toList)).drop (j + 1))
              | n :: p :: q => mach (p.addKid n :: q) none ((ws.map (fun (y : ByteArray) => y.data.toList)).drop (j + 1)))
            cases st'.reverse <;> rfl
          have hL : (st' ++ [t]).length = st'.length + 1 := by simp
          obtain ⟨g, cap, hv, hcap, hBg, hgl, hcell, -, hnd0⟩ := HS.out.stk.pop
          rw [hL] at hoc0 hst4 hv HS
          simp only [Value.slice.injEq, true_and] at hv
          obtain ⟨rfl, rfl⟩ := hv
          rcases t with ⟨k, a, fl, nt, kids⟩
          rw [NeedIs] at hnd0
          obtain ⟨kp, kc, hcs, -, hkc2, -⟩ := hnd0
          obtain rfl : kv0 = .slice kp kids.length kc := by simpa [NT.head9] using hcs
          have d0 : wr.cell? ⟨g, st'.length * 10, none⟩ = some (.int .i64 k) := hcell 0 _ rfl
          have d1 := hcell 1 _ rfl
          have d2 := hcell 2 _ rfl
          have d3 := hcell 3 _ rfl
          have d4 := hcell 4 _ rfl
          have d5 := hcell 5 _ rfl
          have d6 := hcell 6 _ rfl
          have d7 := hcell 7 _ rfl
          have d8 := hcell 8 _ rfl
          have d9 := hcell 9 _ rfl
          have e1 : ((st'.length + 1 : Nat) : Int) - 1 = (st'.length : Int) := by omega
          have hz4 : ((st'.length : Int) + 1 == 0) = false := beq_eq_false_iff_ne.2 (by omega)
          clear hx HM hcell hcs
          go_upto_region 15 with fail
          refine at_wp (fun W' => Keep wr W' ∧ NBox wr.heap.size #[.int .i64 k, .string a.n, .int .i64 a.op, .int .i64 a.v, .int .i64 a.sl, .string a.f, .bool a.on, .string fl, .bool nt, .slice kp kids.length kc] W') ⟨Keep.alloc _ _, NBox.new _ _⟩ ?_
          rintro WB ⟨kb, nb⟩
          have NB := hid nb
          have SB := hid (HS.out.keep kb)
          obtain ⟨g', cap', hv', hcap', -, -, -, hstk2, hnd2⟩ := SB.out.stk.pop
          simp only [Value.slice.injEq, Option.some.injEq, Addr.mk.injEq, true_and, and_true] at hv'
          obtain ⟨rfl, rfl⟩ := hv'
          have HSK2 := hid hstk2
          have HND2 := hid hnd2
          obtain ⟨hoc, hof, hol⟩ := SB.out.opn.facts
          have hlowB := SB.out.low
          have hnbl : w.heap.size + 1 < wr.heap.size := hol0
          clear kb nb hstk2 hnd2 d0 d1 d2 d3 d4 d5 d6 d7 d8 d9 hoc0 hof0 hwc hwf hcx
          go_upto_region 16 with fail
          refine at_wp (fun W' => RdSt w ws (.slice (some ⟨g, 0, none⟩) st'.length vc) st' kvs' W' ∧ NBox wr.heap.size #[.int .i64 k, .string a.n, .int .i64 a.op, .int .i64 a.v, .int .i64 a.sl, .string a.f, .bool a.on, .string fl, .bool nt, .slice kp kids.length kc] W' ∧ NeedIs (Dead (w.heap.size + 4) (.slice (some ⟨g, 0, none⟩) st'.length vc) kvs' W') W' (.node k a fl nt kids) [.int .i64 k, .string a.n, .int .i64 a.op, .int .i64 a.v, .int .i64 a.sl, .string a.f, .bool a.on, .string fl, .bool nt, .slice kp kids.length kc]) ⟨SB.out.move (Below.refl _ _) HSK2.out, NB.out.out_set (by omega) _, ?_⟩ ?_
          · exact NeedIs.mono (fun p hp => World.cell?_of_block (w := WB) (set_other WB _ _ _ p.block (by have := hp.1; omega))) (fun b hb => ⟨hb.1, by rw [set_size]; exact hb.2.1, hb.2.2⟩) _ _ HND2.out
          rintro WE ⟨se, ne, hne⟩
          have SE := hid se
          have HNE := hid hne
          have HKX : Hid (∀ u ∈ st', u.kids.length ≤ j) := fun u hu => HKL.out u (List.mem_append_left _ hu)
          have hsx4 : st'.length ≤ 4 := by omega
          obtain ⟨hnc, hnf, hnl⟩ := ne.facts
          clear se ne hne SB NB HSK2 HND2 hoc hof hol HS HKL
          generalize st' = sx at SE HNE HKX HMT hsx4 ⊢
          generalize kvs' = kx at SE HNE ⊢
          rcases nil_or_snoc sx with rfl | ⟨sx', p, rfl⟩
          · have HMT2 : Hid (mach [] (some (NT.node k a fl nt kids)) ((ws.map (·.data.toList)).drop (j + 1)) = rdWords (ws.map (·.data.toList))) := HMT.out
            have hpe := putE_any (NT.node k a fl nt kids) [.int .i64 k, .string a.n, .int .i64 a.op, .int .i64 a.v, .int .i64 a.sl, .string a.f, .bool a.on, .string fl, .bool nt, .slice kp kids.length kc] (w.heap.size + 1) (w.heap.size + 1 + 1) (some ⟨g, 0, none⟩) vc WE HNE.out SE.out.opn SE.out.whl
            clear HMT
            go_wp2_with fail
            refine hpe.mono ?_
            rintro e w6 ⟨rfl, hv6, hb6, ha6⟩
            have KW6 := hid (Below.trans SE.out.kep (ha6.below (B := w.heap.size) SE.out.kep.size (fun b hb e => by have : b = w.heap.size + 1 + 1 := e; omega)))
            have R6 := hid (SE.out.res.apart ha6 (by omega))
            have N6 : Hid (NeedIs (fun b => w.heap.size + 4 ≤ b ∧ b < w6.heap.size) w6 (NT.node k a fl nt kids) [.int .i64 k, .string a.n, .int .i64 a.op, .int .i64 a.v, .int .i64 a.sl, .string a.f, .bool a.on, .string fl, .bool nt, .slice kp kids.length kc]) := NeedIs.mono (fun p hp => ha6.cell p hp.2.1 (fun e => by have h1 : p.block = w.heap.size + 1 + 1 := e; have h2 := hp.1; omega)) (fun b hb => ⟨hb.1, Nat.lt_of_lt_of_le hb.2.1 ha6.size⟩) _ _ HNE.out
            have V6 := hid hv6
            have B6 := hid hb6
            clear hv6 hb6 ha6 hpe
            go_wp2_with fail
            go_roundg (ws.length - (j + 1))
            case rel => exact ⟨j + 1, by omega, by go_num, Or.inr ⟨_, [.int .i64 k, .string a.n, .int .i64 a.op, .int .i64 a.v, .int .i64 a.sl, .string a.f, .bool a.on, .string fl, .bool nt, .slice kp kids.length kc], (NT.node k a fl nt kids), V6.out, B6.out, N6.out, R6.out, KW6.out, HMT2.out⟩⟩
            case measure => omega
          · rcases nil_or_snoc kx with rfl | ⟨kx', kv0, rfl⟩
            · have := SE.out.stk.len; simp at this
            have HMT2 : Hid (mach (p.addKid (NT.node k a fl nt kids) :: sx'.reverse) none ((ws.map (·.data.toList)).drop (j + 1)) = rdWords (ws.map (·.data.toList))) := by
              show _ = _
              have := HMT.out
              rw [List.reverse_append] at this
              exact this
            have hpk := putK_any [.int .i64 k, .string a.n, .int .i64 a.op, .int .i64 a.v, .int .i64 a.sl, .string a.f, .bool a.on, .string fl, .bool nt, .slice kp kids.length kc] (w.heap.size + 1) (w.heap.size + 1 + 1) WE SE.out.stk HNE.out SE.out.opn SE.out.low (by have := hsx4; simp at this; omega) (Nat.le_trans (HKX.out p (List.mem_append_right _ (by simp))) (by omega))
            clear HMT
            go_wp2_with fail
            refine hpk.mono ?_
            rintro e w6 ⟨rfl, ⟨kv1, hs6⟩, hb6⟩
            have S6 := hid (SE.out.below hb6 hs6)
            clear hs6 hb6 hpk
            go_wp2_with fail
            go_roundg (ws.length - (j + 1))
            case rel => exact ⟨j + 1, by omega, by go_num, Or.inl ⟨_, _, _, S6.out, by have := hsx4; simp at this ⊢; omega, fun u hu => by (rcases List.mem_append.1 hu with hu | hu; exact Nat.le_trans (HKX.out u (List.mem_append_left _ hu)) (by omega); (rw [List.mem_singleton.1 hu, kids_add, List.length_append]; exact Nat.succ_le_succ (HKX.out p (List.mem_append_right _ (by simp))))), by rw [List.reverse_append]; exact HMT2.out⟩⟩
            case measure => omega
      rw [mach_step, if_neg hx] at HM
      clear hx
      by_cases h4 : st.length = 4
      · have HN2 : Hid (rdWords (ws.map (·.data.toList)) = none) := by show _ = _; rw [← HM.out, if_pos (by simpa using h4)]
        have h41 : ((st.length : Int) == 4) = true := by simp [h4]
        have h42 : ((st.length : Int) != 4) = false := by simp [h4]
        have HRE := hid (HNONE.out (HN2.out))
        go_wp2_with fail
        refine (badN_any _).mono ?_
        rintro e w9 ⟨rfl, k9⟩
        have S9 := hid ((HS.out.keep (Keep.refl _)).keep k9)
        obtain ⟨hcR, hzR, hlR⟩ := S9.out.res.facts
        go_wp2_with fail
        obtain ⟨b1, b2, -, -⟩ := S9.out.res.set rfl (.int .i64 0) (.string ⟨#[]⟩) (.int .i64 0) (.int .i64 0) (.int .i64 0) (.string ⟨#[]⟩) (.bool false) (.string ⟨#[]⟩) (.bool false) (.slice none 0 0)
        have KW := hid (Below.trans S9.out.kep b2)
        have BW := hid b1
        clear b1 b2 hcR hzR
        generalize ((((((((((w9.setCell ⟨w.heap.size, 0, none⟩ (.int .i64 0)).setCell ⟨w.heap.size, 1, none⟩ (.string ⟨#[]⟩)).setCell ⟨w.heap.size, 2, none⟩ (.int .i64 0)).setCell ⟨w.heap.size, 3, none⟩ (.int .i64 0)).setCell ⟨w.heap.size, 4, none⟩ (.int .i64 0)).setCell ⟨w.heap.size, 5, none⟩ (.string ⟨#[]⟩)).setCell ⟨w.heap.size, 6, none⟩ (.bool false)).setCell ⟨w.heap.size, 7, none⟩ (.string ⟨#[]⟩)).setCell ⟨w.heap.size, 8, none⟩ (.bool false)).setCell ⟨w.heap.size, 9, none⟩ (.slice none 0 0)) = W at BW KW ⊢
        obtain ⟨hcW, -, -⟩ := BW.out.facts
        exact bodyPost_ret (v := .tuple #[.agg #[.int .i64 0, .string ⟨#[]⟩, .int .i64 0, .int .i64 0, .int .i64 0, .string ⟨#[]⟩, .bool false, .string ⟨#[]⟩, .bool false, .slice none 0 0], .int .i64 1]) (by simp [results, Tryz.results21, go_sem, hcW]) rfl ⟨zeroL, by rw [HRE.out]; rfl, fun e => by (rw [HRE.out] at e; cases e), fun _ => rfl, KW.out⟩
      have h41 : ((st.length : Int) == 4) = false := beq_eq_false_iff_ne.2 (by omega)
      rw [if_neg (by simpa using h4)] at HM
      have hst3 : st.length ≤ 3 := by omega
      go_upto_block 2 with fail
      refine at_wp (fun W' => Keep wr W' ∧ NBox wr.heap.size #[.int .i64 3, .string ⟨#[]⟩, .int .i64 0, .int .i64 0, .int .i64 0, .string ⟨#[]⟩, .bool false, .string ⟨#[]⟩, .bool false, .slice none 0 0] W') ⟨Keep.alloc _ _, NBox.new _ _⟩ ?_
      rintro WA ⟨ka, na⟩
      have KA := hid ka
      have NA := hid na
      have SA := hid (HS.out.keep ka)
      have hcxA := (ka.cell (p := ⟨w.heap.size + 1 + 1 + 1, j, none⟩) (by simp only; omega)).trans hcx
      have hclA : w.heap.size + 1 + 1 + 1 < WA.heap.size := by have := SA.out.low; omega
      clear ka na hcx hwc hwf hwl0 hoc0 hof0 hol0 h41
      go_cut [] from 65 to 138 (fun wc => ∃ (kd : Int) (fl : ByteArray) (nt : Bool), Keep wr wc ∧ NBox wr.heap.size #[.int .i64 kd, .string ⟨#[]⟩, .int .i64 0, .int .i64 0, .int .i64 0, .string ⟨#[]⟩, .bool false, .string fl, .bool nt, .slice none 0 0] wc ∧ (match (ws.map (·.data.toList)).drop (j + 1) with
        | [] => none
        | y :: ws' => if y = [40] then mach (NT.node kd At.zero fl nt [] :: st.reverse) none ws' else none) = rdWords (ws.map (·.data.toList)))
      case rest =>
        obtain ⟨kd, fl, nt, kn, nb, hgm⟩ := hcut
        have KN := hid kn
        have NB := hid nb
        have HGM := hid hgm
        generalize wc = WN at KN NB ⊢
        clear kn nb hgm hcxA hclA KA NA SA HM
        by_cases hj1 : j + 1 < ws.length
        · have hcy := (HS.out.keep KN.out).wds (j + 1) _ (List.getElem?_eq_getElem hj1)
          have hcl : w.heap.size + 1 + 1 + 1 < WN.heap.size := by have := (HS.out.keep KN.out).low; omega
          have HD2 : Hid ((ws.map (·.data.toList)).drop (j + 1) = ws[j + 1].data.toList :: (ws.map (·.data.toList)).drop (j + 1 + 1)) := by
            show _ = _
            rw [List.drop_eq_getElem_cons (l := ws.map (·.data.toList)) (i := j + 1) (by simpa using hj1)]; simp
          generalize ws[j + 1] = y at hcy HD2
          have hi1 : ((j : Int) + 1 == (ws.length : Int)) = false := beq_eq_false_iff_ne.2 (by omega)
          rcases word_is y [40] with ⟨hy, hy1, hy2⟩ | ⟨hy, hy1, hy2⟩
          · have HM2 : Hid (mach (NT.node kd At.zero fl nt [] :: st.reverse) none ((ws.map (·.data.toList)).drop (j + 1 + 1)) = rdWords (ws.map (·.data.toList))) := by
              show _ = _
              rw [← HGM.out, HD2.out, hy]; rfl
            clear hy HGM HD2
            go_upto_region 43 with fail
            clear hcy
            have SN := hid (HS.out.keep KN.out)
            obtain ⟨hoc, hof, hol⟩ := SN.out.opn.facts
            obtain ⟨hbc, hbf, hbl⟩ := NB.out.facts
            have HROWN := hid SN.out.stk.row
            have hlowN := SN.out.low
            have hnbw : wr.heap.size < WN.heap.size := hbl
            have hobn : w.heap.size + 1 ≠ wr.heap.size := by have := HS.out.low; omega
            have hbd : (st.length : Int) < (st.length : Int) + 1 := by omega
            go_region_law (refine step_append_own rfl _ _ 24 rfl (w.heap.size + 4) 26 i0 (.agg #[.int .i64 0, .string ⟨#[]⟩, .int .i64 0, .int .i64 0, .int .i64 0, .string ⟨#[]⟩, .bool false, .string ⟨#[]⟩, .bool false, .slice none 0 0]) 10 120 Tryz.underlying24 hi hz0 hz1 hz2 rfl (by decide) (.slice vp st.length vc) st.length (stCells st kvs).flatten rfl (HROWN.out.alloc _) ⟨WN.heap.size, 0, none⟩ 1 1 [.int .i64 0, .string ⟨#[]⟩, .int .i64 0, .int .i64 0, .int .i64 0, .string ⟨#[]⟩, .bool false, .string ⟨#[]⟩, .bool false, .slice none 0 0] rfl rfl many_news (by intro u hu; simp at hu; rcases hu with rfl | rfl | rfl | rfl | rfl | rfl | rfl | rfl | rfl | rfl <;> rfl) (by unfold maxLen; omega) (by omega) (show w.heap.size + 4 ≤ (WN.alloc (.cells #[.int .i64 0, .string ⟨#[]⟩, .int .i64 0, .int .i64 0, .int .i64 0, .string ⟨#[]⟩, .bool false, .string ⟨#[]⟩, .bool false, .slice none 0 0] 26)).heap.size by rw [alloc_size]; omega) ?_; intro v5 w5 h1 h2 h3; obtain ⟨g5, cap5, rfl⟩ := owns_shape h1 (Nat.succ_pos _); have PA := hid (push_at (o := .cells #[.int .i64 0, .string ⟨#[]⟩, .int .i64 0, .int .i64 0, .int .i64 0, .string ⟨#[]⟩, .bool false, .string ⟨#[]⟩, .bool false, .slice none 0 0] 26) HS.out KN.out NB.out (Nat.le_refl _) h1 (grown_undrew h2) (by first | exact h3 | (rw [← alloc_size]; exact h3))); have hf5 : ∀ o, w5.frozen? ⟨g5, o, none⟩ = false := (fun o => PA.out.row.frozenAt o); have hl5 : g5 < w5.heap.size := (owns_in PA.out.row (g := g5) rfl).2; obtain ⟨hoc5, hof5, hol5⟩ := PA.out.opn.facts; obtain ⟨hbc5, hbf5, hbl5⟩ := PA.out.box.facts; have hne5 : w.heap.size + 1 ≠ g5 := (by have := PA.out.ne; omega); have hne6 : g5 ≠ w.heap.size + 1 := Ne.symm hne5; have d0 : w5.cell? ⟨g5, st.length * 10, none⟩ = some (.int .i64 0) := PA.out.cells HS.out.stk.len 0 _ rfl; have d1 := PA.out.cells HS.out.stk.len 1 _ rfl; have d2 := PA.out.cells HS.out.stk.len 2 _ rfl; have d3 := PA.out.cells HS.out.stk.len 3 _ rfl; have d4 := PA.out.cells HS.out.stk.len 4 _ rfl; have d5 := PA.out.cells HS.out.stk.len 5 _ rfl; have d6 := PA.out.cells HS.out.stk.len 6 _ rfl; have d7 := PA.out.cells HS.out.stk.len 7 _ rfl; have d8 := PA.out.cells HS.out.stk.len 8 _ rfl; have d9 := PA.out.cells HS.out.stk.len 9 _ rfl)
            all_goals
              have S9 := hid (push_st (NT.node kd At.zero fl nt []) (.int .i64 kd) (.string ⟨#[]⟩) (.int .i64 0) (.int .i64 0) (.int .i64 0) (.string ⟨#[]⟩) (.bool false) (.string fl) (.bool nt) (.slice none 0 0) HS.out PA.out rfl rfl)
              clear hf5 hl5 hoc5 hof5 hol5 hbc5 hbf5 hbl5 d0 d1 d2 d3 d4 d5 d6 d7 d8 d9 h1 h2 h3 hoc hof hol hbc hbf hbl
              try rw [fill_comm (st := st) w5 (w.heap.size + 1) g5 _ (.int .i64 kd) (.string ⟨#[]⟩) (.int .i64 0) (.int .i64 0) (.int .i64 0) (.string ⟨#[]⟩) (.bool false) (.string fl) (.bool nt) (.slice none 0 0) hne5]
              generalize (((((((((((w5.setCell ⟨g5, st.length * 10, none⟩ (.int .i64 kd)).setCell ⟨g5, st.length * 10 + 1, none⟩ (.string ⟨#[]⟩)).setCell ⟨g5, st.length * 10 + 2, none⟩ (.int .i64 0)).setCell ⟨g5, st.length * 10 + 3, none⟩ (.int .i64 0)).setCell ⟨g5, st.length * 10 + 4, none⟩ (.int .i64 0)).setCell ⟨g5, st.length * 10 + 5, none⟩ (.string ⟨#[]⟩)).setCell ⟨g5, st.length * 10 + 6, none⟩ (.bool false)).setCell ⟨g5, st.length * 10 + 7, none⟩ (.string fl)).setCell ⟨g5, st.length * 10 + 8, none⟩ (.bool nt)).setCell ⟨g5, st.length * 10 + 9, none⟩ (.slice none 0 0)).setCell ⟨w.heap.size + 1, 0, none⟩ (.slice (some ⟨g5, 0, none⟩) (st.length + 1) cap5)) = W9 at S9 ⊢
              go_wp2_with fail
              go_roundg (ws.length - (j + 1 + 1))
              case rel => exact ⟨j + 1 + 1, by omega, by go_num, Or.inl ⟨_, _, _, S9.out, by simp; omega, fun u hu => by (rcases List.mem_append.1 hu with hu | hu; exact Nat.le_trans (HKL.out u hu) (by omega); rw [List.mem_singleton.1 hu]; exact Nat.zero_le _), by rw [List.reverse_append]; exact (HM2.out)⟩⟩
              case measure => omega
          · have HN2 : Hid (rdWords (ws.map (·.data.toList)) = none) := by
              show _ = _
              rw [← HGM.out, HD2.out]
              show (if y.data.toList = [40] then _ else _) = _
              rw [if_neg hy]
            clear hy HGM HD2
            have HRE := hid (HNONE.out (HN2.out))
            go_wp2_with fail
            refine (badN_any _).mono ?_
            rintro e w9 ⟨rfl, k9⟩
            have S9 := hid ((HS.out.keep (KN.out)).keep k9)
            obtain ⟨hcR, hzR, hlR⟩ := S9.out.res.facts
            go_wp2_with fail
            obtain ⟨b1, b2, -, -⟩ := S9.out.res.set rfl (.int .i64 0) (.string ⟨#[]⟩) (.int .i64 0) (.int .i64 0) (.int .i64 0) (.string ⟨#[]⟩) (.bool false) (.string ⟨#[]⟩) (.bool false) (.slice none 0 0)
            have KW := hid (Below.trans S9.out.kep b2)
            have BW := hid b1
            clear b1 b2 hcR hzR
            generalize ((((((((((w9.setCell ⟨w.heap.size, 0, none⟩ (.int .i64 0)).setCell ⟨w.heap.size, 1, none⟩ (.string ⟨#[]⟩)).setCell ⟨w.heap.size, 2, none⟩ (.int .i64 0)).setCell ⟨w.heap.size, 3, none⟩ (.int .i64 0)).setCell ⟨w.heap.size, 4, none⟩ (.int .i64 0)).setCell ⟨w.heap.size, 5, none⟩ (.string ⟨#[]⟩)).setCell ⟨w.heap.size, 6, none⟩ (.bool false)).setCell ⟨w.heap.size, 7, none⟩ (.string ⟨#[]⟩)).setCell ⟨w.heap.size, 8, none⟩ (.bool false)).setCell ⟨w.heap.size, 9, none⟩ (.slice none 0 0)) = W at BW KW ⊢
            obtain ⟨hcW, -, -⟩ := BW.out.facts
            exact bodyPost_ret (v := .tuple #[.agg #[.int .i64 0, .string ⟨#[]⟩, .int .i64 0, .int .i64 0, .int .i64 0, .string ⟨#[]⟩, .bool false, .string ⟨#[]⟩, .bool false, .slice none 0 0], .int .i64 1]) (by simp [results, Tryz.results21, go_sem, hcW]) rfl ⟨zeroL, by rw [HRE.out]; rfl, fun e => by (rw [HRE.out] at e; cases e), fun _ => rfl, KW.out⟩
        · have HD2 : Hid ((ws.map (·.data.toList)).drop (j + 1) = []) := by
            show _ = _
            rw [List.drop_eq_nil_iff]; simp; omega
          have HN2 : Hid (rdWords (ws.map (·.data.toList)) = none) := by
            show _ = _
            rw [← HGM.out, HD2.out]
          have hi1 : ((j : Int) + 1 == (ws.length : Int)) = true := beq_iff_eq.2 (by omega)
          clear HGM HD2
          have HRE := hid (HNONE.out (HN2.out))
          go_wp2_with fail
          refine (badN_any _).mono ?_
          rintro e w9 ⟨rfl, k9⟩
          have S9 := hid ((HS.out.keep (KN.out)).keep k9)
          obtain ⟨hcR, hzR, hlR⟩ := S9.out.res.facts
          go_wp2_with fail
          obtain ⟨b1, b2, -, -⟩ := S9.out.res.set rfl (.int .i64 0) (.string ⟨#[]⟩) (.int .i64 0) (.int .i64 0) (.int .i64 0) (.string ⟨#[]⟩) (.bool false) (.string ⟨#[]⟩) (.bool false) (.slice none 0 0)
          have KW := hid (Below.trans S9.out.kep b2)
          have BW := hid b1
          clear b1 b2 hcR hzR
          generalize ((((((((((w9.setCell ⟨w.heap.size, 0, none⟩ (.int .i64 0)).setCell ⟨w.heap.size, 1, none⟩ (.string ⟨#[]⟩)).setCell ⟨w.heap.size, 2, none⟩ (.int .i64 0)).setCell ⟨w.heap.size, 3, none⟩ (.int .i64 0)).setCell ⟨w.heap.size, 4, none⟩ (.int .i64 0)).setCell ⟨w.heap.size, 5, none⟩ (.string ⟨#[]⟩)).setCell ⟨w.heap.size, 6, none⟩ (.bool false)).setCell ⟨w.heap.size, 7, none⟩ (.string ⟨#[]⟩)).setCell ⟨w.heap.size, 8, none⟩ (.bool false)).setCell ⟨w.heap.size, 9, none⟩ (.slice none 0 0)) = W at BW KW ⊢
          obtain ⟨hcW, -, -⟩ := BW.out.facts
          exact bodyPost_ret (v := .tuple #[.agg #[.int .i64 0, .string ⟨#[]⟩, .int .i64 0, .int .i64 0, .int .i64 0, .string ⟨#[]⟩, .bool false, .string ⟨#[]⟩, .bool false, .slice none 0 0], .int .i64 1]) (by simp [results, Tryz.results21, go_sem, hcW]) rfl ⟨zeroL, by rw [HRE.out]; rfl, fun e => by (rw [HRE.out] at e; cases e), fun _ => rfl, KW.out⟩
      case first =>
        obtain ⟨hba, hbfa, hbla⟩ := NA.out.facts
        rcases word_is x [40] with ⟨hx, hx1, hx2⟩ | ⟨hx, hx1, hx2⟩
        · rw [if_pos hx] at HM
          clear hx
          go_upto_region 30 with fail
          clear hcxA hba hbfa hbla
          have KN := KA
          have NB := NA
          go_cut [] from 97 to 102 (fun wc => ∃ v', RdSt w ws v' (st ++ [NT.node 3 At.zero ⟨#[]⟩ false []]) (kvs ++ [.slice none 0 0]) wc)
          case first =>
            have SN := hid (HS.out.keep KN.out)
            obtain ⟨hoc, hof, hol⟩ := SN.out.opn.facts
            obtain ⟨hbc, hbf, hbl⟩ := NB.out.facts
            have HROWN := hid SN.out.stk.row
            have hlowN := SN.out.low
            have hnbw : wr.heap.size < WA.heap.size := hbl
            have hobn : w.heap.size + 1 ≠ wr.heap.size := by have := HS.out.low; omega
            have hbd : (st.length : Int) < (st.length : Int) + 1 := by omega
            go_region_law (refine step_append_own rfl _ _ 24 rfl (w.heap.size + 4) 26 i0 (.agg #[.int .i64 0, .string ⟨#[]⟩, .int .i64 0, .int .i64 0, .int .i64 0, .string ⟨#[]⟩, .bool false, .string ⟨#[]⟩, .bool false, .slice none 0 0]) 10 120 Tryz.underlying24 hi hz0 hz1 hz2 rfl (by decide) (.slice vp st.length vc) st.length (stCells st kvs).flatten rfl (HROWN.out.alloc _) ⟨WA.heap.size, 0, none⟩ 1 1 [.int .i64 0, .string ⟨#[]⟩, .int .i64 0, .int .i64 0, .int .i64 0, .string ⟨#[]⟩, .bool false, .string ⟨#[]⟩, .bool false, .slice none 0 0] rfl rfl many_news (by intro u hu; simp at hu; rcases hu with rfl | rfl | rfl | rfl | rfl | rfl | rfl | rfl | rfl | rfl <;> rfl) (by unfold maxLen; omega) (by omega) (show w.heap.size + 4 ≤ (WA.alloc (.cells #[.int .i64 0, .string ⟨#[]⟩, .int .i64 0, .int .i64 0, .int .i64 0, .string ⟨#[]⟩, .bool false, .string ⟨#[]⟩, .bool false, .slice none 0 0] 26)).heap.size by rw [alloc_size]; omega) ?_; intro v5 w5 h1 h2 h3; obtain ⟨g5, cap5, rfl⟩ := owns_shape h1 (Nat.succ_pos _); have PA := hid (push_at (o := .cells #[.int .i64 0, .string ⟨#[]⟩, .int .i64 0, .int .i64 0, .int .i64 0, .string ⟨#[]⟩, .bool false, .string ⟨#[]⟩, .bool false, .slice none 0 0] 26) HS.out KN.out NB.out (Nat.le_refl _) h1 (grown_undrew h2) (by first | exact h3 | (rw [← alloc_size]; exact h3))); have hf5 : ∀ o, w5.frozen? ⟨g5, o, none⟩ = false := (fun o => PA.out.row.frozenAt o); have hl5 : g5 < w5.heap.size := (owns_in PA.out.row (g := g5) rfl).2; obtain ⟨hoc5, hof5, hol5⟩ := PA.out.opn.facts; obtain ⟨hbc5, hbf5, hbl5⟩ := PA.out.box.facts; have hne5 : w.heap.size + 1 ≠ g5 := (by have := PA.out.ne; omega); have hne6 : g5 ≠ w.heap.size + 1 := Ne.symm hne5; have d0 : w5.cell? ⟨g5, st.length * 10, none⟩ = some (.int .i64 0) := PA.out.cells HS.out.stk.len 0 _ rfl; have d1 := PA.out.cells HS.out.stk.len 1 _ rfl; have d2 := PA.out.cells HS.out.stk.len 2 _ rfl; have d3 := PA.out.cells HS.out.stk.len 3 _ rfl; have d4 := PA.out.cells HS.out.stk.len 4 _ rfl; have d5 := PA.out.cells HS.out.stk.len 5 _ rfl; have d6 := PA.out.cells HS.out.stk.len 6 _ rfl; have d7 := PA.out.cells HS.out.stk.len 7 _ rfl; have d8 := PA.out.cells HS.out.stk.len 8 _ rfl; have d9 := PA.out.cells HS.out.stk.len 9 _ rfl)
            all_goals
              have S9 := hid (push_st (NT.node 3 At.zero ⟨#[]⟩ false []) (.int .i64 3) (.string ⟨#[]⟩) (.int .i64 0) (.int .i64 0) (.int .i64 0) (.string ⟨#[]⟩) (.bool false) (.string ⟨#[]⟩) (.bool false) (.slice none 0 0) HS.out PA.out rfl rfl)
              clear hf5 hl5 hoc5 hof5 hol5 hbc5 hbf5 hbl5 d0 d1 d2 d3 d4 d5 d6 d7 d8 d9 h1 h2 h3 hoc hof hol hbc hbf hbl
              try rw [fill_comm (st := st) w5 (w.heap.size + 1) g5 _ (.int .i64 3) (.string ⟨#[]⟩) (.int .i64 0) (.int .i64 0) (.int .i64 0) (.string ⟨#[]⟩) (.bool false) (.string ⟨#[]⟩) (.bool false) (.slice none 0 0) hne5]
              go_wp2_with fail
              go_meet
              exact ⟨_, S9.out⟩
          case rest =>
          obtain ⟨v', S9⟩ := hcut
          go_wp2_with fail
          go_roundg (ws.length - (j + 1))
          case rel => exact ⟨j + 1, by omega, by go_num, Or.inl ⟨_, _, _, S9, by simp; omega, fun u hu => by (rcases List.mem_append.1 hu with hu | hu; exact Nat.le_trans (HKL.out u hu) (by omega); rw [List.mem_singleton.1 hu]; exact Nat.zero_le _), by rw [List.reverse_append]; exact (HM.out)⟩⟩
          case measure => omega
        rw [if_neg hx] at HM
        clear hx
        rcases word_is x [124, 124] with ⟨hx, hy1, hy2⟩ | ⟨hx, hy1, hy2⟩
        · rw [if_pos hx] at HM
          clear hx
          go_wp2_with fail
          go_meet
          exact ⟨4, ⟨#[]⟩, false, KA.out.set (p := ⟨wr.heap.size, 0, none⟩) (Nat.le_refl _) _, NA.out.set1 0 _, HM.out⟩
        rw [if_neg hx] at HM
        clear hx
        go_upto_region 33 with fail
        have hsuf := Tryz.strings_HasSuffix x ⟨#[63]⟩ WA (by omega)
        go_wp2_with fail
        refine hsuf.mono ?_
        rintro e w3 ⟨rfl, hw3⟩
        rw [hw3]
        clear hw3 hsuf
        cases hsx : Lib.hasSuffix x.data.toList [63]
        · rw [hsx, if_neg (by decide)] at HM
          clear hsx
          go_upto_region 21 with fail
          refine at_wp (fun W' => Keep wr W' ∧ NBox wr.heap.size #[.int .i64 1, .string ⟨#[]⟩, .int .i64 0, .int .i64 0, .int .i64 0, .string ⟨#[]⟩, .bool false, .string ⟨#[]⟩, .bool false, .slice none 0 0] W') ⟨KA.out.set (p := ⟨wr.heap.size, 0, none⟩) (Nat.le_refl _) _, NA.out.set1 0 _⟩ ?_
          rintro WB ⟨kb, nb⟩
          have KB := hid kb
          have NB := hid nb
          have hcxB := (HS.out.keep kb).wds j _ HXJ.out
          have hclB : w.heap.size + 1 + 1 + 1 < WB.heap.size := by have := (HS.out.keep kb).low; omega
          have hpr := Tryz.strings_HasPrefix x ⟨#[33]⟩ WB
          obtain ⟨hbb, hbfb, hblb⟩ := nb.facts
          clear kb nb hcxA hclA hba hbfa hbla
          go_wp2_with fail
          refine hpr.mono ?_
          rintro e w3 ⟨rfl, hw3⟩
          rw [hw3]
          clear hw3 hpr
          go_upto_if 71 with fail
          go_cut [12] from 71 to 74 (fun t12 wc => ∃ tb : ByteArray, t12 = .string tb ∧ tb.data.toList = Lib.trimPrefix x.data.toList [33] ∧ Keep wr wc ∧ NBox wr.heap.size #[.int .i64 (if Lib.hasPrefix x.data.toList [33] then 2 else 1), .string ⟨#[]⟩, .int .i64 0, .int .i64 0, .int .i64 0, .string ⟨#[]⟩, .bool false, .string ⟨#[]⟩, .bool false, .slice none 0 0] wc)
          case first =>
            cases hpx : Lib.hasPrefix x.data.toList [33]
            · go_wp2_with fail
              go_meet
              exact ⟨x, rfl, (no_prefix hpx).symm, KB.out, by rw [hpx]; exact NB.out⟩
            · have hx1' : (1 : Int) ≤ (x.size : Int) := by
                have h0 : x.data.toList ≠ [] := fun e => by rw [e] at hpx; cases hpx
                have := List.length_pos_iff.2 h0
                rw [size_list] at this
                omega
              go_upto_region 23 with fail
              go_region
              all_goals
                go_wp2_with fail
                go_meet
                exact ⟨_, rfl, by (rw [trim_at hpx]; exact Lib.extract_to_end _ _), by first | exact (KB.out.set (p := ⟨wr.heap.size, 0, none⟩) (Nat.le_refl _) _).drew | exact KB.out.drew.set (p := ⟨wr.heap.size, 0, none⟩) (Nat.le_refl _) _, by rw [hpx]; exact NB.out.set1 0 _⟩
          case rest =>
            obtain ⟨tb, rfl, htb, kc0, nc0⟩ := hcut
            have KC := hid kc0
            have NC := hid nc0
            have HTB := hid htb
            generalize wc = WC at KC NC ⊢
            have htz : tb.size ≤ 20000 := by
              have := trim_len x.data.toList [33]
              rw [← htb, size_list, size_list] at this
              omega
            have hrd := refRead_any tb WC (HE.out.keep (HS.out.kep.trans KC.out)) htz
            clear kc0 nc0 htb hbb hbfb hblb hcxB
            go_wp2_with fail
            refine hrd.mono ?_
            rintro e w4 ⟨an, af, aop, av, asl, aon, rfl, hq1, hq2, k4⟩
            rw [HTB.out] at hq1 hq2 ⊢
            have HQ : Hid (rdLeaf x.data.toList = if prsE (Lib.trimPrefix x.data.toList [33]) = 0 then some (.node (if Lib.hasPrefix x.data.toList [33] then 2 else 1) (atOf (Lib.trimPrefix x.data.toList [33])) ⟨#[]⟩ false []) else none) := rfl
            generalize (if Lib.hasPrefix x.data.toList [33] then (2 : Int) else 1) = kd at NC HQ
            have K4 := hid (KC.out.trans k4)
            have N4 := hid (NC.out.keep k4 NC.out.facts.2.2)
            generalize hsx : Lib.trimPrefix x.data.toList [33] = sx0 at hq1 hq2 HQ ⊢
            clear hsx hrd k4 KC NC
            by_cases hz : prsE sx0 = 0
            · have HA : Hid (atOf sx0 = ⟨an, aop, av, asl, af, aon⟩) := by
                show _ = _
                obtain ⟨q1, q2, q3, q4, q5, q6⟩ := hq1 hz
                unfold atOf
                rw [← q1, ← q2, ← q3, ← q4, ← q5, ← q6, bytes_back, bytes_back]
              have HLF : Hid (rdLeaf x.data.toList = some (.node kd ⟨an, aop, av, asl, af, aon⟩ ⟨#[]⟩ false [])) := by show _ = _; rw [HQ.out, if_pos hz, HA.out]
              rw [HLF.out] at HM
              have HMT : Hid ((match st.reverse with
                | [] => mach [] (some (.node kd ⟨an, aop, av, asl, af, aon⟩ ⟨#[]⟩ false [])) ((ws.map (·.data.toList)).drop (j + 1))
                | p :: q => mach (p.addKid (.node kd ⟨an, aop, av, asl, af, aon⟩ ⟨#[]⟩ false []) :: q) none ((ws.map (·.data.toList)).drop (j + 1))) = rdWords (ws.map (·.data.toList))) := HM.out
              rw [hz]
              clear hq1 hq2 hz HQ HA HLF HM
              go_upto_region 27 with fail
              refine at_wp (fun W' => Keep wr W' ∧ NBox wr.heap.size #[.int .i64 kd, .string ⟨#[]⟩, .int .i64 0, .int .i64 0, .int .i64 0, .string ⟨#[]⟩, .bool false, .string ⟨#[]⟩, .bool false, .slice none 0 0] W' ∧ Boxed w4.heap.size #[.string an, .int .i64 aop, .int .i64 av, .int .i64 asl, .string af, .bool aon] W') ⟨K4.out.alloc' _, N4.out.keep (Keep.alloc _ _) N4.out.facts.2.2, Boxed.new _ _ _⟩ ?_
              rintro WD ⟨kd0, nd0, bd0⟩
              have KD := hid kd0
              have ND := hid nd0
              obtain ⟨hnc, hnf, hnl⟩ := nd0.facts
              have hac := bd0.2
              have hal := bd0.1
              have hnea : wr.heap.size ≠ w4.heap.size := by have := N4.out.facts.2.2; omega
              have hneb : w4.heap.size ≠ wr.heap.size := Ne.symm hnea
              clear kd0 nd0 bd0 K4 N4
              go_upto_region 28 with fail
              refine at_wp (fun W' => Keep wr W' ∧ NBox wr.heap.size #[.int .i64 kd, .string an, .int .i64 aop, .int .i64 av, .int .i64 asl, .string af, .bool aon, .string ⟨#[]⟩, .bool false, .slice none 0 0] W') ⟨(((((KD.out.set (p := ⟨wr.heap.size, 1, none⟩) (Nat.le_refl _) _).set (p := ⟨wr.heap.size, 2, none⟩) (Nat.le_refl _) _).set (p := ⟨wr.heap.size, 3, none⟩) (Nat.le_refl _) _).set (p := ⟨wr.heap.size, 4, none⟩) (Nat.le_refl _) _).set (p := ⟨wr.heap.size, 5, none⟩) (Nat.le_refl _) _).set (p := ⟨wr.heap.size, 6, none⟩) (Nat.le_refl _) _, (((((ND.out.set1 1 _).set1 2 _).set1 3 _).set1 4 _).set1 5 _).set1 6 _⟩ ?_
              rintro WE ⟨ke, ne⟩
              have SE := hid (HS.out.keep ke)
              obtain ⟨hnc, hnf, hnl⟩ := ne.facts
              have HNE : Hid (NeedIs (Dead (w.heap.size + 4) (.slice vp st.length vc) kvs WE) WE (.node kd ⟨an, aop, av, asl, af, aon⟩ ⟨#[]⟩ false []) [.int .i64 kd, .string an, .int .i64 aop, .int .i64 av, .int .i64 asl, .string af, .bool aon, .string ⟨#[]⟩, .bool false, .slice none 0 0]) := by
                show NeedIs _ _ _ _
                rw [NeedIs]
                exact ⟨none, 0, rfl, Nat.le_refl _, by simp, by rw [KidsIs]; trivial⟩
              have HKX := HKL
              have hsx4 := hst4
              clear ke ne hac hal KD ND HS HKL
              generalize st = sx at SE HNE HKX HMT hsx4 ⊢
              generalize kvs = kx at SE HNE ⊢
              rcases nil_or_snoc sx with rfl | ⟨sx', p, rfl⟩
              · have HMT2 : Hid (mach [] (some (NT.node kd ⟨an, aop, av, asl, af, aon⟩ ⟨#[]⟩ false [])) ((ws.map (·.data.toList)).drop (j + 1)) = rdWords (ws.map (·.data.toList))) := HMT.out
                have hpe := putE_any (NT.node kd ⟨an, aop, av, asl, af, aon⟩ ⟨#[]⟩ false []) [.int .i64 kd, .string an, .int .i64 aop, .int .i64 av, .int .i64 asl, .string af, .bool aon, .string ⟨#[]⟩, .bool false, .slice none 0 0] (w.heap.size + 1) (w.heap.size + 1 + 1) vp vc WE HNE.out SE.out.opn SE.out.whl
                clear HMT
                go_wp2_with fail
                refine hpe.mono ?_
                rintro e w6 ⟨rfl, hv6, hb6, ha6⟩
                have KW6 := hid (Below.trans SE.out.kep (ha6.below (B := w.heap.size) SE.out.kep.size (fun b hb e => by have : b = w.heap.size + 1 + 1 := e; omega)))
                have R6 := hid (SE.out.res.apart ha6 (by omega))
                have N6 : Hid (NeedIs (fun b => w.heap.size + 4 ≤ b ∧ b < w6.heap.size) w6 (NT.node kd ⟨an, aop, av, asl, af, aon⟩ ⟨#[]⟩ false []) [.int .i64 kd, .string an, .int .i64 aop, .int .i64 av, .int .i64 asl, .string af, .bool aon, .string ⟨#[]⟩, .bool false, .slice none 0 0]) := NeedIs.mono (fun p hp => ha6.cell p hp.2.1 (fun e => by have h1 : p.block = w.heap.size + 1 + 1 := e; have h2 := hp.1; omega)) (fun b hb => ⟨hb.1, Nat.lt_of_lt_of_le hb.2.1 ha6.size⟩) _ _ HNE.out
                have V6 := hid hv6
                have B6 := hid hb6
                clear hv6 hb6 ha6 hpe
                go_wp2_with fail
                go_roundg (ws.length - (j + 1))
                case rel => exact ⟨j + 1, by omega, by go_num, Or.inr ⟨_, [.int .i64 kd, .string an, .int .i64 aop, .int .i64 av, .int .i64 asl, .string af, .bool aon, .string ⟨#[]⟩, .bool false, .slice none 0 0], (NT.node kd ⟨an, aop, av, asl, af, aon⟩ ⟨#[]⟩ false []), V6.out, B6.out, N6.out, R6.out, KW6.out, HMT2.out⟩⟩
                case measure => omega
              · rcases nil_or_snoc kx with rfl | ⟨kx', kv0, rfl⟩
                · have := SE.out.stk.len; simp at this
                have HMT2 : Hid (mach (p.addKid (NT.node kd ⟨an, aop, av, asl, af, aon⟩ ⟨#[]⟩ false []) :: sx'.reverse) none ((ws.map (·.data.toList)).drop (j + 1)) = rdWords (ws.map (·.data.toList))) := by
                  show _ = _
                  have := HMT.out
                  rw [List.reverse_append] at this
                  exact this
                have hpk := putK_any [.int .i64 kd, .string an, .int .i64 aop, .int .i64 av, .int .i64 asl, .string af, .bool aon, .string ⟨#[]⟩, .bool false, .slice none 0 0] (w.heap.size + 1) (w.heap.size + 1 + 1) WE SE.out.stk HNE.out SE.out.opn SE.out.low (by have := hsx4; simp at this; omega) (Nat.le_trans (HKX.out p (List.mem_append_right _ (by simp))) (by omega))
                clear HMT
                go_wp2_with fail
                refine hpk.mono ?_
                rintro e w6 ⟨rfl, ⟨kv1, hs6⟩, hb6⟩
                have S6 := hid (SE.out.below hb6 hs6)
                clear hs6 hb6 hpk
                go_wp2_with fail
                go_roundg (ws.length - (j + 1))
                case rel => exact ⟨j + 1, by omega, by go_num, Or.inl ⟨_, _, _, S6.out, by have := hsx4; simp at this ⊢; omega, fun u hu => by (rcases List.mem_append.1 hu with hu | hu; exact Nat.le_trans (HKX.out u (List.mem_append_left _ hu)) (by omega); (rw [List.mem_singleton.1 hu, kids_add, List.length_append]; exact Nat.succ_le_succ (HKX.out p (List.mem_append_right _ (by simp))))), by rw [List.reverse_append]; exact HMT2.out⟩⟩
                case measure => omega
            · have hz1 : (prsE sx0 == 0) = false := by simp [hz]
              have hz2 : (prsE sx0 != 0) = true := by simp [hz]
              have HN2 : Hid (rdWords (ws.map (·.data.toList)) = none) := by
                show _ = _
                have e : rdLeaf x.data.toList = none := by rw [HQ.out, if_neg hz]
                rw [← HM.out, e]
              clear hq1 hq2 hz HQ HM
              go_upto_region 26 with fail
              refine at_wp (fun W' => Keep wr W') (K4.out.alloc' _) ?_
              intro WD kd0
              have KN := hid kd0
              clear kd0
              have HRE := hid (HNONE.out (HN2.out))
              go_wp2_with fail
              refine (badN_any _).mono ?_
              rintro e w9 ⟨rfl, k9⟩
              have S9 := hid ((HS.out.keep (KN.out)).keep k9)
              obtain ⟨hcR, hzR, hlR⟩ := S9.out.res.facts
              go_wp2_with fail
              obtain ⟨b1, b2, -, -⟩ := S9.out.res.set rfl (.int .i64 0) (.string ⟨#[]⟩) (.int .i64 0) (.int .i64 0) (.int .i64 0) (.string ⟨#[]⟩) (.bool false) (.string ⟨#[]⟩) (.bool false) (.slice none 0 0)
              have KW := hid (Below.trans S9.out.kep b2)
              have BW := hid b1
              clear b1 b2 hcR hzR
              generalize ((((((((((w9.setCell ⟨w.heap.size, 0, none⟩ (.int .i64 0)).setCell ⟨w.heap.size, 1, none⟩ (.string ⟨#[]⟩)).setCell ⟨w.heap.size, 2, none⟩ (.int .i64 0)).setCell ⟨w.heap.size, 3, none⟩ (.int .i64 0)).setCell ⟨w.heap.size, 4, none⟩ (.int .i64 0)).setCell ⟨w.heap.size, 5, none⟩ (.string ⟨#[]⟩)).setCell ⟨w.heap.size, 6, none⟩ (.bool false)).setCell ⟨w.heap.size, 7, none⟩ (.string ⟨#[]⟩)).setCell ⟨w.heap.size, 8, none⟩ (.bool false)).setCell ⟨w.heap.size, 9, none⟩ (.slice none 0 0)) = W at BW KW ⊢
              obtain ⟨hcW, -, -⟩ := BW.out.facts
              exact bodyPost_ret (v := .tuple #[.agg #[.int .i64 0, .string ⟨#[]⟩, .int .i64 0, .int .i64 0, .int .i64 0, .string ⟨#[]⟩, .bool false, .string ⟨#[]⟩, .bool false, .slice none 0 0], .int .i64 1]) (by simp [results, Tryz.results21, go_sem, hcW]) rfl ⟨zeroL, by rw [HRE.out]; rfl, fun e => by (rw [HRE.out] at e; cases e), fun _ => rfl, KW.out⟩
        · rw [hsx, if_pos rfl] at HM
          clear hsx
          go_upto_region 35 with fail
          refine at_wp (fun W' => Keep wr W' ∧ NBox wr.heap.size #[.int .i64 5, .string ⟨#[]⟩, .int .i64 0, .int .i64 0, .int .i64 0, .string ⟨#[]⟩, .bool false, .string ⟨#[]⟩, .bool false, .slice none 0 0] W') ⟨KA.out.set (p := ⟨wr.heap.size, 0, none⟩) (Nat.le_refl _) _, NA.out.set1 0 _⟩ ?_
          rintro WB ⟨kb, nb⟩
          have KB := hid kb
          have NB := hid nb
          have hcxB := (HS.out.keep kb).wds j _ HXJ.out
          have hclB : w.heap.size + 1 + 1 + 1 < WB.heap.size := by have := (HS.out.keep kb).low; omega
          have htr := Tryz.strings_TrimSuffix x ⟨#[63]⟩ WB (by omega)
          obtain ⟨hbb, hbfb, hblb⟩ := nb.facts
          clear kb nb hcxA hclA hba hbfa hbla
          go_wp2_with fail
          refine htr.mono ?_
          rintro e w3 ⟨rfl, hw3⟩
          rw [hw3]
          clear hw3 htr
          generalize hf0 : (⟨(Lib.trimSuffix x.data.toList [63]).toArray⟩ : ByteArray) = f0
          have HF0 : Hid (f0.data.toList = Lib.trimSuffix x.data.toList [63]) := by rw [← hf0]; exact rfl
          clear hf0
          go_upto_region 36 with fail
          refine at_wp (fun W' => Keep wr W' ∧ NBox wr.heap.size #[.int .i64 5, .string ⟨#[]⟩, .int .i64 0, .int .i64 0, .int .i64 0, .string ⟨#[]⟩, .bool false, .string f0, .bool false, .slice none 0 0] W') ⟨KB.out.set (p := ⟨wr.heap.size, 7, none⟩) (Nat.le_refl _) _, NB.out.set1 7 _⟩ ?_
          rintro WC ⟨kc0, nc0⟩
          have KC := hid kc0
          have NC := hid nc0
          have hpr := Tryz.strings_HasPrefix f0 ⟨#[33]⟩ WC
          obtain ⟨hbc0, hbfc, hblc⟩ := nc0.facts
          clear kc0 nc0 hbb hbfb hblb hcxB hclB KB NB
          go_wp2_with fail
          refine hpr.mono ?_
          rintro e w3 ⟨rfl, hw3⟩
          rw [hw3]
          clear hw3 hpr
          go_upto_if 125 with fail
          go_cut [] from 125 to 130 (fun wc => ∃ fb : ByteArray, fb.data.toList = flagW x.data.toList ∧ Keep wr wc ∧ NBox wr.heap.size #[.int .i64 5, .string ⟨#[]⟩, .int .i64 0, .int .i64 0, .int .i64 0, .string ⟨#[]⟩, .bool false, .string fb, .bool (notW x.data.toList), .slice none 0 0] wc)
          case first =>
            cases hpx : Lib.hasPrefix f0.data.toList [33]
            · have e2 : notW x.data.toList = false := by unfold notW; rw [← HF0.out]; exact hpx
              go_wp2_with fail
              go_meet
              exact ⟨f0, by unfold flagW; rw [← HF0.out, no_prefix hpx], KC.out, by rw [e2]; exact NC.out⟩
            · have e2 : notW x.data.toList = true := by unfold notW; rw [← HF0.out]; exact hpx
              have hx1' : (1 : Int) ≤ (f0.size : Int) := by
                have h0 : f0.data.toList ≠ [] := fun e => by rw [e] at hpx; cases hpx
                have := List.length_pos_iff.2 h0
                rw [size_list] at this
                omega
              go_upto_region 37 with fail
              go_region
              all_goals
                go_wp2_with fail
                go_meet
                exact ⟨f0.extract 1 f0.size, by (unfold flagW; rw [← HF0.out, trim_at hpx]; exact Lib.extract_to_end _ _), by first | exact ((KC.out.set (p := ⟨wr.heap.size, 8, none⟩) (Nat.le_refl _) _).set (p := ⟨wr.heap.size, 7, none⟩) (Nat.le_refl _) _).drew | exact ((KC.out.set (p := ⟨wr.heap.size, 7, none⟩) (Nat.le_refl _) _).set (p := ⟨wr.heap.size, 8, none⟩) (Nat.le_refl _) _).drew, by rw [e2]; first | exact (NC.out.set1 8 _).set1 7 _ | exact (NC.out.set1 7 _).set1 8 _⟩
          case rest =>
            obtain ⟨fb, hfb, kd0, nd0⟩ := hcut
            have KD := hid kd0
            have ND := hid nd0
            have HFB := hid hfb
            generalize wc = WD at KD ND ⊢
            have hin := isName_any fb WD
            rw [hfb] at hin
            obtain ⟨hnc, hnf, hnl⟩ := ND.out.facts
            clear kd0 nd0 hfb hbc0 hbfc hblc
            generalize notW x.data.toList = nt0 at HM ND hnc
            go_wp2_with fail
            refine hin.mono ?_
            rintro e w4 ⟨rfl, k4⟩
            have K4 := hid (KD.out.trans k4)
            have N4 := hid (ND.out.keep k4 ND.out.facts.2.2)
            clear hin k4 hnc hnf hnl
            cases hnm : nameB (flagW x.data.toList)
            · rw [hnm] at HM
              have HN2 : Hid (rdWords (ws.map (·.data.toList)) = none) := HM.out.symm
              have KN := K4
              have HRE := hid (HNONE.out (HN2.out))
              go_wp2_with fail
              refine (badN_any _).mono ?_
              rintro e w9 ⟨rfl, k9⟩
              have S9 := hid ((HS.out.keep (KN.out)).keep k9)
              obtain ⟨hcR, hzR, hlR⟩ := S9.out.res.facts
              go_wp2_with fail
              obtain ⟨b1, b2, -, -⟩ := S9.out.res.set rfl (.int .i64 0) (.string ⟨#[]⟩) (.int .i64 0) (.int .i64 0) (.int .i64 0) (.string ⟨#[]⟩) (.bool false) (.string ⟨#[]⟩) (.bool false) (.slice none 0 0)
              have KW := hid (Below.trans S9.out.kep b2)
              have BW := hid b1
              clear b1 b2 hcR hzR
              generalize ((((((((((w9.setCell ⟨w.heap.size, 0, none⟩ (.int .i64 0)).setCell ⟨w.heap.size, 1, none⟩ (.string ⟨#[]⟩)).setCell ⟨w.heap.size, 2, none⟩ (.int .i64 0)).setCell ⟨w.heap.size, 3, none⟩ (.int .i64 0)).setCell ⟨w.heap.size, 4, none⟩ (.int .i64 0)).setCell ⟨w.heap.size, 5, none⟩ (.string ⟨#[]⟩)).setCell ⟨w.heap.size, 6, none⟩ (.bool false)).setCell ⟨w.heap.size, 7, none⟩ (.string ⟨#[]⟩)).setCell ⟨w.heap.size, 8, none⟩ (.bool false)).setCell ⟨w.heap.size, 9, none⟩ (.slice none 0 0)) = W at BW KW ⊢
              obtain ⟨hcW, -, -⟩ := BW.out.facts
              exact bodyPost_ret (v := .tuple #[.agg #[.int .i64 0, .string ⟨#[]⟩, .int .i64 0, .int .i64 0, .int .i64 0, .string ⟨#[]⟩, .bool false, .string ⟨#[]⟩, .bool false, .slice none 0 0], .int .i64 1]) (by simp [results, Tryz.results21, go_sem, hcW]) rfl ⟨zeroL, by rw [HRE.out]; rfl, fun e => by (rw [HRE.out] at e; cases e), fun _ => rfl, KW.out⟩
            · rw [hnm, if_pos rfl] at HM
              have e3 : (⟨(flagW x.data.toList).toArray⟩ : ByteArray) = fb := bytes_same (by rw [HFB.out])
              rw [e3] at HM
              go_wp2_with fail
              go_meet
              exact ⟨5, fb, nt0, K4.out, N4.out, HM.out⟩
    · have HV := hid hvw
      have HNB := hid hnb
      have HN := hid hnd
      have HR := hid hres
      have HK := hid hkp
      have HM := hid hmach
      obtain ⟨hvc, hvf, hvl⟩ := hvw.facts
      clear hvw hnb hnd hres hkp hmach
      by_cases hlt : j < ws.length
      · have HRE := hid (HNONE.out (by rw [← HM.out, List.drop_eq_getElem_cons (by simpa using hlt), mach_more]))
        go_wp2_with fail
        refine (badN_any _).mono ?_
        rintro e w9 ⟨rfl, k9⟩
        have R9 := hid (HR.out.keep k9 HR.out.facts.2.2)
        have K9 := hid (HK.out.trans k9)
        obtain ⟨hcR, hzR, hlR⟩ := R9.out.facts
        clear hvc hvf
        go_wp2_with fail
        obtain ⟨b1, b2, -, -⟩ := R9.out.set rfl (.int .i64 0) (.string ⟨#[]⟩) (.int .i64 0) (.int .i64 0) (.int .i64 0) (.string ⟨#[]⟩) (.bool false) (.string ⟨#[]⟩) (.bool false) (.slice none 0 0)
        have KW := hid (Below.trans K9.out b2)
        have BW := hid b1
        clear b1 b2 hcR hzR
        generalize ((((((((((w9.setCell ⟨w.heap.size, 0, none⟩ (.int .i64 0)).setCell ⟨w.heap.size, 1, none⟩ (.string ⟨#[]⟩)).setCell ⟨w.heap.size, 2, none⟩ (.int .i64 0)).setCell ⟨w.heap.size, 3, none⟩ (.int .i64 0)).setCell ⟨w.heap.size, 4, none⟩ (.int .i64 0)).setCell ⟨w.heap.size, 5, none⟩ (.string ⟨#[]⟩)).setCell ⟨w.heap.size, 6, none⟩ (.bool false)).setCell ⟨w.heap.size, 7, none⟩ (.string ⟨#[]⟩)).setCell ⟨w.heap.size, 8, none⟩ (.bool false)).setCell ⟨w.heap.size, 9, none⟩ (.slice none 0 0)) = W at BW KW ⊢
        obtain ⟨hcW, -, -⟩ := BW.out.facts
        exact bodyPost_ret (v := .tuple #[.agg #[.int .i64 0, .string ⟨#[]⟩, .int .i64 0, .int .i64 0, .int .i64 0, .string ⟨#[]⟩, .bool false, .string ⟨#[]⟩, .bool false, .slice none 0 0], .int .i64 1]) (by simp [results, Tryz.results21, go_sem, hcW]) rfl ⟨zeroL, by rw [HRE.out]; rfl, fun e => by (rw [HRE.out] at e; cases e), fun _ => rfl, KW.out⟩
      · obtain rfl : j = ws.length := by omega
        have HSO := hid (HSOME.out t (by rw [← HM.out, List.drop_of_length_le (by simp), mach_done]))
        have HND := hid HN.out
        rcases t with ⟨k, a, fl, nt, kids⟩
        have hn' := HN.out
        rw [NeedIs] at hn'
        obtain ⟨kp, kc, rfl, hkc1, hkc2, -⟩ := hn'
        obtain ⟨hnc, hnf, hnl⟩ := HNB.out.facts
        go_wp2_with fail
        refine (refCheckNeed_any (.node k a fl nt kids) _ wr _ (fun b hb => hb.2) HN.out).mono ?_
        rintro e w9 ⟨rfl, k9⟩
        have R9 := hid (HR.out.keep k9 HR.out.facts.2.2)
        have K9 := hid (HK.out.trans k9)
        have V9 := hid (HV.out.keep k9 HV.out.facts.2.2)
        have B9 := hid (HNB.out.keep k9 HNB.out.facts.2.2)
        have N9 := hid (HN.out.keep (fun b hb => hb.2) k9)
        have HKS : Hid (wr.heap.size ≤ w9.heap.size) := k9.size
        obtain ⟨hcR, hzR, hlR⟩ := R9.out.facts
        obtain ⟨hvc9, hvf9, hvl9⟩ := V9.out.facts
        obtain ⟨hnc9, hnf9, hnl9⟩ := B9.out.facts
        have HRE := hid HSO.out.1
        clear k9 hvc hvf hvl hnc hnf hnl
        generalize hcn : chkN (.node k a fl nt kids) = ce at HRE ⊢
        clear hcn
        by_cases hz : ce = 0
        · subst hz
          go_wp2_with fail
          obtain ⟨b1, b2, b3, b4⟩ := R9.out.set rfl (.int .i64 k) (.string a.n) (.int .i64 a.op) (.int .i64 a.v) (.int .i64 a.sl) (.string a.f) (.bool a.on) (.string fl) (.bool nt) (.slice kp kids.length kc)
          have KW := hid (Below.trans K9.out b2)
          have BW := hid b1
          have NW := hid (NeedIs.mono (S' := fun b => w.heap.size ≤ b ∧ b < ((((((((((w9.setCell ⟨w.heap.size, 0, none⟩ (.int .i64 k)).setCell ⟨w.heap.size, 1, none⟩ (.string a.n)).setCell ⟨w.heap.size, 2, none⟩ (.int .i64 a.op)).setCell ⟨w.heap.size, 3, none⟩ (.int .i64 a.v)).setCell ⟨w.heap.size, 4, none⟩ (.int .i64 a.sl)).setCell ⟨w.heap.size, 5, none⟩ (.string a.f)).setCell ⟨w.heap.size, 6, none⟩ (.bool a.on)).setCell ⟨w.heap.size, 7, none⟩ (.string fl)).setCell ⟨w.heap.size, 8, none⟩ (.bool nt)).setCell ⟨w.heap.size, 9, none⟩ (.slice kp kids.length kc)).heap.size) (w' := ((((((((((w9.setCell ⟨w.heap.size, 0, none⟩ (.int .i64 k)).setCell ⟨w.heap.size, 1, none⟩ (.string a.n)).setCell ⟨w.heap.size, 2, none⟩ (.int .i64 a.op)).setCell ⟨w.heap.size, 3, none⟩ (.int .i64 a.v)).setCell ⟨w.heap.size, 4, none⟩ (.int .i64 a.sl)).setCell ⟨w.heap.size, 5, none⟩ (.string a.f)).setCell ⟨w.heap.size, 6, none⟩ (.bool a.on)).setCell ⟨w.heap.size, 7, none⟩ (.string fl)).setCell ⟨w.heap.size, 8, none⟩ (.bool nt)).setCell ⟨w.heap.size, 9, none⟩ (.slice kp kids.length kc))) (fun p hp => World.cell?_of_block (w := w9) (b4 p.block (by have := hp.1; omega))) (fun b hb => ⟨by have := hb.1; omega, by rw [b3]; exact Nat.lt_of_lt_of_le hb.2 HKS.out⟩) _ _ N9.out)
          clear b1 b2 b3 b4 hcR hzR hvc9 hvf9 hnc9 hnf9
          generalize ((((((((((w9.setCell ⟨w.heap.size, 0, none⟩ (.int .i64 k)).setCell ⟨w.heap.size, 1, none⟩ (.string a.n)).setCell ⟨w.heap.size, 2, none⟩ (.int .i64 a.op)).setCell ⟨w.heap.size, 3, none⟩ (.int .i64 a.v)).setCell ⟨w.heap.size, 4, none⟩ (.int .i64 a.sl)).setCell ⟨w.heap.size, 5, none⟩ (.string a.f)).setCell ⟨w.heap.size, 6, none⟩ (.bool a.on)).setCell ⟨w.heap.size, 7, none⟩ (.string fl)).setCell ⟨w.heap.size, 8, none⟩ (.bool nt)).setCell ⟨w.heap.size, 9, none⟩ (.slice kp kids.length kc)) = W at BW KW NW ⊢
          obtain ⟨hcW, -, -⟩ := BW.out.facts
          exact bodyPost_ret (v := .tuple #[.agg #[.int .i64 k, .string a.n, .int .i64 a.op, .int .i64 a.v, .int .i64 a.sl, .string a.f, .bool a.on, .string fl, .bool nt, .slice kp kids.length kc], .int .i64 0]) (by simp [results, Tryz.results21, go_sem, hcW]) rfl ⟨[.int .i64 k, .string a.n, .int .i64 a.op, .int .i64 a.v, .int .i64 a.sl, .string a.f, .bool a.on, .string fl, .bool nt, .slice kp kids.length kc], by rw [HRE.out], fun _ => ⟨_, HSO.out.2, NW.out⟩, fun h => absurd HRE.out h, KW.out⟩
        · have hz1 : (ce == 0) = false := by simp [hz]
          have hz2 : (ce != 0) = true := by simp [hz]
          go_wp2_with fail
          obtain ⟨b1, b2, -, -⟩ := R9.out.set rfl (.int .i64 0) (.string ⟨#[]⟩) (.int .i64 0) (.int .i64 0) (.int .i64 0) (.string ⟨#[]⟩) (.bool false) (.string ⟨#[]⟩) (.bool false) (.slice none 0 0)
          have KW := hid (Below.trans K9.out b2)
          have BW := hid b1
          clear b1 b2 hcR hzR
          generalize ((((((((((w9.setCell ⟨w.heap.size, 0, none⟩ (.int .i64 0)).setCell ⟨w.heap.size, 1, none⟩ (.string ⟨#[]⟩)).setCell ⟨w.heap.size, 2, none⟩ (.int .i64 0)).setCell ⟨w.heap.size, 3, none⟩ (.int .i64 0)).setCell ⟨w.heap.size, 4, none⟩ (.int .i64 0)).setCell ⟨w.heap.size, 5, none⟩ (.string ⟨#[]⟩)).setCell ⟨w.heap.size, 6, none⟩ (.bool false)).setCell ⟨w.heap.size, 7, none⟩ (.string ⟨#[]⟩)).setCell ⟨w.heap.size, 8, none⟩ (.bool false)).setCell ⟨w.heap.size, 9, none⟩ (.slice none 0 0)) = W at BW KW ⊢
          obtain ⟨hcW, -, -⟩ := BW.out.facts
          exact bodyPost_ret (v := .tuple #[.agg #[.int .i64 0, .string ⟨#[]⟩, .int .i64 0, .int .i64 0, .int .i64 0, .string ⟨#[]⟩, .bool false, .string ⟨#[]⟩, .bool false, .slice none 0 0], .int .i64 ce]) (by simp [results, Tryz.results21, go_sem, hcW]) rfl ⟨zeroL, by rw [HRE.out]; rfl, fun e => by (rw [HRE.out] at e; exact absurd e hz), fun _ => rfl, KW.out⟩
end Go.Proofs.YtkckkjpkidcbnaaGreatDoor
