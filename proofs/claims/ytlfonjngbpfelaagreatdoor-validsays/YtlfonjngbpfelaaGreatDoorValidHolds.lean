/- valid.holds answers as the plain function holdB says, of a set that is right. -/
import Derived.Test.YtlfonjngbpfelaaGreatDoorValidOther
namespace Go.Proofs.YtlfonjngbpfelaaGreatDoor
open Go.RowKit Go.Sort

set_option maxHeartbeats 2000000 in
set_option maxRecDepth 100000 in
theorem indexFuncN_any {F : Nat} {cap : Array Value} (S : Nat → Prop) (kids : List NT) (g : NT → Bool) (kp : Option Addr) (kc : Nat) (w : World) (hS : ∀ b, S b → b < w.heap.size)
    (hF : ∀ args w, (callFunc F args).run Tryz.prog w = .ok (.enter F args) w) (hmax : kids.length ≤ 9223372036854775807) (hk : KidsIs S w kids kp 0)
    (hc : ∀ (j : Nat) (h : j < kids.length) (cs : List Value) (W : World), Keep w W → NeedIs S W kids[j] cs → Calls Tryz.prog F (#[.agg cs.toArray] ++ cap) W fun e w' => e = .returned (.bool (g kids[j])) ∧ Keep W w') :
    Calls Tryz.prog 207 #[.slice kp kids.length kc, .func (.func F) #[] cap] w fun e w' => ∃ n : Int, e = .returned (.int .i64 n) ∧ decide (0 ≤ n) = kids.any g ∧ Keep w w' := by
  have HK := hid hk
  have HC := hid hc
  clear hk hc
  go_enter Tryz.func207, Tryz.ntmps207
  go_wp2_with fail
  go_loopg [8] kids.length (fun gk i wr => ∃ j : Nat, j + gk = kids.length ∧ i = .int .i64 j ∧ (kids.take j).any g = false ∧ Keep w wr)
  case atStart => exact ⟨0, by simp, rfl, by simp, Keep.refl _⟩
  case round =>
    obtain ⟨j, hj, rfl, hno, hkp⟩ := hrel
    have HNO := hid hno
    have HKP := hid hkp
    clear hno hkp
    by_cases hlt : j < kids.length
    · obtain ⟨p, cs, hp, hSp, hcell, hneed⟩ := kidsIs_get (KidsIs.mono (below_cells hS HKP.out) (fun _ h => h) kids kp 0 HK.out) j hlt
      have HCALL := hid (HC.out j hlt cs wr HKP.out hneed)
      have HST : Hid ((kids.take (j + 1)).any g = g kids[j]) := by
        show _ = _
        rw [List.take_succ_eq_append_getElem hlt, List.any_append, HNO.out]; simp
      have HUP : Hid (g kids[j] = true → kids.any g = true) := fun h => List.any_eq_true.2 ⟨kids[j], List.getElem_mem hlt, h⟩
      subst hp
      rw [Nat.zero_add] at hcell
      generalize g kids[j] = β at HCALL HST HUP
      cases hkid : kids[j] with
      | node k' a' fl' nt' kids' =>
      rw [hkid, NeedIs] at hneed
      obtain ⟨kp', kc', rfl, -, -, -⟩ := hneed
      obtain ⟨c0, c1, c2, c3, c4, c5, c6, c7, c8, c9⟩ := cells10 hcell
      clear hcell hkid HNO
      go_wp2_with fail
      refine HCALL.out.mono ?_
      rintro e w1 ⟨rfl, k1⟩
      have K1 := hid (HKP.out.trans k1)
      clear k1 c0 c1 c2 c3 c4 c5 c6 c7 c8 c9 HCALL
      cases β
      · go_wp2_with fail
        go_roundg (kids.length - (j + 1))
        case rel => exact ⟨j + 1, by omega, by go_num, HST.out, K1.out⟩
        case measure => omega
      · go_wp2_with fail
        go_ret
        exact ⟨(j : Int), rfl, by rw [show kids.any g = true from HUP.out trivial]; exact decide_eq_true (by omega), K1.out⟩
    · obtain rfl : j = kids.length := by omega
      go_wp2_with fail
      go_ret
      refine ⟨-1, rfl, ?_, HKP.out⟩
      have := HNO.out
      rw [List.take_length] at this
      rw [this]; rfl
set_option maxHeartbeats 1000000 in
theorem containsFuncN_any {F : Nat} {cap : Array Value} (S : Nat → Prop) (kids : List NT) (g : NT → Bool) (kp : Option Addr) (kc : Nat) (w : World) (hS : ∀ b, S b → b < w.heap.size)
    (hF : ∀ args w, (callFunc F args).run Tryz.prog w = .ok (.enter F args) w) (hmax : kids.length ≤ 9223372036854775807) (hk : KidsIs S w kids kp 0)
    (hc : ∀ (j : Nat) (h : j < kids.length) (cs : List Value) (W : World), Keep w W → NeedIs S W kids[j] cs → Calls Tryz.prog F (#[.agg cs.toArray] ++ cap) W fun e w' => e = .returned (.bool (g kids[j])) ∧ Keep W w') :
    Calls Tryz.prog 164 #[.slice kp kids.length kc, .func (.func F) #[] cap] w fun e w' => e = .returned (.bool (kids.any g)) ∧ Keep w w' := by
  have HI := hid (indexFuncN_any S kids g kp kc w hS hF hmax hk hc)
  clear hk hc
  go_enter Tryz.func164, Tryz.ntmps164
  go_wp2_with fail
  refine HI.out.mono ?_
  rintro e w1 ⟨n, rfl, hn, k1⟩
  have HN := hid hn
  have K1 := hid k1
  clear hn k1 HI
  go_wp2_with fail
  go_ret
  exact ⟨ret_bool HN.out, K1.out⟩

theorem kid_flags (k : Int) (a : At) (fl : ByteArray) (nt : Bool) : ∀ (kids : List NT) (j : Nat) (h : j < kids.length) (f : ByteArray), f ∈ kids[j].flags → f ∈ (NT.node k a fl nt kids).flags := by
  intro kids j h f hf
  rw [NT.flags]
  refine List.mem_append_right _ ?_
  induction kids generalizing j with
  | nil => exact absurd h (Nat.not_lt_zero _)
  | cons t ts ih =>
    rw [flagsL]
    cases j with
    | zero => exact List.mem_append_left _ hf
    | succ j => exact List.mem_append_right _ (ih j (by simpa using h) hf)
theorem anyB_any (ps : List PK) (ms : List MB) (k : Nat) : ∀ kids : List NT, anyB ps ms k kids = kids.any (holdsB ps ms k)
  | [] => by simp [anyB]
  | t :: ts => by rw [anyB, anyB_any ps ms k ts]; simp
theorem allB_any (ps : List PK) (ms : List MB) (k : Nat) : ∀ kids : List NT, allB ps ms k kids = !kids.any (fun t => !holdsB ps ms k t)
  | [] => by simp [allB]
  | t :: ts => by rw [allB, allB_any ps ms k ts]; simp

/-- Where holds' closures stand: their six variables. -/
structure HoldsAt (S : Nat → Prop) (ps : List PK) (ms : List MB) (k : Nat) (tp lp : Option Addr) (tc lc ct cl ck ch cp cf : Nat) (pcs : Array Value) (w : World) : Prop where
  tree : VarAt ct 44 (.slice tp ps.length tc) w
  set : VarAt cl 45 (.slice lp ms.length lc) w
  num : VarAt ck 3 (.int .i64 k) w
  self : VarAt ch 104 (.func (.func 163) #[] #[.pointer (some ⟨ct, 0, none⟩), .pointer (some ⟨cl, 0, none⟩), .pointer (some ⟨ck, 0, none⟩), .pointer (some ⟨ch, 0, none⟩), .pointer (some ⟨cp, 0, none⟩), .pointer (some ⟨cf, 0, none⟩)]) w
  pack : Boxed cp pcs w
  fails : VarAt cf 104 (.func (.func 162) #[] #[.pointer (some ⟨ch, 0, none⟩)]) w
  row : PkgsIs S w ps (.slice tp ps.length tc)
  mbs : MbsIs S w ms (.slice lp ms.length lc)
  old : ∀ b, S b → b < w.heap.size
theorem HoldsAt.keep {S : Nat → Prop} {ps : List PK} {ms : List MB} {k : Nat} {tp lp : Option Addr} {tc lc ct cl ck ch cp cf : Nat} {pcs : Array Value} {w w' : World} (h : HoldsAt S ps ms k tp lp tc lc ct cl ck ch cp cf pcs w) (k' : Keep w w') : HoldsAt S ps ms k tp lp tc lc ct cl ck ch cp cf pcs w' :=
  ⟨h.tree.keep k' h.tree.facts.2.2, h.set.keep k' h.set.facts.2.2, h.num.keep k' h.num.facts.2.2, h.self.keep k' h.self.facts.2.2, h.pack.keep k' h.pack.1, h.fails.keep k' h.fails.facts.2.2, h.row.keep h.old k', h.mbs.keep h.old k', fun b hb => Nat.lt_of_lt_of_le (h.old b hb) k'.size⟩
theorem enter_hold1 (args : Array Value) (w : World) : (callFunc 162 args).run Tryz.prog w = .ok (.enter 162 args) w := enters_of Tryz.func162 (by kernel_rfl) rfl args w
theorem enter_hold2 (args : Array Value) (w : World) : (callFunc 163 args).run Tryz.prog w = .ok (.enter 163 args) w := enters_of Tryz.func163 (by kernel_rfl) rfl args w

set_option maxHeartbeats 2000000 in
set_option maxRecDepth 100000 in
theorem fails_any {S : Nat → Prop} {ps : List PK} {ms : List MB} {k : Nat} {tp lp : Option Addr} {tc lc ct cl ck ch cp cf : Nat} {pcs : Array Value} (t : NT) (cs : List Value) (w : World) (h : HoldsAt S ps ms k tp lp tc lc ct cl ck ch cp cf pcs w) (hn : NeedIs S w t cs)
    (hc : ∀ W, Keep w W → Calls Tryz.prog 163 #[.agg cs.toArray, .pointer (some ⟨ct, 0, none⟩), .pointer (some ⟨cl, 0, none⟩), .pointer (some ⟨ck, 0, none⟩), .pointer (some ⟨ch, 0, none⟩), .pointer (some ⟨cp, 0, none⟩), .pointer (some ⟨cf, 0, none⟩)] W fun e w' => e = .returned (.bool (holdsB ps ms k t)) ∧ Keep W w') :
    Calls Tryz.prog 162 #[.agg cs.toArray, .pointer (some ⟨ch, 0, none⟩)] w fun e w' => e = .returned (.bool (!holdsB ps ms k t)) ∧ Keep w w' := by
  obtain ⟨hc0, -, hl0⟩ := h.self.facts
  have hent := enter_hold2
  have HC := hid hc
  rcases t with ⟨kd, a, fl, nt, kids⟩
  rw [NeedIs] at hn
  obtain ⟨kp, kc, rfl, -, -, -⟩ := hn
  clear h hc
  generalize holdsB ps ms k (.node kd a fl nt kids) = β at HC ⊢
  go_enter Tryz.func162, Tryz.ntmps162
  go_wp2_with fail
  refine at_calls (fun W' => Keep w W') (Keep.alloc _ _) ?_
  intro W0 k0
  refine (HC.out W0 k0).mono ?_
  rintro e w1 ⟨rfl, k1⟩
  have K1 := hid (k0.trans k1)
  clear k0 k1 hc0
  go_wp2_with fail
  go_ret
  exact ⟨ret_bool (by simp), K1.out⟩

set_option maxHeartbeats 4000000 in
set_option maxRecDepth 100000 in
theorem holds2_any {S : Nat → Prop} {ps : List PK} {ms : List MB} {k : Nat} {tp lp : Option Addr} {tc lc ct cl ck ch cp cf : Nat} {pcs : Array Value} {fp : Option Addr} {fc : Nat} (hk : k < ms.length) (hok : SetOk ps ms)
    (hpc : pcs[3]? = some (.slice fp (pkOf ps ms[k]).fl.length fc)) : ∀ (m : Nat) (t : NT), t.size ≤ m → (∀ f ∈ t.flags, flagAt (pkOf ps ms[k]).fl f < (pkOf ps ms[k]).fl.length) → ∀ (cs : List Value) (w : World), HoldsAt S ps ms k tp lp tc lc ct cl ck ch cp cf pcs w → StrsIs S w (pkOf ps ms[k]).fl (.slice fp (pkOf ps ms[k]).fl.length fc) → NeedIs S w t cs →
    Calls Tryz.prog 163 #[.agg cs.toArray, .pointer (some ⟨ct, 0, none⟩), .pointer (some ⟨cl, 0, none⟩), .pointer (some ⟨ck, 0, none⟩), .pointer (some ⟨ch, 0, none⟩), .pointer (some ⟨cp, 0, none⟩), .pointer (some ⟨cf, 0, none⟩)] w fun e w' => e = .returned (.bool (holdsB ps ms k t)) ∧ Keep w w' := by
  intro m
  induction m with
  | zero =>
    rintro ⟨kd, a, fl, nt, kids⟩ hm
    rw [NT.size] at hm; omega
  | succ m ih =>
    rintro ⟨kd, a, fl, nt, kids⟩ hm hfl cs w hw hst hn
    rw [NT.size] at hm
    have hn' := hn
    rw [NeedIs] at hn
    obtain ⟨kp, kc, rfl, hcap, hmax, hkids⟩ := hn
    have HK := hid hkids
    have HW := hid hw
    have HST := hid hst
    have HPC := hid hpc
    have hold := hw.old
    have HKEEP : Hid (∀ W, Keep w W → KidsIs S W kids kp 0) := fun W kw => KidsIs.mono (below_cells hold kw) (fun _ h => h) kids kp 0 HK.out
    have HIH : Hid (∀ (j : Nat) (h : j < kids.length) (cs : List Value) (W : World), Keep w W → NeedIs S W kids[j] cs → Calls Tryz.prog 163 (#[.agg cs.toArray] ++ #[.pointer (some ⟨ct, 0, none⟩), .pointer (some ⟨cl, 0, none⟩), .pointer (some ⟨ck, 0, none⟩), .pointer (some ⟨ch, 0, none⟩), .pointer (some ⟨cp, 0, none⟩), .pointer (some ⟨cf, 0, none⟩)]) W fun e w' => e = .returned (.bool (holdsB ps ms k kids[j])) ∧ Keep W w') := fun j h cs W kw hnd =>
      ih kids[j] (by have := sizeL_get kids j h; omega) (fun f hf => hfl f (kid_flags kd a fl nt kids j h f hf)) cs W (hw.keep kw) (hst.keep hold kw) hnd
    have HFL : Hid (kd = 5 → flagAt (pkOf ps ms[k]).fl fl < (pkOf ps ms[k]).fl.length) := fun h5 => hfl fl (by rw [NT.flags, if_pos h5]; simp)
    obtain ⟨hct, -, hlt⟩ := hw.tree.facts
    obtain ⟨hcl, -, hll⟩ := hw.set.facts
    obtain ⟨hck, -, hlk⟩ := hw.num.facts
    obtain ⟨hch, -, hlh⟩ := hw.self.facts
    obtain ⟨hcf, -, hlf⟩ := hw.fails.facts
    have hcp := hw.pack.2
    have hlp := hw.pack.1
    have e1 := enter_hold1
    have e2 := enter_hold2
    clear ih hkids hw hst hn' hfl hpc
    by_cases h1 : kd = 1
    · subst h1
      have HX : Hid (holdsB ps ms k (.node 1 a fl nt kids) = someB ps ms (-1) a) := by show _ = _; rw [holdsB, if_pos rfl]
      go_enter Tryz.func163, Tryz.ntmps163
      go_wp2_with fail
      refine at_calls (fun W' => Keep w W') (Keep.alloc _ _) ?_
      intro W0 k0
      refine (someOther_any S ps ms _ _ (-1) a.n a.f a.op a.v a.sl a.on W0 (HW.out.keep k0).old (HW.out.keep k0).row (HW.out.keep k0).mbs hok).mono ?_
      rintro e w1 ⟨rfl, k1⟩
      have K1 := hid (k0.trans k1)
      clear k0 k1
      go_wp2_with fail
      go_ret
      exact ⟨ret_bool HX.out.symm, K1.out⟩
    by_cases h2 : kd = 2
    · subst h2
      have HX : Hid (holdsB ps ms k (.node 2 a fl nt kids) = !someB ps ms k a) := by show _ = _; rw [holdsB, if_neg (by decide), if_pos rfl]
      clear h1
      go_enter Tryz.func163, Tryz.ntmps163
      go_wp2_with fail
      refine at_calls (fun W' => Keep w W') (Keep.alloc _ _) ?_
      intro W0 k0
      refine (someOther_any S ps ms _ _ k a.n a.f a.op a.v a.sl a.on W0 (HW.out.keep k0).old (HW.out.keep k0).row (HW.out.keep k0).mbs hok).mono ?_
      rintro e w1 ⟨rfl, k1⟩
      have K1 := hid (k0.trans k1)
      have HX2 : Hid (holdsB ps ms k (.node 2 a fl nt kids) = !someB ps ms k ⟨a.n, a.op, a.v, a.sl, a.f, a.on⟩) := HX.out
      generalize someB ps ms k ⟨a.n, a.op, a.v, a.sl, a.f, a.on⟩ = β at HX2 ⊢
      clear k0 k1
      go_wp2_with fail
      go_ret
      exact ⟨ret_bool (by rw [HX2.out]), K1.out⟩
    by_cases h4 : kd = 4
    · subst h4
      have HX : Hid (holdsB ps ms k (.node 4 a fl nt kids) = kids.any (holdsB ps ms k)) := by show _ = _; rw [holdsB, if_neg (by decide), if_neg (by decide), if_pos rfl, anyB_any]
      clear h1 h2
      go_enter Tryz.func163, Tryz.ntmps163
      go_wp2_with fail
      refine at_calls (fun W' => Keep w W') (Keep.alloc _ _) ?_
      intro W0 k0
      refine (containsFuncN_any S kids (holdsB ps ms k) kp kc W0 (HW.out.keep k0).old enter_hold2 hmax (HKEEP.out W0 k0) (fun j h cs W kW hnd => HIH.out j h cs W (k0.trans kW) hnd)).mono ?_
      rintro e w1 ⟨rfl, k1⟩
      have K1 := hid (k0.trans k1)
      generalize kids.any (holdsB ps ms k) = β at HX ⊢
      clear k0 k1
      go_wp2_with fail
      go_ret
      exact ⟨ret_bool (by rw [HX.out]), K1.out⟩
    have HALL : Hid (∀ W, Keep w W → Calls Tryz.prog 164 #[.slice kp kids.length kc, .func (.func 162) #[] #[.pointer (some ⟨ch, 0, none⟩)]] W fun e w' => e = .returned (.bool (kids.any fun t => !holdsB ps ms k t)) ∧ Keep W w') := fun W kW =>
      containsFuncN_any S kids (fun t => !holdsB ps ms k t) kp kc W (HW.out.keep kW).old enter_hold1 hmax (HKEEP.out W kW) (fun j h cs W' kW' hnd => fails_any kids[j] cs W' (HW.out.keep (kW.trans kW')) hnd (fun W2 k2 => HIH.out j h cs W2 (kW.trans (kW'.trans k2)) (hnd.keep (HW.out.keep (kW.trans kW')).old k2)))
    clear HIH HKEEP HK
    have b1 : (kd == 1) = false := by simp [h1]
    have b2 : (kd == 2) = false := by simp [h2]
    have b4 : (kd == 4) = false := by simp [h4]
    by_cases h5 : kd = 5
    · have HFA := hid (HFL.out h5)
      subst h5
      clear h1 h2 h4 b1 b2 b4 HFL
      have HX : Hid (holdsB ps ms k (.node 5 a fl nt kids) = if ((ms.getD k MB.zero).on.getD (flagAt (pkOf ps (ms.getD k MB.zero)).fl fl) false == nt) = true then true else !kids.any (fun t => !holdsB ps ms k t)) := by
        show _ = _
        rw [holdsB, if_neg (by decide), if_neg (by decide), if_neg (by decide), allB_any]
        simp only [true_and]
      rw [getD_mb ms k hk] at HX
      obtain ⟨mb, moff, mcap, hmv, hmS, -, hrow⟩ := HW.out.mbs.get hk
      cases hmv
      obtain ⟨op, oc, hm0, hm1, hon, hbl⟩ := hrow k _ (List.getElem?_eq_getElem hk)
      obtain ⟨-, -, hol⟩ := hok k _ (List.getElem?_eq_getElem hk)
      have hqo : flagAt (pkOf ps ms[k]).fl fl < ms[k].on.length := by rw [hol]; exact HFA.out
      obtain ⟨ob, ooff, hop, hSo, hcell⟩ := hbl.cell hqo
      subst hop
      have hmlt := hold mb hmS
      have holt := hold ob hSo
      have hc3 : w.cell? ⟨cp, 3, none⟩ = some (.slice fp (pkOf ps ms[k]).fl.length fc) := (hcp 3).trans HPC.out
      generalize hqe : flagAt (pkOf ps ms[k]).fl fl = q at hqo hcell HX HFA
      have HQE := hid hqe
      generalize (pkOf ps ms[k]).fl = fs at HST HPC HFA HQE hc3
      generalize ms[k].on.getD q false = β at hcell HX
      generalize ms[k].on.length = ol at hm1 hon hqo
      clear hrow hbl hol hm0 hqe hcp
      go_enter Tryz.func163, Tryz.ntmps163
      go_upto_region 9 with fail
      refine at_wp (fun W' => Keep w W' ∧ Boxed w.heap.size #[.int .i64 5, .string a.n, .int .i64 a.op, .int .i64 a.v, .int .i64 a.sl, .string a.f, .bool a.on, .string fl, .bool nt, .slice kp kids.length kc] W') ⟨Keep.alloc _ _, Boxed.new _ _ _⟩ ?_
      rintro W2 ⟨k2, bx2⟩
      have K2 := hid k2
      have B2 := hid bx2
      have H2 := hid (HW.out.keep k2)
      have g1 := (k2.cell (p := ⟨cl, 0, none⟩) hll).trans hcl
      have g2 := (k2.cell (p := ⟨ck, 0, none⟩) hlk).trans hck
      have g3 := (k2.cell (p := ⟨mb, moff + k * 2 + 1, none⟩) hmlt).trans hm1
      have g4 := (k2.cell (p := ⟨ob, ooff + q, none⟩) holt).trans hcell
      have g5 := (k2.cell (p := ⟨cp, 3, none⟩) hlp).trans hc3
      have g6 := bx2.2
      have g7 := bx2.1
      have hq := hid (show ∀ n, Calls Tryz.prog 95 #[.slice fp fs.length fc, .string fl] (W2.drewN n) fun e w'' => e = .returned (.int .i64 (q : Int)) ∧ ∃ n', w'' = W2.drewN n' from fun n => by
        refine (index_any S fs _ fl (W2.drewN n) (HST.out.keep hold (k2.trans (Keep.drewN (Keep.refl _) _)))).mono ?_
        rintro e w' ⟨rfl, rfl⟩
        exact ⟨by rw [HQE.out, if_pos HFA.out], n, rfl⟩)
      clear hct hcl hck hch hcf hm1 hcell hc3 k2 bx2 HST HPC HQE
      go_quiet ((go_at_call 95; exact hq.out _))
      have k3 : Keep W2 (W2.drewN nq) := Keep.drewN (Keep.refl _) _
      generalize W2.drewN nq = W3 at k3
      have K3 := hid (K2.out.trans k3)
      have B3 := hid (B2.out.keep k3 B2.out.1)
      have H3 := hid (H2.out.keep k3)
      have hc3 := B3.out.2
      have hl3 := B3.out.1
      obtain ⟨hcf3, -, hlf3⟩ := H3.out.fails.facts
      clear k3 g1 g2 g3 g4 g5 g6 g7 hq
      cases hβ : (β == nt)
      · rw [hβ] at HX
        go_wp2_with fail
        refine (HALL.out W3 K3.out).mono ?_
        rintro e w4 ⟨rfl, k4⟩
        have K4 := hid (K3.out.trans k4)
        have HX2 : Hid (holdsB ps ms k (.node 5 a fl nt kids) = !kids.any (fun t => !holdsB ps ms k t)) := HX.out
        generalize (kids.any fun t => !holdsB ps ms k t) = γ at HX2 ⊢
        clear k4 hc3 hcf3 HX
        go_wp2_with fail
        go_ret
        exact ⟨ret_bool (by rw [HX2.out]), K4.out⟩
      · rw [hβ] at HX
        go_wp2_with fail
        go_ret
        exact ⟨ret_bool (by rw [HX.out]; rfl), K3.out⟩
    · have HX : Hid (holdsB ps ms k (.node kd a fl nt kids) = !kids.any (fun t => !holdsB ps ms k t)) := by
        show _ = _
        rw [holdsB, if_neg h1, if_neg h2, if_neg h4, if_neg (fun h => h5 h.1), allB_any]
      have b5 : (kd == 5) = false := by simp [h5]
      clear h1 h2 h4 h5 HFL
      go_enter Tryz.func163, Tryz.ntmps163
      go_wp2_with fail
      refine at_calls (fun W' => Keep w W') (Keep.alloc _ _) ?_
      intro W0 k0
      refine (HALL.out W0 k0).mono ?_
      rintro e w1 ⟨rfl, k1⟩
      have K1 := hid (k0.trans k1)
      generalize (kids.any fun t => !holdsB ps ms k t) = γ at HX ⊢
      clear k0 k1
      go_wp2_with fail
      go_ret
      exact ⟨ret_bool (by rw [HX.out]), K1.out⟩
end Go.Proofs.YtlfonjngbpfelaaGreatDoor
