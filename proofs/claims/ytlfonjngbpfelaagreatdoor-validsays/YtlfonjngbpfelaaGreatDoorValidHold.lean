/- valid.holds answers as the plain function holdB says, of a set that is right. -/
import Derived.Test.YtlfonjngbpfelaaGreatDoorValidHolds
import Derived.BigRegion
import Derived.Laws.EntriesVeiled
namespace Go.Proofs.YtlfonjngbpfelaaGreatDoor
open Go.RowKit Go.Sort

theorem keep_drw (w : World) : Keep w w.drew := ⟨rfl, rfl, rfl, Nat.le_refl _, fun _ _ => rfl⟩
theorem mem_cmpUp {α : Type} [Inhabited α] [DecidableEq α] (d : Array α) : ∀ (m : Nat) (j : Nat), j < m → d[j]! ∈ Lib.compactUpTo d m
  | 0, j, h => absurd h (Nat.not_lt_zero _)
  | m + 1, j, h => by
    rw [Lib.compactUpTo_succ, List.mem_append]
    by_cases hjm : j < m
    · exact Or.inl (mem_cmpUp d m j hjm)
    · obtain rfl : j = m := by omega
      by_cases h0 : j = 0
      · subst h0
        rw [if_pos (Lib.keeps_lt_one d 0 (by omega))]
        exact Or.inr (List.mem_singleton.2 rfl)
      · by_cases hk : d[j]! = d[j - 1]!
        · rw [hk]; exact Or.inl (mem_cmpUp d j (j - 1) (by omega))
        · rw [if_pos (Lib.keeps_pos hk)]
          exact Or.inr (List.mem_singleton.2 rfl)
theorem mem_sortedF {t : NT} {f : ByteArray} (h : f ∈ t.flags) : f.data.toList ∈ t.sorted := by
  unfold NT.sorted Lib.compact
  have h1 : f.data.toList ∈ (t.flags.map (·.data.toList)).mergeSort fun x y => decide (x ≤ y) := (List.mergeSort_perm _ _).mem_iff.2 (List.mem_map.2 ⟨f, h, rfl⟩)
  generalize (t.flags.map (·.data.toList)).mergeSort (fun x y => decide (x ≤ y)) = M at h1 ⊢
  obtain ⟨j, hj, e⟩ := List.mem_iff_getElem.1 h1
  have := mem_cmpUp M.toArray M.toArray.size j (by simpa using hj)
  rw [← e]
  simpa [hj] using this
theorem pk_flags {p : PK} (h : chkP p = 0) : ∀ f ∈ p.nd.flags, flagAt p.fl f < p.fl.length := by
  intro f hf
  have hn : chkNd p.nd p.fl = 0 := by
    unfold chkP at h
    split at h
    · cases h
    · split at h
      · cases h
      · split at h
        · rename_i hne; exact absurd h hne
        · exact h
  unfold chkNd at hn
  split at hn
  · cases hn
  · split at hn
    · rename_i hne; exact absurd hn hne
    · split at hn
      · rename_i hall
        have := List.all_eq_true.1 hall _ (mem_sortedF hf)
        unfold hasF at this
        rw [bytes_back, Lib.containsS_iff] at this
        unfold flagAt
        exact List.findIdx_lt_length_of_exists ⟨f, this, by simp⟩
      · cases hn

set_option maxHeartbeats 4000000 in
set_option maxRecDepth 100000 in
theorem holds_any (S : Nat → Prop) (ps : List PK) (ms : List MB) (tv lv : Value) (k : Nat) (w : World) (hS : ∀ b, S b → b < w.heap.size) (hp : PkgsIs S w ps tv) (hm : MbsIs S w ms lv) (hk : k < ms.length) (hok : SetOk ps ms) (hct : chkT ps = 0) :
    Calls Tryz.prog 106 #[.agg #[tv], lv, .int .i64 k] w fun e w' => e = .returned (.bool (holdB ps ms k)) ∧ Keep w w' := by
  have HP := hid hp
  have HMS := hid hm
  have HOK := hid hok
  obtain ⟨tp, tc, rfl, hlen⟩ := hp.len
  obtain ⟨lp, lc, rfl, hllen⟩ := hm.len
  obtain ⟨mb, moff, mcap, hmv, hmS, -, hrow⟩ := hm.get hk
  cases hmv
  obtain ⟨op, oc, hc0, -, -, -⟩ := hrow k _ (List.getElem?_eq_getElem hk)
  obtain ⟨h0, h1, h2⟩ := hok k _ (List.getElem?_eq_getElem hk)
  obtain ⟨q, hq⟩ : ∃ q : Nat, ms[k].pl = q := ⟨ms[k].pl.toNat, by omega⟩
  have hqp : q < ps.length := by omega
  have hpk : pkOf ps ms[k] = ps[q] := by unfold pkOf; rw [hq, Int.toNat_natCast, getD_pk ps q hqp]
  have HPK := hid hpk
  have HFL : Hid (∀ f ∈ (pkOf ps ms[k]).nd.flags, flagAt (pkOf ps ms[k]).fl f < (pkOf ps ms[k]).fl.length) := pk_flags ((chkT_get hct).2 _ (by rw [hpk]; exact List.getElem_mem hqp))
  have HX : Hid (holdB ps ms k = holdsB ps ms k ps[q].nd) := by
    show _ = _
    unfold holdB
    rw [getD_mb ms k hk, hpk]
  rw [hq] at hc0
  obtain ⟨tb, toff, tcap, htv, htb, -, htrow⟩ := hp.get hqp
  cases htv
  obtain ⟨cs, hcs, hpj⟩ := htrow q hqp
  have HFS : Hid ((pkOf ps ms[k]).fl = ps[q].fl) := by show _ = _; rw [hpk]
  rw [hpk] at HFL
  have HFL' := HFL
  clear HFL
  generalize ps[q] = p at hpj HX HFS HFL'
  obtain ⟨kk, a, fl, nt, kids, kp, fp, kc, fc, hnd, hfl, rfl, hf, hn⟩ := hpj.spelt
  have HF := hid hf
  have HN := hid hn
  obtain ⟨c0, c1, c2, c3, c4, c5, c6, c7, c8, c9, c10, c11, c12, c13⟩ := cells14 hcs
  have hmlt := hS mb hmS
  have htlt := hS tb htb
  clear hcs hpj htrow hrow hp hm hok hct h0 h1 h2 hq hpk HPK hf hn
  rcases p with ⟨n, v, sl, fs, nd⟩
  simp only at hnd hfl c0 c1 c2 c3 HX HFS HFL' HF HN
  have HND := hid hnd
  clear hnd
  go_enter Tryz.func106, Tryz.ntmps106
  go_upto_region 1 with fail
  have e1 := alloc_size w (.cells #[.slice (some ⟨tb, toff, none⟩) ps.length tc] 44)
  refine at_wp (fun W' => Keep w W' ∧ VarAt w.heap.size 44 (.slice (some ⟨tb, toff, none⟩) ps.length tc) W' ∧ VarAt (w.heap.size + 1) 45 (.slice (some ⟨mb, moff, none⟩) ms.length lc) W' ∧ VarAt (w.heap.size + 1 + 1) 3 (.int .i64 k) W' ∧ W'.heap.size = w.heap.size + 3) ⟨((Keep.alloc _ _).alloc' _).alloc' _, (VarAt.new _ _ _).keep ((Keep.alloc _ _).alloc' _) (by simp), ?_, ?_, by simp⟩ ?_
  · have := VarAt.new (w.alloc (.cells #[.slice (some ⟨tb, toff, none⟩) ps.length tc] 44)) 45 (.slice (some ⟨mb, moff, none⟩) ms.length lc)
    rw [e1] at this; exact this.keep (Keep.alloc _ _) this.facts.2.2
  · have := VarAt.new ((w.alloc (.cells #[.slice (some ⟨tb, toff, none⟩) ps.length tc] 44)).alloc (.cells #[.slice (some ⟨mb, moff, none⟩) ms.length lc] 45)) 3 (.int .i64 k)
    rw [alloc_size, e1] at this; exact this
  clear e1
  rintro W0 ⟨k0, v0, v1, v2, hz0⟩
  have K0 := hid k0
  have V0 := hid v0
  have V1 := hid v1
  have V2 := hid v2
  have HZ0 := hid hz0
  obtain ⟨g0, -, l0⟩ := v0.facts
  obtain ⟨g1, -, l1⟩ := v1.facts
  obtain ⟨g2, -, l2⟩ := v2.facts
  have gm := (k0.cell (p := ⟨mb, moff + k * 2, none⟩) hmlt).trans hc0
  have gt : ∀ (o : Nat) (x : Value), w.cell? ⟨tb, o, none⟩ = some x → W0.cell? ⟨tb, o, none⟩ = some x := fun o x h => (k0.cell (p := ⟨tb, o, none⟩) htlt).trans h
  have d0 := gt _ _ c0
  have d1 := gt _ _ c1
  have d2 := gt _ _ c2
  have d3 := gt _ _ c3
  have d4 := gt _ _ c4
  have d5 := gt _ _ c5
  have d6 := gt _ _ c6
  have d7 := gt _ _ c7
  have d8 := gt _ _ c8
  have d9 := gt _ _ c9
  have d10 := gt _ _ c10
  have d11 := gt _ _ c11
  have d12 := gt _ _ c12
  have d13 := gt _ _ c13
  have hm0 : mb < W0.heap.size := Nat.lt_of_lt_of_le hmlt k0.size
  have ht0 : tb < W0.heap.size := Nat.lt_of_lt_of_le htlt k0.size
  clear c0 c1 c2 c3 c4 c5 c6 c7 c8 c9 c10 c11 c12 c13 gt k0 v0 v1 v2 hz0 hc0
  go_region
  clear d0 d1 d2 d3 d4 d5 d6 d7 d8 d9 d10 d11 d12 d13 g0 g1 g2 gm
  go_upto_region 2 with fail
  refine at_wp (fun W' => Keep W0 W' ∧ Boxed W0.heap.size #[.string n, .int .i64 v, .int .i64 sl, .slice fp fs.length fc, .int .i64 kk, .string a.n, .int .i64 a.op, .int .i64 a.v, .int .i64 a.sl, .string a.f, .bool a.on, .string fl, .bool nt, .slice kp kids.length kc] W' ∧ W'.heap.size = W0.heap.size + 1) ⟨(Keep.alloc _ _).trans (keep_drw _), (Boxed.new _ _ _).keep (keep_drw _) (by rw [alloc_size]; omega), by rw [← alloc_size W0 (.cells #[.string n, .int .i64 v, .int .i64 sl, .slice fp fs.length fc, .int .i64 kk, .string a.n, .int .i64 a.op, .int .i64 a.v, .int .i64 a.sl, .string a.f, .bool a.on, .string fl, .bool nt, .slice kp kids.length kc] 58)]; rfl⟩ ?_
  rintro W1 ⟨k1, b1, hz1⟩
  have K1 := hid k1
  have B1 := hid b1
  have HZ1 := hid hz1
  clear k1 b1 hz1
  go_upto_region 3 with fail
  refine at_wp (fun W' => Keep W1 W' ∧ VarAt W1.heap.size 104 .nilFunc W' ∧ W'.heap.size = W1.heap.size + 1) ⟨Keep.alloc _ _, VarAt.new _ _ _, alloc_size _ _⟩ ?_
  rintro W2 ⟨k2, f2, hz2⟩
  have K2 := hid k2
  have F2 := hid f2
  have HZ2 := hid hz2
  clear k2 f2 hz2
  have hmf : ∀ (fn : Fn) (first cap : Array Value) (w : World), (Instr.makeFunc fn first cap).run Tryz.prog w = .ok (.func fn first cap) w := fun _ _ _ _ => rfl
  go_upto_region 4 with fail
  refine at_wp (fun W' => Keep W2 W' ∧ VarAt W2.heap.size 104 (.func (.func 162) #[] #[.pointer (some ⟨W1.heap.size, 0, none⟩)]) W') ⟨Keep.alloc _ _, VarAt.new _ _ _⟩ ?_
  rintro W3 ⟨k3, f3⟩
  have hb0 : W0.heap.size = w.heap.size + 3 := HZ0.out
  have hb1 : W1.heap.size = W0.heap.size + 1 := HZ1.out
  have hb2 : W2.heap.size = W1.heap.size + 1 := HZ2.out
  have k13 : Keep W1 W3 := K2.out.trans k3
  have k03 : Keep W0 W3 := K1.out.trans k13
  have kw3 : Keep w W3 := K0.out.trans k03
  have f23 := F2.out.keep k3 F2.out.facts.2.2
  have HFN : Hid (HoldsAt S ps ms k (some ⟨tb, toff, none⟩) (some ⟨mb, moff, none⟩) tc lc w.heap.size (w.heap.size + 1) (w.heap.size + 1 + 1) W1.heap.size W0.heap.size W2.heap.size #[.string n, .int .i64 v, .int .i64 sl, .slice fp fs.length fc, .int .i64 kk, .string a.n, .int .i64 a.op, .int .i64 a.v, .int .i64 a.sl, .string a.f, .bool a.on, .string fl, .bool nt, .slice kp kids.length kc] (W3.setCell ⟨W1.heap.size, 0, none⟩ (.func (.func 163) #[] #[.pointer (some ⟨w.heap.size, 0, none⟩), .pointer (some ⟨w.heap.size + 1, 0, none⟩), .pointer (some ⟨w.heap.size + 1 + 1, 0, none⟩), .pointer (some ⟨W1.heap.size, 0, none⟩), .pointer (some ⟨W0.heap.size, 0, none⟩), .pointer (some ⟨W2.heap.size, 0, none⟩)]))) := by
    have ap := one_set W1.heap.size W3 (.func (.func 163) #[] #[.pointer (some ⟨w.heap.size, 0, none⟩), .pointer (some ⟨w.heap.size + 1, 0, none⟩), .pointer (some ⟨w.heap.size + 1 + 1, 0, none⟩), .pointer (some ⟨W1.heap.size, 0, none⟩), .pointer (some ⟨W0.heap.size, 0, none⟩), .pointer (some ⟨W2.heap.size, 0, none⟩)])
    have hlow : ∀ p : Addr, S p.block → (W3.setCell ⟨W1.heap.size, 0, none⟩ (.func (.func 163) #[] #[.pointer (some ⟨w.heap.size, 0, none⟩), .pointer (some ⟨w.heap.size + 1, 0, none⟩), .pointer (some ⟨w.heap.size + 1 + 1, 0, none⟩), .pointer (some ⟨W1.heap.size, 0, none⟩), .pointer (some ⟨W0.heap.size, 0, none⟩), .pointer (some ⟨W2.heap.size, 0, none⟩)])).cell? p = W3.cell? p := fun p hp => ap.cell p (Nat.lt_of_lt_of_le (hS _ hp) kw3.size) (fun e => by have e' : p.block = W1.heap.size := e; have := hS _ hp; omega)
    exact ⟨((V0.out.keep k03 V0.out.facts.2.2)).apart ap (by omega), ((V1.out.keep k03 V1.out.facts.2.2)).apart ap (by omega), ((V2.out.keep k03 V2.out.facts.2.2)).apart ap (by omega), f23.set _, (B1.out.keep k13 B1.out.1).apart ap (by omega), f3.apart ap (by omega), (HP.out.keep hS kw3).mono hlow (fun _ h => h), (HMS.out.keep hS kw3).mono hlow (fun _ h => h), fun b hb => Nat.lt_of_lt_of_le (Nat.lt_of_lt_of_le (hS b hb) kw3.size) ap.size⟩
  have KFN : Hid (Keep w (W3.setCell ⟨W1.heap.size, 0, none⟩ (.func (.func 163) #[] #[.pointer (some ⟨w.heap.size, 0, none⟩), .pointer (some ⟨w.heap.size + 1, 0, none⟩), .pointer (some ⟨w.heap.size + 1 + 1, 0, none⟩), .pointer (some ⟨W1.heap.size, 0, none⟩), .pointer (some ⟨W0.heap.size, 0, none⟩), .pointer (some ⟨W2.heap.size, 0, none⟩)]))) := Below.trans kw3 ((one_set W1.heap.size W3 _).below kw3.size fun b hb e => by have : b = W1.heap.size := e; omega)
  obtain ⟨g3, z3, l3⟩ := f23.facts
  have hent := enter_hold2
  clear k3 f3 k13 k03 kw3 f23 K0 K1 K2 V0 V1 V2 F2 B1 hb0 hb1 hb2
  go_upto_region 5 with fail
  refine at_wp (fun W' => HoldsAt S ps ms k (some ⟨tb, toff, none⟩) (some ⟨mb, moff, none⟩) tc lc w.heap.size (w.heap.size + 1) (w.heap.size + 1 + 1) W1.heap.size W0.heap.size W2.heap.size #[.string n, .int .i64 v, .int .i64 sl, .slice fp fs.length fc, .int .i64 kk, .string a.n, .int .i64 a.op, .int .i64 a.v, .int .i64 a.sl, .string a.f, .bool a.on, .string fl, .bool nt, .slice kp kids.length kc] W' ∧ Keep w W') ?_ ?_
  exact ⟨HFN.out, KFN.out⟩
  rintro W4 ⟨h4, k4⟩
  have H4 := hid h4
  have K4 := hid k4
  obtain ⟨g4, -, l4⟩ := h4.self.facts
  have g5 := h4.pack.2
  have l5 := h4.pack.1
  clear h4 k4 HFN KFN g3 z3 l3
  go_wp2_with fail
  have hfs := HFS.out
  have hcall := holds2_any (S := S) (fp := fp) (fc := fc) hk HOK.out (pcs := #[.string n, .int .i64 v, .int .i64 sl, .slice fp fs.length fc, .int .i64 kk, .string a.n, .int .i64 a.op, .int .i64 a.v, .int .i64 a.sl, .string a.f, .bool a.on, .string fl, .bool nt, .slice kp kids.length kc]) (by rw [hfs]; rfl) nd.size nd (Nat.le_refl _) (by rw [hfs]; exact HFL'.out) _ W4 H4.out (by rw [hfs]; exact HF.out.keep hS K4.out) (HN.out.keep hS K4.out)
  refine Calls.mono hcall ?_
  rintro e w5 ⟨rfl, k5⟩
  have K5 := hid (K4.out.trans k5)
  clear k5 g4 g5 hcall hfs
  go_wp2_with fail
  go_ret
  exact ⟨ret_bool HX.out.symm, K5.out⟩
end Go.Proofs.YtlfonjngbpfelaaGreatDoor
