/- The reference's Solved answers what the search says. -/
import Derived.Test.YtbblgmkjgcjcaabSatRefStep
namespace Go.Proofs.Ytbblgmkjgcjcaab
open Go.RowKit Go.Lib

theorem rstep_any (F : List (List Int)) (n : Nat) (hn : n ≤ 400) (hF : ∀ c ∈ F, c.length ≤ 60 ∧ LitsC n c) (hFl : F.length ≤ 4000) : ∀ g, RStepOK F n g
  | 0 => rstep_zero F n
  | g + 1 => rstep_succ F n g hn hF hFl (rstep_any F n hn hF hFl g)
theorem rm_start (w : World) (n s : Nat) (F : List (List Int)) (p : Option Addr) (cap : Nat) : Keep w ((((((w.alloc (.cells #[.int .i64 (n : Int), .slice p F.length cap] 24)).alloc (.cells #[.int .i64 (s : Int)] 3)).alloc (.cells #[.slice none 0 0, .slice none 0 0] 53)).alloc (.cells #[.slice none 0 0, .slice none 0 0] 53)).alloc (.cells #[.bool false] 4)).alloc (.cells #[RD.clo w.heap.size] 82)) ∧ RM ⟨w.heap.size, s, .slice none 0 0, []⟩ n F p cap ((((((w.alloc (.cells #[.int .i64 (n : Int), .slice p F.length cap] 24)).alloc (.cells #[.int .i64 (s : Int)] 3)).alloc (.cells #[.slice none 0 0, .slice none 0 0] 53)).alloc (.cells #[.slice none 0 0, .slice none 0 0] 53)).alloc (.cells #[.bool false] 4)).alloc (.cells #[RD.clo w.heap.size] 82)) ∧ BoxAt (w.heap.size + 2) 53 #[.slice none 0 0, .slice none 0 0] ((((((w.alloc (.cells #[.int .i64 (n : Int), .slice p F.length cap] 24)).alloc (.cells #[.int .i64 (s : Int)] 3)).alloc (.cells #[.slice none 0 0, .slice none 0 0] 53)).alloc (.cells #[.slice none 0 0, .slice none 0 0] 53)).alloc (.cells #[.bool false] 4)).alloc (.cells #[RD.clo w.heap.size] 82)) := by
  have b0 := BoxAt.new w 24 #[.int .i64 (n : Int), .slice p F.length cap]
  have z0 := alloc_size w (.cells #[.int .i64 (n : Int), .slice p F.length cap] 24)
  have k0 := Keep.alloc w (.cells #[.int .i64 (n : Int), .slice p F.length cap] 24)
  generalize w.alloc (.cells #[.int .i64 (n : Int), .slice p F.length cap] 24) = a0 at b0 z0 k0 ⊢
  have b1 := VarAt.new a0 3 (.int .i64 (s : Int))
  have z1 := alloc_size a0 (.cells #[.int .i64 (s : Int)] 3)
  have k1 := Keep.alloc a0 (.cells #[.int .i64 (s : Int)] 3)
  generalize a0.alloc (.cells #[.int .i64 (s : Int)] 3) = a1 at b1 z1 k1 ⊢
  have b2 := BoxAt.new a1 53 #[.slice none 0 0, .slice none 0 0]
  have z2 := alloc_size a1 (.cells #[.slice none 0 0, .slice none 0 0] 53)
  have k2 := Keep.alloc a1 (.cells #[.slice none 0 0, .slice none 0 0] 53)
  generalize a1.alloc (.cells #[.slice none 0 0, .slice none 0 0] 53) = a2 at b2 z2 k2 ⊢
  have b3 := BoxAt.new a2 53 #[.slice none 0 0, .slice none 0 0]
  have z3 := alloc_size a2 (.cells #[.slice none 0 0, .slice none 0 0] 53)
  have k3 := Keep.alloc a2 (.cells #[.slice none 0 0, .slice none 0 0] 53)
  generalize a2.alloc (.cells #[.slice none 0 0, .slice none 0 0] 53) = a3 at b3 z3 k3 ⊢
  have b4 := VarAt.new a3 4 (.bool false)
  have z4 := alloc_size a3 (.cells #[.bool false] 4)
  have k4 := Keep.alloc a3 (.cells #[.bool false] 4)
  generalize a3.alloc (.cells #[.bool false] 4) = a4 at b4 z4 k4 ⊢
  have b5 := VarAt.new a4 82 (RD.clo w.heap.size)
  have k5 := Keep.alloc a4 (.cells #[RD.clo w.heap.size] 82)
  generalize a4.alloc (.cells #[RD.clo w.heap.size] 82) = a5 at b5 k5 ⊢
  rw [z0] at b1
  rw [z1, z0] at b2
  rw [z2, z1, z0] at b3
  rw [z3, z2, z1, z0] at b4
  rw [z4, z3, z2, z1, z0] at b5
  refine ⟨k0.trans (k1.trans (k2.trans (k3.trans (k4.trans k5)))), ⟨b0.keep (k1.trans (k2.trans (k3.trans (k4.trans k5)))) b0.facts.2.2, b1.keep (k2.trans (k3.trans (k4.trans k5))) b1.facts.2.2, b3.keep (k4.trans k5) b3.facts.2.2, b4.keep k5 b4.facts.2.2, b5, CRow.nil _ _ _⟩, b2.keep (k3.trans (k4.trans k5)) b2.facts.2.2⟩

theorem keep_two2 {w W : World} {a b : Value} (k : Keep w W) : Keep w ((W.setCell ⟨w.heap.size + 2, 0, none⟩ a).setCell ⟨w.heap.size + 2, 1, none⟩ b) :=
  Below.trans k (Below.mono (Below.trans (below_set W (w.heap.size + 2) 0 a) (below_set _ (w.heap.size + 2) 1 b)) (by omega))

set_option maxHeartbeats 8000000 in
set_option maxRecDepth 100000 in
theorem rsolved_any (S : Nat → Prop) (n s : Nat) (F : List (List Int)) (p : Option Addr) (cap : Nat) (w : World) (hS : ∀ b, S b → b < w.heap.size) (hf : ClsIs S w F (.slice p F.length cap)) (hn : n ≤ 400) (hFl : F.length ≤ 4000) (hF : ∀ c ∈ F, c.length ≤ 60 ∧ LitsC n c) (hs : s ≤ 40000) :
    Calls Try.prog 33 #[.agg #[.int .i64 (n : Int), .slice p F.length cap], .int .i64 (s : Int)] w fun e w' => AnsDone (ansOf (solv n F s)) w e w' := by
  have HF := hid hf
  have HFL := hid hF
  have hmf : ∀ (fn : Fn) (first cap : Array Value) (w : World), (Instr.makeFunc fn first cap).run Try.prog w = .ok (.func fn first cap) w := fun _ _ _ _ => rfl
  have hent := enter_from
  clear hf hF
  go_enter Try.func33, Try.ntmps33
  have HST := hid (rm_start w n s F p cap)
  go_upto_region 5 with fail
  refine at_wp (fun W' => Keep w W' ∧ RM ⟨w.heap.size, s, .slice none 0 0, []⟩ n F p cap W' ∧ BoxAt (w.heap.size + 2) 53 #[.slice none 0 0, .slice none 0 0] W') ?_ ?_
  · exact HST.out
  rintro W1 ⟨k1, x1, r1⟩
  have K1 := hid k1
  have X1 := hid x1
  have R1 := hid r1
  clear k1 x1 r1 HST
  simp only [Nat.add_assoc, Nat.reduceAdd]
  have hre : W1.cell? ⟨w.heap.size + 5, 0, none⟩ = some (.func (.func 54) #[] #[.pointer (some ⟨w.heap.size + 1, 0, none⟩), .pointer (some ⟨w.heap.size + 4, 0, none⟩), .pointer (some ⟨w.heap.size, 0, none⟩), .pointer (some ⟨w.heap.size + 3, 0, none⟩), .pointer (some ⟨w.heap.size + 5, 0, none⟩)]) := X1.out.re.facts.1
  have hrl : w.heap.size + 5 < W1.heap.size := X1.out.re.facts.2.2
  have HST := hid (show Calls Try.prog 54 #[.slice none 0 0, .pointer (some ⟨w.heap.size + 1, 0, none⟩), .pointer (some ⟨w.heap.size + 4, 0, none⟩), .pointer (some ⟨w.heap.size, 0, none⟩), .pointer (some ⟨w.heap.size + 3, 0, none⟩), .pointer (some ⟨w.heap.size + 5, 0, none⟩)] W1 _ from rstep_any F n hn HFL.out hFl 61 ⟨w.heap.size, s, .slice none 0 0, []⟩ S [] (.slice none 0 0) p cap W1 X1.out (HF.out.keep hS K1.out) (nums_nil _ _) (fun b hb => ⟨Nat.lt_of_lt_of_le (hS b hb) K1.out.size, fun e => by
    have h0 := hS b hb
    rcases e with e | e | e | e
    · have e2 : b = w.heap.size + 1 := e; omega
    · have e2 : b = w.heap.size + 3 := e; omega
    · have e2 : b = w.heap.size + 4 := e; omega
    · cases e⟩) rfl (by intro x hx; simp at hx) (by simp; omega) (fun k c e => by cases e; rfl))
  go_wp2_with fail
  with_reducible refine HST.out.mono ?_
  rintro e W2 ⟨d2, hb2, ht2, hr2⟩
  have T2 := hid ht2
  have K2 := hid (show Keep w W2 from Below.trans K1.out (ht2.below (B := w.heap.size) K1.out.size fun b hb e => by
    rcases e with e | e | e | e
    · have e2 : b = w.heap.size + 1 := e; omega
    · have e2 : b = w.heap.size + 3 := e; omega
    · have e2 : b = w.heap.size + 4 := e; omega
    · cases e))
  have R2 := hid (R1.out.turn ht2 fun e => by
    rcases e with e | e | e | e
    · have e2 : w.heap.size + 2 = w.heap.size + 1 := e; omega
    · have e2 : w.heap.size + 2 = w.heap.size + 3 := e; omega
    · have e2 : w.heap.size + 2 = w.heap.size + 4 := e; omega
    · cases e)
  have HB2 := hid (show d2.b = w.heap.size from hb2)
  clear ht2 hb2 hre hrl HST X1 R1
  obtain ⟨hcr, hfr, hlr⟩ := R2.out.facts
  have hr0 : W2.cell? ⟨w.heap.size + 2, 0, none⟩ = some (.slice none 0 0) := hcr 0
  have hr1 : W2.cell? ⟨w.heap.size + 2, 1, none⟩ = some (.slice none 0 0) := hcr 1
  have hfr0 := hfr 0
  have hfr1 := hfr 1
  clear hcr hfr
  rcases hr2 with ⟨h1, rfl, h2⟩ | ⟨m, ad, mc, pv', h1, rfl, h2, h3, ⟨q, kq, lq, h4⟩, h5⟩ | ⟨h1, rfl, h2, h3, h4⟩
  · have HA := hid (show ansOf (solv n F s) = ⟨8, [], []⟩ by unfold ansOf; rw [show (solv n F s).o = .out from h1])
    obtain ⟨ho, -, hol⟩ := h2.facts
    have ho : W2.cell? ⟨w.heap.size + 4, 0, none⟩ = some (.bool true) := ho
    have hol : w.heap.size + 4 < W2.heap.size := hol
    clear h1 h2
    go_wp2_with fail
    refine bodyPost_ret (v := .tuple #[.agg #[.slice none 0 0, .slice none 0 0], .int .i64 8]) ?_ rfl ?_
    · simp [results, Try.results33, go_sem, hr0, hr1]
    · rw [HA.out]; exact ⟨keep_two2 K2.out, _, _, rfl, bools_nil _ _, cls_nil _ _⟩
  · have HA := hid (show ansOf (solv n F s) = ⟨0, m, []⟩ by unfold ansOf; rw [show (solv n F s).o = .model m from h1])
    subst h4
    obtain ⟨ho, -, hol⟩ := h2.facts
    have ho : W2.cell? ⟨w.heap.size + 4, 0, none⟩ = some (.bool false) := ho
    have hol : w.heap.size + 4 < W2.heap.size := hol
    obtain ⟨hca, hfa, hla⟩ := h3.facts
    have ha0 : W2.cell? ⟨w.heap.size + 3, 0, none⟩ = some (.slice (some ad) m.length mc) := hca 0
    have ha1 : W2.cell? ⟨w.heap.size + 3, 1, none⟩ = some (.slice q kq lq) := hca 1
    have hfa1 : W2.frozen? ⟨w.heap.size + 3, 1, none⟩ = false := hfa 1
    have hla : w.heap.size + 3 < W2.heap.size := hla
    have HBO := hid (show BoolsIs (fun c => w.heap.size + 6 ≤ c ∧ c < W2.heap.size) W2 m (.slice (some ad) m.length mc) from h5)
    clear h1 h2 h3 h5 hca hfa
    go_wp2_with fail
    refine bodyPost_ret (v := .tuple #[.agg #[.slice (some ad) m.length mc, .slice none 0 0], .int .i64 0]) ?_ rfl ?_
    · simp [results, Try.results33, go_sem, hr0, hr1]
    · rw [HA.out]
      have K3 : Keep w (W2.setCell ⟨w.heap.size + 3, 1, none⟩ (.slice none 0 0)) := Below.trans K2.out (Below.mono (below_set W2 (w.heap.size + 3) 1 (.slice none 0 0)) (by omega))
      refine ⟨keep_two2 K3, _, _, rfl, HBO.out.mono (fun q hq => World.cell?_of_block (w := W2) ((other_two (by have := hq.1; omega)).trans (Below.heap_setCell _ _ _ _ (fun e => by have e2 : q.block = w.heap.size + 3 := e; have := hq.1; omega)))) (fun c hc => ⟨by omega, by rw [size_two]; simpa using hc.2⟩), cls_nil _ _⟩
  · have HA := hid (show ansOf (solv n F s) = ⟨0, [], d2.P⟩ by unfold ansOf; rw [show (solv n F s).o = .closed from h1, h4]; rfl)
    have X2 := hid h2
    obtain ⟨ho, -, hol⟩ := h2.ou.facts
    obtain ⟨hca, hfa, hla⟩ := h2.an.facts
    obtain ⟨pp, pc, hpv⟩ := h2.pr.shape
    rw [HB2.out] at ho hol hla
    have ha0 : W2.cell? ⟨w.heap.size + 3, 0, none⟩ = some (.slice none 0 0) := by rw [← HB2.out]; exact hca 0
    have ha1 : W2.cell? ⟨w.heap.size + 3, 1, none⟩ = some (.slice pp d2.P.length pc) := by rw [← HB2.out, ← hpv]; exact hca 1
    have HC := hid (show ClsIs (fun b => w.heap.size + 6 ≤ b ∧ b < W2.heap.size) W2 d2.P (.slice pp d2.P.length pc) from hpv ▸ h2.pr.cls.mono (fun _ _ => rfl) fun b hb => hb.elim (fun h => ⟨HB2.out ▸ h.1, h.2.1⟩) fun h => HB2.out ▸ h2.pr.in h)
    clear h1 h2 h3 h4 hca hfa hpv
    generalize d2.P = P2 at HA ha1 HC
    go_wp2_with fail
    refine bodyPost_ret (v := .tuple #[.agg #[.slice none 0 0, .slice pp P2.length pc], .int .i64 0]) ?_ rfl ?_
    · simp [results, Try.results33, go_sem, hr0, hr1]
    · rw [HA.out]; exact ⟨keep_two2 K2.out, _, _, rfl, bools_nil _ _, HC.out.mono (fun q hq => World.cell?_of_block (w := W2) (other_two (by have := hq.1; omega))) (fun b hb => ⟨by omega, by rw [size_two]; exact hb.2⟩)⟩
end Go.Proofs.Ytbblgmkjgcjcaab
