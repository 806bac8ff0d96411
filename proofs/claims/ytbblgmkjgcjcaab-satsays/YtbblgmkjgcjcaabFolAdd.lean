/- follow's New and Add. -/
import Derived.Test.YtbblgmkjgcjcaabFolLay
namespace Go.Proofs.Ytbblgmkjgcjcaab
open Go.RowKit Go.Lib

/-- The table with other contents. -/
def XD.next (x : XD) (fl : Bool) (av : Value) (rv cv : List Value) (C : List (List Int)) (W : List (List Nat)) : XD := ⟨x.bx, x.bk, x.bw, x.n, fl, av, rv, cv, C, W⟩
/-- The table, and what it says of the clauses that were put into it. -/
structure XF (x : XD) (B : Nat) (K : List Int) (F : List (List Int)) (w : World) : Prop where
  xm : XM x B w
  kb : BoxAt x.bk 3 (K.map (Value.int .i64)).toArray w
  xi : XI x.n F x.fl K x.C x.W
  cl : x.C.length ≤ F.length
def XD.all (x : XD) (b : Nat) : Prop := x.own b ∨ b = x.bk
theorem XF.keep {x : XD} {B : Nat} {K : List Int} {F : List (List Int)} {w w' : World} (h : XF x B K F w) (k : Keep w w') : XF x B K F w' := ⟨h.xm.keep k, h.kb.keep k h.kb.facts.2.2, h.xi, h.cl⟩
theorem XF.lt {x : XD} {B : Nat} {K : List Int} {F : List (List Int)} {w : World} (h : XF x B K F w) {b : Nat} (hb : x.all b) : b < w.heap.size := by
  rcases hb with hb | rfl
  · exact h.xm.lt hb
  · exact h.kb.facts.2.2
theorem owns_weak {B B' e sz n : Nat} {v : Value} {xs : List Value} {w : World} (h : w.ownsRow B' e sz v n xs) (hB : B ≤ B') : w.ownsRow B e sz v n xs := by
  obtain ⟨h1, h2⟩ := h
  refine ⟨h1, h2.imp id ?_⟩
  rintro ⟨g, cap, cur, e1, e2, e3⟩
  exact ⟨g, cap, cur, e1, Nat.le_trans hB e2, e3⟩
/-- Only blocks of its own are turned, and those that are new. -/
theorem Turn.all {x x' : XD} {w w' : World} (t : Turn x.own x'.own w w') (hk : x'.bk = x.bk) : Turn x.all x'.all w w' :=
  ⟨t.os, t.tape, t.output, t.size, fun b hb hn => t.block b hb fun e => hn (.inl e), fun b hb => by
    rcases hb with hb | hb
    · exact (t.new b hb).imp .inl id
    · exact .inl (.inr (hb.trans hk))⟩
/-- New blocks, too, are turned. -/
theorem Turn.fresh {O O' : Nat → Prop} {a w w' : World} {v : Value} (k : Keep a w) (t : Turn (fun b => O b ∨ v.ownBlock = some b) O' w w') (hv : ∀ b, v.ownBlock = some b → a.heap.size ≤ b) : Turn O O' a w' :=
  ⟨t.os.trans k.os, t.tape.trans k.tape, t.output.trans k.output, Nat.le_trans k.size t.size, fun b hb hn => by
    rw [t.block b (Nat.lt_of_lt_of_le hb k.size) (by
      rintro (e | e)
      · exact hn e
      · have := hv b e; omega), k.block b hb], fun b hb => by
    rcases t.new b hb with (e | e) | e
    · exact .inl e
    · exact .inr (hv b e)
    · exact .inr (Nat.le_trans k.size e)⟩

set_option maxHeartbeats 8000000 in
set_option maxRecDepth 100000 in
theorem add_any (x : XD) (B : Nat) (S : Nat → Prop) (K : List Int) (F Fs : List (List Int)) (fv : Value) (w : World) (h : XF x B K F w) (hn : x.n ≤ 1000) (hf : ClsIs S w Fs fv) (hS : ∀ b, S b → b < w.heap.size ∧ ¬ x.all b) (hF : ∀ c ∈ F, LitsC x.n c) (hFs : ∀ c ∈ Fs, c.length ≤ 60 ∧ LitsC x.n c) (hlen : F.length + Fs.length ≤ 100000) :
    Calls Try.prog 44 #[.pointer (some ⟨x.bx, 0, none⟩), fv] w fun e w' => e = .returned (.tuple #[]) ∧ ∃ fl av rv cv C W K', XF (x.next fl av rv cv C W) B K' (F ++ Fs) w' ∧ Turn x.all (x.next fl av rv cv C W).all w w' := by
  have HX := hid h
  have HF := hid hF
  have HFS := hid hFs
  have HFV := hid hf
  obtain ⟨fp, fc, rfl, hflen⟩ := hf.len
  clear h hF hFs hf
  go_enter Try.func44, Try.ntmps44
  go_wp2_with fail
  go_loopg [10] Fs.length (fun gk iv wr => ∃ (j : Nat) (fl : Bool) (av : Value) (rv cv : List Value) (C : List (List Int)) (W : List (List Nat)) (K1 : List Int), j + gk = Fs.length ∧ iv = .int .i64 j ∧ XF (x.next fl av rv cv C W) B K1 (F ++ Fs.take j) wr ∧ Turn x.all (x.next fl av rv cv C W).all w wr)
  case atStart => exact ⟨0, x.fl, x.av, x.rv, x.cv, x.C, x.W, K, by omega, rfl, by rw [List.take_zero, List.append_nil]; exact HX.out, Turn.refl _ _⟩
  case round =>
    obtain ⟨j, fl, av, rv, cv, C, W, K1, hj, rfl, hx1, ht1⟩ := hrel
    have X1 := hid hx1
    have T1 := hid ht1
    clear hx1 ht1
    by_cases hlt : j < Fs.length
    · obtain ⟨cb, coff, ccap, cp, cc, hfv, hcbS, -, hcell, hnum, -⟩ := (HFV.out.turn T1.out hS).get hlt
      cases hfv
      have hcf := HFS.out _ (List.getElem_mem hlt)
      have HTK := hid (List.take_succ_eq_append_getElem hlt)
      have hcbl : cb < wr.heap.size := World.block_lt_of_cell? wr ⟨cb, coff + j, none⟩ hcell
      have hjI : (j : Int) < (Fs.length : Int) := by omega
      generalize Fs[j] = c at hcell hnum hcf HTK
      obtain ⟨hbc, hbf, hbl⟩ := X1.out.xm.box.facts
      have hb2 : wr.cell? ⟨x.bx, 2, none⟩ = some (.slice (some ⟨x.bk, 0, none⟩) (x.n + 1) (x.n + 1)) := hbc 2
      have hbl' : x.bx < wr.heap.size := hbl
      have HFJ := hid (show (F ++ Fs.take j).length ≤ 100000 ∧ ∀ d ∈ F ++ Fs.take j, LitsC x.n d from ⟨by rw [List.length_append, List.length_take]; omega, fun d hd => by
        rcases List.mem_append.1 hd with hd | hd
        · exact HF.out d hd
        · exact (HFS.out d (List.mem_of_mem_take hd)).2⟩)
      have HF2 := hid (show F ++ Fs.take (j + 1) = (F ++ Fs.take j) ++ [c] by rw [HTK.out, List.append_assoc])
      generalize F ++ Fs.take j = Fj at X1 HFJ HF2
      have HCH := hid (show Calls Try.prog 62 #[.slice cp c.length cc, .slice (some ⟨x.bk, 0, none⟩) (x.n + 1) (x.n + 1)] wr _ from canHold_any S x.n x.bk c K1 (.slice cp c.length cc) wr (fun b hb => Nat.lt_of_lt_of_le (hS b hb).1 T1.out.size) hnum X1.out.kb hcf.2 hn X1.out.xi.tb.len (by omega))
      have HCF := hid hcf
      clear hbc hbf hbl hnum hcf HTK
      go_wp2_with fail
      with_reducible refine HCH.out.mono ?_
      rintro e w2 ⟨hk2, hres⟩
      have K2 := hid hk2
      have X2 := hid (X1.out.keep hk2)
      have T2 := hid (T1.out.trans (Turn.keep hk2))
      have HRES := hid hres
      clear HCH hk2 hres hcell hb2
      obtain ⟨hbc, hbf, hbl2⟩ := X2.out.xm.box.facts
      have hb1 : w2.cell? ⟨x.bx, 1, none⟩ = some (.bool fl) := hbc 1
      have hb2 : w2.cell? ⟨x.bx, 2, none⟩ = some (.slice (some ⟨x.bk, 0, none⟩) (x.n + 1) (x.n + 1)) := hbc 2
      have hbf1 : w2.frozen? ⟨x.bx, 1, none⟩ = false := hbf 1
      have hbl3 : x.bx < w2.heap.size := hbl2
      clear hbc hbf hbl2
      rcases HRES.out with ⟨hl, rfl⟩ | ⟨l, lv, hl, rfl, how⟩
      · have HN := hid (X2.out.xi.skip HCF.out.2 hl)
        clear hl HRES
        go_wp2_with fail
        go_roundg (Fs.length - (j + 1))
        case rel => exact ⟨j + 1, fl, av, rv, cv, C, W, K1, by omega, by go_num, ⟨X2.out.xm, X2.out.kb, by rw [HF2.out]; exact HN.out, by rw [HF2.out, List.length_append]; exact Nat.le_trans X2.out.cl (Nat.le_add_right _ _)⟩, T2.out⟩
        case measure => omega
      · have HOW := hid how
        have HLS := hid (lft_some X2.out.xi.tb HCF.out.2 hl)
        have HLF := hid hl
        obtain ⟨lp, lc, hlv⟩ := how.ints.len
        subst hlv
        have hll : l.length ≤ 60 := by have := HLS.out.2.2.2; have := HCF.out.1; omega
        have HOWB := hid (show w2.ownsRow B 3 1 (.slice lp l.length lc) l.length (ivI l) from owns_weak how X1.out.xm.low.2.2.2.2.2.2)
        clear hl how HRES
        by_cases h0 : l.length = 0
        · have h0' : ((l.length : Int) == 0) = true := by rw [h0]; rfl
          have hl0 : l = [] := List.length_eq_zero_iff.1 h0
          have HN := hid (show XI x.n (Fj ++ [c]) true K1 C W from X2.out.xi.empty HCF.out.2 (by have := HLF.out; rw [hl0] at this; exact this))
          obtain ⟨hS1, hS2⟩ := X2.out.xm.setF true
          have HS := hid (show XM (x.next true av rv cv C W) B (w2.setCell ⟨x.bx, 1, none⟩ (.bool true)) ∧ Turn (x.next fl av rv cv C W).own (x.next true av rv cv C W).own w2 (w2.setCell ⟨x.bx, 1, none⟩ (.bool true)) from ⟨hS1, hS2⟩)
          have HKB := hid (X2.out.kb.turn hS2 X2.out.xm.bk)
          clear hS1 hS2 hl0
          go_wp2_with fail
          go_roundg (Fs.length - (j + 1))
          case rel => exact ⟨j + 1, true, av, rv, cv, C, W, K1, by omega, by go_num, ⟨HS.out.1, HKB.out, by rw [HF2.out]; exact HN.out, by rw [HF2.out, List.length_append]; exact Nat.le_trans X2.out.cl (Nat.le_add_right _ _)⟩, T2.out.trans (HS.out.2.all rfl)⟩
          case measure => omega
        · have h0' : ((l.length : Int) == 0) = false := beq_eq_false_iff_ne.2 (by omega)
          by_cases h1 : l.length = 1
          · have h1' : ((l.length : Int) == 1) = true := by rw [h1]; rfl
            obtain ⟨z, hlz⟩ : ∃ z, l = [z] := by
              cases l with
              | nil => simp at h1
              | cons a l =>
                cases l with
                | nil => exact ⟨a, rfl⟩
                | cons b l => simp at h1
            subst hlz
            obtain ⟨gl, lcap, hve, -, hgll, -, -, hcellL, -, -⟩ := own_cells HOWB.out (by simp)
            cases hve
            have hcz : w2.cell? ⟨gl, 0, none⟩ = some (.int .i64 z) := hcellL 0 _ rfl
            have hglo : wr.heap.size ≤ gl := (owns_in HOW.out rfl).1
            clear hcellL
            cases fl with
            | true =>
              have HN := hid (X2.out.xi.failed (c := c))
              obtain ⟨hS1, hS2⟩ := X2.out.xm.setF true
              have HS := hid (show XM (x.next true av rv cv C W) B (w2.setCell ⟨x.bx, 1, none⟩ (.bool true)) ∧ Turn (x.next true av rv cv C W).own (x.next true av rv cv C W).own w2 (w2.setCell ⟨x.bx, 1, none⟩ (.bool true)) from ⟨hS1, hS2⟩)
              have HKB := hid (show BoxAt x.bk 3 (K1.map (Value.int .i64)).toArray (w2.setCell ⟨x.bx, 1, none⟩ (.bool true)) from X2.out.kb.turn hS2 X2.out.xm.bk)
              clear hS1 hS2
              go_upto_region 9 with fail
              go_region
              generalize w2.setCell ⟨x.bx, 1, none⟩ (.bool true) = Ws at HS HKB ⊢
              have k5 : Keep Ws Ws.drew := Keep.drew (Keep.refl _)
              have X5 := hid (HS.out.1.keep k5)
              have KB5 := hid (HKB.out.keep k5 HKB.out.facts.2.2)
              have T5 := hid (T2.out.trans ((HS.out.2.trans (Turn.keep k5)).all rfl))
              generalize Ws.drew = W5 at X5 KB5 T5 k5 ⊢
              clear k5 HS HKB hb1 hb2 hbf1 hcz
              go_wp2_with fail
              go_roundg (Fs.length - (j + 1))
              case rel => exact ⟨j + 1, true, av, rv, cv, C, W, K1, by omega, by go_num, ⟨X5.out, KB5.out, by rw [HF2.out]; exact HN.out, by rw [HF2.out, List.length_append]; exact Nat.le_trans X2.out.cl (Nat.le_add_right _ _)⟩, T5.out⟩
              case measure => omega
            | false =>
              have HONE := hid (X2.out.xi.one HCF.out.2 HLF.out)
              have hkA : ∀ o : Obj, Keep w2 (w2.drew.alloc o) := fun o => (Keep.drew (Keep.refl w2)).alloc' o
              have hSA : ∀ o : Obj, (w2.drew.alloc o).cell? ⟨x.bx, 2, none⟩ = some (.slice (some ⟨x.bk, 0, none⟩) (x.n + 1) (x.n + 1)) ∧ (w2.drew.alloc o).cell? ⟨gl, 0, none⟩ = some (.int .i64 z) := fun o => ⟨((hkA o).cell (p := ⟨x.bx, 2, none⟩) hbl3).trans hb2, ((hkA o).cell (p := ⟨gl, 0, none⟩) hgll).trans hcz⟩
              have HSET := hid (show Calls Try.prog 63 #[.pointer (some ⟨x.bx, 0, none⟩), .slice (some ⟨x.bk, 0, none⟩) (x.n + 1) (x.n + 1), .slice (some ⟨w2.heap.size, 0, none⟩) 1 1] (w2.alloc (.cells #[.int .i64 z] 3)).drew _ from
                settle_any (x.n + 1) [] (x.next false av rv cv C W) B x.bk (fun b => b = w2.heap.size) Fj (Fj ++ [c]) [] K1 [z] (.slice (some ⟨w2.heap.size, 0, none⟩) 1 1) (w2.drew.alloc (.cells #[.int .i64 z] 3)) (X2.out.xm.keep (hkA _)) (box_nil.2 (X2.out.kb.keep (hkA _) X2.out.kb.facts.2.2)) X2.out.xm.bk
                  ⟨_, 1, rfl, by simp, fun _ => ⟨w2.heap.size, 0, rfl, rfl, fun i y hy => by
                    cases i with
                    | zero =>
                      have hy2 : z = y := by simpa using hy
                      subst hy2
                      exact (VarAt.new w2.drew 3 (.int .i64 z)).facts.1
                    | succ i => simp at hy⟩⟩
                  (fun b hb => by
                    have e1 := alloc_size w2.drew (.cells #[.int .i64 z] 3)
                    have e2 : w2.drew.heap.size = w2.heap.size := rfl
                    have hb : b = w2.heap.size := hb
                    have e3 : x.bk < w2.heap.size := X2.out.kb.facts.2.2
                    exact ⟨by omega, fun e => by have := X2.out.xm.lt e; omega, fun e => by omega⟩) hn (by have h5 : C.length ≤ Fj.length := X2.out.cl; have := HFJ.out.1; show C.length ≤ 1000000; omega)
                  (fun d hd => by
                    rcases List.mem_append.1 hd with hd | hd
                    · exact HFJ.out.2 d hd
                    · rw [List.mem_singleton.1 hd]; exact HCF.out.2) HONE.out.1 (fun a ha => by rw [List.mem_singleton.1 ha]; exact HONE.out.2))
              go_upto_region 9 with fail
              refine wp_region_held_drew (S := fun W' => W'.cell? ⟨x.bx, 2, none⟩ = some (.slice (some ⟨x.bk, 0, none⟩) (x.n + 1) (x.n + 1)) ∧ W'.cell? ⟨gl, 0, none⟩ = some (.int .i64 z)) (by kernel_rfl) ⟨hb2, hcz⟩ (fun hHeld => ?_)
              refine wpAnyH_take (i := 0) (v := ?_) rfl (by kernel_rfl) (by kernel_rfl) (by kernel_rfl) (fun _ _ _ h => h) (Or.inl ⟨by rfl, ?_⟩) (by assumption) ?_
              rotate_left
              · intro w hSw
                (try dsimp only at hSw)
                go_simp
                try with_reducible rfl
              simp only [Act.put, List.setIfInBounds_toArray, List.set_cons_zero, List.set_cons_succ, List.getElem_toArray, List.getElem_cons_zero]
              refine wpAnyH_take (i := 1) (v := ?_) rfl (by kernel_rfl) (by kernel_rfl) (by kernel_rfl) (fun _ _ _ h => h) (Or.inl ⟨by rfl, ?_⟩) (by assumption) ?_
              rotate_left
              · intro w hSw
                (try dsimp only at hSw)
                go_simp
                try with_reducible rfl
              simp only [Act.put, List.setIfInBounds_toArray, List.set_cons_zero, List.set_cons_succ, List.getElem_toArray, List.getElem_cons_zero, List.getElem_cons_succ]
              refine wpAnyH_take (i := 2) (v := ?_) rfl (by kernel_rfl) (by kernel_rfl) (by kernel_rfl) (fun _ _ _ h => h) (Or.inl ⟨by rfl, ?_⟩) (by assumption) ?_
              rotate_left
              · intro w hSw
                (try dsimp only at hSw)
                go_simp
                try with_reducible rfl
              simp only [Act.put, List.setIfInBounds_toArray, List.set_cons_zero, List.set_cons_succ, List.getElem_toArray, List.getElem_cons_zero, List.getElem_cons_succ]
              refine wpAnyH_take (i := 3) (v := ?_) rfl (by kernel_rfl) (by kernel_rfl) (by kernel_rfl) (fun _ _ _ h => h) (Or.inl ⟨by rfl, ?_⟩) (by assumption) ?_
              rotate_left
              · intro w hSw
                (try dsimp only at hSw)
                go_simp
                try with_reducible rfl
              simp only [Act.put, List.setIfInBounds_toArray, List.set_cons_zero, List.set_cons_succ, List.getElem_toArray, List.getElem_cons_zero, List.getElem_cons_succ]
              refine wpAnyH_ready (rs := [4]) (by kernel_rfl) (by simp) ?_
              refine AllReadyH.cons rfl (fun KK hK => ?_) AllReadyH.nil
              go_simp
              refine hK.out _ _ ⟨hb2, hcz⟩ (fun hH4 => ?_)
              clear hK KK
              refine wpAnyH_take (i := 5) (v := ?_) rfl (by kernel_rfl) (by kernel_rfl) (by kernel_rfl) (fun _ _ _ h => h) (Or.inl ⟨by rfl, ?_⟩) (by assumption) ?_
              rotate_left
              · intro w hSw
                (try dsimp only at hSw)
                go_simp
                try with_reducible rfl
              simp only [Act.put, List.setIfInBounds_toArray, List.set_cons_zero, List.set_cons_succ, List.getElem_toArray, List.getElem_cons_zero, List.getElem_cons_succ]
              refine wpAnyH_take (i := 6) (v := ?_) rfl (by kernel_rfl) (by kernel_rfl) (by kernel_rfl) (fun _ _ _ h => h) (Or.inl ⟨by rfl, ?_⟩) (by assumption) ?_
              rotate_left
              · intro w hSw
                (try dsimp only at hSw)
                go_simp
                try with_reducible rfl
              simp only [Act.put, List.setIfInBounds_toArray, List.set_cons_zero, List.set_cons_succ, List.getElem_toArray, List.getElem_cons_zero, List.getElem_cons_succ]
              refine wpAnyH_take (i := 7) (v := ?_) rfl (by kernel_rfl) (by kernel_rfl) (by kernel_rfl) (fun _ _ _ h => h) (Or.inl ⟨by rfl, ?_⟩) (by assumption) ?_
              rotate_left
              · intro w hSw
                (try dsimp only at hSw)
                go_simp
                try with_reducible rfl
              simp only [Act.put, List.setIfInBounds_toArray, List.set_cons_zero, List.set_cons_succ, List.getElem_toArray, List.getElem_cons_zero, List.getElem_cons_succ]
              refine wpAnyH_take (i := 8) (v := ?_) rfl (by kernel_rfl) (by kernel_rfl) (by kernel_rfl) (fun _ _ _ h => h) (Or.inl ⟨by rfl, ?_⟩) (by assumption) ?_
              rotate_left
              · intro w hSw
                (try dsimp only at hSw)
                go_simp
                try with_reducible rfl
              simp only [Act.put, List.setIfInBounds_toArray, List.set_cons_zero, List.set_cons_succ, List.getElem_toArray, List.getElem_cons_zero, List.getElem_cons_succ]
              refine wpAnyH_take (i := 9) (v := ?_) rfl (by kernel_rfl) (by kernel_rfl) (by kernel_rfl) (fun _ _ _ h => h) (Or.inl ⟨by rfl, ?_⟩) (by assumption) ?_
              rotate_left
              · intro w hSw
                (try dsimp only at hSw)
                go_simp
                try with_reducible rfl
              simp only [Act.put, List.setIfInBounds_toArray, List.set_cons_zero, List.set_cons_succ, List.getElem_toArray, List.getElem_cons_zero, List.getElem_cons_succ]
              refine wpAnyH_take (i := 10) (v := ?_) rfl (by kernel_rfl) (by kernel_rfl) (by kernel_rfl) (fun _ _ _ h => h) (Or.inl ⟨by rfl, ?_⟩) (by assumption) ?_
              rotate_left
              · intro w hSw
                (try dsimp only at hSw)
                go_simp
                try with_reducible rfl
              simp only [Act.put, List.setIfInBounds_toArray, List.set_cons_zero, List.set_cons_succ, List.getElem_toArray, List.getElem_cons_zero, List.getElem_cons_succ]
              refine wpAnyH_take (i := 11) (v := ?_) rfl (by kernel_rfl) (by kernel_rfl) (by kernel_rfl) (fun _ _ _ h => h) (Or.inl ⟨by rfl, ?_⟩) (by assumption) ?_
              rotate_left
              · intro w hSw
                (try dsimp only at hSw)
                go_simp
                try with_reducible rfl
              simp only [Act.put, List.setIfInBounds_toArray, List.set_cons_zero, List.set_cons_succ, List.getElem_toArray, List.getElem_cons_zero, List.getElem_cons_succ]
              refine wpAnyH_take (i := 12) (v := ?_) rfl (by kernel_rfl) (by kernel_rfl) (by kernel_rfl) (fun _ _ _ h => h) (Or.inl ⟨by rfl, ?_⟩) (by assumption) ?_
              rotate_left
              · intro w hSw
                (try dsimp only at hSw)
                go_simp
                try with_reducible rfl
              simp only [Act.put, List.setIfInBounds_toArray, List.set_cons_zero, List.set_cons_succ, List.getElem_toArray, List.getElem_cons_zero, List.getElem_cons_succ]
              refine wpAnyH_take (i := 13) (v := ?_) rfl (by kernel_rfl) (by kernel_rfl) (by kernel_rfl) (fun _ _ _ h => h) (Or.inl ⟨by rfl, ?_⟩) (by assumption) ?_
              rotate_left
              · intro w hSw
                (try dsimp only at hSw)
                go_simp
                try with_reducible rfl
              simp only [Act.put, List.setIfInBounds_toArray, List.set_cons_zero, List.set_cons_succ, List.getElem_toArray, List.getElem_cons_zero, List.getElem_cons_succ]
              refine wpAnyH_ready (rs := [14]) (by kernel_rfl) (by simp) ?_
              refine AllReadyH.cons rfl (fun KK hK => ?_) AllReadyH.nil
              go_simp
              refine hK.out _ _ (hSA _) (fun hH14 => ?_)
              clear hK KK
              refine wpAnyH_ready (rs := [15]) (by kernel_rfl) (by simp) ?_
              refine AllReadyH.cons rfl (fun KK hK => ?_) AllReadyH.nil
              go_simp
              with_reducible refine HSET.out.mono ?_
              rintro e w4 ⟨ok, C4, rv4, W4, K4, L4, rfl, hx4, hkb4, ht4, hnew4, hcl4, hd4⟩
              have X4 := hid (show XM (x.next false av rv4 cv C4 W4) B w4 from hx4)
              have KB4 := hid (show BoxAt x.bk 3 (K4.map (Value.int .i64)).toArray w4 from box_nil.1 hkb4)
              have T4 := hid (show Turn (x.next false av rv cv C W).all (x.next false av rv4 cv C4 W4).all (w2.drew.alloc (.cells #[.int .i64 z] 3)) w4 from ht4)
              have HCL4 := hid (show C4.length = C.length from hcl4)
              have HD4 := hid (show (ok = true ∧ SetI x.n Fj (Fj ++ [c]) [] K1 K4 L4 L4.length C4 W4 ∧ ∀ a ∈ [z], kn K4 a = a) ∨ (ok = false ∧ SetN x.n Fj (Fj ++ [c]) [] K1 K4 L4 C4 W4) from hd4)
              have hb41 : w4.cell? ⟨x.bx, 1, none⟩ = some (.bool false) := X4.out.box.facts.1 1
              have hbf41 : w4.frozen? ⟨x.bx, 1, none⟩ = false := X4.out.box.facts.2.1 1
              have hb42 : w4.cell? ⟨x.bx, 2, none⟩ = some (.slice (some ⟨x.bk, 0, none⟩) (x.n + 1) (x.n + 1)) := X4.out.box.facts.1 2
              have hbl4 : x.bx < w4.heap.size := X4.out.box.facts.2.2
              have hcz4 : w4.cell? ⟨gl, 0, none⟩ = some (.int .i64 z) := (T4.out.cell ⟨gl, 0, none⟩ (Nat.lt_of_lt_of_le hgll (hkA _).size) (by
                rintro (e | e)
                · have := X1.out.xm.lt e; have e6 : (⟨gl, 0, none⟩ : Addr).block = gl := rfl; omega
                · have e5 : x.bk < wr.heap.size := X1.out.kb.facts.2.2
                  have e7 : gl = x.bk := e
                  omega)).trans (hSA _).2
              have hcz5 : gl ≠ x.bx := fun e => by have := hbl'; omega
              clear hx4 hkb4 ht4 hnew4 hcl4 hd4
              refine hK.out _ _ ⟨hb42, hcz4⟩ (fun hH15 => ?_)
              clear hK KK
              refine wpAnyH_take (i := 16) (v := ?_) rfl (by kernel_rfl) (by kernel_rfl) (by kernel_rfl) (fun _ _ _ h => h) (Or.inl ⟨by rfl, ?_⟩) (by assumption) ?_
              rotate_left
              · intro w hSw
                (try dsimp only at hSw)
                go_simp
                try with_reducible rfl
              simp only [Act.put, List.setIfInBounds_toArray, List.set_cons_zero, List.set_cons_succ, List.getElem_toArray, List.getElem_cons_zero, List.getElem_cons_succ]
              refine wpAnyH_take (i := 17) (v := ?_) rfl (by kernel_rfl) (by kernel_rfl) (by kernel_rfl) (fun _ _ _ h => h) (Or.inl ⟨by rfl, ?_⟩) (by assumption) ?_
              rotate_left
              · intro w hSw
                (try dsimp only at hSw)
                go_simp
                try with_reducible rfl
              simp only [Act.put, List.setIfInBounds_toArray, List.set_cons_zero, List.set_cons_succ, List.getElem_toArray, List.getElem_cons_zero, List.getElem_cons_succ]
              refine wpAnyH_take (i := 18) (v := ?_) rfl (by kernel_rfl) (by kernel_rfl) (by kernel_rfl) (fun _ _ _ h => h) (Or.inl ⟨by rfl, ?_⟩) (by assumption) ?_
              rotate_left
              · intro w hSw
                (try dsimp only at hSw)
                go_simp
                try with_reducible rfl
              simp only [Act.put, List.setIfInBounds_toArray, List.set_cons_zero, List.set_cons_succ, List.getElem_toArray, List.getElem_cons_zero, List.getElem_cons_succ]
              refine wpAnyH_take (i := 19) (v := ?_) rfl (by kernel_rfl) (by kernel_rfl) (by kernel_rfl) (fun _ _ _ h => h) (Or.inl ⟨by rfl, ?_⟩) (by assumption) ?_
              rotate_left
              · intro w hSw
                (try dsimp only at hSw)
                go_simp
                try with_reducible rfl
              simp only [Act.put, List.setIfInBounds_toArray, List.set_cons_zero, List.set_cons_succ, List.getElem_toArray, List.getElem_cons_zero, List.getElem_cons_succ]
              refine wpAnyH_ready (rs := [20]) (by kernel_rfl) (by simp) ?_
              refine AllReadyH.cons rfl (fun KK hK => ?_) AllReadyH.nil
              go_simp
              refine hK.out _ _ ⟨(World.cell?_setCell_other _ _ _ _ (by simp)).trans hb42, (cell_setO _ _ _ _ hcz5).trans hcz4⟩ (fun hH20 => ?_)
              clear hK KK
              refine wpAnyH_done (by kernel_rfl) ?_ _
              obtain ⟨hS1, hS2⟩ := X4.out.setF (!ok)
              have HS := hid (show XM (x.next (!ok) av rv4 cv C4 W4) B (w4.setCell ⟨x.bx, 1, none⟩ (.bool (!ok))) ∧ Turn (x.next false av rv4 cv C4 W4).own (x.next (!ok) av rv4 cv C4 W4).own w4 (w4.setCell ⟨x.bx, 1, none⟩ (.bool (!ok))) from ⟨hS1, hS2⟩)
              have HKB := hid (show BoxAt x.bk 3 (K4.map (Value.int .i64)).toArray (w4.setCell ⟨x.bx, 1, none⟩ (.bool (!ok))) from KB4.out.turn hS2 X4.out.bk)
              have TT := hid (T2.out.trans ((Turn.keep (hkA (.cells #[.int .i64 z] 3))).trans (T4.out.trans (HS.out.2.all rfl))))
              have HN := hid (show XI x.n (Fj ++ [c]) (!ok) K4 C4 W4 from by
                rcases HD4.out with ⟨rfl, h1, h2⟩ | ⟨rfl, h1⟩
                · exact X2.out.xi.oneDone HFJ.out.2 HCF.out.2 HLF.out h1 (h2 z (by simp))
                · exact XI.oneFails h1)
              generalize w4.setCell ⟨x.bx, 1, none⟩ (.bool (!ok)) = Ws at HS HKB TT ⊢
              clear hS1 hS2 hHeld hH4 hH14 hH15 hH20 hb1 hb2 hbf1 hcz hb41 hbf41 hb42 hcz4 HSET
              go_wp2_with fail
              go_roundg (Fs.length - (j + 1))
              case rel => exact ⟨j + 1, !ok, av, rv4, cv, C4, W4, K4, by omega, by go_num, ⟨HS.out.1, HKB.out, by rw [HF2.out]; exact HN.out, by rw [HF2.out, List.length_append]; show C4.length ≤ _; rw [HCL4.out]; exact Nat.le_trans X2.out.cl (Nat.le_add_right _ _)⟩, TT.out⟩
              case measure => omega
          · have h1' : ((l.length : Int) == 1) = false := beq_eq_false_iff_ne.2 (by omega)
            have HT := hid (show Two x.n l from ⟨by omega, fun y hy => HCF.out.2 y (HLS.out.2.1 y hy).2, HLS.out.1⟩)
            have HN := hid (X2.out.xi.lay HCF.out.2 HLF.out (by omega))
            have hcl := X2.out.cl
            have HLAY := hid (show Calls Try.prog 64 #[.pointer (some ⟨x.bx, 0, none⟩), .slice lp l.length lc] w2 _ from lay_any (x.next fl av rv cv C W) B l (.slice lp l.length lc) w2 X2.out.xm HOWB.out (fun b hb e => by have := (owns_in HOW.out e).1; have := X1.out.xm.lt hb; omega) hn HT.out (by have := HFJ.out.1; omega) (fun z hz => by have := wst_len X2.out.xi.ws hz; have := HFJ.out.1; omega))
            clear hb1 hb2
            go_wp2_with fail
            with_reducible refine HLAY.out.mono ?_
            rintro e w3 ⟨rfl, av3, rv3, hx3, ht3⟩
            have X3 := hid (show XM (x.next fl av3 rv3 (cv ++ [.slice lp l.length lc]) (C ++ [l]) (pushW x.n (pushW x.n W (w0 l) C.length) (w1 l) C.length)) B w3 from hx3)
            have T3 := hid (show Turn (fun b => (x.next fl av rv cv C W).own b ∨ (Value.slice lp l.length lc).ownBlock = some b) (x.next fl av3 rv3 (cv ++ [.slice lp l.length lc]) (C ++ [l]) (pushW x.n (pushW x.n W (w0 l) C.length) (w1 l) C.length)).own w2 w3 from ht3)
            have T3' := hid ((Turn.fresh K2.out T3.out fun b e => (owns_in HOW.out e).1).all rfl)
            have HKB := hid (X2.out.kb.turn T3.out (by
              rintro (e | e)
              · exact X2.out.xm.bk e
              · have := (owns_in HOW.out e).1
                have := X1.out.kb.facts.2.2
                omega))
            clear hx3 ht3 HLAY
            go_wp2_with fail
            go_roundg (Fs.length - (j + 1))
            case rel => exact ⟨j + 1, fl, av3, rv3, _, _, _, K1, by omega, by go_num, ⟨X3.out, HKB.out, by rw [HF2.out]; exact HN.out, by rw [HF2.out]; show (C ++ [l]).length ≤ _; rw [List.length_append, List.length_append]; exact Nat.add_le_add_right hcl 1⟩, T1.out.trans T3'.out⟩
            case measure => omega
    · obtain rfl : j = Fs.length := by omega
      go_wp2_with fail
      refine bodyPost_end (results_none rfl _ _ _) rfl ?_
      have h1 := X1.out
      rw [List.take_length] at h1
      exact ⟨rfl, fl, av, rv, cv, C, W, K1, h1, T1.out⟩
end Go.Proofs.Ytbblgmkjgcjcaab
