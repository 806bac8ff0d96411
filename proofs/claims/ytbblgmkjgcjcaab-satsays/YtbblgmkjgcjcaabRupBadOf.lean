/- The reference's BadOf tells the place of the first clause that doesn't come at once. -/
import Derived.Test.YtbblgmkjgcjcaabRupFails
import Derived.Test.YtbblgmkjgcjcaabRupSoundWalk
namespace Go.Proofs.Ytbblgmkjgcjcaab
open Go.RowKit Go.Lib

/-- What BadOf leaves. -/
def BadOfDone (F P : List (List Int)) (w : World) (e : Ending) (w' : World) : Prop := ∃ k : Int, e = .returned (.int .i64 k) ∧ BadAt F P k ∧ Keep w w'
theorem clash {F : List (List Int)} {c : List Int} {x : Int} (h1 : x ∈ c) (h2 : -x ∈ c) : Comes F c :=
  .inl ⟨x, .told (List.mem_map.2 ⟨-x, h2, by rw [Int.neg_neg]⟩), .told (List.mem_map.2 ⟨x, h1, rfl⟩)⟩
set_option maxHeartbeats 16000000 in
set_option maxRecDepth 100000 in
theorem badOf_any (S : Nat → Prop) (n : Nat) (x0 : Int) (F P : List (List Int)) (p : Option Addr) (cap : Nat) (pp : Option Addr) (pc : Nat) (w : World) (hS : ∀ b, S b → b < w.heap.size) (hf : FormIs S w x0 F p cap) (hp : FormIs S w 0 P pp pc) (hn : n ≤ 400) (hFl : F.length ≤ 4000) (hF : ∀ c ∈ F, c.length ≤ 60 ∧ LitsC n c) (hPl : P.length ≤ 40000) (hP : ∀ c ∈ P, c.length ≤ 60 ∧ LitsC n c) :
    Calls Try.prog 30 #[.agg #[.int .i64 x0, .slice p F.length cap], .slice pp P.length pc] w fun e w' => BadOfDone F P w e w' := by
  have HF := hid hf
  have HP := hid hp
  have HFL := hid hF
  have HPL := hid hP
  have hmm := @run_makeMap Try.prog
  clear hf hp hF hP
  go_enter Try.func30, Try.ntmps30
  go_upto_region 1 with fail
  refine at_wp (fun W' => Keep w W' ∧ BoxAt w.heap.size 24 #[.int .i64 x0, .slice p F.length cap] W') ⟨Keep.alloc _ _, BoxAt.new _ _ _⟩ ?_
  rintro W0 ⟨k0, b0⟩
  have K0 := hid k0
  have B0 := hid b0
  clear k0 b0
  go_wp2_with fail
  go_loopg [4, 13] P.length (fun gn rv iv wr => ∃ j : Nat, j + gn = P.length ∧ rv = .int .i64 0 ∧ iv = .int .i64 j ∧ Keep w wr ∧ BoxAt w.heap.size 24 #[.int .i64 x0, .slice p F.length cap] wr ∧ AllCome F P j)
  case atStart => exact ⟨0, by omega, rfl, rfl, K0.out, B0.out, fun i c h => by omega⟩
  case round =>
    obtain ⟨j, hj, rfl, rfl, hk, hb, hall⟩ := hrel
    have K1 := hid hk
    have B1 := hid hb
    have HALL := hid hall
    clear hk hb hall
    by_cases hlt : j < P.length
    · obtain ⟨pb, poff, pcap, cp, cc, hpv, hpS, -, hcell, hnum, -⟩ := ((HP.out.keep hS K1.out).row).get hlt
      have hpc : P.length ≤ pc := by
        rcases HP.out.row with ⟨e, -⟩ | ⟨b, off, c, e, h1, -⟩
        · rw [e] at hlt; simp at hlt
        · injection e with e1 e2 e3; rw [e3]; exact h1.2
      cases hpv
      have hcf := HPL.out _ (List.getElem_mem hlt)
      have HGET := hid (List.getElem?_eq_getElem hlt)
      have hpbl : pb < wr.heap.size := Nat.lt_of_lt_of_le (hS pb hpS) K1.out.size
      have hjI : (j : Int) < (P.length : Int) := by omega
      generalize P[j] = c at hcell hnum hcf HGET
      have HCF := hid hcf
      have hc60 : c.length ≤ 60 := hcf.1
      have HNX := hid (show Comes (F ++ P.take j) c → AllCome F P (j + 1) from fun hc i d hi hd => by
        by_cases e : i = j
        · subst e
          rw [HGET.out] at hd
          cases hd
          exact hc
        · exact HALL.out i d (by omega) hd)
      have HQ := hid (show Keep w (wr.alloc (.map #[] 0)) ∧ BoxAt w.heap.size 24 #[.int .i64 x0, .slice p F.length cap] (wr.alloc (.map #[] 0)) ∧ SetMap wr.heap.size [] (wr.alloc (.map #[] 0)) ∧ NumsIs S (wr.alloc (.map #[] 0)) c (.slice cp c.length cc) from ⟨K1.out.alloc' _, B1.out.keep (Keep.alloc _ _) B1.out.facts.2.2, setmap_made wr, hnum.keep (B := wr.heap.size) (fun b hb => Nat.lt_of_lt_of_le (hS b hb) K1.out.size) (Keep.alloc _ _)⟩)
      have hwr : w.heap.size < wr.heap.size := B1.out.facts.2.2
      clear hnum hcf
      go_upto_region 6 with fail
      refine at_wp (fun W' => Keep w W' ∧ BoxAt w.heap.size 24 #[.int .i64 x0, .slice p F.length cap] W' ∧ SetMap wr.heap.size [] W' ∧ NumsIs S W' c (.slice cp c.length cc)) ?_ ?_
      · exact HQ.out
      rintro W2 ⟨hk2, hb2, hm2, hn2⟩
      have K2 := hid hk2
      have B2 := hid hb2
      have M2 := hid hm2
      have N2 := hid hn2
      clear hk2 hb2 hm2 hn2 HQ hcell hpbl
      generalize wr.heap.size = bk at M2 hwr ⊢
      obtain ⟨w1, rfl⟩ : ∃ w1 : World, w1 = wr := ⟨_, rfl⟩
      obtain ⟨g1, rfl⟩ : ∃ g1 : Nat, g1 = gk := ⟨_, rfl⟩
      go_wp2_with fail
      go_loopg [8, 21] c.length (fun gn av mv wi => ∃ (m : Nat) (s : List Int) (ag : Bool), m + gn = c.length ∧ av = .bool ag ∧ mv = .int .i64 m ∧ Keep w wi ∧ BoxAt w.heap.size 24 #[.int .i64 x0, .slice p F.length cap] wi ∧ SetMap bk s wi ∧ NumsIs S wi c (.slice cp c.length cc) ∧ s.length ≤ m ∧ (∀ y, y ∈ s ↔ -y ∈ c.take m) ∧ (ag = true → ∀ y ∈ s, -y ∉ s) ∧ (ag = false → ∃ x ∈ c, -x ∈ c))
      case atStart => exact ⟨0, [], true, by omega, rfl, rfl, K2.out, B2.out, M2.out, N2.out, by simp, by simp, by simp, by simp⟩
      case round =>
        obtain ⟨m, s, ag, hm, rfl, rfl, hk, hb, hsm, hnu, hsl, hmem, hag, hno⟩ := hrel
        have KW := hid hk
        have BW := hid hb
        have SW := hid hsm
        have NW := hid hnu
        have HMEM := hid hmem
        have HAG := hid hag
        have HNO := hid hno
        clear hk hb hsm hnu hmem hag hno K2 B2 M2 N2
        by_cases hml : m < c.length
        · obtain ⟨xb, xo, hxp, hxS, hxc⟩ := NW.out.nth hml
          subst hxp
          have hxk := hxc m _ (List.getElem?_eq_getElem hml)
          have hxL := HCF.out.2 _ (List.getElem_mem hml)
          have HXC := hid (List.getElem_mem hml)
          have HTK := hid (List.take_succ_eq_append_getElem hml)
          have hxbl : xb < wr.heap.size := Nat.lt_of_lt_of_le (hS xb hxS) KW.out.size
          have hmI : (m : Int) < (c.length : Int) := by omega
          generalize c[m] = x at hxk hxL HXC HTK
          have hsx : Sm x := Nat.le_trans hxL.2 (by omega)
          have hsnx : Sm (-x) := Nat.le_trans hxL.neg.2 (by omega)
          have hx1 : -1000 ≤ x := by unfold Sm at hsx; omega
          have hx2 : x ≤ 1000 := by unfold Sm at hsx; omega
          have hlk := SW.out.look und_known hsx
          obtain ⟨w7, hrun, hsm7, hgr7⟩ := SW.out.put und_known hsnx (by omega)
          have SM7 := hid hsm7
          have KW7 := hid (show Keep w w7 from KW.out.grown hgr7 KW.out.size (fun q hq => by have := Option.some.inj hq; omega))
          have BW7 := hid (show BoxAt w.heap.size 24 #[.int .i64 x0, .slice p F.length cap] w7 by
            have h1 := BW.out
            have h2 := h1.facts.2.2
            unfold BoxAt at *
            rw [hgr7.block _ h2 (fun e => by have := Option.some.inj e; omega)]; exact h1)
          have NW7 := hid (NW.out.mono (w' := w7) (S' := S) (fun q hq => World.cell?_of_block (w := wr) (hgr7.block _ (Nat.lt_of_lt_of_le (hS _ hq) KW.out.size) (fun e => by have := Option.some.inj e; have := hS _ hq; omega))) fun _ h => h)
          have hal : (addS s (-x)).length ≤ s.length + 1 := by unfold addS; split <;> simp
          have HMEM7 := hid (show ∀ y, y ∈ addS s (-x) ↔ -y ∈ c.take (m + 1) from fun y => by
            rw [mem_addS, HMEM.out y, HTK.out, List.mem_append, List.mem_singleton]
            constructor
            · rintro (h | h)
              · exact .inl h
              · exact .inr (by omega)
            · rintro (h | h)
              · exact .inl h
              · exact .inr (by omega))
          have HNO7 := hid (show ∀ b : Bool, (ag && !decide (x ∈ s)) = b → (b = true → ∀ y ∈ addS s (-x), -y ∉ addS s (-x)) ∧ (b = false → ∃ x ∈ c, -x ∈ c) from fun b hb => ⟨fun h y hy hny => by
            rw [h, Bool.and_eq_true] at hb
            have hxs : x ∉ s := by have := hb.2; simpa using this
            have hag := HAG.out hb.1
            rw [mem_addS] at hy hny
            rcases hy with hy | hy <;> rcases hny with hny | hny
            · exact hag y hy hny
            · exact hxs (by have e : y = x := by omega
                            rw [← e]; exact hy)
            · exact hxs (by have e : -y = x := by omega
                            rw [← e]; exact hny)
            · have := hxL.1; omega, fun h => by
            rw [h] at hb
            cases hag : ag with
            | false => exact HNO.out hag
            | true =>
              rw [hag] at hb
              have hxs : x ∈ s := by simpa using hb
              exact ⟨x, HXC.out, List.mem_of_mem_take ((HMEM.out x).1 hxs)⟩⟩)
          generalize decide (x ∈ s) = b1 at hlk HNO7
          clear hxc hsm7 hgr7
          cases ag <;> cases b1
          all_goals
            have HN8 := hid (HNO7.out _ rfl)
            go_wp2_with fail
            go_roundg (c.length - (m + 1))
            case rel => exact ⟨m + 1, addS s (-x), _, by omega, rfl, by go_num, KW7.out, BW7.out, SM7.out, NW7.out, by omega, HMEM7.out, HN8.out.1, HN8.out.2⟩
            case measure => omega
        · obtain rfl : m = c.length := by omega
          have hc1 : wr.cell? ⟨w.heap.size, 1, none⟩ = some (.slice p F.length cap) := BW.out.facts.1 1
          have hwl : w.heap.size < wr.heap.size := BW.out.facts.2.2
          cases ag with
          | false =>
            obtain ⟨x, hx, hnx⟩ := HNO.out rfl
            have HCM := hid (show Comes (F ++ P.take j) c from clash hx hnx)
            clear hx hnx
            go_upto_region 12 with fail
            go_region
            have K9 := hid (show Keep w wr.drew from KW.out.trans (Keep.drew (Keep.refl _)))
            have B9 := hid (BW.out.keep (Keep.drew (Keep.refl _)) BW.out.facts.2.2)
            generalize wr.drew = W9 at K9 B9 ⊢
            go_wp2_with fail
            go_roundg (P.length - (j + 1))
            case rel => exact ⟨j + 1, by omega, rfl, by go_num, K9.out, B9.out, HNX.out HCM.out⟩
            case measure => omega
          | true =>
            have HGS := hid (show GS n (F ++ P.take j) (negs c) s from ⟨fun y hy => by
              have h1 := (HMEM.out y).1 hy
              rw [List.take_length] at h1
              have h2 := (HCF.out.2 _ h1).neg
              rwa [Int.neg_neg] at h2, HAG.out rfl, fun y hy => by
              have h1 := (HMEM.out y).1 hy
              rw [List.take_length] at h1
              exact .told (List.mem_map.2 ⟨-y, h1, by rw [Int.neg_neg]⟩), fun a ha => by
              obtain ⟨z, hz, rfl⟩ := List.mem_map.1 ha
              refine (HMEM.out _).2 ?_
              rw [List.take_length, Int.neg_neg]; exact hz, SW.out.nodup⟩)
            have hkA : ∀ o : Obj, Keep wr (wr.drew.alloc o) := fun o => (Keep.drew (Keep.refl wr)).alloc' o
            have hSA : ∀ o : Obj, (wr.drew.alloc o).cell? ⟨w.heap.size, 1, none⟩ = some (.slice p F.length cap) := fun o => ((hkA o).cell (p := ⟨w.heap.size, 1, none⟩) hwl).trans hc1
            have hbkl : bk < wr.heap.size := SW.out.lt
            have hjpc : (j : Int) ≤ (pc : Int) := by omega
            have hjpc2 : j ≤ pc := by omega
            have HFA := hid (show Calls Try.prog 51 #[.map (some bk), .slice (some ⟨wr.heap.size, 0, none⟩) 2 2] (wr.alloc (.cells #[.slice p F.length cap, .slice (some ⟨pb, poff, none⟩) j pc] 22)).drew _ from by
              have hlt2 : (P.take j).length = j := by rw [List.length_take]; omega
              have hKK := KW.out.trans (hkA (.cells #[.slice p F.length cap, .slice (some ⟨pb, poff, none⟩) j pc] 22))
              have h5 := fails_any S n bk wr.heap.size F (P.take j) p cap (some ⟨pb, poff, none⟩) pc (negs c) s (wr.drew.alloc (.cells #[.slice p F.length cap, .slice (some ⟨pb, poff, none⟩) j pc] 22)) (fun b hb => ⟨Nat.lt_of_lt_of_le (hS b hb) hKK.size, fun e => by have e2 : b = bk := e; have := hS b hb; omega⟩) (by rw [hlt2]; exact BoxAt.new wr.drew _ _) (by omega) (HF.out.keep hS hKK).row ((HP.out.take (vars' := 0) (k := j) (by omega)).keep hS hKK).row (SW.out.keep (hkA _)) HGS.out (by omega) (fun d hd => by
                rcases List.mem_append.1 hd with hd | hd
                · exact ⟨(HFL.out d hd).2, (HFL.out d hd).1⟩
                · have := HPL.out d (List.mem_of_mem_take hd); exact ⟨this.2, this.1⟩) ⟨by omega, by omega⟩
              exact h5)
            go_upto_region 12 with fail
            refine wp_region_held_drew (S := fun W' => W'.cell? ⟨w.heap.size, 1, none⟩ = some (.slice p F.length cap)) (by kernel_rfl) hc1 (fun hHeld => ?_)
            refine wpAnyH_take (i := 0) (v := ?_) rfl (by kernel_rfl) (by kernel_rfl) (by kernel_rfl) (fun _ _ _ h => h) (Or.inl ⟨by rfl, ?_⟩) (by assumption) ?_
            rotate_left
            · intro w hSw
              (try dsimp only at hSw)
              go_simp
              try with_reducible rfl
            simp only [Act.put, List.setIfInBounds_toArray, List.set_cons_zero, List.set_cons_succ, List.getElem_toArray, List.getElem_cons_zero]
            refine wpAnyH_take (i := 1) (v := ?_) rfl (by kernel_rfl) (by kernel_rfl) (by kernel_rfl) (fun _ _ _ h => h) (Or.inl ⟨by rfl, ?_⟩) (by assumption) ?_
            rotate_left
            · intro w hSw
              (try dsimp only at hSw)
              go_simp
              try with_reducible rfl
            simp only [Act.put, List.setIfInBounds_toArray, List.set_cons_zero, List.set_cons_succ, List.getElem_toArray, List.getElem_cons_zero, List.getElem_cons_succ]
            refine wpAnyH_take (i := 2) (v := ?_) rfl (by kernel_rfl) (by kernel_rfl) (by kernel_rfl) (fun _ _ _ h => h) (Or.inl ⟨by rfl, ?_⟩) (by assumption) ?_
            rotate_left
            · intro w hSw
              (try dsimp only at hSw)
              go_simp
              try with_reducible rfl
            simp only [Act.put, List.setIfInBounds_toArray, List.set_cons_zero, List.set_cons_succ, List.getElem_toArray, List.getElem_cons_zero, List.getElem_cons_succ]
            refine wpAnyH_take (i := 3) (v := ?_) rfl (by kernel_rfl) (by kernel_rfl) (by kernel_rfl) (fun _ _ _ h => h) (Or.inl ⟨by rfl, ?_⟩) (by assumption) ?_
            rotate_left
            · intro w hSw
              (try dsimp only at hSw)
              go_simp
              try with_reducible rfl
            simp only [Act.put, List.setIfInBounds_toArray, List.set_cons_zero, List.set_cons_succ, List.getElem_toArray, List.getElem_cons_zero, List.getElem_cons_succ]
            refine wpAnyH_take (i := 4) (v := ?_) rfl (by kernel_rfl) (by kernel_rfl) (by kernel_rfl) (fun _ _ _ h => h) (Or.inl ⟨by rfl, ?_⟩) (by assumption) ?_
            rotate_left
            · intro w hSw
              (try dsimp only at hSw)
              go_simp
              try with_reducible rfl
            simp only [Act.put, List.setIfInBounds_toArray, List.set_cons_zero, List.set_cons_succ, List.getElem_toArray, List.getElem_cons_zero, List.getElem_cons_succ]
            refine wpAnyH_take (i := 5) (v := ?_) rfl (by kernel_rfl) (by kernel_rfl) (by kernel_rfl) (fun _ _ _ h => h) (Or.inl ⟨by rfl, ?_⟩) (by assumption) ?_
            rotate_left
            · intro w hSw
              (try dsimp only at hSw)
              go_simp
              try with_reducible rfl
            simp only [Act.put, List.setIfInBounds_toArray, List.set_cons_zero, List.set_cons_succ, List.getElem_toArray, List.getElem_cons_zero, List.getElem_cons_succ]
            refine wpAnyH_take (i := 6) (v := ?_) rfl (by kernel_rfl) (by kernel_rfl) (by kernel_rfl) (fun _ _ _ h => h) (Or.inl ⟨by rfl, ?_⟩) (by assumption) ?_
            rotate_left
            · intro w hSw
              (try dsimp only at hSw)
              go_simp
              try with_reducible rfl
            simp only [Act.put, List.setIfInBounds_toArray, List.set_cons_zero, List.set_cons_succ, List.getElem_toArray, List.getElem_cons_zero, List.getElem_cons_succ]
            refine wpAnyH_take (i := 7) (v := ?_) rfl (by kernel_rfl) (by kernel_rfl) (by kernel_rfl) (fun _ _ _ h => h) (Or.inl ⟨by rfl, ?_⟩) (by assumption) ?_
            rotate_left
            · intro w hSw
              (try dsimp only at hSw)
              go_simp
              try with_reducible rfl
            simp only [Act.put, List.setIfInBounds_toArray, List.set_cons_zero, List.set_cons_succ, List.getElem_toArray, List.getElem_cons_zero, List.getElem_cons_succ]
            refine wpAnyH_ready (rs := [8]) (by kernel_rfl) (by simp) ?_
            refine AllReadyH.cons rfl (fun KK hK => ?_) AllReadyH.nil
            go_simp
            refine hK.out _ _ (hSA _) (fun hH8 => ?_)
            clear hK KK
            refine wpAnyH_ready (rs := [9]) (by kernel_rfl) (by simp) ?_
            refine AllReadyH.cons rfl (fun KK hK => ?_) AllReadyH.nil
            go_simp
            with_reducible refine HFA.out.mono ?_
            rintro e w9 ⟨r, rfl, ht9, hr9⟩
            have HR9 := hid hr9
            have K9 := hid (show Keep w w9 from Below.trans (KW.out.trans (hkA _)) (ht9.below (B := w.heap.size) (KW.out.trans (hkA _)).size fun b hb e => by have e2 : b = bk := e; omega))
            have B9 := hid (show BoxAt w.heap.size 24 #[.int .i64 x0, .slice p F.length cap] w9 from (BW.out.keep (hkA _) BW.out.facts.2.2).turn ht9 (fun e => by have e2 : w.heap.size = bk := e; omega))
            have hc9 : w9.cell? ⟨w.heap.size, 1, none⟩ = some (.slice p F.length cap) := B9.out.facts.1 1
            clear ht9 hr9
            refine hK.out _ _ hc9 (fun hH9 => ?_)
            clear hK KK
            cases r with
            | true =>
              refine wpAnyH_take (i := 10) (v := ?_) rfl (by kernel_rfl) (by kernel_rfl) (by kernel_rfl) (fun _ _ _ h => h) (Or.inl ⟨by rfl, ?_⟩) (by assumption) ?_
              rotate_left
              · intro w hSw
                (try dsimp only at hSw)
                go_simp
                try with_reducible rfl
              simp only [Act.put, List.setIfInBounds_toArray, List.set_cons_zero, List.set_cons_succ, List.getElem_toArray, List.getElem_cons_zero, List.getElem_cons_succ]
              refine wpAnyH_take (i := 11) (v := ?_) rfl (by kernel_rfl) (by kernel_rfl) (by kernel_rfl) (fun _ _ _ h => h) (Or.inl ⟨by rfl, ?_⟩) (by assumption) ?_
              rotate_left
              · intro w hSw
                (try dsimp only at hSw)
                go_simp
                try with_reducible rfl
              simp only [Act.put, List.setIfInBounds_toArray, List.set_cons_zero, List.set_cons_succ, List.getElem_toArray, List.getElem_cons_zero, List.getElem_cons_succ]
              refine wpAnyH_done (by kernel_rfl) ?_ _
              have HCM := hid (HR9.out.1 rfl)
              clear hHeld hH8 hH9 hc9 hc1 HFA hSA
              go_wp2_with fail
              go_roundg (P.length - (j + 1))
              case rel => exact ⟨j + 1, by omega, rfl, by go_num, K9.out, B9.out, HNX.out HCM.out⟩
              case measure => omega
            | false =>
              refine wpAnyH_take (i := 10) (v := ?_) rfl (by kernel_rfl) (by kernel_rfl) (by kernel_rfl) (fun _ _ _ h => h) (Or.inl ⟨by rfl, ?_⟩) (by assumption) ?_
              rotate_left
              · intro w hSw
                (try dsimp only at hSw)
                go_simp
                try with_reducible rfl
              simp only [Act.put, List.setIfInBounds_toArray, List.set_cons_zero, List.set_cons_succ, List.getElem_toArray, List.getElem_cons_zero, List.getElem_cons_succ]
              refine wpAnyH_take (i := 11) (v := ?_) rfl (by kernel_rfl) (by kernel_rfl) (by kernel_rfl) (fun _ _ _ h => h) (Or.inl ⟨by rfl, ?_⟩) (by assumption) ?_
              rotate_left
              · intro w hSw
                (try dsimp only at hSw)
                go_simp
                try with_reducible rfl
              simp only [Act.put, List.setIfInBounds_toArray, List.set_cons_zero, List.set_cons_succ, List.getElem_toArray, List.getElem_cons_zero, List.getElem_cons_succ]
              refine wpAnyH_done (by kernel_rfl) ?_ _
              have HBAD := hid (show BadAt F P j from .inr ⟨j, c, rfl, HGET.out, (fun e => nomatch HR9.out.2 e), HALL.out⟩)
              clear hHeld hH8 hH9 hc9 hc1 HFA hSA
              go_wp2_with fail
              go_ret
              exact ⟨_, rfl, HBAD.out, K9.out⟩
    · obtain rfl : j = P.length := by omega
      go_wp2_with fail
      go_ret
      exact ⟨_, rfl, .inl ⟨rfl, HALL.out⟩, K1.out⟩
end Go.Proofs.Ytbblgmkjgcjcaab
