/- need.Flags answers with the flags, each once, rising; or with the need's error. -/
import Derived.Test.YtnagpmilagdjeaaGreatDoorNeedFlags
import Derived.Test.YtnagpmilagdjeaaGreatDoorShelfS
import Derived.Sort.OwnSorted
namespace Go.Proofs.YtnagpmilagdjeaaGreatDoor
open Go.RowKit Go.Sort

theorem flags_counts (c : Nat) (S : Nat → Prop) (hS : ∀ b, S b → b < c) : Counts 50 #[.pointer (some ⟨c, 0, none⟩)] S fF (FlagsIs c) (fun s n => s.length + n ≤ 1000) (OwnF c) where
  keep s w w' hi k := ⟨hi.keep k, (flags_apart hi k).1, (flags_apart hi k).2⟩
  old s w hi b hb := by
    refine ⟨?_, fun e => ?_⟩
    · obtain ⟨v, h1, -⟩ := hi
      exact Nat.lt_trans (hS b hb) h1.facts.2.2
    · have := hi.own e
      have := hS b hb
      omega
  own s w hi b hb := (hi.own hb).2
  call n s t d cs w hi hl hok hn := by
    obtain ⟨k, a, fl, nt, kids⟩ := t
    rw [NeedIs] at hn
    obtain ⟨kp, kc, rfl, -, -, -⟩ := hn
    refine flags_call n c s k a fl nt kp kids.length kc d kids w hi hl (fun h5 => ?_)
    rw [NT.ok] at hok
    rcases nodeE_zero hok.1 with ⟨hk, -⟩ | ⟨hk, -⟩ | ⟨-, -, hn⟩
    · omega
    · omega
    · have := nameB_le hn
      rw [size_list] at this
      exact this
theorem enter_flags (args : Array Value) (w : World) : (callFunc 50 args).run Tryz.prog w = .ok (.enter 50 args) w := enters_of Tryz.func50 (by kernel_rfl) rfl args w

/-- The flags, each once, rising. -/
def NT.sorted (t : NT) : List (List UInt8) := Lib.compact ((t.flags.map (·.data.toList)).mergeSort fun x y => decide (x ≤ y))
/-- A row of texts that a slice leads to. -/
def TextsAt (v : Value) (fs : List (List UInt8)) (w : World) : Prop := (fs = [] ∧ ∃ p cap, v = .slice p 0 cap) ∨ ∃ g cap, v = .slice (some ⟨g, 0, none⟩) fs.length cap ∧ g < w.heap.size ∧ ∀ (j : Nat) x, fs[j]? = some x → w.cell? ⟨g, 0 + j, none⟩ = some (.string ⟨x.toArray⟩)
/-- What Flags answers. -/
def FlagsDone (t : NT) (w : World) (e : Ending) (w' : World) : Prop :=
  ∃ v, e = .returned (.tuple #[v, .int .i64 (chkN t)]) ∧ (chkN t ≠ 0 → v = .slice none 0 0) ∧ (chkN t = 0 → TextsAt v t.sorted w') ∧ Keep w w'
theorem compact_len (zs : List (List UInt8)) : (Lib.compact zs).length ≤ zs.length := by
  unfold Lib.compact Lib.compactUpTo
  rw [List.length_map]
  exact Nat.le_trans (List.length_filter_le _ _) (by simp)
theorem compact_nil : Lib.compact ([] : List (List UInt8)) = [] := by rfl

set_option maxHeartbeats 2000000 in
theorem needFlags_any (t : NT) (cs : List Value) (w : World) (S : Nat → Prop) (hS : ∀ b, S b → b < w.heap.size) (hn : NeedIs S w t cs) :
    Calls Tryz.prog 10 #[.agg cs.toArray] w fun e w' => FlagsDone t w e w' := by
  have HN : Hid (NeedIs S w t cs) := hn
  cases ht : t with
  | node k a fl nt kids =>
  rw [ht, NeedIs] at hn
  obtain ⟨kp, kc, rfl, -, -, -⟩ := hn
  rw [← ht]
  have hmf : ∀ (fn : Fn) (first cap : Array Value) (w : World), (Instr.makeFunc fn first cap).run Tryz.prog w = .ok (.func fn first cap) w := fun _ _ _ _ => rfl
  have k0 := hid (Keep.alloc w (.cells #[.int .i64 k, .string a.n, .int .i64 a.op, .int .i64 a.v, .int .i64 a.sl, .string a.f, .bool a.on, .string fl, .bool nt, .slice kp kids.length kc] 26))
  have hb0 : Hid (Boxed w.heap.size #[.int .i64 k, .string a.n, .int .i64 a.op, .int .i64 a.v, .int .i64 a.sl, .string a.f, .bool a.on, .string fl, .bool nt, .slice kp kids.length kc] (w.alloc (.cells #[.int .i64 k, .string a.n, .int .i64 a.op, .int .i64 a.v, .int .i64 a.sl, .string a.f, .bool a.on, .string fl, .bool nt, .slice kp kids.length kc] 26))) := Boxed.new w #[.int .i64 k, .string a.n, .int .i64 a.op, .int .i64 a.v, .int .i64 a.sl, .string a.f, .bool a.on, .string fl, .bool nt, .slice kp kids.length kc] 26
  clear ht
  go_enter Tryz.func10, Tryz.ntmps10
  go_wp2_with fail
  generalize w.alloc (.cells #[.int .i64 k, .string a.n, .int .i64 a.op, .int .i64 a.v, .int .i64 a.sl, .string a.f, .bool a.on, .string fl, .bool nt, .slice kp kids.length kc] 26) = W0 at k0 hb0 ⊢
  refine (needCheck_any t _ W0 S (fun b hb => Nat.lt_of_lt_of_le (hS b hb) k0.out.size) (HN.out.keep hS k0.out)).mono ?_
  rintro e w1 ⟨rfl, k1⟩
  have K1 : Hid (Keep w w1) := k0.out.trans k1
  have HB1 : Hid (Boxed w.heap.size #[.int .i64 k, .string a.n, .int .i64 a.op, .int .i64 a.v, .int .i64 a.sl, .string a.f, .bool a.on, .string fl, .bool nt, .slice kp kids.length kc] w1) := hb0.out.keep k1 hb0.out.1
  have hc1 := HB1.out.2
  have hlt1 := HB1.out.1
  clear k1 hb0 k0
  by_cases hz : chkN t = 0
  · have HZ : Hid (chkN t = 0) := hz
    rw [hz]
    clear hz
    obtain ⟨hlarge, hok⟩ := chkN_zero.1 HZ.out
    have hsz := (small_of hlarge).1
    have HOK := hid hok
    have V2 : Hid (FlagsIs w1.heap.size [] (w1.alloc (.cells #[.slice none 0 0] 32))) := ⟨_, VarAt.new w1 _ _, World.ownsRow_nil _ _ _ _⟩
    have K2 := hid (K1.out.alloc' (.cells #[.slice none 0 0] 32))
    clear hlarge hok
    go_wp2_with fail
    clear hc1
    generalize w1.alloc (.cells #[.slice none 0 0] 32) = W2 at V2 K2 ⊢
    refine (walk_counts (flags_counts w1.heap.size S (fun b hb => Nat.lt_of_lt_of_le (hS b hb) K1.out.size)) enter_flags _ t (Nat.le_refl _) 0 [] 1 _ W2 V2.out (by show 0 + (t.size + 0) ≤ 1000; omega) HOK.out (HN.out.keep hS K2.out)).mono ?_
    rintro e w3 ⟨rfl, hi3, -, ha3⟩
    rw [walkF] at hi3 ⊢
    obtain ⟨v, hv3, hw3⟩ := hi3
    have hw3' : WordsAt (w1.heap.size + 1) v t.flags w3 := by simpa using hw3
    have K3 : Hid (Keep w w3) := Below.trans K2.out (ha3.below K2.out.size (fun b hb e => by have := V2.out.own e; have := K1.out.size; omega))
    have HV3 := hid hv3
    have hfl := flags_len t
    have hw1s := K1.out.size
    obtain ⟨hcv, hzv, hlv⟩ := hv3.facts
    clear ha3 hw3 hv3
    obtain ⟨hlen, ⟨rfl, h0⟩ | ⟨g, cap, cur, rfl, hbase, hb, hn1, hn2, hn3, hn4⟩⟩ := hw3'
    · have hnil : Hid (t.sorted = []) := by
        show _ = _
        have : t.flags = [] := List.length_eq_zero_iff.1 h0
        unfold NT.sorted
        rw [this, List.map_nil, List.mergeSort_nil]; exact compact_nil
      go_wp2_with fail
      refine (Tryz.slices_Sort_string_none none 0 w3).mono ?_
      rintro e w4 ⟨rfl, hw4⟩
      rw [hw4]
      clear hw4
      go_wp2_with fail
      refine (Tryz.slices_Compact_string_empty none 0 w3).mono ?_
      rintro e w5 ⟨rfl, hw5⟩
      rw [hw5]
      clear hw5
      go_wp2_with fail
      go_ret2
      exact ⟨.slice none 0 0, by rw [HZ.out]; rfl, fun h => absurd HZ.out h, fun _ => Or.inl ⟨hnil.out, none, 0, rfl⟩, K3.out⟩
    · have hss : t.flags.map Value.string = (t.flags.map (·.data.toList)).map encStr := by
        rw [List.map_map]
        apply List.map_congr_left
        intro x _
        show Value.string x = Value.string _
        rw [bytes_back]
      rw [hss, Nat.mul_one] at hn4
      have hgl := (Array.getElem?_eq_some_iff.1 hb).1
      have hln : (t.flags.map (·.data.toList)).length = t.flags.length := by simp
      have hH : Holds encStr w3 g 0 (t.flags.map (·.data.toList)).toArray := holds_of_block hb (by rw [hln]; exact hn4)
      have HSRT : Hid (t.sorted = Lib.compact ((t.flags.map (·.data.toList)).mergeSort fun x y => decide (x ≤ y))) := rfl
      generalize hFF : t.flags.map (·.data.toList) = FF at hH hln HSRT
      clear hFF hss hn4 hlen
      have hsort := Tryz.slices_Sort_string g 0 cap FF w3 hH hgl (by omega)
      rw [hln] at hsort
      have HSORT := hid hsort
      clear hsort
      go_wp2_with fail
      refine HSORT.out.mono ?_
      rintro e w4 ⟨rfl, nn, os, hw4⟩
      have hml : (FF.mergeSort fun x y => decide (x ≤ y)).length = FF.length := by simp
      have own4 := ownsRow_sorted (n := nn) (os := os) (ss := FF) (ts := FF.mergeSort fun x y => decide (x ≤ y)) hml hbase hb (by omega) hn2 hn3
      have grow4 := grownBy_sorted (w := w3) (g := g) (n := nn) (os := os) (FF.mergeSort fun x y => decide (x ≤ y)).toArray
      rw [← hw4] at own4 grow4
      clear hw4
      have HV4 : Hid (VarAt w1.heap.size 32 (.slice (some ⟨g, 0, none⟩) t.flags.length cap) w4) := by
        have := HV3.out
        unfold VarAt at this
        show w4.heap[_]? = _
        rw [grow4.block _ hlv (fun e => by have := Option.some.inj e; omega)]; exact this
      have K4 : Hid (Keep w w4) := Below.grown K3.out grow4 (by have := K3.out.size; omega) (fun g' hg' => by have : g = g' := Option.some.inj hg'; omega)
      obtain ⟨-, ⟨h, -⟩ | ⟨g2, cap2, cur2, e2, -, hb2, hm1, hm2, hm3, hm4⟩⟩ := own4
      · cases h
      cases e2
      rw [Nat.mul_one] at hm4
      generalize FF.mergeSort (fun x y => decide (x ≤ y)) = GG at hml hm4 HSRT
      have hH2 : Holds encStr w4 g 0 GG.toArray := holds_of_block hb2 (by rw [hml]; exact hm4)
      have hcomp := Tryz.slices_Compact_string g 0 cap GG w4 hH2 (by omega) (by omega)
      rw [hml, hln] at hcomp
      have HCOMP := hid hcomp
      obtain ⟨hcv4, hzv4, hlv4⟩ := HV4.out.facts
      have HB2 := hid hb2
      have hgl4 := (Array.getElem?_eq_some_iff.1 hb2).1
      clear hcomp hcv hzv grow4 hm4
      go_wp2_with fail
      refine HCOMP.out.mono ?_
      rintro e w5 ⟨rfl, qq, hw5⟩
      have hcl := compact_len GG
      have own5 := ownsRow_sorted (n := qq) (os := #[]) (ss := GG) (ts := Lib.compact GG ++ List.replicate (GG.length - (Lib.compact GG).length) []) (by simp; omega) hbase HB2.out (cap := cap) (by omega) hm2 hm3
      have grow5 := grownBy_sorted (w := w4) (g := g) (n := qq) (os := #[]) (Lib.compact GG ++ List.replicate (GG.length - (Lib.compact GG).length) []).toArray
      rw [grow_empty, hml, hln] at own5
      rw [grow_empty, hml, hln] at grow5
      rw [← hw5] at own5 grow5
      clear hw5
      have K5 : Hid (Keep w w5) := Below.grown K4.out grow5 (by have := K4.out.size; omega) (fun g' hg' => by have : g = g' := Option.some.inj hg'; omega)
      have HT5 : Hid (TextsAt (.slice (some ⟨g, 0, none⟩) (Lib.compact GG).length cap) t.sorted w5) := by
        refine Or.inr ⟨g, cap, by rw [HSRT.out], by have := grow5.size; omega, fun j x hx => ?_⟩
        rw [HSRT.out] at hx
        have hj : j < (Lib.compact GG).length := (List.getElem?_eq_some_iff.1 hx).1
        obtain ⟨-, ⟨h, -⟩ | ⟨g3, cap3, cur3, e3, -, hb3, -, -, -, hm5⟩⟩ := own5
        · cases h
        cases e3
        have h1 := congrArg (·[j]?) hm5
        simp only [Nat.mul_one, List.getElem?_take, List.getElem?_map, List.getElem?_append_left hj, hx, Option.map_some] at h1
        rw [if_pos (by omega)] at h1
        simp only [World.cell?, hb3, Nat.zero_add]
        simpa [encStr] using h1
      clear own5 grow5
      go_wp2_with fail
      go_ret2
      exact ⟨_, by rw [HZ.out]; rfl, fun h => absurd HZ.out h, fun _ => HT5.out, K5.out⟩
  · have hz' : (chkN t == 0) = false := by simpa using hz
    have hz2 : (chkN t != 0) = true := by simpa using hz
    have HZ : Hid (chkN t ≠ 0) := hz
    clear hz
    go_wp2_with fail
    go_ret2
    exact ⟨.slice none 0 0, rfl, fun _ => rfl, fun h => absurd h HZ.out, K1.out⟩
end Go.Proofs.YtnagpmilagdjeaaGreatDoor
