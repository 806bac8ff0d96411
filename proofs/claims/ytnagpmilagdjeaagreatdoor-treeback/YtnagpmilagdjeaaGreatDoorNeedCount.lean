/- need.walk once more, with a count of the nodes that are still to come. -/
import Derived.Test.YtnagpmilagdjeaaGreatDoorNeedSameAll
namespace Go.Proofs.YtnagpmilagdjeaaGreatDoor
open Go.RowKit

/-- What a call leaves: its answer, the state behind it, whether that goes on, what it has left alone. -/
def CountPost {σ : Type} (Inv : σ → World → Prop) (Live : σ → Nat → Prop) (Own : World → Nat → Prop) (n : Nat) (w : World) (r : σ × Bool) (e : Ending) (w' : World) : Prop :=
  e = .returned (.bool r.2) ∧ Inv r.1 w' ∧ (r.2 = true → Live r.1 n) ∧ Apart Own w w'
/-- A function that is handed to walk keeps to the plain function f: from a state that is met (Inv) and goes on (Live). -/
structure Counts {σ : Type} (F : Nat) (cap : Array Value) (S : Nat → Prop) (f : σ → NT → Int → σ × Bool) (Inv : σ → World → Prop) (Live : σ → Nat → Prop) (Own : World → Nat → Prop) : Prop where
  keep : ∀ s w w', Inv s w → Keep w w' → Inv s w' ∧ Apart Own w w' ∧ ∀ b, Own w' b → Own w b
  old : ∀ s w, Inv s w → ∀ b, S b → b < w.heap.size ∧ ¬ Own w b
  own : ∀ s w, Inv s w → ∀ b, Own w b → b < w.heap.size
  call : ∀ n s t d cs w, Inv s w → Live s (n + 1) → t.ok → NeedIs S w t cs → Calls Tryz.prog F (#[.agg cs.toArray, .int .i64 d] ++ cap) w fun e w' => CountPost Inv Live Own n w (f s t d) e w'

theorem NeedIs.apartC {σ : Type} {F : Nat} {cap : Array Value} {S : Nat → Prop} {f : σ → NT → Int → σ × Bool} {Inv : σ → World → Prop} {Live : σ → Nat → Prop} {Own : World → Nat → Prop} (V : Counts F cap S f Inv Live Own)
    {s : σ} {w w' : World} (hi : Inv s w) (ha : Apart Own w w') {t : NT} {cs : List Value} (h : NeedIs S w t cs) : NeedIs S w' t cs :=
  NeedIs.mono (fun p hp => ha.cell p (V.old s w hi _ hp).1 (V.old s w hi _ hp).2) (fun _ h => h) t cs h
theorem KidsIs.apartC {σ : Type} {F : Nat} {cap : Array Value} {S : Nat → Prop} {f : σ → NT → Int → σ × Bool} {Inv : σ → World → Prop} {Live : σ → Nat → Prop} {Own : World → Nat → Prop} (V : Counts F cap S f Inv Live Own)
    {s : σ} {w w' : World} (hi : Inv s w) (ha : Apart Own w w') {ts : List NT} {kp : Option Addr} {i : Nat} (h : KidsIs S w ts kp i) : KidsIs S w' ts kp i :=
  KidsIs.mono (fun p hp => ha.cell p (V.old s w hi _ hp).1 (V.old s w hi _ hp).2) (fun _ h => h) ts kp i h

set_option maxHeartbeats 4000000 in
set_option maxRecDepth 100000 in
theorem walk_counts {σ : Type} {F : Nat} {cap : Array Value} {S : Nat → Prop} {f : σ → NT → Int → σ × Bool} {Inv : σ → World → Prop} {Live : σ → Nat → Prop} {Own : World → Nat → Prop} (V : Counts F cap S f Inv Live Own)
    (hF : ∀ args w, (callFunc F args).run Tryz.prog w = .ok (.enter F args) w) :
    ∀ (m : Nat) (t : NT), t.size ≤ m → ∀ (n : Nat) (s : σ) (d : Int) (cs : List Value) (w : World), Inv s w → Live s (t.size + n) → t.ok → NeedIs S w t cs →
      Calls Tryz.prog 49 #[.agg cs.toArray, .int .i64 d, .func (.func F) #[] cap] w fun e w' => CountPost Inv Live Own n w (walkS inc64 f s t d) e w' := by
  intro m
  induction m with
  | zero =>
    rintro ⟨k, a, fl, nt, kids⟩ hm
    rw [NT.size] at hm; omega
  | succ m ih =>
    rintro ⟨k, a, fl, nt, kids⟩ hm n s d cs w hi hl hok hn
    rw [NT.size] at hm hl
    rw [show 1 + sizeL kids + n = sizeL kids + n + 1 by omega] at hl
    have HOK : Hid (okL kids) := by rw [NT.ok] at hok; exact hok.2
    have hn' := hn
    rw [NeedIs] at hn
    obtain ⟨kp, kc, rfl, hcap, hmax, hkids⟩ := hn
    have hv : ∀ (w : World) (cs : List Value), Inv s w → NeedIs S w (.node k a fl nt kids) cs → Calls Tryz.prog F (#[.agg cs.toArray, .int .i64 d] ++ cap) w fun e w' => CountPost Inv Live Own (sizeL kids + n) w (f s (.node k a fl nt kids) d) e w' := fun w cs h1 h2 => V.call _ s _ d cs w h1 hl hok h2
    rw [show walkS inc64 f s (.node k a fl nt kids) d = if (f s (.node k a fl nt kids) d).2 = true then kidsS inc64 f (f s (.node k a fl nt kids) d).1 kids (inc64 d) else ((f s (.node k a fl nt kids) d).1, false) from by rw [walkS]]
    generalize f s (.node k a fl nt kids) d = r at hv ⊢
    obtain ⟨s1, b1⟩ := r
    have hb0 := Boxed.new w #[.int .i64 k, .string a.n, .int .i64 a.op, .int .i64 a.v, .int .i64 a.sl, .string a.f, .bool a.on, .string fl, .bool nt, .slice kp kids.length kc] 26
    have K0 := Keep.alloc w (.cells #[.int .i64 k, .string a.n, .int .i64 a.op, .int .i64 a.v, .int .i64 a.sl, .string a.f, .bool a.on, .string fl, .bool nt, .slice kp kids.length kc] 26)
    go_enter Tryz.func49, Tryz.ntmps49
    go_wp2_with fail
    generalize w.alloc (.cells #[.int .i64 k, .string a.n, .int .i64 a.op, .int .i64 a.v, .int .i64 a.sl, .string a.f, .bool a.on, .string fl, .bool nt, .slice kp kids.length kc] 26) = W0 at K0 hb0 ⊢
    obtain ⟨hi0, ha0, ho0⟩ := V.keep s w W0 hi K0
    have HB0 : Hid (Boxed w.heap.size #[.int .i64 k, .string a.n, .int .i64 a.op, .int .i64 a.v, .int .i64 a.sl, .string a.f, .bool a.on, .string fl, .bool nt, .slice kp kids.length kc] W0) := hb0
    have hno : ¬ Own W0 w.heap.size := fun h => absurd (V.own s w hi _ (ho0 _ h)) (Nat.lt_irrefl _)
    refine (hv W0 _ hi0 (NeedIs.apartC V hi ha0 hn')).mono ?_
    rintro e w1 ⟨rfl, hi1, hl1, ha1⟩
    have HB1 : Hid (Boxed w.heap.size #[.int .i64 k, .string a.n, .int .i64 a.op, .int .i64 a.v, .int .i64 a.sl, .string a.f, .bool a.on, .string fl, .bool nt, .slice kp kids.length kc] w1) :=
      ⟨Nat.lt_of_lt_of_le HB0.out.1 ha1.size, fun o => (ha1.cell ⟨w.heap.size, o, none⟩ HB0.out.1 hno).trans (HB0.out.2 o)⟩
    have hk1 : KidsIs S w1 kids kp 0 := KidsIs.apartC V hi (ha0.trans ha1) hkids
    have HA1 : Hid (Apart Own w w1) := ha0.trans ha1
    have hc1 := HB1.out.2
    have hb1 := HB1.out.1
    clear hn' hkids hb0 K0 hi0 ha0 ho0 HB0 hno ha1 hi hl HB1 hv hok
    cases b1
    · go_wp2_with fail
      go_ret
      exact (show CountPost Inv Live Own n w (s1, false) _ _ from ⟨rfl, hi1, fun h => (by cases h), HA1.out⟩)
    · have HL1 : Hid (Live s1 (sizeL kids + n)) := hl1 rfl
      have HI1 : Hid (Inv s1 w1) := hi1
      have HK1 : Hid (KidsIs S w1 kids kp 0) := hk1
      clear hl1 hi1 hk1
      go_wp2_with fail
      go_loopw [17] (fun i wr => ∃ j : Nat, j ≤ kids.length ∧ i = .int .i64 j ∧ ∃ s', Inv s' wr ∧ Live s' (sizeL (kids.drop j) + n) ∧ kidsS inc64 f s1 kids (inc64 d) = kidsS inc64 f s' (kids.drop j) (inc64 d) ∧ KidsIs S wr kids kp 0 ∧ Apart Own w wr) (fun i _ => kids.length - (intOf i).toNat)
      case atStart => exact ⟨0, Nat.zero_le _, rfl, s1, HI1.out, by rw [List.drop_zero]; exact HL1.out, by simp, HK1.out, HA1.out⟩
      case round =>
        obtain ⟨j, hj, rfl, s', hi', hl', he', hk', ha'⟩ := hrel
        have HI : Hid (Inv s' wr) := hi'
        have HL : Hid (Live s' (sizeL (kids.drop j) + n)) := hl'
        have HE : Hid (kidsS inc64 f s1 kids (inc64 d) = kidsS inc64 f s' (kids.drop j) (inc64 d)) := he'
        have HK : Hid (KidsIs S wr kids kp 0) := hk'
        have HA : Hid (Apart Own w wr) := ha'
        clear hi' hl' he' hk' ha' HL1 HI1 HK1 HA1 hc1
        by_cases hlt : j < kids.length
        · have HE2 : Hid (kidsS inc64 f s1 kids (inc64 d) = if (walkS inc64 f s' kids[j] (inc64 d)).2 = true then kidsS inc64 f (walkS inc64 f s' kids[j] (inc64 d)).1 (kids.drop (j + 1)) (inc64 d) else ((walkS inc64 f s' kids[j] (inc64 d)).1, false)) := by
            show _ = _
            rw [HE.out, kidsS_drop inc64 f s' kids (inc64 d) j hlt]
          obtain ⟨p, cs, hp, hS, hcell, hneed⟩ := kidsIs_get HK.out j hlt
          have hdr : sizeL (kids.drop j) = kids[j].size + sizeL (kids.drop (j + 1)) := by rw [List.drop_eq_getElem_cons hlt, sizeL]
          have HLJ : Hid (Live s' (kids[j].size + (sizeL (kids.drop (j + 1)) + n))) := by have := HL.out; rw [hdr, Nat.add_assoc] at this; exact this
          have hih := ih kids[j] (by have := sizeL_get kids j hlt; omega) (sizeL (kids.drop (j + 1)) + n) s' (inc64 d)
          clear hdr
          have HN : Hid (NeedIs S wr kids[j] cs) := hneed
          subst hp
          rw [Nat.zero_add] at hcell
          cases hkid : kids[j] with
          | node k' a' fl' nt' kids' =>
          rw [hkid, NeedIs] at hneed
          obtain ⟨kp', kc', rfl, -, -, -⟩ := hneed
          obtain ⟨c0, c1, c2, c3, c4, c5, c6, c7, c8, c9⟩ := cells10 hcell
          clear hcell
          have HIH : Hid (∀ (cs : List Value) (w : World), Inv s' w → Live s' (kids[j].size + (sizeL (kids.drop (j + 1)) + n)) → kids[j].ok → NeedIs S w kids[j] cs → Calls Tryz.prog 49 #[.agg cs.toArray, .int .i64 (inc64 d), .func (.func F) #[] cap] w fun e w' => CountPost Inv Live Own (sizeL (kids.drop (j + 1)) + n) w (walkS inc64 f s' kids[j] (inc64 d)) e w') := hih
          clear hih ih
          have k2 := Keep.alloc wr (.cells #[.int .i64 k', .string a'.n, .int .i64 a'.op, .int .i64 a'.v, .int .i64 a'.sl, .string a'.f, .bool a'.on, .string fl', .bool nt', .slice kp' kids'.length kc'] 26)
          obtain ⟨hi2, ha2, -⟩ := V.keep s' wr _ HI.out k2
          have hn2 := NeedIs.apartC V HI.out ha2 HN.out
          have HI2 : Hid (Inv s' (wr.alloc (.cells #[.int .i64 k', .string a'.n, .int .i64 a'.op, .int .i64 a'.v, .int .i64 a'.sl, .string a'.f, .bool a'.on, .string fl', .bool nt', .slice kp' kids'.length kc'] 26))) := hi2
          have HA2 : Hid (Apart Own wr (wr.alloc (.cells #[.int .i64 k', .string a'.n, .int .i64 a'.op, .int .i64 a'.v, .int .i64 a'.sl, .string a'.f, .bool a'.on, .string fl', .bool nt', .slice kp' kids'.length kc'] 26))) := ha2
          have HN2 : Hid (NeedIs S (wr.alloc (.cells #[.int .i64 k', .string a'.n, .int .i64 a'.op, .int .i64 a'.v, .int .i64 a'.sl, .string a'.f, .bool a'.on, .string fl', .bool nt', .slice kp' kids'.length kc'] 26)) kids[j] [Value.int IntKind.i64 k', Value.string a'.n, Value.int IntKind.i64 a'.op, Value.int IntKind.i64 a'.v, Value.int IntKind.i64 a'.sl, Value.string a'.f, Value.bool a'.on, Value.string fl', Value.bool nt', Value.slice kp' kids'.length kc']) := hn2
          clear hi2 ha2 hn2 k2 hkid
          go_wp2_with fail
          generalize wr.alloc (.cells #[.int .i64 k', .string a'.n, .int .i64 a'.op, .int .i64 a'.v, .int .i64 a'.sl, .string a'.f, .bool a'.on, .string fl', .bool nt', .slice kp' kids'.length kc'] 26) = W2 at HI2 HA2 HN2 ⊢
          clear c0 c1 c2 c3 c4 c5 c6 c7 c8 c9
          rw [show wrap64 (d + 1) = inc64 d from rfl]
          refine (HIH.out _ W2 HI2.out HLJ.out (okL_get HOK.out j hlt) HN2.out).mono ?_
          rintro e w3 ⟨rfl, hi3, hl3, ha3⟩
          have HA3 : Hid (Apart Own wr w3) := HA2.out.trans ha3
          generalize walkS inc64 f s' kids[j] (inc64 d) = r at HE2 hi3 hl3 ⊢
          obtain ⟨s3, b3⟩ := r
          have HI3 : Hid (Inv s3 w3) := hi3
          clear hi3 ha3 HIH HE
          cases b3
          · clear hl3
            go_wp2_with fail
            go_ret
            show CountPost Inv Live Own n w (kidsS inc64 f s1 kids (inc64 d)) _ _
            rw [HE2.out]
            exact ⟨rfl, HI3.out, fun h => (by cases h), HA.out.trans HA3.out⟩
          · have HL3 : Hid (Live s3 (sizeL (kids.drop (j + 1)) + n)) := hl3 rfl
            clear hl3
            go_wp2_with fail
            go_roundw
            case rel => exact ⟨j + 1, by omega, by go_num, s3, HI3.out, HL3.out, HE2.out, KidsIs.apartC V HI.out HA3.out HK.out, HA.out.trans HA3.out⟩
            case measure => simp [intOf]; omega
        · go_wp2_with fail
          go_ret
          show CountPost Inv Live Own n w (kidsS inc64 f s1 kids (inc64 d)) _ _
          rw [HE.out, List.drop_eq_nil_of_le (by omega), kidsS]
          exact ⟨rfl, HI.out, fun _ => by have := HL.out; rw [List.drop_eq_nil_of_le (by omega), sizeL, Nat.zero_add] at this; exact this, HA.out⟩
end Go.Proofs.YtnagpmilagdjeaaGreatDoor
