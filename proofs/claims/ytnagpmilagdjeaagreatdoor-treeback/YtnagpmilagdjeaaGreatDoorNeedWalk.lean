/- A need that lies in memory; need.walk goes over its nodes as the plain walk walkS does, whatever function is handed to it that keeps to a plain one. -/
import Derived.Test.YtnagpmilagdjeaaGreatDoorNeedNode
import Derived.Deep.MidRow
namespace Go.Proofs.YtnagpmilagdjeaaGreatDoor
open Go.RowKit

mutual
/-- The cells cs say the need, whose kids lie in blocks of S. -/
def NeedIs (S : Nat → Prop) (w : World) : NT → List Value → Prop
  | .node k a fl nt kids, cs => ∃ (kp : Option Addr) (cap : Nat), cs = [.int .i64 k, .string a.n, .int .i64 a.op, .int .i64 a.v, .int .i64 a.sl, .string a.f, .bool a.on, .string fl, .bool nt, .slice kp kids.length cap] ∧ kids.length ≤ cap ∧ kids.length ≤ 9223372036854775807 ∧ KidsIs S w kids kp 0
/-- From place i of the row at kp on lie these kids. -/
def KidsIs (S : Nat → Prop) (w : World) : List NT → Option Addr → Nat → Prop
  | [], _, _ => True
  | t :: ts, kp, i => (∃ (p : Addr) (cs : List Value), kp = some p ∧ S p.block ∧ (∀ j v, cs[j]? = some v → w.cell? ((p.add (i * 10)).add j) = some v) ∧ NeedIs S w t cs) ∧ KidsIs S w ts kp (i + 1)
end
theorem kidsIs_get {S : Nat → Prop} {w : World} {kp : Option Addr} : ∀ {ts : List NT} {i : Nat}, KidsIs S w ts kp i → ∀ (j : Nat) (h : j < ts.length), ∃ (p : Addr) (cs : List Value), kp = some p ∧ S p.block ∧ (∀ m v, cs[m]? = some v → w.cell? ((p.add ((i + j) * 10)).add m) = some v) ∧ NeedIs S w ts[j] cs
  | [], _, _, j, h => absurd h (Nat.not_lt_zero _)
  | t :: ts, i, hk, j, h => by
    rw [KidsIs] at hk
    cases j with
    | zero => exact hk.1
    | succ j =>
      have := kidsIs_get hk.2 j (by simpa using h)
      rw [show i + 1 + j = i + (j + 1) by omega] at this
      exact this
mutual
theorem NeedIs.mono {S S' : Nat → Prop} {w w' : World} (hw : ∀ p : Addr, S p.block → w'.cell? p = w.cell? p) (hS : ∀ b, S b → S' b) : ∀ (t : NT) (cs : List Value), NeedIs S w t cs → NeedIs S' w' t cs
  | .node k a fl nt kids, cs, h => by
    rw [NeedIs] at h ⊢
    obtain ⟨kp, cap, h1, h2, h3, h4⟩ := h
    exact ⟨kp, cap, h1, h2, h3, KidsIs.mono hw hS kids kp 0 h4⟩
theorem KidsIs.mono {S S' : Nat → Prop} {w w' : World} (hw : ∀ p : Addr, S p.block → w'.cell? p = w.cell? p) (hS : ∀ b, S b → S' b) : ∀ (ts : List NT) (kp : Option Addr) (i : Nat), KidsIs S w ts kp i → KidsIs S' w' ts kp i
  | [], _, _, _ => by rw [KidsIs]; trivial
  | t :: ts, kp, i, h => by
    rw [KidsIs] at h ⊢
    obtain ⟨⟨p, cs, h1, h2, h3, h4⟩, h5⟩ := h
    refine ⟨⟨p, cs, h1, hS _ h2, fun j v hv => ?_, NeedIs.mono hw hS t cs h4⟩, KidsIs.mono hw hS ts kp (i + 1) h5⟩
    have hb : ((p.add (i * 10)).add j).block = p.block := by unfold Addr.add; split <;> split <;> rfl
    rw [hw _ (by rw [hb]; exact h2)]
    exact h3 j v hv
end
theorem add_block (p : Addr) (n : Nat) : (p.add n).block = p.block := by unfold Addr.add; split <;> rfl

/-- What a call leaves of what lay there: all blocks but those that are its own (Own). -/
structure Apart (Own : World → Nat → Prop) (w w' : World) : Prop where
  os : w'.os = w.os
  tape : w'.tape = w.tape
  output : w'.output = w.output
  size : w.heap.size ≤ w'.heap.size
  block : ∀ b, b < w.heap.size → ¬ Own w b → w'.heap[b]? = w.heap[b]?
  own : ∀ b, b < w.heap.size → Own w' b → Own w b
theorem Apart.cell {Own : World → Nat → Prop} {w w' : World} (h : Apart Own w w') (p : Addr) (hp : p.block < w.heap.size) (ho : ¬ Own w p.block) : w'.cell? p = w.cell? p :=
  World.cell?_of_block (w := w) (h.block p.block hp ho)
theorem Apart.refl (Own : World → Nat → Prop) (w : World) : Apart Own w w := ⟨rfl, rfl, rfl, Nat.le_refl _, fun _ _ _ => rfl, fun _ _ h => h⟩
theorem Apart.trans {Own : World → Nat → Prop} {a b c : World} (h : Apart Own a b) (k : Apart Own b c) : Apart Own a c where
  os := k.os.trans h.os
  tape := k.tape.trans h.tape
  output := k.output.trans h.output
  size := Nat.le_trans h.size k.size
  block p hp ho := by
    rw [k.block p (Nat.lt_of_lt_of_le hp h.size) (fun e => ho (h.own _ hp e)), h.block p hp ho]
  own b hb e := h.own b hb (k.own b (Nat.lt_of_lt_of_le hb h.size) e)
/-- What owns no block below B has left all of them alone. -/
theorem Apart.below {Own : World → Nat → Prop} {w w' : World} (h : Apart Own w w') {B : Nat} (hB : B ≤ w.heap.size) (ho : ∀ b, b < B → ¬ Own w b) : Below B w w' :=
  ⟨h.os, h.tape, h.output, h.size, fun k hk => h.block k (Nat.lt_of_lt_of_le hk hB) (ho k hk)⟩

/-- What a call leaves: its answer, the state behind it, whether that goes on, what it has left alone. -/
def WalkPost {σ : Type} (Inv : σ → World → Prop) (Live : σ → Prop) (Own : World → Nat → Prop) (w : World) (r : σ × Bool) (e : Ending) (w' : World) : Prop :=
  e = .returned (.bool r.2) ∧ Inv r.1 w' ∧ (r.2 = true → Live r.1) ∧ Apart Own w w'
/-- A function that is handed to walk keeps to the plain function f: from a state that is met (Inv) and goes on (Live). -/
structure Visits {σ : Type} (F : Nat) (cap : Array Value) (S : Nat → Prop) (f : σ → NT → Int → σ × Bool) (Inv : σ → World → Prop) (Live : σ → Prop) (Own : World → Nat → Prop) : Prop where
  keep : ∀ s w w', Inv s w → Keep w w' → Inv s w' ∧ Apart Own w w' ∧ ∀ b, Own w' b → Own w b
  old : ∀ s w, Inv s w → ∀ b, S b → b < w.heap.size ∧ ¬ Own w b
  own : ∀ s w, Inv s w → ∀ b, Own w b → b < w.heap.size
  call : ∀ s t d cs w, Inv s w → Live s → NeedIs S w t cs → Calls Tryz.prog F (#[.agg cs.toArray, .int .i64 d] ++ cap) w fun e w' => WalkPost Inv Live Own w (f s t d) e w'

theorem NeedIs.apart {σ : Type} {F : Nat} {cap : Array Value} {S : Nat → Prop} {f : σ → NT → Int → σ × Bool} {Inv : σ → World → Prop} {Live : σ → Prop} {Own : World → Nat → Prop} (V : Visits F cap S f Inv Live Own)
    {s : σ} {w w' : World} (hi : Inv s w) (ha : Apart Own w w') {t : NT} {cs : List Value} (h : NeedIs S w t cs) : NeedIs S w' t cs :=
  NeedIs.mono (fun p hp => ha.cell p (V.old s w hi _ hp).1 (V.old s w hi _ hp).2) (fun _ h => h) t cs h
theorem KidsIs.apart {σ : Type} {F : Nat} {cap : Array Value} {S : Nat → Prop} {f : σ → NT → Int → σ × Bool} {Inv : σ → World → Prop} {Live : σ → Prop} {Own : World → Nat → Prop} (V : Visits F cap S f Inv Live Own)
    {s : σ} {w w' : World} (hi : Inv s w) (ha : Apart Own w w') {ts : List NT} {kp : Option Addr} {i : Nat} (h : KidsIs S w ts kp i) : KidsIs S w' ts kp i :=
  KidsIs.mono (fun p hp => ha.cell p (V.old s w hi _ hp).1 (V.old s w hi _ hp).2) (fun _ h => h) ts kp i h

theorem cells10 {w : World} {q : Addr} {v0 v1 v2 v3 v4 v5 v6 v7 v8 v9 : Value} (h : ∀ (m : Nat) (v : Value), [v0, v1, v2, v3, v4, v5, v6, v7, v8, v9][m]? = some v → w.cell? (q.add m) = some v) :
    w.cell? q = some v0 ∧ w.cell? ⟨q.block, q.off + 1, none⟩ = some v1 ∧ w.cell? ⟨q.block, q.off + 2, none⟩ = some v2 ∧ w.cell? ⟨q.block, q.off + 3, none⟩ = some v3 ∧ w.cell? ⟨q.block, q.off + 4, none⟩ = some v4 ∧ w.cell? ⟨q.block, q.off + 5, none⟩ = some v5 ∧ w.cell? ⟨q.block, q.off + 6, none⟩ = some v6 ∧ w.cell? ⟨q.block, q.off + 7, none⟩ = some v7 ∧ w.cell? ⟨q.block, q.off + 8, none⟩ = some v8 ∧ w.cell? ⟨q.block, q.off + 9, none⟩ = some v9 :=
  ⟨h 0 _ rfl, h 1 _ rfl, h 2 _ rfl, h 3 _ rfl, h 4 _ rfl, h 5 _ rfl, h 6 _ rfl, h 7 _ rfl, h 8 _ rfl, h 9 _ rfl⟩
theorem kidsS_drop {σ : Type} (inc : Int → Int) (f : σ → NT → Int → σ × Bool) (s : σ) (ts : List NT) (d : Int) (i : Nat) (h : i < ts.length) :
    kidsS inc f s (ts.drop i) d = if (walkS inc f s ts[i] d).2 = true then kidsS inc f (walkS inc f s ts[i] d).1 (ts.drop (i + 1)) d else ((walkS inc f s ts[i] d).1, false) := by
  rw [List.drop_eq_getElem_cons h, kidsS]
theorem sizeL_get : ∀ (ts : List NT) (i : Nat) (h : i < ts.length), ts[i].size ≤ sizeL ts
  | [], _, h => absurd h (Nat.not_lt_zero _)
  | t :: ts, i, h => by
    rw [sizeL]
    cases i with
    | zero => simp
    | succ i =>
      have := sizeL_get ts i (by simpa using h)
      simp only [List.getElem_cons_succ]; omega

set_option maxHeartbeats 4000000 in
set_option maxRecDepth 100000 in
theorem walk_any {σ : Type} {F : Nat} {cap : Array Value} {S : Nat → Prop} {f : σ → NT → Int → σ × Bool} {Inv : σ → World → Prop} {Live : σ → Prop} {Own : World → Nat → Prop} (V : Visits F cap S f Inv Live Own)
    (hF : ∀ args w, (callFunc F args).run Tryz.prog w = .ok (.enter F args) w) :
    ∀ (m : Nat) (t : NT), t.size ≤ m → ∀ (s : σ) (d : Int) (cs : List Value) (w : World), Inv s w → Live s → NeedIs S w t cs →
      Calls Tryz.prog 49 #[.agg cs.toArray, .int .i64 d, .func (.func F) #[] cap] w fun e w' => WalkPost Inv Live Own w (walkS inc64 f s t d) e w' := by
  intro m
  induction m with
  | zero =>
    rintro ⟨k, a, fl, nt, kids⟩ hm
    rw [NT.size] at hm; omega
  | succ m ih =>
    rintro ⟨k, a, fl, nt, kids⟩ hm s d cs w hi hl hn
    rw [NT.size] at hm
    have hn' := hn
    rw [NeedIs] at hn
    obtain ⟨kp, kc, rfl, hcap, hmax, hkids⟩ := hn
    have hv : ∀ (w : World) (cs : List Value), Inv s w → NeedIs S w (.node k a fl nt kids) cs → Calls Tryz.prog F (#[.agg cs.toArray, .int .i64 d] ++ cap) w fun e w' => WalkPost Inv Live Own w (f s (.node k a fl nt kids) d) e w' := fun w cs h1 h2 => V.call s _ d cs w h1 hl h2
    rw [show walkS inc64 f s (.node k a fl nt kids) d = if (f s (.node k a fl nt kids) d).2 = true then kidsS inc64 f (f s (.node k a fl nt kids) d).1 kids (inc64 d) else ((f s (.node k a fl nt kids) d).1, false) from by rw [walkS]]
    generalize f s (.node k a fl nt kids) d = r at hv ⊢
    obtain ⟨s1, b1⟩ := r
    have hb0 := Boxed.new w #[.int .i64 k, .string a.n, .int .i64 a.op, .int .i64 a.v, .int .i64 a.sl, .string a.f, .bool a.on, .string fl, .bool nt, .slice kp kids.length kc] 26
    have K0 := Keep.alloc w (.cells #[.int .i64 k, .string a.n, .int .i64 a.op, .int .i64 a.v, .int .i64 a.sl, .string a.f, .bool a.on, .string fl, .bool nt, .slice kp kids.length kc] 26)
    go_enter Tryz.func49, Tryz.ntmps49
    go_wp2_with fail
    generalize w.alloc (.cells #[.int .i64 k, .string a.n, .int .i64 a.op, .int .i64 a.v, .int .i64 a.sl, .string a.f, .bool a.on, .string fl, .bool nt, .slice kp kids.length kc] 26) = W0 at K0 hb0 ⊢
    obtain ⟨hi0, ha0, ho0⟩ := V.keep s w W0 hi K0
    have HB0 : Hid (Boxed w.heap.size #[.int .i64 k, .string a.n, .int .i64 a.op, .int .i64 a.v, .int .i64 a.sl, .string a.f, .bool a.on, .string fl, .bool nt, .slice kp kids.length kc] W0) := hb0
    have hno : ¬ Own W0 w.heap.size := fun h => absurd (V.own s w hi _ (ho0 _ h)) (Nat.lt_irrefl _)
    refine (hv W0 _ hi0 (NeedIs.apart V hi ha0 hn')).mono ?_
    rintro e w1 ⟨rfl, hi1, hl1, ha1⟩
    have HB1 : Hid (Boxed w.heap.size #[.int .i64 k, .string a.n, .int .i64 a.op, .int .i64 a.v, .int .i64 a.sl, .string a.f, .bool a.on, .string fl, .bool nt, .slice kp kids.length kc] w1) :=
      ⟨Nat.lt_of_lt_of_le HB0.out.1 ha1.size, fun o => (ha1.cell ⟨w.heap.size, o, none⟩ HB0.out.1 hno).trans (HB0.out.2 o)⟩
    have hk1 : KidsIs S w1 kids kp 0 := KidsIs.apart V hi (ha0.trans ha1) hkids
    have HA1 : Hid (Apart Own w w1) := ha0.trans ha1
    have hc1 := HB1.out.2
    have hb1 := HB1.out.1
    clear hn' hkids hb0 K0 hi0 ha0 ho0 HB0 hno ha1 hi hl HB1 hv
    cases b1
    · go_wp2_with fail
      go_ret
      exact (show WalkPost Inv Live Own w (s1, false) _ _ from ⟨rfl, hi1, fun h => (by cases h), HA1.out⟩)
    · have HL1 : Hid (Live s1) := hl1 rfl
      have HI1 : Hid (Inv s1 w1) := hi1
      have HK1 : Hid (KidsIs S w1 kids kp 0) := hk1
      clear hl1 hi1 hk1
      go_wp2_with fail
      go_loopw [17] (fun i wr => ∃ j : Nat, j ≤ kids.length ∧ i = .int .i64 j ∧ ∃ s', Inv s' wr ∧ Live s' ∧ kidsS inc64 f s1 kids (inc64 d) = kidsS inc64 f s' (kids.drop j) (inc64 d) ∧ KidsIs S wr kids kp 0 ∧ Apart Own w wr) (fun i _ => kids.length - (intOf i).toNat)
      case atStart => exact ⟨0, Nat.zero_le _, rfl, s1, HI1.out, HL1.out, by simp, HK1.out, HA1.out⟩
      case round =>
        obtain ⟨j, hj, rfl, s', hi', hl', he', hk', ha'⟩ := hrel
        have HI : Hid (Inv s' wr) := hi'
        have HL : Hid (Live s') := hl'
        have HE : Hid (kidsS inc64 f s1 kids (inc64 d) = kidsS inc64 f s' (kids.drop j) (inc64 d)) := he'
        have HK : Hid (KidsIs S wr kids kp 0) := hk'
        have HA : Hid (Apart Own w wr) := ha'
        clear hi' hl' he' hk' ha' HL1 HI1 HK1 HA1 hc1
        by_cases hlt : j < kids.length
        · have HE2 : Hid (kidsS inc64 f s1 kids (inc64 d) = if (walkS inc64 f s' kids[j] (inc64 d)).2 = true then kidsS inc64 f (walkS inc64 f s' kids[j] (inc64 d)).1 (kids.drop (j + 1)) (inc64 d) else ((walkS inc64 f s' kids[j] (inc64 d)).1, false)) := by
            show _ = _
            rw [HE.out, kidsS_drop inc64 f s' kids (inc64 d) j hlt]
          obtain ⟨p, cs, hp, hS, hcell, hneed⟩ := kidsIs_get HK.out j hlt
          have hih := ih kids[j] (by have := sizeL_get kids j hlt; omega) s' (inc64 d)
          have HN : Hid (NeedIs S wr kids[j] cs) := hneed
          subst hp
          rw [Nat.zero_add] at hcell
          cases hkid : kids[j] with
          | node k' a' fl' nt' kids' =>
          rw [hkid, NeedIs] at hneed
          obtain ⟨kp', kc', rfl, -, -, -⟩ := hneed
          obtain ⟨c0, c1, c2, c3, c4, c5, c6, c7, c8, c9⟩ := cells10 hcell
          clear hcell
          have HIH : Hid (∀ (cs : List Value) (w : World), Inv s' w → Live s' → NeedIs S w kids[j] cs → Calls Tryz.prog 49 #[.agg cs.toArray, .int .i64 (inc64 d), .func (.func F) #[] cap] w fun e w' => WalkPost Inv Live Own w (walkS inc64 f s' kids[j] (inc64 d)) e w') := hih
          clear hih ih
          have k2 := Keep.alloc wr (.cells #[.int .i64 k', .string a'.n, .int .i64 a'.op, .int .i64 a'.v, .int .i64 a'.sl, .string a'.f, .bool a'.on, .string fl', .bool nt', .slice kp' kids'.length kc'] 26)
          obtain ⟨hi2, ha2, -⟩ := V.keep s' wr _ HI.out k2
          have hn2 := NeedIs.apart V HI.out ha2 HN.out
          have HI2 : Hid (Inv s' (wr.alloc (.cells #[.int .i64 k', .string a'.n, .int .i64 a'.op, .int .i64 a'.v, .int .i64 a'.sl, .string a'.f, .bool a'.on, .string fl', .bool nt', .slice kp' kids'.length kc'] 26))) := hi2
          have HA2 : Hid (Apart Own wr (wr.alloc (.cells #[.int .i64 k', .string a'.n, .int .i64 a'.op, .int .i64 a'.v, .int .i64 a'.sl, .string a'.f, .bool a'.on, .string fl', .bool nt', .slice kp' kids'.length kc'] 26))) := ha2
          have HN2 : Hid (NeedIs S (wr.alloc (.cells #[.int .i64 k', .string a'.n, .int .i64 a'.op, .int .i64 a'.v, .int .i64 a'.sl, .string a'.f, .bool a'.on, .string fl', .bool nt', .slice kp' kids'.length kc'] 26)) kids[j] [Value.int IntKind.i64 k', Value.string a'.n, Value.int IntKind.i64 a'.op, Value.int IntKind.i64 a'.v, Value.int IntKind.i64 a'.sl, Value.string a'.f, Value.bool a'.on, Value.string fl', Value.bool nt', Value.slice kp' kids'.length kc']) := hn2
          clear hi2 ha2 hn2 k2 hkid
          go_wp2_with fail
          generalize wr.alloc (.cells #[.int .i64 k', .string a'.n, .int .i64 a'.op, .int .i64 a'.v, .int .i64 a'.sl, .string a'.f, .bool a'.on, .string fl', .bool nt', .slice kp' kids'.length kc'] 26) = W2 at HI2 HA2 HN2 ⊢
          clear c0 c1 c2 c3 c4 c5 c6 c7 c8 c9
          rw [show wrap64 (d + 1) = inc64 d from rfl]
          refine (HIH.out _ W2 HI2.out HL.out HN2.out).mono ?_
          rintro e w3 ⟨rfl, hi3, hl3, ha3⟩
          have HA3 : Hid (Apart Own wr w3) := HA2.out.trans ha3
          generalize walkS inc64 f s' kids[j] (inc64 d) = r at HE2 hi3 hl3 ⊢
          obtain ⟨s3, b3⟩ := r
          have HI3 : Hid (Inv s3 w3) := hi3
          clear hi3 ha3 HIH HE
          cases b3
          · clear hl3
            go_wp2_with fail
            go_ret
            show WalkPost Inv Live Own w (kidsS inc64 f s1 kids (inc64 d)) _ _
            rw [HE2.out]
            exact ⟨rfl, HI3.out, fun h => (by cases h), HA.out.trans HA3.out⟩
          · have HL3 : Hid (Live s3) := hl3 rfl
            clear hl3
            go_wp2_with fail
            go_roundw
            case rel => exact ⟨j + 1, by omega, by go_num, s3, HI3.out, HL3.out, HE2.out, KidsIs.apart V HI.out HA3.out HK.out, HA.out.trans HA3.out⟩
            case measure => simp [intOf]; omega
        · go_wp2_with fail
          go_ret
          show WalkPost Inv Live Own w (kidsS inc64 f s1 kids (inc64 d)) _ _
          rw [HE.out, List.drop_eq_nil_of_le (by omega), kidsS]
          exact ⟨rfl, HI.out, fun _ => HL.out, HA.out⟩
end Go.Proofs.YtnagpmilagdjeaaGreatDoor
