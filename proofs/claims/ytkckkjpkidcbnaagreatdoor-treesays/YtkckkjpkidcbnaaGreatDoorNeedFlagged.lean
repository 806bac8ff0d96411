/- need.walk once more, with a count of the nodes that are still to come. -/
import Derived.Test.YtkckkjpkidcbnaaGreatDoorNeedSameAll
import Derived.Test.YtkckkjpkidcbnaaGreatDoorShelfS
import Derived.Sort.OwnSorted
namespace Go.Proofs.YtkckkjpkidcbnaaGreatDoor
open Go.RowKit

/-- What a call leaves: its answer, the state behind it, whether that goes on, what it has left alone. -/
def CountPost {σ : Type} (Inv : σ → World → Prop) (Live : σ → Nat → Prop) (Own : World → Nat → Prop) (n : Nat) (w : World) (r : σ × Bool) (e : Ending) (w' : World) : Prop :=
  e = .returned (.bool r.2) ∧ Inv r.1 w' ∧ (r.2 = true → Live r.1 n) ∧ Apart Own w w'
/-- A function that is handed to walk keeps to the plain function f: from a state that is met (Inv) and goes on (Live). -/
structure Counts {σ : Type} (F : Nat) (cap : Array Value) (S : Nat → Prop) (f : σ → NT → Int → σ × Bool) (Inv : σ → World → Prop) (Live : σ → Nat → Prop) (Own : World → Nat → Prop) : Prop where
  keep : ∀ s w w', Inv s w → Keep w w' → Inv s w' ∧ Apart Own w w' ∧ ∀ b, Own w' b → Own w b
  old : ∀ s w, Inv s w → ∀ b, S b → b < w.heap.size ∧ ¬ Own w b
  own : ∀ s w, Inv s w → ∀ b, Own w b → b < w.heap.size
  call : ∀ n s t d cs w, Inv s w → Live s (n + 1) → t.ok → NeedIs S w t cs → Calls Tryz.prog F (#[.agg cs.toArray, .int .i64 d] ++ cap) w fun e w' => CountPost Inv Live Own n w (f s t d) e w'

theorem NeedIs.apartC {σ : Type} {F : Nat} {cap : Array Value} {S : Nat → Prop} {f : σ → NT → Int → σ × Bool} {Inv : σ → World → Prop} {Live : σ → Nat → Prop} {Own : World → Nat → Prop} (V : Counts F cap S f Inv Live Own)
    {s : σ} {w w' : World} (hi : Inv s w) (ha : Apart Own w w') {t : NT} {cs : List Value} (h : NeedIs S w t cs) : NeedIs S w' t cs :=
  NeedIs.mono (fun p hp => ha.cell p (V.old s w hi _ hp).1 (V.old s w hi _ hp).2) (fun _ h => h) t cs h
theorem KidsIs.apartC {σ : Type} {F : Nat} {cap : Array Value} {S : Nat → Prop} {f : σ → NT → Int → σ × Bool} {Inv : σ → World → Prop} {Live : σ → Nat → Prop} {Own : World → Nat → Prop} (V : Counts F cap S f Inv Live Own)
    {s : σ} {w w' : World} (hi : Inv s w) (ha : Apart Own w w') {ts : List NT} {kp : Option Addr} {i : Nat} (h : KidsIs S w ts kp i) : KidsIs S w' ts kp i :=
  KidsIs.mono (fun p hp => ha.cell p (V.old s w hi _ hp).1 (V.old s w hi _ hp).2) (fun _ h => h) ts kp i h

set_option maxHeartbeats 4000000 in
set_option maxRecDepth 100000 in
theorem walk_counts {σ : Type} {F : Nat} {cap : Array Value} {S : Nat → Prop} {f : σ → NT → Int → σ × Bool} {Inv : σ → World → Prop} {Live : σ → Nat → Prop} {Own : World → Nat → Prop} (V : Counts F cap S f Inv Live Own)
    (hF : ∀ args w, (callFunc F args).run Tryz.prog w = .ok (.enter F args) w) :
    ∀ (m : Nat) (t : NT), t.size ≤ m → ∀ (n : Nat) (s : σ) (d : Int) (cs : List Value) (w : World), Inv s w → Live s (t.size + n) → t.ok → NeedIs S w t cs →
      Calls Tryz.prog 58 #[.agg cs.toArray, .int .i64 d, .func (.func F) #[] cap] w fun e w' => CountPost Inv Live Own n w (walkS inc64 f s t d) e w' := by
  intro m
  induction m with
  | zero =>
    rintro ⟨k, a, fl, nt, kids⟩ hm
    rw [NT.size] at hm; omega
  | succ m ih =>
    rintro ⟨k, a, fl, nt, kids⟩ hm n s d cs w hi hl hok hn
    rw [NT.size] at hm hl
    rw [show 1 + sizeL kids + n = sizeL kids + n + 1 by omega] at hl
    have HOK : Hid (okL kids) := by rw [NT.ok] at hok; exact hok.2
    have hn' := hn
    rw [NeedIs] at hn
    obtain ⟨kp, kc, rfl, hcap, hmax, hkids⟩ := hn
    have hv : ∀ (w : World) (cs : List Value), Inv s w → NeedIs S w (.node k a fl nt kids) cs → Calls Tryz.prog F (#[.agg cs.toArray, .int .i64 d] ++ cap) w fun e w' => CountPost Inv Live Own (sizeL kids + n) w (f s (.node k a fl nt kids) d) e w' := fun w cs h1 h2 => V.call _ s _ d cs w h1 hl hok h2
    rw [show walkS inc64 f s (.node k a fl nt kids) d = if (f s (.node k a fl nt kids) d).2 = true then kidsS inc64 f (f s (.node k a fl nt kids) d).1 kids (inc64 d) else ((f s (.node k a fl nt kids) d).1, false) from by rw [walkS]]
    generalize f s (.node k a fl nt kids) d = r at hv ⊢
    obtain ⟨s1, b1⟩ := r
    have hb0 := Boxed.new w #[.int .i64 k, .string a.n, .int .i64 a.op, .int .i64 a.v, .int .i64 a.sl, .string a.f, .bool a.on, .string fl, .bool nt, .slice kp kids.length kc] 26
    have K0 := Keep.alloc w (.cells #[.int .i64 k, .string a.n, .int .i64 a.op, .int .i64 a.v, .int .i64 a.sl, .string a.f, .bool a.on, .string fl, .bool nt, .slice kp kids.length kc] 26)
    go_enter Tryz.func58, Tryz.ntmps58
    go_wp2_with fail
    generalize w.alloc (.cells #[.int .i64 k, .string a.n, .int .i64 a.op, .int .i64 a.v, .int .i64 a.sl, .string a.f, .bool a.on, .string fl, .bool nt, .slice kp kids.length kc] 26) = W0 at K0 hb0 ⊢
    obtain ⟨hi0, ha0, ho0⟩ := V.keep s w W0 hi K0
    have HB0 : Hid (Boxed w.heap.size #[.int .i64 k, .string a.n, .int .i64 a.op, .int .i64 a.v, .int .i64 a.sl, .string a.f, .bool a.on, .string fl, .bool nt, .slice kp kids.length kc] W0) := hb0
    have hno : ¬ Own W0 w.heap.size := fun h => absurd (V.own s w hi _ (ho0 _ h)) (Nat.lt_irrefl _)
    refine (hv W0 _ hi0 (NeedIs.apartC V hi ha0 hn')).mono ?_
    rintro e w1 ⟨rfl, hi1, hl1, ha1⟩
    have HB1 : Hid (Boxed w.heap.size #[.int .i64 k, .string a.n, .int .i64 a.op, .int .i64 a.v, .int .i64 a.sl, .string a.f, .bool a.on, .string fl, .bool nt, .slice kp kids.length kc] w1) :=
      ⟨Nat.lt_of_lt_of_le HB0.out.1 ha1.size, fun o => (ha1.cell ⟨w.heap.size, o, none⟩ HB0.out.1 hno).trans (HB0.out.2 o)⟩
    have hk1 : KidsIs S w1 kids kp 0 := KidsIs.apartC V hi (ha0.trans ha1) hkids
    have HA1 : Hid (Apart Own w w1) := ha0.trans ha1
    have hc1 := HB1.out.2
    have hb1 := HB1.out.1
    clear hn' hkids hb0 K0 hi0 ha0 ho0 HB0 hno ha1 hi hl HB1 hv hok
    cases b1
    · go_wp2_with fail
      go_ret
      exact (show CountPost Inv Live Own n w (s1, false) _ _ from ⟨rfl, hi1, fun h => (by cases h), HA1.out⟩)
    · have HL1 : Hid (Live s1 (sizeL kids + n)) := hl1 rfl
      have HI1 : Hid (Inv s1 w1) := hi1
      have HK1 : Hid (KidsIs S w1 kids kp 0) := hk1
      clear hl1 hi1 hk1
      go_wp2_with fail
      go_loopw [17] (fun i wr => ∃ j : Nat, j ≤ kids.length ∧ i = .int .i64 j ∧ ∃ s', Inv s' wr ∧ Live s' (sizeL (kids.drop j) + n) ∧ kidsS inc64 f s1 kids (inc64 d) = kidsS inc64 f s' (kids.drop j) (inc64 d) ∧ KidsIs S wr kids kp 0 ∧ Apart Own w wr) (fun i _ => kids.length - (intOf i).toNat)
      case atStart => exact ⟨0, Nat.zero_le _, rfl, s1, HI1.out, by rw [List.drop_zero]; exact HL1.out, by simp, HK1.out, HA1.out⟩
      case round =>
        obtain ⟨j, hj, rfl, s', hi', hl', he', hk', ha'⟩ := hrel
        have HI : Hid (Inv s' wr) := hi'
        have HL : Hid (Live s' (sizeL (kids.drop j) + n)) := hl'
        have HE : Hid (kidsS inc64 f s1 kids (inc64 d) = kidsS inc64 f s' (kids.drop j) (inc64 d)) := he'
        have HK : Hid (KidsIs S wr kids kp 0) := hk'
        have HA : Hid (Apart Own w wr) := ha'
        clear hi' hl' he' hk' ha' HL1 HI1 HK1 HA1 hc1
        by_cases hlt : j < kids.length
        · have HE2 : Hid (kidsS inc64 f s1 kids (inc64 d) = if (walkS inc64 f s' kids[j] (inc64 d)).2 = true then kidsS inc64 f (walkS inc64 f s' kids[j] (inc64 d)).1 (kids.drop (j + 1)) (inc64 d) else ((walkS inc64 f s' kids[j] (inc64 d)).1, false)) := by
            show _ = _
            rw [HE.out, kidsS_drop inc64 f s' kids (inc64 d) j hlt]
          obtain ⟨p, cs, hp, hS, hcell, hneed⟩ := kidsIs_get HK.out j hlt
          have hdr : sizeL (kids.drop j) = kids[j].size + sizeL (kids.drop (j + 1)) := by rw [List.drop_eq_getElem_cons hlt, sizeL]
          have HLJ : Hid (Live s' (kids[j].size + (sizeL (kids.drop (j + 1)) + n))) := by have := HL.out; rw [hdr, Nat.add_assoc] at this; exact this
          have hih := ih kids[j] (by have := sizeL_get kids j hlt; omega) (sizeL (kids.drop (j + 1)) + n) s' (inc64 d)
          clear hdr
          have HN : Hid (NeedIs S wr kids[j] cs) := hneed
          subst hp
          rw [Nat.zero_add] at hcell
          cases hkid : kids[j] with
          | node k' a' fl' nt' kids' =>
          rw [hkid, NeedIs] at hneed
          obtain ⟨kp', kc', rfl, -, -, -⟩ := hneed
          obtain ⟨c0, c1, c2, c3, c4, c5, c6, c7, c8, c9⟩ := cells10 hcell
          clear hcell
          have HIH : Hid (∀ (cs : List Value) (w : World), Inv s' w → Live s' (kids[j].size + (sizeL (kids.drop (j + 1)) + n)) → kids[j].ok → NeedIs S w kids[j] cs → Calls Tryz.prog 58 #[.agg cs.toArray, .int .i64 (inc64 d), .func (.func F) #[] cap] w fun e w' => CountPost Inv Live Own (sizeL (kids.drop (j + 1)) + n) w (walkS inc64 f s' kids[j] (inc64 d)) e w') := hih
          clear hih ih
          have k2 := Keep.alloc wr (.cells #[.int .i64 k', .string a'.n, .int .i64 a'.op, .int .i64 a'.v, .int .i64 a'.sl, .string a'.f, .bool a'.on, .string fl', .bool nt', .slice kp' kids'.length kc'] 26)
          obtain ⟨hi2, ha2, -⟩ := V.keep s' wr _ HI.out k2
          have hn2 := NeedIs.apartC V HI.out ha2 HN.out
          have HI2 : Hid (Inv s' (wr.alloc (.cells #[.int .i64 k', .string a'.n, .int .i64 a'.op, .int .i64 a'.v, .int .i64 a'.sl, .string a'.f, .bool a'.on, .string fl', .bool nt', .slice kp' kids'.length kc'] 26))) := hi2
          have HA2 : Hid (Apart Own wr (wr.alloc (.cells #[.int .i64 k', .string a'.n, .int .i64 a'.op, .int .i64 a'.v, .int .i64 a'.sl, .string a'.f, .bool a'.on, .string fl', .bool nt', .slice kp' kids'.length kc'] 26))) := ha2
          have HN2 : Hid (NeedIs S (wr.alloc (.cells #[.int .i64 k', .string a'.n, .int .i64 a'.op, .int .i64 a'.v, .int .i64 a'.sl, .string a'.f, .bool a'.on, .string fl', .bool nt', .slice kp' kids'.length kc'] 26)) kids[j] [Value.int IntKind.i64 k', Value.string a'.n, Value.int IntKind.i64 a'.op, Value.int IntKind.i64 a'.v, Value.int IntKind.i64 a'.sl, Value.string a'.f, Value.bool a'.on, Value.string fl', Value.bool nt', Value.slice kp' kids'.length kc']) := hn2
          clear hi2 ha2 hn2 k2 hkid
          go_wp2_with fail
          generalize wr.alloc (.cells #[.int .i64 k', .string a'.n, .int .i64 a'.op, .int .i64 a'.v, .int .i64 a'.sl, .string a'.f, .bool a'.on, .string fl', .bool nt', .slice kp' kids'.length kc'] 26) = W2 at HI2 HA2 HN2 ⊢
          clear c0 c1 c2 c3 c4 c5 c6 c7 c8 c9
          rw [show wrap64 (d + 1) = inc64 d from rfl]
          refine (HIH.out _ W2 HI2.out HLJ.out (okL_get HOK.out j hlt) HN2.out).mono ?_
          rintro e w3 ⟨rfl, hi3, hl3, ha3⟩
          have HA3 : Hid (Apart Own wr w3) := HA2.out.trans ha3
          generalize walkS inc64 f s' kids[j] (inc64 d) = r at HE2 hi3 hl3 ⊢
          obtain ⟨s3, b3⟩ := r
          have HI3 : Hid (Inv s3 w3) := hi3
          clear hi3 ha3 HIH HE
          cases b3
          · clear hl3
            go_wp2_with fail
            go_ret
            show CountPost Inv Live Own n w (kidsS inc64 f s1 kids (inc64 d)) _ _
            rw [HE2.out]
            exact ⟨rfl, HI3.out, fun h => (by cases h), HA.out.trans HA3.out⟩
          · have HL3 : Hid (Live s3 (sizeL (kids.drop (j + 1)) + n)) := hl3 rfl
            clear hl3
            go_wp2_with fail
            go_roundw
            case rel => exact ⟨j + 1, by omega, by go_num, s3, HI3.out, HL3.out, HE2.out, KidsIs.apartC V HI.out HA3.out HK.out, HA.out.trans HA3.out⟩
            case measure => simp [intOf]; omega
        · go_wp2_with fail
          go_ret
          show CountPost Inv Live Own n w (kidsS inc64 f s1 kids (inc64 d)) _ _
          rw [HE.out, List.drop_eq_nil_of_le (by omega), kidsS]
          exact ⟨rfl, HI.out, fun _ => by have := HL.out; rw [List.drop_eq_nil_of_le (by omega), sizeL, Nat.zero_add] at this; exact this, HA.out⟩
end Go.Proofs.YtkckkjpkidcbnaaGreatDoor
/- need.Flags gathers the flags, sorts them, and strikes what is there twice. -/
namespace Go.Proofs.YtkckkjpkidcbnaaGreatDoor
open Go.RowKit

mutual
/-- The flags of all Ifs, in the order of the walk. -/
def NT.flags : NT → List ByteArray
  | .node k _ fl _ kids => (if k = 5 then [fl] else []) ++ flagsL kids
def flagsL : List NT → List ByteArray
  | [] => []
  | t :: ts => t.flags ++ flagsL ts
end
def fF (s : List ByteArray) (t : NT) (_ : Int) : List ByteArray × Bool := match t with
  | .node k _ fl _ _ => (if k = 5 then s ++ [fl] else s, true)
mutual
theorem walkF (inc : Int → Int) : ∀ (t : NT) (s : List ByteArray) (d : Int), walkS inc fF s t d = (s ++ t.flags, true)
  | .node k a fl nt kids, s, d => by
    have e : (fF s (.node k a fl nt kids) d).2 = true := rfl
    rw [walkS, if_pos e, kidsF, NT.flags]
    show ((if k = 5 then s ++ [fl] else s) ++ flagsL kids, true) = _
    split <;> simp
theorem kidsF (inc : Int → Int) : ∀ (ts : List NT) (s : List ByteArray) (d : Int), kidsS inc fF s ts d = (s ++ flagsL ts, true)
  | [], s, d => by rw [kidsS, flagsL, List.append_nil]
  | t :: ts, s, d => by rw [kidsS, walkF, if_pos rfl, kidsF, flagsL, List.append_assoc]
end
mutual
theorem flags_len : ∀ t : NT, t.flags.length ≤ t.size
  | .node k a fl nt kids => by
    have := flagsL_len kids
    rw [NT.flags, NT.size, List.length_append]
    split <;> simp <;> omega
theorem flagsL_len : ∀ ts : List NT, (flagsL ts).length ≤ sizeL ts
  | [] => Nat.zero_le _
  | t :: ts => by
    have := flags_len t
    have := flagsL_len ts
    rw [flagsL, sizeL, List.length_append]; omega
end

/-- The variable of the flags, and the row that it leads to. -/
def OwnF (c : Nat) (w : World) (b : Nat) : Prop := b = c ∨ ∃ a l k, w.cell? ⟨c, 0, none⟩ = some (.slice (some a) l k) ∧ a.block = b
def FlagsIs (c : Nat) (s : List ByteArray) (w : World) : Prop := ∃ v, VarAt c 32 v w ∧ WordsAt (c + 1) v s w
theorem FlagsIs.keep {c : Nat} {s : List ByteArray} {w w' : World} (h : FlagsIs c s w) (k : Keep w w') : FlagsIs c s w' := by
  obtain ⟨v, h1, h2⟩ := h
  exact ⟨v, h1.keep k h1.facts.2.2, h2.keep k⟩
theorem FlagsIs.own {c : Nat} {s : List ByteArray} {w : World} (h : FlagsIs c s w) {b : Nat} (ho : OwnF c w b) : c ≤ b ∧ b < w.heap.size := by
  obtain ⟨v, h1, h2⟩ := h
  rcases ho with rfl | ⟨a, l, k, e, rfl⟩
  · exact ⟨Nat.le_refl _, h1.facts.2.2⟩
  · have hv : v = .slice (some a) l k := Option.some.inj (h1.facts.1.symm.trans e)
    have := owns_lt h2 (g := a.block) (by rw [hv]; rfl)
    omega
theorem flags_apart {c : Nat} {s : List ByteArray} {w w' : World} (h : FlagsIs c s w) (k : Keep w w') : Apart (OwnF c) w w' ∧ ∀ b, OwnF c w' b → OwnF c w b := by
  obtain ⟨v, h1, h2⟩ := h
  have hc : w'.cell? ⟨c, 0, none⟩ = w.cell? ⟨c, 0, none⟩ := k.cell (p := ⟨c, 0, none⟩) h1.facts.2.2
  have ho : ∀ b, OwnF c w' b → OwnF c w b := fun b hb => by
    rcases hb with hb | ⟨a, l, kk, e, hb⟩
    · exact Or.inl hb
    · exact Or.inr ⟨a, l, kk, hc.symm.trans e, hb⟩
  exact ⟨⟨k.os, k.tape, k.output, k.size, fun b hb _ => k.block b hb, fun b _ hb => ho b hb⟩, ho⟩
/-- What an append to the flags, and the store of it, leave. -/
theorem flags_push {c : Nat} {s : List ByteArray} {fl : ByteArray} {w w1 w2 : World} {v v' : Value} {o : Obj} (hv : VarAt c 32 v w) (hw : WordsAt (c + 1) v s w) (k : Keep w w1) (h1 : w2.ownsRow (c + 1) 9 1 v' (s.length + 1) (s.map Value.string ++ [.string fl])) (h2 : (w1.alloc o).grownBy w2 v.ownBlock)
    (h3 : v'.ownBlock = v.ownBlock ∨ v'.ownBlock = some (w1.alloc o).heap.size) : FlagsIs c (s ++ [fl]) (w2.setCell ⟨c, 0, none⟩ v') ∧ Apart (OwnF c) w (w2.setCell ⟨c, 0, none⟩ v') := by
  have hlt := hv.facts.2.2
  have e := alloc_size w1 o
  have hv1 : VarAt c 32 v w1 := hv.keep k hlt
  have hne : v.ownBlock ≠ some c := fun e => by have := owns_lt hw e; omega
  have k2 : Below (c + 1) (w1.alloc o) w2 := (Below.refl _ _).grown h2 (by have := k.size; omega) (fun g hg => (owns_lt hw hg).1)
  have hv2 : VarAt c 32 v w2 := (hv1.keep (Keep.alloc w1 o) hv1.facts.2.2).keep k2 (Nat.lt_succ_self c)
  have hset := hv2.set v'
  have hbl : ∀ b, b ≠ c → (w2.setCell ⟨c, 0, none⟩ v').heap[b]? = w2.heap[b]? := set_other w2 c 0 v'
  have hsz : w.heap.size ≤ w2.heap.size := by have := k.size; have := h2.size; omega
  refine ⟨⟨v', hset, ?_⟩, ?_⟩
  · have hw2 : WordsAt (c + 1) v' (s ++ [fl]) w2 := by unfold WordsAt; simpa using h1
    obtain ⟨a1, a2⟩ := hw2
    refine ⟨a1, a2.imp id ?_⟩
    rintro ⟨g, cap, cur, e1, e2, e3, e4⟩
    exact ⟨g, cap, cur, e1, e2, by rw [hbl g (by omega)]; exact e3, e4⟩
  · have hs := one_set c w2 v'
    refine ⟨(hs.os.trans h2.os).trans k.os, (hs.tape.trans h2.tape).trans k.tape, (hs.output.trans h2.output).trans k.output, by have := hs.size; omega, fun b hb ho => ?_, fun b hb ho => ?_⟩
    · have hbc : b ≠ c := fun e => ho (Or.inl e)
      have hbv : v.ownBlock ≠ some b := fun e => by
        refine ho (Or.inr ?_)
        obtain ⟨-, ⟨rfl, -⟩ | ⟨g, cap, cur, rfl, -⟩⟩ := hw
        · cases e
        · exact ⟨_, _, _, hv.facts.1, Option.some.inj e⟩
      rw [hbl b hbc, h2.block b (by have := k.size; omega) (fun e => hbv e.symm), (Keep.alloc w1 o).block b (by have := k.size; omega), k.block b hb]
    · rcases ho with ho | ⟨a, l, kk, e2, rfl⟩
      · exact Or.inl ho
      · have e3 : v' = .slice (some a) l kk := Option.some.inj (hset.facts.1.symm.trans e2)
        rcases h3 with h3 | h3
        · refine Or.inr ?_
          have : v.ownBlock = some a.block := by rw [← h3, e3]; rfl
          obtain ⟨-, ⟨rfl, -⟩ | ⟨g, cap, cur, rfl, -⟩⟩ := hw
          · cases this
          · exact ⟨_, _, _, hv.facts.1, Option.some.inj this⟩
        · have : some a.block = some (w1.alloc o).heap.size := by rw [← h3, e3]; rfl
          have := Option.some.inj this
          have := k.size
          omega

theorem keep_undrew {w w' : World} (k : Keep w.drew w') : Keep w w' := ⟨k.os, k.tape, k.output, k.size, k.block⟩
theorem VarAt.grown {c : Nat} {T : TypeId} {v : Value} {w w' : World} {o : Obj} {row : Option Nat} (h : VarAt c T v w) (hg : (w.alloc o).grownBy w' row) (hne : row ≠ some c) : VarAt c T v w' := by
  have h1 := h.keep (Keep.alloc w o) h.facts.2.2
  have hl := h1.facts.2.2
  unfold VarAt at *; rw [hg.block c hl (fun e => hne e.symm)]; exact h1
set_option maxHeartbeats 1000000 in
set_option maxRecDepth 100000 in
theorem flags_call (n c : Nat) (s : List ByteArray) (k : Int) (a : At) (fl : ByteArray) (nt : Bool) (kp : Option Addr) (len kc : Nat) (d : Int) (kids : List NT) (w : World) (hi : FlagsIs c s w) (hl : s.length + (n + 1) ≤ 1000) (hfl : k = 5 → fl.size ≤ 8) :
    Calls Tryz.prog 59 #[.agg #[.int .i64 k, .string a.n, .int .i64 a.op, .int .i64 a.v, .int .i64 a.sl, .string a.f, .bool a.on, .string fl, .bool nt, .slice kp len kc], .int .i64 d, .pointer (some ⟨c, 0, none⟩)] w
      fun e w' => CountPost (FlagsIs c) (fun s n => s.length + n ≤ 1000) (OwnF c) n w (fF s (.node k a fl nt kids) d) e w' := by
  obtain ⟨i0, hi0, hz0, hz1, hz2⟩ := info_parts infoStr
  have k0 := hid (Keep.alloc w (.cells #[.int .i64 k, .string a.n, .int .i64 a.op, .int .i64 a.v, .int .i64 a.sl, .string a.f, .bool a.on, .string fl, .bool nt, .slice kp len kc] 26))
  have hb0 : Hid (Boxed w.heap.size #[.int .i64 k, .string a.n, .int .i64 a.op, .int .i64 a.v, .int .i64 a.sl, .string a.f, .bool a.on, .string fl, .bool nt, .slice kp len kc] (w.alloc (.cells #[.int .i64 k, .string a.n, .int .i64 a.op, .int .i64 a.v, .int .i64 a.sl, .string a.f, .bool a.on, .string fl, .bool nt, .slice kp len kc] 26))) := Boxed.new w #[.int .i64 k, .string a.n, .int .i64 a.op, .int .i64 a.v, .int .i64 a.sl, .string a.f, .bool a.on, .string fl, .bool nt, .slice kp len kc] 26
  have HI := hid hi
  by_cases h5 : k = 5
  · have h5' : (k == 5) = true := by simp [h5]
    have hfl8 := hfl h5
    have HF : Hid (fF s (.node k a fl nt kids) d = (s ++ [fl], true)) := by show _ = _; unfold fF; simp [h5]
    obtain ⟨v, hv, hw⟩ := hi
    clear h5 hfl
    go_enter Tryz.func59, Tryz.ntmps59
    go_upto_region 2 with fail
    generalize w.alloc (.cells #[.int .i64 k, .string a.n, .int .i64 a.op, .int .i64 a.v, .int .i64 a.sl, .string a.f, .bool a.on, .string fl, .bool nt, .slice kp len kc] 26) = W0 at k0 hb0 ⊢
    have HV := hid hv
    have HW := hid hw
    have hv0 := hv.keep k0.out hv.facts.2.2
    obtain ⟨hc0, hz00, hl0⟩ := hv0.facts
    have hbc := hb0.out.2
    have hbl := hb0.out.1
    have HV0 := hid hv0
    have HW0 := hid (hw.keep k0.out)
    have HNE : Hid (v.ownBlock ≠ some c) := fun e => by have := owns_lt hw e; omega
    clear hv hw hv0
    go_region_law (first | (refine step_append_own rfl _ _ 32 rfl (c + 1) 9 i0 (.string ByteArray.empty) 1 16 Tryz.underlying32 hi0 hz0 hz1 hz2 rfl (by decide) v s.length (s.map Value.string) rfl (HW1.out.alloc _) ⟨w1.heap.size, 0, none⟩ 1 1 [.string fl] rfl rfl one_news one_cell (by unfold maxLen; omega) (by omega) (by have := alloc_size w1 (.cells #[.string fl] 9); omega) ?_; intro v2 w2 h1 h2 h3; obtain ⟨g5, cap5, rfl⟩ := owns_shape h1 (Nat.succ_pos _); obtain ⟨hc2, hz20, hl2⟩ := (HV1.out.grown h2 HNE.out).facts) | (go_simp; go_at_call 60; refine (clone_any fl _ (by omega)).mono ?_; rintro e w1 ⟨rfl, k1⟩; have HK1 := hid (keep_undrew k1); have HV1 := hid (HV0.out.keep HK1.out HV0.out.facts.2.2); have HW1 := hid (HW0.out.keep HK1.out); obtain ⟨hc1, hz10, hl1⟩ := HV1.out.facts; have hkl := HK1.out.size; go_simp))
    all_goals
      have HP := hid (flags_push (fl := fl) (w1 := w1) (w2 := w2) (o := .cells #[.string fl] 9) HV.out HW.out (k0.out.trans HK1.out) h1 h2 (by first | exact h3 | (rw [alloc_size]; exact h3)))
      go_wp2_with fail
      go_ret
      show CountPost _ _ _ _ w (fF s (.node k a fl nt kids) d) _ _
      rw [HF.out]
      exact ⟨rfl, HP.out.1, fun _ => by show (s ++ [fl]).length + n ≤ 1000; simp; omega, HP.out.2⟩
  · have h5' : (k == 5) = false := by simp [h5]
    have HF : Hid (fF s (.node k a fl nt kids) d = (s, true)) := by show _ = _; unfold fF; simp [h5]
    clear h5 hfl hi
    go_enter Tryz.func59, Tryz.ntmps59
    go_wp2_with fail
    go_ret
    show CountPost _ _ _ _ w (fF s (.node k a fl nt kids) d) _ _
    rw [HF.out]
    exact ⟨rfl, HI.out.keep k0.out, fun _ => by show s.length + n ≤ 1000; omega, (flags_apart HI.out k0.out).1⟩
end Go.Proofs.YtkckkjpkidcbnaaGreatDoor
/- need.Flags answers with the flags, each once, rising; or with the need's error. -/
namespace Go.Proofs.YtkckkjpkidcbnaaGreatDoor
open Go.RowKit Go.Sort

theorem flags_counts (c : Nat) (S : Nat → Prop) (hS : ∀ b, S b → b < c) : Counts 59 #[.pointer (some ⟨c, 0, none⟩)] S fF (FlagsIs c) (fun s n => s.length + n ≤ 1000) (OwnF c) where
  keep s w w' hi k := ⟨hi.keep k, (flags_apart hi k).1, (flags_apart hi k).2⟩
  old s w hi b hb := by
    refine ⟨?_, fun e => ?_⟩
    · obtain ⟨v, h1, -⟩ := hi
      exact Nat.lt_trans (hS b hb) h1.facts.2.2
    · have := hi.own e
      have := hS b hb
      omega
  own s w hi b hb := (hi.own hb).2
  call n s t d cs w hi hl hok hn := by
    obtain ⟨k, a, fl, nt, kids⟩ := t
    rw [NeedIs] at hn
    obtain ⟨kp, kc, rfl, -, -, -⟩ := hn
    refine flags_call n c s k a fl nt kp kids.length kc d kids w hi hl (fun h5 => ?_)
    rw [NT.ok] at hok
    rcases nodeE_zero hok.1 with ⟨hk, -⟩ | ⟨hk, -⟩ | ⟨-, -, hn⟩
    · omega
    · omega
    · have := nameB_le hn
      rw [size_list] at this
      exact this
theorem enter_flags (args : Array Value) (w : World) : (callFunc 59 args).run Tryz.prog w = .ok (.enter 59 args) w := enters_of Tryz.func59 (by kernel_rfl) rfl args w

/-- The flags, each once, rising. -/
def NT.sorted (t : NT) : List (List UInt8) := Lib.compact ((t.flags.map (·.data.toList)).mergeSort fun x y => decide (x ≤ y))
/-- A row of texts that a slice leads to. -/
def TextsAt (v : Value) (fs : List (List UInt8)) (w : World) : Prop := (fs = [] ∧ ∃ p cap, v = .slice p 0 cap) ∨ ∃ g cap, v = .slice (some ⟨g, 0, none⟩) fs.length cap ∧ g < w.heap.size ∧ ∀ (j : Nat) x, fs[j]? = some x → w.cell? ⟨g, 0 + j, none⟩ = some (.string ⟨x.toArray⟩)
/-- What Flags answers. -/
def FlagsDone (t : NT) (w : World) (e : Ending) (w' : World) : Prop :=
  ∃ v, e = .returned (.tuple #[v, .int .i64 (chkN t)]) ∧ (chkN t ≠ 0 → v = .slice none 0 0) ∧ (chkN t = 0 → TextsAt v t.sorted w') ∧ Keep w w'
theorem compact_len (zs : List (List UInt8)) : (Lib.compact zs).length ≤ zs.length := by
  unfold Lib.compact Lib.compactUpTo
  rw [List.length_map]
  exact Nat.le_trans (List.length_filter_le _ _) (by simp)
theorem compact_nil : Lib.compact ([] : List (List UInt8)) = [] := by rfl

set_option maxHeartbeats 2000000 in
theorem needFlags_any (t : NT) (cs : List Value) (w : World) (S : Nat → Prop) (hS : ∀ b, S b → b < w.heap.size) (hn : NeedIs S w t cs) :
    Calls Tryz.prog 12 #[.agg cs.toArray] w fun e w' => FlagsDone t w e w' := by
  have HN : Hid (NeedIs S w t cs) := hn
  cases ht : t with
  | node k a fl nt kids =>
  rw [ht, NeedIs] at hn
  obtain ⟨kp, kc, rfl, -, -, -⟩ := hn
  rw [← ht]
  have hmf : ∀ (fn : Fn) (first cap : Array Value) (w : World), (Instr.makeFunc fn first cap).run Tryz.prog w = .ok (.func fn first cap) w := fun _ _ _ _ => rfl
  have k0 := hid (Keep.alloc w (.cells #[.int .i64 k, .string a.n, .int .i64 a.op, .int .i64 a.v, .int .i64 a.sl, .string a.f, .bool a.on, .string fl, .bool nt, .slice kp kids.length kc] 26))
  have hb0 : Hid (Boxed w.heap.size #[.int .i64 k, .string a.n, .int .i64 a.op, .int .i64 a.v, .int .i64 a.sl, .string a.f, .bool a.on, .string fl, .bool nt, .slice kp kids.length kc] (w.alloc (.cells #[.int .i64 k, .string a.n, .int .i64 a.op, .int .i64 a.v, .int .i64 a.sl, .string a.f, .bool a.on, .string fl, .bool nt, .slice kp kids.length kc] 26))) := Boxed.new w #[.int .i64 k, .string a.n, .int .i64 a.op, .int .i64 a.v, .int .i64 a.sl, .string a.f, .bool a.on, .string fl, .bool nt, .slice kp kids.length kc] 26
  clear ht
  go_enter Tryz.func12, Tryz.ntmps12
  go_wp2_with fail
  generalize w.alloc (.cells #[.int .i64 k, .string a.n, .int .i64 a.op, .int .i64 a.v, .int .i64 a.sl, .string a.f, .bool a.on, .string fl, .bool nt, .slice kp kids.length kc] 26) = W0 at k0 hb0 ⊢
  refine (needCheck_any t _ W0 S (fun b hb => Nat.lt_of_lt_of_le (hS b hb) k0.out.size) (HN.out.keep hS k0.out)).mono ?_
  rintro e w1 ⟨rfl, k1⟩
  have K1 : Hid (Keep w w1) := k0.out.trans k1
  have HB1 : Hid (Boxed w.heap.size #[.int .i64 k, .string a.n, .int .i64 a.op, .int .i64 a.v, .int .i64 a.sl, .string a.f, .bool a.on, .string fl, .bool nt, .slice kp kids.length kc] w1) := hb0.out.keep k1 hb0.out.1
  have hc1 := HB1.out.2
  have hlt1 := HB1.out.1
  clear k1 hb0 k0
  by_cases hz : chkN t = 0
  · have HZ : Hid (chkN t = 0) := hz
    rw [hz]
    clear hz
    obtain ⟨hlarge, hok⟩ := chkN_zero.1 HZ.out
    have hsz := (small_of hlarge).1
    have HOK := hid hok
    have V2 : Hid (FlagsIs w1.heap.size [] (w1.alloc (.cells #[.slice none 0 0] 32))) := ⟨_, VarAt.new w1 _ _, World.ownsRow_nil _ _ _ _⟩
    have K2 := hid (K1.out.alloc' (.cells #[.slice none 0 0] 32))
    clear hlarge hok
    go_wp2_with fail
    clear hc1
    generalize w1.alloc (.cells #[.slice none 0 0] 32) = W2 at V2 K2 ⊢
    refine (walk_counts (flags_counts w1.heap.size S (fun b hb => Nat.lt_of_lt_of_le (hS b hb) K1.out.size)) enter_flags _ t (Nat.le_refl _) 0 [] 1 _ W2 V2.out (by show 0 + (t.size + 0) ≤ 1000; omega) HOK.out (HN.out.keep hS K2.out)).mono ?_
    rintro e w3 ⟨rfl, hi3, -, ha3⟩
    rw [walkF] at hi3 ⊢
    obtain ⟨v, hv3, hw3⟩ := hi3
    have hw3' : WordsAt (w1.heap.size + 1) v t.flags w3 := by simpa using hw3
    have K3 : Hid (Keep w w3) := Below.trans K2.out (ha3.below K2.out.size (fun b hb e => by have := V2.out.own e; have := K1.out.size; omega))
    have HV3 := hid hv3
    have hfl := flags_len t
    have hw1s := K1.out.size
    obtain ⟨hcv, hzv, hlv⟩ := hv3.facts
    clear ha3 hw3 hv3
    obtain ⟨hlen, ⟨rfl, h0⟩ | ⟨g, cap, cur, rfl, hbase, hb, hn1, hn2, hn3, hn4⟩⟩ := hw3'
    · have hnil : Hid (t.sorted = []) := by
        show _ = _
        have : t.flags = [] := List.length_eq_zero_iff.1 h0
        unfold NT.sorted
        rw [this, List.map_nil, List.mergeSort_nil]; exact compact_nil
      go_wp2_with fail
      refine (Tryz.slices_Sort_string_none none 0 w3).mono ?_
      rintro e w4 ⟨rfl, hw4⟩
      rw [hw4]
      clear hw4
      go_wp2_with fail
      refine (Tryz.slices_Compact_string_empty none 0 w3).mono ?_
      rintro e w5 ⟨rfl, hw5⟩
      rw [hw5]
      clear hw5
      go_wp2_with fail
      go_ret2
      exact ⟨.slice none 0 0, by rw [HZ.out]; rfl, fun h => absurd HZ.out h, fun _ => Or.inl ⟨hnil.out, none, 0, rfl⟩, K3.out⟩
    · have hss : t.flags.map Value.string = (t.flags.map (·.data.toList)).map encStr := by
        rw [List.map_map]
        apply List.map_congr_left
        intro x _
        show Value.string x = Value.string _
        rw [bytes_back]
      rw [hss, Nat.mul_one] at hn4
      have hgl := (Array.getElem?_eq_some_iff.1 hb).1
      have hln : (t.flags.map (·.data.toList)).length = t.flags.length := by simp
      have hH : Holds encStr w3 g 0 (t.flags.map (·.data.toList)).toArray := holds_of_block hb (by rw [hln]; exact hn4)
      have HSRT : Hid (t.sorted = Lib.compact ((t.flags.map (·.data.toList)).mergeSort fun x y => decide (x ≤ y))) := rfl
      generalize hFF : t.flags.map (·.data.toList) = FF at hH hln HSRT
      clear hFF hss hn4 hlen
      have hsort := Tryz.slices_Sort_string g 0 cap FF w3 hH hgl (by omega)
      rw [hln] at hsort
      have HSORT := hid hsort
      clear hsort
      go_wp2_with fail
      refine HSORT.out.mono ?_
      rintro e w4 ⟨rfl, nn, os, hw4⟩
      have hml : (FF.mergeSort fun x y => decide (x ≤ y)).length = FF.length := by simp
      have own4 := ownsRow_sorted (n := nn) (os := os) (ss := FF) (ts := FF.mergeSort fun x y => decide (x ≤ y)) hml hbase hb (by omega) hn2 hn3
      have grow4 := grownBy_sorted (w := w3) (g := g) (n := nn) (os := os) (FF.mergeSort fun x y => decide (x ≤ y)).toArray
      rw [← hw4] at own4 grow4
      clear hw4
      have HV4 : Hid (VarAt w1.heap.size 32 (.slice (some ⟨g, 0, none⟩) t.flags.length cap) w4) := by
        have := HV3.out
        unfold VarAt at this
        show w4.heap[_]? = _
        rw [grow4.block _ hlv (fun e => by have := Option.some.inj e; omega)]; exact this
      have K4 : Hid (Keep w w4) := Below.grown K3.out grow4 (by have := K3.out.size; omega) (fun g' hg' => by have : g = g' := Option.some.inj hg'; omega)
      obtain ⟨-, ⟨h, -⟩ | ⟨g2, cap2, cur2, e2, -, hb2, hm1, hm2, hm3, hm4⟩⟩ := own4
      · cases h
      cases e2
      rw [Nat.mul_one] at hm4
      generalize FF.mergeSort (fun x y => decide (x ≤ y)) = GG at hml hm4 HSRT
      have hH2 : Holds encStr w4 g 0 GG.toArray := holds_of_block hb2 (by rw [hml]; exact hm4)
      have hcomp := Tryz.slices_Compact_string g 0 cap GG w4 hH2 (by omega) (by omega)
      rw [hml, hln] at hcomp
      have HCOMP := hid hcomp
      obtain ⟨hcv4, hzv4, hlv4⟩ := HV4.out.facts
      have HB2 := hid hb2
      have hgl4 := (Array.getElem?_eq_some_iff.1 hb2).1
      clear hcomp hcv hzv grow4 hm4
      go_wp2_with fail
      refine HCOMP.out.mono ?_
      rintro e w5 ⟨rfl, qq, hw5⟩
      have hcl := compact_len GG
      have own5 := ownsRow_sorted (n := qq) (os := #[]) (ss := GG) (ts := Lib.compact GG ++ List.replicate (GG.length - (Lib.compact GG).length) []) (by simp; omega) hbase HB2.out (cap := cap) (by omega) hm2 hm3
      have grow5 := grownBy_sorted (w := w4) (g := g) (n := qq) (os := #[]) (Lib.compact GG ++ List.replicate (GG.length - (Lib.compact GG).length) []).toArray
      rw [grow_empty, hml, hln] at own5
      rw [grow_empty, hml, hln] at grow5
      rw [← hw5] at own5 grow5
      clear hw5
      have K5 : Hid (Keep w w5) := Below.grown K4.out grow5 (by have := K4.out.size; omega) (fun g' hg' => by have : g = g' := Option.some.inj hg'; omega)
      have HT5 : Hid (TextsAt (.slice (some ⟨g, 0, none⟩) (Lib.compact GG).length cap) t.sorted w5) := by
        refine Or.inr ⟨g, cap, by rw [HSRT.out], by have := grow5.size; omega, fun j x hx => ?_⟩
        rw [HSRT.out] at hx
        have hj : j < (Lib.compact GG).length := (List.getElem?_eq_some_iff.1 hx).1
        obtain ⟨-, ⟨h, -⟩ | ⟨g3, cap3, cur3, e3, -, hb3, -, -, -, hm5⟩⟩ := own5
        · cases h
        cases e3
        have h1 := congrArg (·[j]?) hm5
        simp only [Nat.mul_one, List.getElem?_take, List.getElem?_map, List.getElem?_append_left hj, hx, Option.map_some] at h1
        rw [if_pos (by omega)] at h1
        simp only [World.cell?, hb3, Nat.zero_add]
        simpa [encStr] using h1
      clear own5 grow5
      go_wp2_with fail
      go_ret2
      exact ⟨_, by rw [HZ.out]; rfl, fun h => absurd HZ.out h, fun _ => HT5.out, K5.out⟩
  · have hz' : (chkN t == 0) = false := by simpa using hz
    have hz2 : (chkN t != 0) = true := by simpa using hz
    have HZ : Hid (chkN t ≠ 0) := hz
    clear hz
    go_wp2_with fail
    go_ret2
    exact ⟨.slice none 0 0, rfl, fun _ => rfl, fun h => absurd h HZ.out, K1.out⟩
end Go.Proofs.YtkckkjpkidcbnaaGreatDoor
