/- quartermasterref.sized tells whether a need has too many nodes or is too deep, as largeB does. -/
import Derived.Test.YtkckkjpkidcbnaaGreatDoorNeedNeeded
namespace Go.Proofs.YtkckkjpkidcbnaaGreatDoor
open Go.RowKit

mutual
/-- What sized reckons. -/
def szN : NT → Nat → Int × Int
  | .node _ _ _ _ kids, g => match g with
    | 0 => (0, 99)
    | g + 1 => szK kids g 1 0
def szK : List NT → Nat → Int → Int → Int × Int
  | [], _, n, d => (n, d + 1)
  | t :: ts, g, n, d => if n + (szN t g).1 > 100 ∨ (szN t g).2 > 50 then (101, 99) else szK ts g (n + (szN t g).1) (max d (szN t g).2)
end
mutual
theorem szN_bounds : ∀ (t : NT) (g : Nat), 0 ≤ (szN t g).1 ∧ (szN t g).1 ≤ 101 ∧ 0 ≤ (szN t g).2 ∧ (szN t g).2 ≤ 99
  | .node k a fl nt kids, 0 => by rw [szN]; decide
  | .node k a fl nt kids, g + 1 => by rw [szN]; exact szK_bounds kids g 1 0 (by decide) (by decide) (by decide) (by decide)
theorem szK_bounds : ∀ (ts : List NT) (g : Nat) (n d : Int), 0 ≤ n → n ≤ 100 → 0 ≤ d → d ≤ 50 → 0 ≤ (szK ts g n d).1 ∧ (szK ts g n d).1 ≤ 101 ∧ 0 ≤ (szK ts g n d).2 ∧ (szK ts g n d).2 ≤ 99
  | [], g, n, d, h1, h2, h3, h4 => by rw [szK]; simp only; omega
  | t :: ts, g, n, d, h1, h2, h3, h4 => by
    have hb := szN_bounds t g
    rw [szK]
    split
    · simp only; omega
    · exact szK_bounds ts g _ _ (by omega) (by omega) (by omega) (by omega)
end
mutual
theorem szN_spec : ∀ (t : NT) (g : Nat), g ≤ 50 → (t.ht ≤ g ∧ t.size ≤ 100 → szN t g = ((t.size : Int), (t.ht : Int))) ∧ (¬ (t.ht ≤ g ∧ t.size ≤ 100) → (szN t g).2 = 99)
  | .node k a fl nt kids, 0, _ => by
    rw [szN, NT.ht]
    exact ⟨fun h => absurd h.1 (by omega), fun _ => rfl⟩
  | .node k a fl nt kids, g + 1, hg => by
    rw [szN, NT.ht, NT.size]
    obtain ⟨h1, h2⟩ := szK_spec kids g 1 0 (by omega) (by omega) (by omega) (by omega) (by omega)
    refine ⟨fun h => ?_, fun h => h2 (by omega)⟩
    rw [h1 (by omega)]
    refine Prod.ext ?_ ?_
    · simp
    · simp; omega
theorem szK_spec : ∀ (ts : List NT) (g : Nat) (n d : Int), g ≤ 50 → 0 ≤ d → d ≤ 50 → 0 ≤ n → n ≤ 100 → (htL ts ≤ g ∧ n + sizeL ts ≤ 100 → szK ts g n d = (n + sizeL ts, max d (htL ts) + 1)) ∧ (¬ (htL ts ≤ g ∧ n + sizeL ts ≤ 100) → (szK ts g n d).2 = 99)
  | [], g, n, d, hg, hd, hd2, hn0, hn => by
    rw [szK, htL, sizeL]
    refine ⟨fun _ => Prod.ext ?_ ?_, fun h => ?_⟩
    · simp
    · simp; omega
    · exact absurd ⟨Nat.zero_le _, by simp; omega⟩ h
  | t :: ts, g, n, d, hg, hd, hd2, hn0, hn => by
    rw [szK, htL, sizeL]
    obtain ⟨h1, h2⟩ := szN_spec t g hg
    by_cases hok : t.ht ≤ g ∧ t.size ≤ 100
    · have e := h1 hok
      rw [e]
      simp only
      by_cases hbig : n + (t.size : Int) > 100 ∨ (t.ht : Int) > 50
      · rw [if_pos hbig]
        exact ⟨fun h => by omega, fun _ => rfl⟩
      · rw [if_neg hbig]
        obtain ⟨h3, h4⟩ := szK_spec ts g (n + t.size) (max d t.ht) hg (by omega) (by omega) (by omega) (by omega)
        refine ⟨fun h => ?_, fun h => h4 (by omega)⟩
        rw [h3 (by omega)]
        refine Prod.ext ?_ ?_
        · simp; omega
        · simp; omega
    · have e := h2 hok
      rw [if_pos (Or.inr (by rw [e]; decide))]
      exact ⟨fun h => absurd ⟨by omega, by omega⟩ hok, fun _ => rfl⟩
end
mutual
theorem walkN_conv : ∀ (t : NT) (s d : Int), 1 ≤ d → 0 ≤ s → s + t.size ≤ 20 → d + t.ht ≤ 5 → walkS inc64 fN s t d = (s + t.size, true)
  | .node k a fl nt kids, s, d, hd, hs, h1, h2 => by
    rw [NT.size] at h1 ⊢
    rw [NT.ht] at h2
    have e : (fN s (.node k a fl nt kids) d).2 = true := by simp [fN]; omega
    rw [walkS, if_pos e, inc64_small (by omega) (by omega)]
    show kidsS inc64 fN (s + 1) kids (d + 1) = _
    rw [kidsN_conv kids (s + 1) (d + 1) (by omega) (by omega) (by omega) (by omega)]
    refine Prod.ext ?_ rfl
    show s + 1 + (sizeL kids : Int) = s + ((1 + sizeL kids : Nat) : Int)
    omega
theorem kidsN_conv : ∀ (ts : List NT) (s d : Int), 1 ≤ d → 0 ≤ s → s + sizeL ts ≤ 20 → d + htL ts ≤ 5 → kidsS inc64 fN s ts d = (s + sizeL ts, true)
  | [], s, d, _, _, _, _ => by rw [kidsS, sizeL]; simp
  | t :: ts, s, d, hd, hs, h1, h2 => by
    rw [sizeL] at h1 ⊢
    rw [htL] at h2
    rw [kidsS, walkN_conv t s d hd hs (by omega) (by omega), if_pos rfl, kidsN_conv ts _ d hd (by simp only; omega) (by simp only; omega) (by omega)]
    refine Prod.ext ?_ rfl
    show s + (t.size : Int) + (sizeL ts : Int) = s + ((t.size + sizeL ts : Nat) : Int)
    omega
end
/-- sized finds what largeB finds. -/
theorem sized_large (t : NT) : ((szN t 4).1 > 20 ∨ (szN t 4).2 > 4) ↔ largeB t = true := by
  obtain ⟨h1, h2⟩ := szN_spec t 4 (by omega)
  by_cases hs : t.size ≤ 20 ∧ t.ht ≤ 4
  · rw [h1 (by omega)]
    have : largeB t = false := by
      unfold largeB
      rw [walkN_conv t 0 1 (by omega) (by omega) (by omega) (by omega)]; rfl
    rw [this]
    simp only [Bool.false_eq_true, iff_false]
    omega
  · have : largeB t = true := by
      cases h : largeB t
      · exact absurd (small_of h) hs
      · rfl
    rw [this]
    simp only [iff_true]
    by_cases hok : t.ht ≤ 4 ∧ t.size ≤ 100
    · rw [h1 hok]; simp only; omega
    · right; rw [h2 hok]; decide
theorem szK_drop {g : Nat} {n d : Int} {ts : List NT} {i : Nat} (h : i < ts.length) : szK (ts.drop i) g n d = if n + (szN ts[i] g).1 > 100 ∨ (szN ts[i] g).2 > 50 then (101, 99) else szK (ts.drop (i + 1)) g (n + (szN ts[i] g).1) (max d (szN ts[i] g).2) := by
  rw [List.drop_eq_getElem_cons h, szK]

set_option maxHeartbeats 1000000 in
set_option maxRecDepth 100000 in
theorem sized_any (S : Nat → Prop) : ∀ (m : Nat) (t : NT), t.size ≤ m → ∀ (g : Nat) (cs : List Value) (w : World), g ≤ 4 → (∀ b, S b → b < w.heap.size) → NeedIs S w t cs →
    Calls Tryz.prog 63 #[.agg cs.toArray, .int .i64 g] w fun e w' => e = .returned (.tuple #[.int .i64 (szN t g).1, .int .i64 (szN t g).2]) ∧ Keep w w' := by
  intro m
  induction m with
  | zero =>
    rintro ⟨k, a, fl, nt, kids⟩ hm
    rw [NT.size] at hm; omega
  | succ m ih =>
    rintro ⟨k, a, fl, nt, kids⟩ hm g cs w hg hS hn
    rw [NT.size] at hm
    rw [NeedIs] at hn
    obtain ⟨kp, kc, rfl, hcap, hmax, hkids⟩ := hn
    have K0 := hid (Keep.alloc w (.cells #[.int .i64 k, .string a.n, .int .i64 a.op, .int .i64 a.v, .int .i64 a.sl, .string a.f, .bool a.on, .string fl, .bool nt, .slice kp kids.length kc] 26))
    have hb0 : Hid (Boxed w.heap.size #[.int .i64 k, .string a.n, .int .i64 a.op, .int .i64 a.v, .int .i64 a.sl, .string a.f, .bool a.on, .string fl, .bool nt, .slice kp kids.length kc] (w.alloc (.cells #[.int .i64 k, .string a.n, .int .i64 a.op, .int .i64 a.v, .int .i64 a.sl, .string a.f, .bool a.on, .string fl, .bool nt, .slice kp kids.length kc] 26))) := Boxed.new w #[.int .i64 k, .string a.n, .int .i64 a.op, .int .i64 a.v, .int .i64 a.sl, .string a.f, .bool a.on, .string fl, .bool nt, .slice kp kids.length kc] 26
    have HK := hid hkids
    have HIH := hid ih
    clear ih hkids
    cases g with
    | zero =>
      go_enter Tryz.func63, Tryz.ntmps63
      go_wp2_with fail
      go_ret2
      exact ⟨rfl, K0.out⟩
    | succ g =>
      have HR : Hid (szN (.node k a fl nt kids) (g + 1) = szK kids g 1 0) := by show _ = _; rw [szN]
      go_enter Tryz.func63, Tryz.ntmps63
      go_upto_region 4 with fail
      generalize w.alloc (.cells #[.int .i64 k, .string a.n, .int .i64 a.op, .int .i64 a.v, .int .i64 a.sl, .string a.f, .bool a.on, .string fl, .bool nt, .slice kp kids.length kc] 26) = W0 at K0 hb0 ⊢
      have hc0 := hb0.out.2
      have hl0 := hb0.out.1
      go_wp2_with fail
      clear hc0
      go_loopg [4, 5, 15] kids.length (fun gk vn vd i wr => ∃ j : Nat, j + gk = kids.length ∧ i = .int .i64 j ∧ ∃ n d : Int, vn = .int .i64 n ∧ vd = .int .i64 d ∧ 0 ≤ n ∧ n ≤ 100 ∧ 0 ≤ d ∧ d ≤ 50 ∧ szK kids g 1 0 = szK (kids.drop j) g n d ∧ Keep w wr)
      case atStart => exact ⟨0, by simp, rfl, 1, 0, rfl, rfl, by decide, by decide, by decide, by decide, by simp, K0.out⟩
      case round =>
        obtain ⟨j, hj, rfl, n, d, rfl, rfl, hn0, hn1, hd0, hd1, heq, hkw⟩ := hrel
        have HEQ := hid heq
        have HKW := hid hkw
        clear heq hkw
        by_cases hlt : j < kids.length
        · obtain ⟨p, cs, hp, hSp, hcell, hneed⟩ := kidsIs_get HK.out j hlt
          have hcr : ∀ q : Addr, S q.block → wr.cell? q = w.cell? q := fun q hq => HKW.out.cell (hS _ hq)
          have hneed' : NeedIs S wr kids[j] cs := NeedIs.mono hcr (fun _ h => h) _ _ hneed
          have HN := hid hneed'
          have hcell' : ∀ m v, cs[m]? = some v → wr.cell? ((p.add (j * 10)).add m) = some v := fun m v hv => by
            rw [hcr _ (by rw [add_block, add_block]; exact hSp)]
            have := hcell m v hv
            rwa [Nat.zero_add] at this
          have hSr : ∀ b, S b → b < wr.heap.size := fun b hb => Nat.lt_of_lt_of_le (hS b hb) HKW.out.size
          have hb := szN_bounds kids[j] g
          have hdr := szK_drop (g := g) (n := n) (d := d) hlt
          have HDR := hid (HEQ.out.trans hdr)
          have hih := HIH.out kids[j] (by have := sizeL_get kids j hlt; omega) g
          clear hcell hneed hcr hdr
          subst hp
          cases hkid : kids[j] with
          | node k' a' fl' nt' kids' =>
          rw [hkid, NeedIs] at hneed'
          obtain ⟨kp', kc', rfl, -, -, -⟩ := hneed'
          obtain ⟨c0, c1, c2, c3, c4, c5, c6, c7, c8, c9⟩ := cells10 hcell'
          clear hcell' hkid
          have K2 := hid (Keep.alloc wr (.cells #[.int .i64 k', .string a'.n, .int .i64 a'.op, .int .i64 a'.v, .int .i64 a'.sl, .string a'.f, .bool a'.on, .string fl', .bool nt', .slice kp' kids'.length kc'] 26))
          have HN2 : Hid (NeedIs S (wr.alloc (.cells #[.int .i64 k', .string a'.n, .int .i64 a'.op, .int .i64 a'.v, .int .i64 a'.sl, .string a'.f, .bool a'.on, .string fl', .bool nt', .slice kp' kids'.length kc'] 26)) kids[j] [.int .i64 k', .string a'.n, .int .i64 a'.op, .int .i64 a'.v, .int .i64 a'.sl, .string a'.f, .bool a'.on, .string fl', .bool nt', .slice kp' kids'.length kc']) := HN.out.keep hSr K2.out
          have HIJ := hid (hih [.int .i64 k', .string a'.n, .int .i64 a'.op, .int .i64 a'.v, .int .i64 a'.sl, .string a'.f, .bool a'.on, .string fl', .bool nt', .slice kp' kids'.length kc'] _ (by omega) (fun b hb => Nat.lt_of_lt_of_le (hSr b hb) K2.out.size) HN2.out)
          clear hih
          generalize szN kids[j] g = r at hb HDR HIJ
          obtain ⟨r1, r2⟩ := r
          simp only at hb
          go_wp2_with fail
          clear c0 c1 c2 c3 c4 c5 c6 c7 c8 c9
          refine HIJ.out.mono ?_
          rintro e w3 ⟨rfl, k3⟩
          have K3 := hid (HKW.out.trans (K2.out.trans k3))
          clear k3
          by_cases hbig : n + r1 > 100
          · have HX : Hid (szK kids g 1 0 = (101, 99)) := by show _ = _; rw [HDR.out, if_pos (Or.inl hbig)]
            go_wp2_with fail
            go_ret2
            exact ⟨by rw [HR.out, HX.out]; rfl, K3.out⟩
          · by_cases hdeep : r2 > 50
            · have HX : Hid (szK kids g 1 0 = (101, 99)) := by show _ = _; rw [HDR.out, if_pos (Or.inr hdeep)]
              go_wp2_with fail
              go_ret2
              exact ⟨by rw [HR.out, HX.out]; rfl, K3.out⟩
            · have HX : Hid (szK kids g 1 0 = szK (kids.drop (j + 1)) g (n + r1) (max d r2)) := by show _ = _; rw [HDR.out, if_neg (by omega)]
              go_wp2_with fail
              go_roundg (kids.length - (j + 1))
              case rel => exact ⟨j + 1, by omega, by go_num, n + r1, max d r2, rfl, rfl, by omega, by omega, by omega, by omega, HX.out, K3.out⟩
              case measure => omega
        · have HX : Hid (szK kids g 1 0 = (n, d + 1)) := by show _ = _; rw [HEQ.out, List.drop_eq_nil_of_le (by omega), szK]
          go_wp2_with fail
          go_ret2
          exact ⟨by rw [HR.out, HX.out]; rfl, HKW.out⟩
end Go.Proofs.YtkckkjpkidcbnaaGreatDoor
/- quartermasterref.SameNeed tells whether two needs that lie in memory are alike. -/
namespace Go.Proofs.YtkckkjpkidcbnaaGreatDoor
open Go.RowKit

theorem take_eq_succ {a b : List NT} {j : Nat} (ha : j < a.length) (hb : j < b.length) : (a.take (j + 1) = b.take (j + 1)) ↔ (a.take j = b.take j ∧ a[j] = b[j]) := by
  rw [List.take_succ_eq_append_getElem ha, List.take_succ_eq_append_getElem hb]
  constructor
  · intro h
    have := List.append_inj h (by simp; omega)
    exact ⟨this.1, by simpa using this.2⟩
  · rintro ⟨h1, h2⟩
    rw [h1, h2]
theorem node_eq {k1 : Int} {a1 : At} {fl1 : ByteArray} {nt1 : Bool} {ks1 : List NT} {k2 : Int} {a2 : At} {fl2 : ByteArray} {nt2 : Bool} {ks2 : List NT} : (NT.node k1 a1 fl1 nt1 ks1 = .node k2 a2 fl2 nt2 ks2) ↔ (headB2 k1 a1 fl1 nt1 ks1.length k2 a2 fl2 nt2 ks2.length = true ∧ ks1 = ks2) := by
  constructor
  · intro h
    injection h with h1 h2 h3 h4 h5
    subst h5
    exact ⟨headB2_true.2 ⟨h1, h2, h3, h4, rfl⟩, rfl⟩
  · rintro ⟨h, rfl⟩
    obtain ⟨rfl, rfl, rfl, rfl, -⟩ := headB2_true.1 h
    rfl

set_option maxHeartbeats 2000000 in
set_option maxRecDepth 100000 in
theorem refSame_any (S : Nat → Prop) : ∀ (m : Nat) (t : NT), t.size ≤ m → ∀ (u : NT) (cs1 cs2 : List Value) (w : World), (∀ b, S b → b < w.heap.size) → NeedIs S w t cs1 → NeedIs S w u cs2 →
    Calls Tryz.prog 17 #[.agg cs1.toArray, .agg cs2.toArray] w fun e w' => (∃ b : Bool, e = .returned (.bool b) ∧ (b = true ↔ t = u)) ∧ Keep w w' := by
  intro m
  induction m with
  | zero =>
    rintro ⟨k, a, fl, nt, kids⟩ hm
    rw [NT.size] at hm; omega
  | succ m ih =>
    rintro ⟨k1, a1, fl1, nt1, ks1⟩ hm ⟨k2, a2, fl2, nt2, ks2⟩ cs1 cs2 w hS hn1 hn2
    rw [NT.size] at hm
    rw [NeedIs] at hn1 hn2
    obtain ⟨kp1, kc1, rfl, hcap1, hmax1, hk1⟩ := hn1
    obtain ⟨kp2, kc2, rfl, hcap2, hmax2, hk2⟩ := hn2
    have HK1 := hid hk1
    have HK2 := hid hk2
    have HIH := hid ih
    have K0 := hid ((Keep.alloc w (.cells #[.int .i64 k1, .string a1.n, .int .i64 a1.op, .int .i64 a1.v, .int .i64 a1.sl, .string a1.f, .bool a1.on, .string fl1, .bool nt1, .slice kp1 ks1.length kc1] 26)).alloc' (.cells #[.int .i64 k2, .string a2.n, .int .i64 a2.op, .int .i64 a2.v, .int .i64 a2.sl, .string a2.f, .bool a2.on, .string fl2, .bool nt2, .slice kp2 ks2.length kc2] 26))
    have b10 := NBox.new w #[.int .i64 k1, .string a1.n, .int .i64 a1.op, .int .i64 a1.v, .int .i64 a1.sl, .string a1.f, .bool a1.on, .string fl1, .bool nt1, .slice kp1 ks1.length kc1]
    have B1 := hid (b10.keep (Keep.alloc (w.alloc (.cells #[.int .i64 k1, .string a1.n, .int .i64 a1.op, .int .i64 a1.v, .int .i64 a1.sl, .string a1.f, .bool a1.on, .string fl1, .bool nt1, .slice kp1 ks1.length kc1] 26)) (.cells #[.int .i64 k2, .string a2.n, .int .i64 a2.op, .int .i64 a2.v, .int .i64 a2.sl, .string a2.f, .bool a2.on, .string fl2, .bool nt2, .slice kp2 ks2.length kc2] 26)) b10.facts.2.2)
    have b20 := NBox.new (w.alloc (.cells #[.int .i64 k1, .string a1.n, .int .i64 a1.op, .int .i64 a1.v, .int .i64 a1.sl, .string a1.f, .bool a1.on, .string fl1, .bool nt1, .slice kp1 ks1.length kc1] 26)) #[.int .i64 k2, .string a2.n, .int .i64 a2.op, .int .i64 a2.v, .int .i64 a2.sl, .string a2.f, .bool a2.on, .string fl2, .bool nt2, .slice kp2 ks2.length kc2]
    rw [alloc_size] at b20
    have B2 := hid b20
    have heq := fun wx => eqAtom a1.n a1.op a1.v a1.sl a1.f a1.on a2.n a2.op a2.v a2.sl a2.f a2.on wx
    have hat : sameB a1.n a1.op a1.v a1.sl a1.f a1.on a2.n a2.op a2.v a2.sl a2.f a2.on = atB a1 a2 := rfl
    rw [hat] at heq
    have HD : Hid (headB2 k1 a1 fl1 nt1 ks1.length k2 a2 fl2 nt2 ks2.length = ((k1 == k2) && (atB a1 a2 && ((fl1.toList == fl2.toList) && ((nt1 == nt2) && ((ks1.length : Int) == (ks2.length : Int))))))) := rfl
    have HNE : Hid (∀ w', headB2 k1 a1 fl1 nt1 ks1.length k2 a2 fl2 nt2 ks2.length = false → Keep w w' → (∃ b : Bool, Ending.returned (.bool false) = .returned (.bool b) ∧ (b = true ↔ NT.node k1 a1 fl1 nt1 ks1 = .node k2 a2 fl2 nt2 ks2)) ∧ Keep w w') := fun w' h k => ⟨⟨false, rfl, by rw [node_eq, h]; simp⟩, k⟩
    clear hat ih hk1 hk2 b10 b20
    go_enter Tryz.func17, Tryz.ntmps17
    go_upto_region 1 with fail
    generalize (w.alloc (.cells #[.int .i64 k1, .string a1.n, .int .i64 a1.op, .int .i64 a1.v, .int .i64 a1.sl, .string a1.f, .bool a1.on, .string fl1, .bool nt1, .slice kp1 ks1.length kc1] 26)).alloc (.cells #[.int .i64 k2, .string a2.n, .int .i64 a2.op, .int .i64 a2.v, .int .i64 a2.sl, .string a2.f, .bool a2.on, .string fl2, .bool nt2, .slice kp2 ks2.length kc2] 26) = W0 at K0 B1 B2 ⊢
    obtain ⟨hc1, -, hl1⟩ := B1.out.facts
    obtain ⟨hc2, -, hl2⟩ := B2.out.facts
    cases h1 : (k1 == k2)
    · have h1n : (k1 != k2) = true := by rw [bne, h1]; rfl
      rw [h1] at HD
      go_wp2_with fail
      go_ret
      exact HNE.out _ HD.out K0.out
    · have h1n : (k1 != k2) = false := by rw [bne, h1]; rfl
      cases h2 : atB a1 a2
      · rw [h1, h2] at HD
        rw [h2] at heq
        go_wp2_with fail
        go_ret
        exact HNE.out _ HD.out K0.out
      · rw [h2] at heq
        cases h3 : (fl1.toList == fl2.toList)
        · have h3n : (fl1.toList != fl2.toList) = true := by rw [bne, h3]; rfl
          rw [h1, h2, h3] at HD
          go_wp2_with fail
          go_ret
          exact HNE.out _ HD.out K0.out
        · have h3n : (fl1.toList != fl2.toList) = false := by rw [bne, h3]; rfl
          cases h4 : (nt1 == nt2)
          · have h4n : (nt1 != nt2) = true := by rw [bne, h4]; rfl
            rw [h1, h2, h3, h4] at HD
            go_wp2_with fail
            go_ret
            exact HNE.out _ HD.out K0.out
          · have h4n : (nt1 != nt2) = false := by rw [bne, h4]; rfl
            cases h5 : ((ks1.length : Int) == (ks2.length : Int))
            · have h5n : ((ks1.length : Int) != (ks2.length : Int)) = true := by rw [bne, h5]; rfl
              rw [h1, h2, h3, h4, h5] at HD
              go_wp2_with fail
              go_ret
              exact HNE.out _ HD.out K0.out
            · have h5n : ((ks1.length : Int) != (ks2.length : Int)) = false := by rw [bne, h5]; rfl
              have hlen : ks1.length = ks2.length := by have := beq_iff_eq.1 h5; omega
              have HLEN := hid hlen
              rw [h1, h2, h3, h4, h5] at HD
              have HEQ : Hid (NT.node k1 a1 fl1 nt1 ks1 = .node k2 a2 fl2 nt2 ks2 ↔ ks1 = ks2) := by
                show _ ↔ _
                rw [node_eq, HD.out]; simp
              clear hlen h5
              go_wp2_with fail
              clear hc1 hc2 heq h1 h1n h2 h3 h3n h4 h4n h5n
              go_loopg [44] ks1.length (fun gk i wr => ∃ j : Nat, j + gk = ks1.length ∧ i = .int .i64 j ∧ ks1.take j = ks2.take j ∧ NBox w.heap.size #[.int .i64 k1, .string a1.n, .int .i64 a1.op, .int .i64 a1.v, .int .i64 a1.sl, .string a1.f, .bool a1.on, .string fl1, .bool nt1, .slice kp1 ks1.length kc1] wr ∧ NBox (w.heap.size + 1) #[.int .i64 k2, .string a2.n, .int .i64 a2.op, .int .i64 a2.v, .int .i64 a2.sl, .string a2.f, .bool a2.on, .string fl2, .bool nt2, .slice kp2 ks2.length kc2] wr ∧ Keep w wr)
              case atStart => exact ⟨0, by simp, rfl, by simp, B1.out, B2.out, K0.out⟩
              case round =>
                obtain ⟨j, hj, rfl, htk, hb1, hb2, hkw⟩ := hrel
                have HTK := hid htk
                have HB1 := hid hb1
                have HB2 := hid hb2
                have HKW := hid hkw
                obtain ⟨hc1, -, hl1b⟩ := hb1.facts
                obtain ⟨hc2, -, hl2b⟩ := hb2.facts
                clear htk hb1 hb2 hkw B1 B2 K0
                by_cases hlt : j < ks1.length
                · have hlt2 : j < ks2.length := by have := HLEN.out; omega
                  obtain ⟨p3, d3, hp3, hs3, hcell3, hneed3⟩ := kidsIs_get HK1.out j hlt
                  obtain ⟨p4, d4, hp4, hs4, hcell4, hneed4⟩ := kidsIs_get HK2.out j hlt2
                  subst hp3
                  subst hp4
                  rw [Nat.zero_add] at hcell3 hcell4
                  have HN3 := hid hneed3
                  have HN4 := hid hneed4
                  have HSU := hid (take_eq_succ hlt hlt2)
                  have hih := HIH.out ks1[j] (by have := sizeL_get ks1 j hlt; omega) ks2[j]
                  cases hkid3 : ks1[j] with
                  | node k5 a5 fl5 nt5 ks5 =>
                  cases hkid4 : ks2[j] with
                  | node k6 a6 fl6 nt6 ks6 =>
                  rw [hkid3, NeedIs] at hneed3
                  rw [hkid4, NeedIs] at hneed4
                  obtain ⟨kp5, kc5, rfl, -, -, -⟩ := hneed3
                  obtain ⟨kp6, kc6, rfl, -, -, -⟩ := hneed4
                  have hcell3' : ∀ m v, ([.int .i64 k5, .string a5.n, .int .i64 a5.op, .int .i64 a5.v, .int .i64 a5.sl, .string a5.f, .bool a5.on, .string fl5, .bool nt5, .slice kp5 ks5.length kc5] : List Value)[m]? = some v → wr.cell? ((p3.add (j * 10)).add m) = some v := fun m v hv => (HKW.out.cell (by rw [add_block, add_block]; exact hS _ hs3)).trans (hcell3 m v hv)
                  have hcell4' : ∀ m v, ([.int .i64 k6, .string a6.n, .int .i64 a6.op, .int .i64 a6.v, .int .i64 a6.sl, .string a6.f, .bool a6.on, .string fl6, .bool nt6, .slice kp6 ks6.length kc6] : List Value)[m]? = some v → wr.cell? ((p4.add (j * 10)).add m) = some v := fun m v hv => (HKW.out.cell (by rw [add_block, add_block]; exact hS _ hs4)).trans (hcell4 m v hv)
                  obtain ⟨c0, c1, c2, c3, c4, c5, c6, c7, c8, c9⟩ := cells10 hcell3'
                  obtain ⟨d0, d1, d2, d3, d4, d5, d6, d7, d8, d9⟩ := cells10 hcell4'
                  have HIJ : Hid (∀ W, Keep w W → Calls Tryz.prog 17 #[.agg #[.int .i64 k5, .string a5.n, .int .i64 a5.op, .int .i64 a5.v, .int .i64 a5.sl, .string a5.f, .bool a5.on, .string fl5, .bool nt5, .slice kp5 ks5.length kc5], .agg #[.int .i64 k6, .string a6.n, .int .i64 a6.op, .int .i64 a6.v, .int .i64 a6.sl, .string a6.f, .bool a6.on, .string fl6, .bool nt6, .slice kp6 ks6.length kc6]] W fun e w' => (∃ b : Bool, e = .returned (.bool b) ∧ (b = true ↔ ks1[j] = ks2[j])) ∧ Keep W w') := fun W hk => hih [.int .i64 k5, .string a5.n, .int .i64 a5.op, .int .i64 a5.v, .int .i64 a5.sl, .string a5.f, .bool a5.on, .string fl5, .bool nt5, .slice kp5 ks5.length kc5] [.int .i64 k6, .string a6.n, .int .i64 a6.op, .int .i64 a6.v, .int .i64 a6.sl, .string a6.f, .bool a6.on, .string fl6, .bool nt6, .slice kp6 ks6.length kc6] W (fun b hb => Nat.lt_of_lt_of_le (hS b hb) hk.size) (HN3.out.keep hS hk) (HN4.out.keep hS hk)
                  clear hcell3 hcell4 hcell3' hcell4' hkid3 hkid4 hih
                  go_upto_region 6 with fail
                  go_region_with (go_at_call 17; refine (HIJ.out _ (by first | exact HKW.out | exact HKW.out.drew)).mono ?_; rintro e w5 ⟨⟨b5, rfl, hb5⟩, k5⟩)
                  all_goals
                    have K5 := hid (HKW.out.trans (keep_undrew k5))
                    have N1 := hid (HB1.out.keep (keep_undrew k5) HB1.out.facts.2.2)
                    have N2 := hid (HB2.out.keep (keep_undrew k5) HB2.out.facts.2.2)
                    have HBT : Hid (b5 = true → ks1.take (j + 1) = ks2.take (j + 1)) := fun h => HSU.out.2 ⟨HTK.out, hb5.1 h⟩
                    have HBF : Hid (b5 = false → ¬ ks1 = ks2) := fun h e => by
                      have : b5 = true := hb5.2 (by subst e; rfl)
                      rw [h] at this; cases this
                    clear hb5 k5 hc1 hc2 c0 c1 c2 c3 c4 c5 c6 c7 c8 c9 d0 d1 d2 d3 d4 d5 d6 d7 d8 d9
                    cases b5
                    · have HNF := hid (HBF.out rfl)
                      clear HBT HBF
                      go_wp2_with fail
                      go_ret
                      exact ⟨⟨false, rfl, by simp only [Bool.false_eq_true, false_iff]; exact fun e => HNF.out (HEQ.out.1 e)⟩, K5.out⟩
                    · have HTF := hid (HBT.out rfl)
                      clear HBT HBF
                      go_wp2_with fail
                      go_roundg (ks1.length - (j + 1))
                      case measure => omega
                      case rel => exact ⟨j + 1, by omega, by go_num, HTF.out, N1.out, N2.out, K5.out⟩
                · have hj2 : j = ks1.length := by omega
                  have HFIN : Hid (ks1 = ks2) := by
                    have := HTK.out
                    rw [hj2, List.take_length, HLEN.out, List.take_length] at this
                    exact this
                  go_wp2_with fail
                  go_ret
                  exact ⟨⟨true, rfl, by simp only [true_iff]; exact HEQ.out.2 HFIN.out⟩, HKW.out⟩
end Go.Proofs.YtkckkjpkidcbnaaGreatDoor
