/- quartermasterref.NeedText writes a right need as its text. -/
import Derived.Test.YtkckkjpkidcbnaaGreatDoorRefCheckNeed
import Derived.Test.YtkckkjpkidcbnaaGreatDoorRefText
namespace Go.Proofs.YtkckkjpkidcbnaaGreatDoor
open Go.RowKit

theorem join_app : ∀ (a b : List Word), a ≠ [] → b ≠ [] → Lib.join (a ++ b) [32] = Lib.join a [32] ++ 32 :: Lib.join b [32]
  | [], _, h, _ => absurd rfl h
  | [x], b, _, hb => by
    cases b with
    | nil => exact absurd rfl hb
    | cons y r => rw [List.singleton_append, jn_cons, jn_one]
  | x :: y :: r, b, _, hb => by
    have ih := join_app (y :: r) b (by simp) hb
    rw [List.cons_append, List.cons_append, jn_cons, ← List.cons_append, ih, jn_cons]
    simp
theorem words_ne (t : NT) : t.words ≠ [] := by
  obtain ⟨x, r, e⟩ := words_pos t
  rw [e]; simp
/-- The texts of kids, a blank ahead of each. -/
def tailL : List NT → List UInt8
  | [] => []
  | t :: ts => 32 :: t.text ++ tailL ts
theorem tailL_app : ∀ a b : List NT, tailL (a ++ b) = tailL a ++ tailL b
  | [], b => rfl
  | t :: a, b => by rw [List.cons_append, tailL, tailL, tailL_app a b]; simp
theorem join_kids : ∀ (kids : List NT) (pre : List Word), pre ≠ [] → Lib.join (pre ++ (wordsL kids ++ [[41]])) [32] = Lib.join pre [32] ++ (tailL kids ++ [32, 41])
  | [], pre, h => by
    rw [wordsL, List.nil_append, join_app _ _ h (by simp), jn_one]; rfl
  | t :: ts, pre, h => by
    rw [wordsL, List.append_assoc, ← List.append_assoc, join_kids ts (pre ++ t.words) (by simp [h]), join_app _ _ h (words_ne t), tailL]
    simp [NT.text]
theorem text_group (P : List Word) (kids : List NT) : Lib.join (P ++ ([40] :: (wordsL kids ++ [[41]]))) [32] = Lib.join (P ++ [[40]]) [32] ++ (tailL kids ++ [32, 41]) := by
  rw [← join_kids kids (P ++ [[40]]) (by simp)]
  simp
theorem tailL_len : ∀ kids : List NT, okL kids → (tailL kids).length ≤ 111 * sizeL kids
  | [], _ => Nat.zero_le _
  | t :: ts, h => by
    rw [okL] at h
    have h1 := tailL_len ts h.2
    have h2 := (lenW_words t h.1).1
    have h3 := join_len t.words
    have h4 := size_pos t
    rw [tailL, sizeL, List.length_append, List.length_cons]
    show (Lib.join t.words [32]).length + 1 + _ ≤ _
    omega
theorem take_len (kids : List NT) (j : Nat) (h : okL kids) : (tailL (kids.take j)).length ≤ 111 * sizeL kids := by
  have h1 := tailL_len kids h
  have e : tailL kids = tailL (kids.take j) ++ tailL (kids.drop j) := by rw [← tailL_app, List.take_append_drop]
  rw [e, List.length_append] at h1
  omega
theorem text_len2 (t : NT) (h : t.ok) : t.text.length ≤ 110 * t.size := by
  have h2 := (lenW_words t h).1
  have h3 := join_len t.words
  unfold NT.text; omega
theorem ret_text {s : ByteArray} {l : List UInt8} (h : s.data.toList = l) : Ending.returned (.string s) = .returned (.string ⟨l.toArray⟩) := by rw [← h, bytes_back]

set_option maxHeartbeats 4000000 in
set_option maxRecDepth 100000 in
theorem refNeedText_any (S : Nat → Prop) : ∀ (m : Nat) (t : NT), t.size ≤ m → ∀ (cs : List Value) (w : World), t.ok → t.size ≤ 1000 → (∀ b, S b → b < w.heap.size) → Env w → NeedIs S w t cs →
    Calls Tryz.prog 18 #[.agg cs.toArray] w fun e w' => e = .returned (.string ⟨t.text.toArray⟩) ∧ Keep w w' := by
  intro m
  induction m with
  | zero =>
    rintro ⟨k, a, fl, nt, kids⟩ hm
    rw [NT.size] at hm; omega
  | succ m ih =>
    rintro ⟨k, a, fl, nt, kids⟩ hm cs w hok hsz hS hE hn
    rw [NT.size] at hm hsz
    rw [NT.ok] at hok
    rw [NeedIs] at hn
    obtain ⟨kp, kc, rfl, hcap, hmax, hkids⟩ := hn
    have HK := hid hkids
    have HIH := hid ih
    have HE := hid hE
    have HOK := hid hok.2
    have K0 := hid (Keep.alloc w (.cells #[.int .i64 k, .string a.n, .int .i64 a.op, .int .i64 a.v, .int .i64 a.sl, .string a.f, .bool a.on, .string fl, .bool nt, .slice kp kids.length kc] 26))
    have HB0 : Hid (Boxed w.heap.size #[.int .i64 k, .string a.n, .int .i64 a.op, .int .i64 a.v, .int .i64 a.sl, .string a.f, .bool a.on, .string fl, .bool nt, .slice kp kids.length kc] (w.alloc (.cells #[.int .i64 k, .string a.n, .int .i64 a.op, .int .i64 a.v, .int .i64 a.sl, .string a.f, .bool a.on, .string fl, .bool nt, .slice kp kids.length kc] 26))) := Boxed.new w #[.int .i64 k, .string a.n, .int .i64 a.op, .int .i64 a.v, .int .i64 a.sl, .string a.f, .bool a.on, .string fl, .bool nt, .slice kp kids.length kc] 26
    have htl := fun j => take_len kids j hok.2
    have HTL := hid htl
    have hnode := nodeE_zero hok.1
    clear ih hkids hE hok htl
    go_enter Tryz.func18, Tryz.ntmps18
    go_upto_region 2 with fail
    generalize w.alloc (.cells #[.int .i64 k, .string a.n, .int .i64 a.op, .int .i64 a.v, .int .i64 a.sl, .string a.f, .bool a.on, .string fl, .bool nt, .slice kp kids.length kc] 26) = W0 at K0 HB0 ⊢
    have hc0 := HB0.out.2
    have hl0 := HB0.out.1
    rcases hnode with ⟨rfl | rfl, rfl, rfl, rfl, ha⟩ | ⟨rfl | rfl, rfl, rfl, rfl⟩ | ⟨rfl, rfl, hname⟩
    · have HT : Hid ((NT.node 1 a ⟨#[]⟩ false []).text = textA a) := by show _ = _; rw [NT.text, NT.words, if_pos rfl, jn_one]
      have HA := hid ha
      clear ha
      go_wp2_with fail
      refine (refText_ok _ _ _ _ _ _ W0 HA.out).mono ?_
      rintro e w1 ⟨⟨tx, rfl, htx⟩, k1⟩
      have HTX : Hid (tx.data.toList = textA a) := htx
      have hts : tx.size ≤ 100 := by
        have := text_len HA.out
        rw [← size_list, htx]; exact this
      have K1 := hid (K0.out.trans k1)
      clear htx k1
      go_wp2_with fail
      go_ret
      exact ⟨ret_text (by rw [HTX.out, HT.out]), K1.out⟩
    · have HT : Hid ((NT.node 2 a ⟨#[]⟩ false []).text = 33 :: textA a) := by show _ = _; rw [NT.text, NT.words, if_neg (by decide), if_pos rfl, jn_one]
      have HA := hid ha
      clear ha
      go_wp2_with fail
      refine (refText_ok _ _ _ _ _ _ W0 HA.out).mono ?_
      rintro e w1 ⟨⟨tx, rfl, htx⟩, k1⟩
      have HTX : Hid (tx.data.toList = textA a) := htx
      have hts : tx.size ≤ 100 := by
        have := text_len HA.out
        rw [← size_list, htx]; exact this
      have K1 := hid (K0.out.trans k1)
      clear htx k1
      go_wp2_with fail
      go_ret
      exact ⟨ret_text (by rw [app_bytes, HTX.out, HT.out]; rfl), K1.out⟩
    · have HT : Hid ((NT.node 3 At.zero ⟨#[]⟩ false kids).text = [40] ++ (tailL kids ++ [32, 41])) := by
        show _ = _
        rw [NT.text, NT.words, if_neg (by decide), if_neg (by decide), if_neg (by decide), if_neg (by decide), text_group [] kids]; rfl
      go_wp2_with fail
      clear hc0
      go_loopg [3, 33] kids.length (fun gk sv i wr => ∃ j : Nat, j + gk = kids.length ∧ i = .int .i64 j ∧ ∃ sx : ByteArray, sv = .string sx ∧ sx.data.toList = [40] ++ tailL (kids.take j) ∧ Keep w wr)
      case atStart => exact ⟨0, by simp, rfl, ⟨#[40]⟩, rfl, by simp [tailL], K0.out⟩
      case round =>
        obtain ⟨j, hj, rfl, sx, rfl, hsx, hkw⟩ := hrel
        have HSX := hid hsx
        have HKW := hid hkw
        have hpl : ([40] : List UInt8).length ≤ 20 := by simp
        have hxs : sx.size ≤ 200000 := by
          have h1 := HTL.out j
          have h2 := congrArg List.length hsx
          rw [size_list, List.length_append] at h2
          omega
        clear hsx hkw HB0
        by_cases hlt : j < kids.length
        · obtain ⟨p, cs, hp, hSp, hcell, hneed⟩ := kidsIs_get HK.out j hlt
          have HN := hid hneed
          have hsk := sizeL_get kids j hlt
          have HOJ := hid (okL_get HOK.out j hlt)
          have hkt := text_len2 kids[j] HOJ.out
          have hih := HIH.out kids[j] (by omega)
          have HTK : Hid (tailL (kids.take (j + 1)) = tailL (kids.take j) ++ (32 :: kids[j].text)) := by
            show _ = _
            rw [List.take_succ_eq_append_getElem hlt, tailL_app]
            simp [tailL]
          subst hp
          rw [Nat.zero_add] at hcell
          cases hkid : kids[j] with
          | node k' a' fl' nt' kids' =>
          rw [hkid, NeedIs] at hneed
          obtain ⟨kp', kc', rfl, -, -, -⟩ := hneed
          have hcell' : ∀ m v, ([.int .i64 k', .string a'.n, .int .i64 a'.op, .int .i64 a'.v, .int .i64 a'.sl, .string a'.f, .bool a'.on, .string fl', .bool nt', .slice kp' kids'.length kc'] : List Value)[m]? = some v → wr.cell? ((p.add (j * 10)).add m) = some v := fun m v hv => (HKW.out.cell (by rw [add_block, add_block]; exact hS _ hSp)).trans (hcell m v hv)
          obtain ⟨c0, c1, c2, c3, c4, c5, c6, c7, c8, c9⟩ := cells10 hcell'
          clear hcell hcell' hkid
          have K2 := hid (HKW.out.alloc' (.cells #[.int .i64 k', .string a'.n, .int .i64 a'.op, .int .i64 a'.v, .int .i64 a'.sl, .string a'.f, .bool a'.on, .string fl', .bool nt', .slice kp' kids'.length kc'] 26))
          have HIJ := hid (hih [.int .i64 k', .string a'.n, .int .i64 a'.op, .int .i64 a'.v, .int .i64 a'.sl, .string a'.f, .bool a'.on, .string fl', .bool nt', .slice kp' kids'.length kc'] _ HOJ.out (by omega) (fun b hb => Nat.lt_of_lt_of_le (hS b hb) K2.out.size) (HE.out.keep K2.out) (HN.out.keep hS K2.out))
          clear hih
          have htx : Hid ((⟨kids[j].text.toArray⟩ : ByteArray).data.toList = kids[j].text) := by show _ = _; simp
          have hts : (⟨kids[j].text.toArray⟩ : ByteArray).size ≤ 200000 := by rw [mk_size]; omega
          generalize (⟨kids[j].text.toArray⟩ : ByteArray) = tx at HIJ htx hts
          clear hkt
          go_wp2_with fail
          clear c0 c1 c2 c3 c4 c5 c6 c7 c8 c9
          refine HIJ.out.mono ?_
          rintro e w3 ⟨rfl, k3⟩
          have K3 := hid (K2.out.trans k3)
          have hz1 : (⟨#[32]⟩ ++ tx : ByteArray).size ≤ 200001 := by
            rw [ByteArray.size_append]
            have : (⟨#[32]⟩ : ByteArray).size = 1 := rfl
            omega
          have HD : Hid ((sx ++ (⟨#[32]⟩ ++ tx)).data.toList = [40] ++ tailL (kids.take (j + 1))) := by
            show _ = _
            rw [app_bytes, app_bytes, HSX.out, htx.out, HTK.out]; simp
          clear k3
          go_wp2_with fail
          go_roundg (kids.length - (j + 1))
          case measure => omega
          case rel => exact ⟨j + 1, by omega, by go_num, _, rfl, HD.out, K3.out⟩
        · have HFIN : Hid ((sx ++ ⟨#[32, 41]⟩).data.toList = (NT.node 3 At.zero ⟨#[]⟩ false kids).text) := by
            show _ = _
            rw [app_bytes, HSX.out, HT.out, List.take_of_length_le (by omega), List.append_assoc]
          go_wp2_with fail
          go_ret
          exact ⟨ret_text HFIN.out, HKW.out⟩
    · have HT : Hid ((NT.node 4 At.zero ⟨#[]⟩ false kids).text = [124, 124, 32, 40] ++ (tailL kids ++ [32, 41])) := by
        show _ = _
        rw [NT.text, NT.words, if_neg (by decide), if_neg (by decide), if_pos rfl, text_group [[124, 124]] kids]; rfl
      go_wp2_with fail
      clear hc0
      go_loopg [3, 33] kids.length (fun gk sv i wr => ∃ j : Nat, j + gk = kids.length ∧ i = .int .i64 j ∧ ∃ sx : ByteArray, sv = .string sx ∧ sx.data.toList = [124, 124, 32, 40] ++ tailL (kids.take j) ∧ Keep w wr)
      case atStart => exact ⟨0, by simp, rfl, ⟨#[124, 124, 32, 40]⟩, rfl, by simp [tailL], K0.out⟩
      case round =>
        obtain ⟨j, hj, rfl, sx, rfl, hsx, hkw⟩ := hrel
        have HSX := hid hsx
        have HKW := hid hkw
        have hpl : ([124, 124, 32, 40] : List UInt8).length ≤ 20 := by simp
        have hxs : sx.size ≤ 200000 := by
          have h1 := HTL.out j
          have h2 := congrArg List.length hsx
          rw [size_list, List.length_append] at h2
          omega
        clear hsx hkw HB0
        by_cases hlt : j < kids.length
        · obtain ⟨p, cs, hp, hSp, hcell, hneed⟩ := kidsIs_get HK.out j hlt
          have HN := hid hneed
          have hsk := sizeL_get kids j hlt
          have HOJ := hid (okL_get HOK.out j hlt)
          have hkt := text_len2 kids[j] HOJ.out
          have hih := HIH.out kids[j] (by omega)
          have HTK : Hid (tailL (kids.take (j + 1)) = tailL (kids.take j) ++ (32 :: kids[j].text)) := by
            show _ = _
            rw [List.take_succ_eq_append_getElem hlt, tailL_app]
            simp [tailL]
          subst hp
          rw [Nat.zero_add] at hcell
          cases hkid : kids[j] with
          | node k' a' fl' nt' kids' =>
          rw [hkid, NeedIs] at hneed
          obtain ⟨kp', kc', rfl, -, -, -⟩ := hneed
          have hcell' : ∀ m v, ([.int .i64 k', .string a'.n, .int .i64 a'.op, .int .i64 a'.v, .int .i64 a'.sl, .string a'.f, .bool a'.on, .string fl', .bool nt', .slice kp' kids'.length kc'] : List Value)[m]? = some v → wr.cell? ((p.add (j * 10)).add m) = some v := fun m v hv => (HKW.out.cell (by rw [add_block, add_block]; exact hS _ hSp)).trans (hcell m v hv)
          obtain ⟨c0, c1, c2, c3, c4, c5, c6, c7, c8, c9⟩ := cells10 hcell'
          clear hcell hcell' hkid
          have K2 := hid (HKW.out.alloc' (.cells #[.int .i64 k', .string a'.n, .int .i64 a'.op, .int .i64 a'.v, .int .i64 a'.sl, .string a'.f, .bool a'.on, .string fl', .bool nt', .slice kp' kids'.length kc'] 26))
          have HIJ := hid (hih [.int .i64 k', .string a'.n, .int .i64 a'.op, .int .i64 a'.v, .int .i64 a'.sl, .string a'.f, .bool a'.on, .string fl', .bool nt', .slice kp' kids'.length kc'] _ HOJ.out (by omega) (fun b hb => Nat.lt_of_lt_of_le (hS b hb) K2.out.size) (HE.out.keep K2.out) (HN.out.keep hS K2.out))
          clear hih
          have htx : Hid ((⟨kids[j].text.toArray⟩ : ByteArray).data.toList = kids[j].text) := by show _ = _; simp
          have hts : (⟨kids[j].text.toArray⟩ : ByteArray).size ≤ 200000 := by rw [mk_size]; omega
          generalize (⟨kids[j].text.toArray⟩ : ByteArray) = tx at HIJ htx hts
          clear hkt
          go_wp2_with fail
          clear c0 c1 c2 c3 c4 c5 c6 c7 c8 c9
          refine HIJ.out.mono ?_
          rintro e w3 ⟨rfl, k3⟩
          have K3 := hid (K2.out.trans k3)
          have hz1 : (⟨#[32]⟩ ++ tx : ByteArray).size ≤ 200001 := by
            rw [ByteArray.size_append]
            have : (⟨#[32]⟩ : ByteArray).size = 1 := rfl
            omega
          have HD : Hid ((sx ++ (⟨#[32]⟩ ++ tx)).data.toList = [124, 124, 32, 40] ++ tailL (kids.take (j + 1))) := by
            show _ = _
            rw [app_bytes, app_bytes, HSX.out, htx.out, HTK.out]; simp
          clear k3
          go_wp2_with fail
          go_roundg (kids.length - (j + 1))
          case measure => omega
          case rel => exact ⟨j + 1, by omega, by go_num, _, rfl, HD.out, K3.out⟩
        · have HFIN : Hid ((sx ++ ⟨#[32, 41]⟩).data.toList = (NT.node 4 At.zero ⟨#[]⟩ false kids).text) := by
            show _ = _
            rw [app_bytes, HSX.out, HT.out, List.take_of_length_le (by omega), List.append_assoc]
          go_wp2_with fail
          go_ret
          exact ⟨ret_text HFIN.out, HKW.out⟩
    · have HNM := hid hname
      have hfs : fl.size ≤ 8 := by have := nameB_le hname; rw [size_list] at this; exact this
      have hz5 : (fl ++ ⟨#[63, 32, 40]⟩ : ByteArray).size ≤ 11 := by
        rw [ByteArray.size_append]
        have : (⟨#[63, 32, 40]⟩ : ByteArray).size = 3 := rfl
        omega
      clear hname
      cases nt
      · have HT : Hid ((NT.node 5 At.zero fl false kids).text = (fl.data.toList ++ [63, 32, 40]) ++ (tailL kids ++ [32, 41])) := by
          show _ = _
          rw [NT.text, NT.words, if_neg (by decide), if_neg (by decide), if_neg (by decide), if_pos rfl, text_group _ kids]
          simp [jn_cons, jn_one]
        go_wp2_with fail
        clear hc0
        go_loopg [3, 33] kids.length (fun gk sv i wr => ∃ j : Nat, j + gk = kids.length ∧ i = .int .i64 j ∧ ∃ sx : ByteArray, sv = .string sx ∧ sx.data.toList = (fl.data.toList ++ [63, 32, 40]) ++ tailL (kids.take j) ∧ Keep w wr)
        case atStart => exact ⟨0, by simp, rfl, fl ++ ⟨#[63, 32, 40]⟩, rfl, by simp [tailL], K0.out⟩
        case round =>
          obtain ⟨j, hj, rfl, sx, rfl, hsx, hkw⟩ := hrel
          have HSX := hid hsx
          have HKW := hid hkw
          have hpl : ((fl.data.toList ++ [63, 32, 40]) : List UInt8).length ≤ 20 := by have := nameB_le HNM.out; simp; omega
          have hxs : sx.size ≤ 200000 := by
            have h1 := HTL.out j
            have h2 := congrArg List.length hsx
            rw [size_list, List.length_append] at h2
            omega
          clear hsx hkw HB0
          by_cases hlt : j < kids.length
          · obtain ⟨p, cs, hp, hSp, hcell, hneed⟩ := kidsIs_get HK.out j hlt
            have HN := hid hneed
            have hsk := sizeL_get kids j hlt
            have HOJ := hid (okL_get HOK.out j hlt)
            have hkt := text_len2 kids[j] HOJ.out
            have hih := HIH.out kids[j] (by omega)
            have HTK : Hid (tailL (kids.take (j + 1)) = tailL (kids.take j) ++ (32 :: kids[j].text)) := by
              show _ = _
              rw [List.take_succ_eq_append_getElem hlt, tailL_app]
              simp [tailL]
            subst hp
            rw [Nat.zero_add] at hcell
            cases hkid : kids[j] with
            | node k' a' fl' nt' kids' =>
            rw [hkid, NeedIs] at hneed
            obtain ⟨kp', kc', rfl, -, -, -⟩ := hneed
            have hcell' : ∀ m v, ([.int .i64 k', .string a'.n, .int .i64 a'.op, .int .i64 a'.v, .int .i64 a'.sl, .string a'.f, .bool a'.on, .string fl', .bool nt', .slice kp' kids'.length kc'] : List Value)[m]? = some v → wr.cell? ((p.add (j * 10)).add m) = some v := fun m v hv => (HKW.out.cell (by rw [add_block, add_block]; exact hS _ hSp)).trans (hcell m v hv)
            obtain ⟨c0, c1, c2, c3, c4, c5, c6, c7, c8, c9⟩ := cells10 hcell'
            clear hcell hcell' hkid
            have K2 := hid (HKW.out.alloc' (.cells #[.int .i64 k', .string a'.n, .int .i64 a'.op, .int .i64 a'.v, .int .i64 a'.sl, .string a'.f, .bool a'.on, .string fl', .bool nt', .slice kp' kids'.length kc'] 26))
            have HIJ := hid (hih [.int .i64 k', .string a'.n, .int .i64 a'.op, .int .i64 a'.v, .int .i64 a'.sl, .string a'.f, .bool a'.on, .string fl', .bool nt', .slice kp' kids'.length kc'] _ HOJ.out (by omega) (fun b hb => Nat.lt_of_lt_of_le (hS b hb) K2.out.size) (HE.out.keep K2.out) (HN.out.keep hS K2.out))
            clear hih
            have htx : Hid ((⟨kids[j].text.toArray⟩ : ByteArray).data.toList = kids[j].text) := by show _ = _; simp
            have hts : (⟨kids[j].text.toArray⟩ : ByteArray).size ≤ 200000 := by rw [mk_size]; omega
            generalize (⟨kids[j].text.toArray⟩ : ByteArray) = tx at HIJ htx hts
            clear hkt
            go_wp2_with fail
            clear c0 c1 c2 c3 c4 c5 c6 c7 c8 c9
            refine HIJ.out.mono ?_
            rintro e w3 ⟨rfl, k3⟩
            have K3 := hid (K2.out.trans k3)
            have hz1 : (⟨#[32]⟩ ++ tx : ByteArray).size ≤ 200001 := by
              rw [ByteArray.size_append]
              have : (⟨#[32]⟩ : ByteArray).size = 1 := rfl
              omega
            have HD : Hid ((sx ++ (⟨#[32]⟩ ++ tx)).data.toList = (fl.data.toList ++ [63, 32, 40]) ++ tailL (kids.take (j + 1))) := by
              show _ = _
              rw [app_bytes, app_bytes, HSX.out, htx.out, HTK.out]; simp
            clear k3
            go_wp2_with fail
            go_roundg (kids.length - (j + 1))
            case measure => omega
            case rel => exact ⟨j + 1, by omega, by go_num, _, rfl, HD.out, K3.out⟩
          · have HFIN : Hid ((sx ++ ⟨#[32, 41]⟩).data.toList = (NT.node 5 At.zero fl false kids).text) := by
              show _ = _
              rw [app_bytes, HSX.out, HT.out, List.take_of_length_le (by omega), List.append_assoc]
            go_wp2_with fail
            go_ret
            exact ⟨ret_text HFIN.out, HKW.out⟩
      · have HT : Hid ((NT.node 5 At.zero fl true kids).text = (33 :: (fl.data.toList ++ [63, 32, 40])) ++ (tailL kids ++ [32, 41])) := by
          show _ = _
          rw [NT.text, NT.words, if_neg (by decide), if_neg (by decide), if_neg (by decide), if_pos rfl, text_group _ kids]
          simp [jn_cons, jn_one]
        go_wp2_with fail
        clear hc0
        go_loopg [3, 33] kids.length (fun gk sv i wr => ∃ j : Nat, j + gk = kids.length ∧ i = .int .i64 j ∧ ∃ sx : ByteArray, sv = .string sx ∧ sx.data.toList = (33 :: (fl.data.toList ++ [63, 32, 40])) ++ tailL (kids.take j) ∧ Keep w wr)
        case atStart => exact ⟨0, by simp, rfl, ⟨#[33]⟩ ++ (fl ++ ⟨#[63, 32, 40]⟩), rfl, by simp [tailL], K0.out⟩
        case round =>
          obtain ⟨j, hj, rfl, sx, rfl, hsx, hkw⟩ := hrel
          have HSX := hid hsx
          have HKW := hid hkw
          have hpl : ((33 :: (fl.data.toList ++ [63, 32, 40])) : List UInt8).length ≤ 20 := by have := nameB_le HNM.out; simp; omega
          have hxs : sx.size ≤ 200000 := by
            have h1 := HTL.out j
            have h2 := congrArg List.length hsx
            rw [size_list, List.length_append] at h2
            omega
          clear hsx hkw HB0
          by_cases hlt : j < kids.length
          · obtain ⟨p, cs, hp, hSp, hcell, hneed⟩ := kidsIs_get HK.out j hlt
            have HN := hid hneed
            have hsk := sizeL_get kids j hlt
            have HOJ := hid (okL_get HOK.out j hlt)
            have hkt := text_len2 kids[j] HOJ.out
            have hih := HIH.out kids[j] (by omega)
            have HTK : Hid (tailL (kids.take (j + 1)) = tailL (kids.take j) ++ (32 :: kids[j].text)) := by
              show _ = _
              rw [List.take_succ_eq_append_getElem hlt, tailL_app]
              simp [tailL]
            subst hp
            rw [Nat.zero_add] at hcell
            cases hkid : kids[j] with
            | node k' a' fl' nt' kids' =>
            rw [hkid, NeedIs] at hneed
            obtain ⟨kp', kc', rfl, -, -, -⟩ := hneed
            have hcell' : ∀ m v, ([.int .i64 k', .string a'.n, .int .i64 a'.op, .int .i64 a'.v, .int .i64 a'.sl, .string a'.f, .bool a'.on, .string fl', .bool nt', .slice kp' kids'.length kc'] : List Value)[m]? = some v → wr.cell? ((p.add (j * 10)).add m) = some v := fun m v hv => (HKW.out.cell (by rw [add_block, add_block]; exact hS _ hSp)).trans (hcell m v hv)
            obtain ⟨c0, c1, c2, c3, c4, c5, c6, c7, c8, c9⟩ := cells10 hcell'
            clear hcell hcell' hkid
            have K2 := hid (HKW.out.alloc' (.cells #[.int .i64 k', .string a'.n, .int .i64 a'.op, .int .i64 a'.v, .int .i64 a'.sl, .string a'.f, .bool a'.on, .string fl', .bool nt', .slice kp' kids'.length kc'] 26))
            have HIJ := hid (hih [.int .i64 k', .string a'.n, .int .i64 a'.op, .int .i64 a'.v, .int .i64 a'.sl, .string a'.f, .bool a'.on, .string fl', .bool nt', .slice kp' kids'.length kc'] _ HOJ.out (by omega) (fun b hb => Nat.lt_of_lt_of_le (hS b hb) K2.out.size) (HE.out.keep K2.out) (HN.out.keep hS K2.out))
            clear hih
            have htx : Hid ((⟨kids[j].text.toArray⟩ : ByteArray).data.toList = kids[j].text) := by show _ = _; simp
            have hts : (⟨kids[j].text.toArray⟩ : ByteArray).size ≤ 200000 := by rw [mk_size]; omega
            generalize (⟨kids[j].text.toArray⟩ : ByteArray) = tx at HIJ htx hts
            clear hkt
            go_wp2_with fail
            clear c0 c1 c2 c3 c4 c5 c6 c7 c8 c9
            refine HIJ.out.mono ?_
            rintro e w3 ⟨rfl, k3⟩
            have K3 := hid (K2.out.trans k3)
            have hz1 : (⟨#[32]⟩ ++ tx : ByteArray).size ≤ 200001 := by
              rw [ByteArray.size_append]
              have : (⟨#[32]⟩ : ByteArray).size = 1 := rfl
              omega
            have HD : Hid ((sx ++ (⟨#[32]⟩ ++ tx)).data.toList = (33 :: (fl.data.toList ++ [63, 32, 40])) ++ tailL (kids.take (j + 1))) := by
              show _ = _
              rw [app_bytes, app_bytes, HSX.out, htx.out, HTK.out]; simp
            clear k3
            go_wp2_with fail
            go_roundg (kids.length - (j + 1))
            case measure => omega
            case rel => exact ⟨j + 1, by omega, by go_num, _, rfl, HD.out, K3.out⟩
          · have HFIN : Hid ((sx ++ ⟨#[32, 41]⟩).data.toList = (NT.node 5 At.zero fl true kids).text) := by
              show _ = _
              rw [app_bytes, HSX.out, HT.out, List.take_of_length_le (by omega), List.append_assoc]
            go_wp2_with fail
            go_ret
            exact ⟨ret_text HFIN.out, HKW.out⟩
end Go.Proofs.YtkckkjpkidcbnaaGreatDoor
