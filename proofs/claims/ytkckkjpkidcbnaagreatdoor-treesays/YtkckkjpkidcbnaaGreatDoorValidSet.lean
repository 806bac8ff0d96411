/- Sets of packages and wishes as plain data: what is wrong with one, what holds in one, which may be. -/
import Derived.Test.YtkckkjpkidcbnaaGreatDoorTreeParse
import Derived.Test.YtkckkjpkidcbnaaGreatDoorBoxAt
namespace Go.Proofs.YtkckkjpkidcbnaaGreatDoor
open Go.RowKit

/-- A member of a set: a package's place, which of its flags are on. -/
structure MB where
  pl : Int
  on : List Bool
def MB.zero : MB := ⟨0, []⟩
/-- The package of a member. -/
def pkOf (ps : List PK) (m : MB) : PK := ps.getD m.pl.toNat PK.zero
/-- What is wrong with member k. -/
def mbE (ps : List PK) (ms : List MB) (k : Nat) : Int :=
  if (ms.getD k MB.zero).pl < 0 ∨ (ps.length : Int) ≤ (ms.getD k MB.zero).pl then 5
  else if 0 < k ∧ (ms.getD k MB.zero).pl ≤ (ms.getD (k - 1) MB.zero).pl then 6
  else if (ms.getD k MB.zero).on.length ≠ (pkOf ps (ms.getD k MB.zero)).fl.length then 4 else 0
/-- What is wrong with a set, of a right tree. -/
def chkS (ps : List PK) (ms : List MB) : Int := firstE (mbE ps ms) 0 ms.length
def chkTS (ps : List PK) (ms : List MB) : Int := if chkT ps ≠ 0 then chkT ps else chkS ps ms
/-- Where a flag stands among these. -/
def flagAt (fs : List ByteArray) (x : ByteArray) : Nat := fs.findIdx fun f => decide (f = x)
/-- Is the member what the atom asks? -/
def isB (p : PK) (m : MB) (a : At) : Bool :=
  (p.n.toList == a.n.toList) && fitB a.op a.v a.sl p.v p.sl && (a.f.toList.isEmpty || (decide (flagAt p.fl a.f < p.fl.length) && (m.on.getD (flagAt p.fl a.f) false == a.on)))
/-- Is one of the first n members, but k, what the atom asks? -/
def someN (ps : List PK) (ms : List MB) (k : Int) (a : At) : Nat → Bool
  | 0 => false
  | n + 1 => someN ps ms k a n || (!decide ((n : Int) = k) && isB (pkOf ps (ms.getD n MB.zero)) (ms.getD n MB.zero) a)
def someB (ps : List PK) (ms : List MB) (k : Int) (a : At) : Bool := someN ps ms k a ms.length
mutual
/-- Does the need hold for member k? -/
def holdsB (ps : List PK) (ms : List MB) (k : Nat) : NT → Bool
  | .node kd a fl nt kids =>
    if kd = 1 then someB ps ms (-1) a
    else if kd = 2 then !someB ps ms k a
    else if kd = 4 then anyB ps ms k kids
    else if kd = 5 ∧ ((ms.getD k MB.zero).on.getD (flagAt (pkOf ps (ms.getD k MB.zero)).fl fl) false == nt) = true then true
    else allB ps ms k kids
def anyB (ps : List PK) (ms : List MB) (k : Nat) : List NT → Bool
  | [] => false
  | t :: ts => holdsB ps ms k t || anyB ps ms k ts
def allB (ps : List PK) (ms : List MB) (k : Nat) : List NT → Bool
  | [] => true
  | t :: ts => holdsB ps ms k t && allB ps ms k ts
end
def holdB (ps : List PK) (ms : List MB) (k : Nat) : Bool := holdsB ps ms k (pkOf ps (ms.getD k MB.zero)).nd
/-- Has one of the first n members this one's name and slot? -/
def shareN (ps : List PK) (ms : List MB) (k : Nat) : Nat → Bool
  | 0 => false
  | n + 1 => shareN ps ms k n || (((pkOf ps (ms.getD n MB.zero)).n.toList == (pkOf ps (ms.getD k MB.zero)).n.toList) && ((pkOf ps (ms.getD n MB.zero)).sl == (pkOf ps (ms.getD k MB.zero)).sl))
/-- A wish: atoms, a set, places, pairs. -/
structure WI where
  ts : List At
  ins : List MB
  ma : List Int
  on : List (Int × Int)
def maE (ps : List PK) (ma : List Int) (k : Nat) : Int :=
  if ma.getD k 0 < 0 ∨ (ps.length : Int) ≤ ma.getD k 0 then 5 else if 0 < k ∧ ma.getD k 0 ≤ ma.getD (k - 1) 0 then 6 else 0
def onE (ps : List PK) (on : List (Int × Int)) (k : Nat) : Int :=
  if (on.getD k (0, 0)).1 < 0 ∨ (ps.length : Int) ≤ (on.getD k (0, 0)).1 then 5
  else if (on.getD k (0, 0)).2 < 0 ∨ ((ps.getD (on.getD k (0, 0)).1.toNat PK.zero).fl.length : Int) ≤ (on.getD k (0, 0)).2 then 5
  else if 0 < k ∧ ¬ ((on.getD (k - 1) (0, 0)).1 < (on.getD k (0, 0)).1 ∨ (on.getD (k - 1) (0, 0)).1 = (on.getD k (0, 0)).1 ∧ (on.getD (k - 1) (0, 0)).2 < (on.getD k (0, 0)).2) then 6 else 0
def taE (ts : List At) : Int := if 6 < ts.length then 2 else firstE (fun k => chkA (ts.getD k At.zero)) 0 ts.length
/-- What is wrong with a wish, of a right tree. -/
def chkW (ps : List PK) (w : WI) : Int :=
  if chkTS ps w.ins ≠ 0 then chkTS ps w.ins else if taE w.ts ≠ 0 then taE w.ts else if firstE (maE ps w.ma) 0 w.ma.length ≠ 0 then firstE (maE ps w.ma) 0 w.ma.length else firstE (onE ps w.on) 0 w.on.length
/-- Is each target what some member is? -/
def targB (ps : List PK) (ms : List MB) (ts : List At) : Bool := ts.all fun a => someB ps ms (-1) a
def memB (ps : List PK) (ma : List Int) (ms : List MB) (k : Nat) : Bool := !ma.contains (ms.getD k MB.zero).pl && holdB ps ms k && !shareN ps ms k k
def allM (ps : List PK) (ma : List Int) (ms : List MB) : Nat → Bool
  | 0 => true
  | n + 1 => allM ps ma ms n && memB ps ma ms n
/-- May the set be? -/
def validB (ps : List PK) (w : WI) (ms : List MB) : Bool := targB ps ms w.ts && allM ps w.ma ms ms.length
def validE (ps : List PK) (w : WI) (ms : List MB) : Int := if chkW ps w ≠ 0 then chkW ps w else chkTS ps ms
def holdsE (ps : List PK) (ms : List MB) (k : Int) : Int := if chkTS ps ms ≠ 0 then chkTS ps ms else if k < 0 ∨ (ms.length : Int) ≤ k then 5 else 0

/-- The value leads to a row of bools, in blocks of S. -/
def BoolsIs (S : Nat → Prop) (w : World) (bs : List Bool) (v : Value) : Prop :=
  ∃ (p : Option Addr) (cap : Nat), v = .slice p bs.length cap ∧ bs.length ≤ 9223372036854775807 ∧ (0 < bs.length → ∃ b off, p = some ⟨b, off, none⟩ ∧ S b ∧ ∀ (j : Nat) (x : Bool), bs[j]? = some x → w.cell? ⟨b, off + j, none⟩ = some (.bool x))
/-- The value leads to a row of members. -/
def MbsIs (S : Nat → Prop) (w : World) (ms : List MB) (v : Value) : Prop :=
  ∃ (p : Option Addr) (cap : Nat), v = .slice p ms.length cap ∧ (ms.length ≤ cap ∧ ms.length ≤ 9223372036854775807) ∧ (0 < ms.length → ∃ b off, p = some ⟨b, off, none⟩ ∧ S b ∧
    ∀ (j : Nat) (m : MB), ms[j]? = some m → ∃ ov : Value, w.cell? ⟨b, off + j * 2, none⟩ = some (.int .i64 m.pl) ∧ w.cell? ⟨b, off + j * 2 + 1, none⟩ = some ov ∧ BoolsIs S w m.on ov)
/-- The value leads to a row of numbers. -/
def NumsIs (S : Nat → Prop) (w : World) (zs : List Int) (v : Value) : Prop :=
  ∃ (p : Option Addr) (cap : Nat), v = .slice p zs.length cap ∧ zs.length ≤ 9223372036854775807 ∧ (0 < zs.length → ∃ b off, p = some ⟨b, off, none⟩ ∧ S b ∧ ∀ (j : Nat) (x : Int), zs[j]? = some x → w.cell? ⟨b, off + j, none⟩ = some (.int .i64 x))
/-- The value leads to a row of pairs. -/
def PrsIs (S : Nat → Prop) (w : World) (zs : List (Int × Int)) (v : Value) : Prop :=
  ∃ (p : Option Addr) (cap : Nat), v = .slice p zs.length cap ∧ zs.length ≤ 9223372036854775807 ∧ (0 < zs.length → ∃ b off, p = some ⟨b, off, none⟩ ∧ S b ∧ ∀ (j : Nat) (x : Int × Int), zs[j]? = some x → w.cell? ⟨b, off + j * 2, none⟩ = some (.int .i64 x.1) ∧ w.cell? ⟨b, off + j * 2 + 1, none⟩ = some (.int .i64 x.2))
/-- The value leads to a row of atoms. -/
def AtsIs (S : Nat → Prop) (w : World) (ts : List At) (v : Value) : Prop :=
  ∃ (p : Option Addr) (cap : Nat), v = .slice p ts.length cap ∧ ts.length ≤ 9223372036854775807 ∧ (0 < ts.length → ∃ b off, p = some ⟨b, off, none⟩ ∧ S b ∧
    ∀ (j : Nat) (a : At), ts[j]? = some a → w.cell? ⟨b, off + j * 6, none⟩ = some (.string a.n) ∧ w.cell? ⟨b, off + j * 6 + 1, none⟩ = some (.int .i64 a.op) ∧ w.cell? ⟨b, off + j * 6 + 2, none⟩ = some (.int .i64 a.v) ∧ w.cell? ⟨b, off + j * 6 + 3, none⟩ = some (.int .i64 a.sl) ∧ w.cell? ⟨b, off + j * 6 + 4, none⟩ = some (.string a.f) ∧ w.cell? ⟨b, off + j * 6 + 5, none⟩ = some (.bool a.on))
section
variable {S S' : Nat → Prop} {w w' : World}
theorem BoolsIs.mono (hw : ∀ p : Addr, S p.block → w'.cell? p = w.cell? p) (hS : ∀ b, S b → S' b) {bs : List Bool} {v : Value} (h : BoolsIs S w bs v) : BoolsIs S' w' bs v := by
  obtain ⟨p, cap, h1, h2, h3⟩ := h
  refine ⟨p, cap, h1, h2, fun h => ?_⟩
  obtain ⟨b, off, h4, h5, h6⟩ := h3 h
  exact ⟨b, off, h4, hS _ h5, fun j x hx => (hw ⟨b, off + j, none⟩ h5).trans (h6 j x hx)⟩
theorem MbsIs.mono (hw : ∀ p : Addr, S p.block → w'.cell? p = w.cell? p) (hS : ∀ b, S b → S' b) {ms : List MB} {v : Value} (h : MbsIs S w ms v) : MbsIs S' w' ms v := by
  obtain ⟨p, cap, h1, h2, h3⟩ := h
  refine ⟨p, cap, h1, h2, fun h => ?_⟩
  obtain ⟨b, off, h4, h5, h6⟩ := h3 h
  refine ⟨b, off, h4, hS _ h5, fun j m hm => ?_⟩
  obtain ⟨ov, h7, h8, h9⟩ := h6 j m hm
  exact ⟨ov, (hw ⟨b, _, none⟩ h5).trans h7, (hw ⟨b, _, none⟩ h5).trans h8, h9.mono hw hS⟩
theorem NumsIs.mono (hw : ∀ p : Addr, S p.block → w'.cell? p = w.cell? p) (hS : ∀ b, S b → S' b) {zs : List Int} {v : Value} (h : NumsIs S w zs v) : NumsIs S' w' zs v := by
  obtain ⟨p, cap, h1, h2, h3⟩ := h
  refine ⟨p, cap, h1, h2, fun h => ?_⟩
  obtain ⟨b, off, h4, h5, h6⟩ := h3 h
  exact ⟨b, off, h4, hS _ h5, fun j x hx => (hw ⟨b, off + j, none⟩ h5).trans (h6 j x hx)⟩
theorem PrsIs.mono (hw : ∀ p : Addr, S p.block → w'.cell? p = w.cell? p) (hS : ∀ b, S b → S' b) {zs : List (Int × Int)} {v : Value} (h : PrsIs S w zs v) : PrsIs S' w' zs v := by
  obtain ⟨p, cap, h1, h2, h3⟩ := h
  refine ⟨p, cap, h1, h2, fun h => ?_⟩
  obtain ⟨b, off, h4, h5, h6⟩ := h3 h
  exact ⟨b, off, h4, hS _ h5, fun j x hx => ⟨(hw ⟨b, _, none⟩ h5).trans (h6 j x hx).1, (hw ⟨b, _, none⟩ h5).trans (h6 j x hx).2⟩⟩
theorem AtsIs.mono (hw : ∀ p : Addr, S p.block → w'.cell? p = w.cell? p) (hS : ∀ b, S b → S' b) {ts : List At} {v : Value} (h : AtsIs S w ts v) : AtsIs S' w' ts v := by
  obtain ⟨p, cap, h1, h2, h3⟩ := h
  refine ⟨p, cap, h1, h2, fun h => ?_⟩
  obtain ⟨b, off, h4, h5, h6⟩ := h3 h
  refine ⟨b, off, h4, hS _ h5, fun j x hx => ?_⟩
  obtain ⟨g1, g2, g3, g4, g5, g6⟩ := h6 j x hx
  exact ⟨(hw ⟨b, _, none⟩ h5).trans g1, (hw ⟨b, _, none⟩ h5).trans g2, (hw ⟨b, _, none⟩ h5).trans g3, (hw ⟨b, _, none⟩ h5).trans g4, (hw ⟨b, _, none⟩ h5).trans g5, (hw ⟨b, _, none⟩ h5).trans g6⟩
theorem BoolsIs.keep {B : Nat} (hS : ∀ b, S b → b < B) (k : Below B w w') {bs : List Bool} {v : Value} (h : BoolsIs S w bs v) : BoolsIs S w' bs v := h.mono (below_cells hS k) fun _ h => h
theorem MbsIs.keep {B : Nat} (hS : ∀ b, S b → b < B) (k : Below B w w') {ms : List MB} {v : Value} (h : MbsIs S w ms v) : MbsIs S w' ms v := h.mono (below_cells hS k) fun _ h => h
theorem NumsIs.keep {B : Nat} (hS : ∀ b, S b → b < B) (k : Below B w w') {zs : List Int} {v : Value} (h : NumsIs S w zs v) : NumsIs S w' zs v := h.mono (below_cells hS k) fun _ h => h
theorem PrsIs.keep {B : Nat} (hS : ∀ b, S b → b < B) (k : Below B w w') {zs : List (Int × Int)} {v : Value} (h : PrsIs S w zs v) : PrsIs S w' zs v := h.mono (below_cells hS k) fun _ h => h
theorem AtsIs.keep {B : Nat} (hS : ∀ b, S b → b < B) (k : Below B w w') {ts : List At} {v : Value} (h : AtsIs S w ts v) : AtsIs S w' ts v := h.mono (below_cells hS k) fun _ h => h
end
end Go.Proofs.YtkckkjpkidcbnaaGreatDoor
/- tree.CheckSet answers as the plain function chkTS says. -/
namespace Go.Proofs.YtkckkjpkidcbnaaGreatDoor
open Go.RowKit

theorem MbsIs.len {S : Nat → Prop} {w : World} {ms : List MB} {v : Value} (h : MbsIs S w ms v) : ∃ p cap, v = .slice p ms.length cap ∧ ms.length ≤ 9223372036854775807 := by
  obtain ⟨p, cap, h1, h2, -⟩ := h; exact ⟨p, cap, h1, h2.2⟩
theorem MbsIs.cap {S : Nat → Prop} {w : World} {ms : List MB} {p : Option Addr} {n cap : Nat} (h : MbsIs S w ms (.slice p n cap)) : ms.length ≤ cap := by
  obtain ⟨p', cap', h1, h2, -⟩ := h; cases h1; exact h2.1
theorem MbsIs.take {S : Nat → Prop} {w : World} {ms : List MB} {p : Option Addr} {n cap : Nat} (h : MbsIs S w ms (.slice p n cap)) {k : Nat} (hk : k ≤ ms.length) : MbsIs S w (ms.take k) (.slice p k cap) := by
  obtain ⟨p', cap', h1, h2, h3⟩ := h
  cases h1
  have hl : (ms.take k).length = k := by simp; omega
  refine ⟨p, cap, by rw [hl], by rw [hl]; omega, fun h0 => ?_⟩
  obtain ⟨b, off, rfl, h5, h6⟩ := h3 (by omega)
  refine ⟨b, off, rfl, h5, fun j m hm => h6 j m ?_⟩
  rw [List.getElem?_take] at hm
  split at hm
  · exact hm
  · cases hm
theorem MbsIs.get {S : Nat → Prop} {w : World} {ms : List MB} {v : Value} (h : MbsIs S w ms v) {k : Nat} (hk : k < ms.length) : ∃ b off cap, v = .slice (some ⟨b, off, none⟩) ms.length cap ∧ S b ∧ ms.length ≤ 9223372036854775807 ∧
    ∀ (j : Nat) (m : MB), ms[j]? = some m → ∃ (op : Option Addr) (oc : Nat), w.cell? ⟨b, off + j * 2, none⟩ = some (.int .i64 m.pl) ∧ w.cell? ⟨b, off + j * 2 + 1, none⟩ = some (.slice op m.on.length oc) ∧ m.on.length ≤ 9223372036854775807 ∧ BoolsIs S w m.on (.slice op m.on.length oc) := by
  obtain ⟨p, cap, h1, h2, h3⟩ := h
  obtain ⟨b, off, rfl, h5, h6⟩ := h3 (by omega)
  refine ⟨b, off, cap, h1, h5, h2.2, fun j m hm => ?_⟩
  obtain ⟨ov, h7, h8, h9⟩ := h6 j m hm
  obtain ⟨op, oc, rfl, h10, -⟩ := id h9
  exact ⟨op, oc, h7, h8, h10, h9⟩
theorem getD_mb (ms : List MB) (j : Nat) (h : j < ms.length) : ms.getD j MB.zero = ms[j] := by
  rw [List.getD_eq_getElem?_getD, List.getElem?_eq_getElem h, Option.getD_some]
theorem getD_pk (ps : List PK) (j : Nat) (h : j < ps.length) : ps.getD j PK.zero = ps[j] := by
  rw [List.getD_eq_getElem?_getD, List.getElem?_eq_getElem h, Option.getD_some]

set_option maxHeartbeats 4000000 in
set_option maxRecDepth 100000 in
theorem set1_any (S : Nat → Prop) (ps : List PK) (ms : List MB) (ct cl k : Nat) (tv lv : Value) (w : World) (hk : k < ms.length) (hp : PkgsIs S w ps tv) (hm : MbsIs S w ms lv) (ht : VarAt ct 44 tv w) (hl : VarAt cl 45 lv w) :
    Calls Tryz.prog 94 #[.int .i64 k, .pointer (some ⟨cl, 0, none⟩), .pointer (some ⟨ct, 0, none⟩)] w fun e w' => e = .returned (.int .i64 (mbE ps ms k)) ∧ Keep w w' := by
  have HP := hid hp
  obtain ⟨b, off, cap, rfl, hb, hlen, hrow⟩ := hm.get hk
  obtain ⟨tp, tc, rfl, htlen⟩ := hp.len
  obtain ⟨ht0, -, htl⟩ := ht.facts
  obtain ⟨hl0, -, hll⟩ := hl.facts
  obtain ⟨op, oc, hc0, hc1, hon, -⟩ := hrow k _ (List.getElem?_eq_getElem hk)
  have HX : Hid (mbE ps ms k = if ms[k].pl < 0 ∨ (ps.length : Int) ≤ ms[k].pl then 5 else if 0 < k ∧ ms[k].pl ≤ (ms.getD (k - 1) MB.zero).pl then 6 else if ms[k].on.length ≠ (ps.getD ms[k].pl.toNat PK.zero).fl.length then 4 else 0) := by
    show _ = _
    unfold mbE pkOf
    rw [getD_mb ms k hk]
  have hprev : 0 < k → ∃ x : Int, Hid ((ms.getD (k - 1) MB.zero).pl = x) ∧ w.cell? ⟨b, off + (k - 1) * 2, none⟩ = some (.int .i64 x) := fun h0 => by
    obtain ⟨_, _, h1, -⟩ := hrow (k - 1) _ (List.getElem?_eq_getElem (by omega))
    exact ⟨ms[k - 1].pl, by show _ = _; rw [getD_mb ms (k - 1) (by omega)], h1⟩
  generalize ms[k] = m at HX hc0 hc1 hon
  obtain ⟨pl, on⟩ := m
  simp only at HX hc0 hc1 hon
  clear hrow hm hp ht hl
  by_cases h0 : pl < 0
  · have HY : Hid (mbE ps ms k = 5) := by show _ = _; rw [HX.out, if_pos (Or.inl h0)]
    clear HX hprev
    go_enter Tryz.func94, Tryz.ntmps94
    go_wp2_with fail
    go_ret
    exact ⟨ret_int HY.out.symm, Keep.refl _⟩
  · by_cases h1 : (ps.length : Int) ≤ pl
    · have HY : Hid (mbE ps ms k = 5) := by show _ = _; rw [HX.out, if_pos (Or.inr h1)]
      clear HX hprev
      go_enter Tryz.func94, Tryz.ntmps94
      go_wp2_with fail
      go_ret
      exact ⟨ret_int HY.out.symm, Keep.refl _⟩
    · obtain ⟨q, rfl⟩ : ∃ q : Nat, pl = q := ⟨pl.toNat, by omega⟩
      have hq : q < ps.length := by omega
      have HX2 : Hid (mbE ps ms k = if 0 < k ∧ (q : Int) ≤ (ms.getD (k - 1) MB.zero).pl then 6 else if on.length ≠ (ps.getD q PK.zero).fl.length then 4 else 0) := by
        show _ = _
        rw [HX.out, if_neg (by omega)]; rfl
      clear HX
      obtain ⟨tb, toff, tcap, htv, htb, -, htrow⟩ := HP.out.get hq
      cases htv
      obtain ⟨cs, hcs, hpk⟩ := htrow q hq
      rw [getD_pk ps q hq] at HX2
      generalize ps[q] = p at hpk HX2
      obtain ⟨kk, a, fl, nt, kids, kp, fp, kc, fc, hnd, hfl, rfl, hf, hn⟩ := hpk.spelt
      obtain ⟨-, -, -, c3, -⟩ := cells14 hcs
      clear hcs hpk htrow hf hn hnd
      rcases p with ⟨pn, pv, psl, fs, nd⟩
      simp only at hfl c3 HX2
      have tail : ∀ (W : World), mbE ps ms k = (if on.length ≠ fs.length then 4 else 0) → True := fun _ _ => trivial
      clear tail
      by_cases hk0 : 0 < k
      · obtain ⟨x, HPX, hcx⟩ := hprev hk0
        rw [HPX.out] at HX2
        obtain ⟨m, rfl⟩ : ∃ m, k = m + 1 := ⟨k - 1, by omega⟩
        have hcx' : w.cell? ⟨b, off + m * 2, none⟩ = some (.int .i64 x) := hcx
        have h0' : (0 : Int) < ((m + 1 : Nat) : Int) := by omega
        have hd : decide ((0 : Int) < ((m + 1 : Nat) : Int)) = true := decide_eq_true h0'
        have e1 : ((m + 1 : Nat) : Int) - 1 = (m : Int) := by omega
        have hm : m < ms.length := by omega
        clear hprev HPX hcx
        by_cases hle : (q : Int) ≤ x
        · have HY : Hid (mbE ps ms (m + 1) = 6) := by show _ = _; rw [HX2.out, if_pos ⟨by omega, hle⟩]
          clear HX2
          go_enter Tryz.func94, Tryz.ntmps94
          go_wp2_with fail
          go_ret
          exact ⟨ret_int HY.out.symm, Keep.refl _⟩
        · have HX3 : Hid (mbE ps ms (m + 1) = if on.length ≠ fs.length then 4 else 0) := by show _ = _; rw [HX2.out, if_neg (fun h => hle h.2)]
          clear HX2
          by_cases hne : on.length = fs.length
          · have HY : Hid (mbE ps ms (m + 1) = 0) := by show _ = _; rw [HX3.out, if_neg (fun h => h hne)]
            have hne1 : ((on.length : Int) == (fs.length : Int)) = true := by simp [hne]
            have hne2 : ((on.length : Int) != (fs.length : Int)) = false := by simp [hne]
            clear HX3 hne
            go_enter Tryz.func94, Tryz.ntmps94
            go_wp2_with fail
            go_quiet (fail)
            go_wp2_with fail
            go_ret
            exact ⟨ret_int HY.out.symm, Keep.drewN (Keep.refl _) _⟩
          · have HY : Hid (mbE ps ms (m + 1) = 4) := by show _ = _; rw [HX3.out, if_pos hne]
            have hne0 : ¬ (on.length : Int) = (fs.length : Int) := by omega
            have hne1 : ((on.length : Int) == (fs.length : Int)) = false := by simp [hne0]
            have hne2 : ((on.length : Int) != (fs.length : Int)) = true := by simp [hne0]
            clear HX3 hne
            go_enter Tryz.func94, Tryz.ntmps94
            go_wp2_with fail
            go_quiet (fail)
            go_wp2_with fail
            go_ret
            exact ⟨ret_int HY.out.symm, Keep.drewN (Keep.refl _) _⟩
      · have HX3 : Hid (mbE ps ms k = if on.length ≠ fs.length then 4 else 0) := by show _ = _; rw [HX2.out, if_neg (fun h => hk0 h.1)]
        obtain rfl : k = 0 := by omega
        rw [Nat.zero_mul, Nat.add_zero] at hc0 hc1
        clear HX2 hprev
        by_cases hne : on.length = fs.length
        · have HY : Hid (mbE ps ms 0 = 0) := by show _ = _; rw [HX3.out, if_neg (fun h => h hne)]
          have hne1 : ((on.length : Int) == (fs.length : Int)) = true := by simp [hne]
          have hne2 : ((on.length : Int) != (fs.length : Int)) = false := by simp [hne]
          clear HX3 hne
          go_enter Tryz.func94, Tryz.ntmps94
          go_wp2_with fail
          go_quiet (fail)
          go_wp2_with fail
          go_ret
          exact ⟨ret_int HY.out.symm, Keep.drewN (Keep.refl _) _⟩
        · have HY : Hid (mbE ps ms 0 = 4) := by show _ = _; rw [HX3.out, if_pos hne]
          have hne0 : ¬ (on.length : Int) = (fs.length : Int) := by omega
          have hne1 : ((on.length : Int) == (fs.length : Int)) = false := by simp [hne0]
          have hne2 : ((on.length : Int) != (fs.length : Int)) = true := by simp [hne0]
          clear HX3 hne
          go_enter Tryz.func94, Tryz.ntmps94
          go_wp2_with fail
          go_quiet (fail)
          go_wp2_with fail
          go_ret
          exact ⟨ret_int HY.out.symm, Keep.drewN (Keep.refl _) _⟩
theorem enter_set1 (args : Array Value) (w : World) : (callFunc 94 args).run Tryz.prog w = .ok (.enter 94 args) w := enters_of Tryz.func94 (by kernel_rfl) rfl args w

set_option maxHeartbeats 2000000 in
set_option maxRecDepth 100000 in
theorem checkSet_any (S : Nat → Prop) (ps : List PK) (ms : List MB) (tv lv : Value) (w : World) (hS : ∀ b, S b → b < w.heap.size) (hp : PkgsIs S w ps tv) (hm : MbsIs S w ms lv) :
    Calls Tryz.prog 32 #[.agg #[tv], lv] w fun e w' => e = .returned (.int .i64 (chkTS ps ms)) ∧ Keep w w' := by
  have HP := hid hp
  have HM := hid hm
  obtain ⟨tp, tc, rfl, htlen⟩ := hp.len
  obtain ⟨lp, lc, rfl, hllen⟩ := hm.len
  have hmf : ∀ (fn : Fn) (first cap : Array Value) (w : World), (Instr.makeFunc fn first cap).run Tryz.prog w = .ok (.func fn first cap) w := fun _ _ _ _ => rfl
  have hent := enter_set1
  have HX : Hid (chkTS ps ms = if chkT ps ≠ 0 then chkT ps else firstE (mbE ps ms) 0 ms.length) := rfl
  clear hp hm
  go_enter Tryz.func32, Tryz.ntmps32
  go_wp2_with fail
  refine at_calls (fun W' => Keep w W' ∧ VarAt w.heap.size 44 (.slice tp ps.length tc) W' ∧ VarAt (w.heap.size + 1) 45 (.slice lp ms.length lc) W') ⟨(Keep.alloc _ _).alloc' _, (VarAt.new _ _ _).keep (Keep.alloc _ _) (by simp), ?_⟩ ?_
  · have := VarAt.new (w.alloc (.cells #[.slice tp ps.length tc] 44)) 45 (.slice lp ms.length lc)
    rw [alloc_size] at this; exact this
  rintro W0 ⟨k0, v0, l0⟩
  refine (treeCheck_any S ps _ W0 (fun b hb => Nat.lt_of_lt_of_le (hS b hb) k0.size) (HP.out.keep hS k0)).mono ?_
  rintro e w1 ⟨rfl, k1⟩
  have K1 := hid (k0.trans k1)
  have V1 := hid (v0.keep k1 v0.facts.2.2)
  have L1 := hid (l0.keep k1 l0.facts.2.2)
  clear k0 v0 l0 k1
  generalize chkT ps = ct at HX ⊢
  by_cases hz : ct = 0
  · subst hz
    have HX2 : Hid (chkTS ps ms = firstE (mbE ps ms) 0 ms.length) := by show _ = _; rw [HX.out]; simp
    obtain ⟨hl0, -, hll⟩ := L1.out.facts
    have hcall : ∀ (k : Nat) (W' : World), k < ms.length → Keep w1 W' → Calls Tryz.prog 94 (#[.int .i64 k] ++ #[.pointer (some ⟨w.heap.size + 1, 0, none⟩), .pointer (some ⟨w.heap.size, 0, none⟩)]) W' fun e w' => e = .returned (.int .i64 (mbE ps ms k)) ∧ (mbE ps ms k = 0 → Keep w1 w') ∧ Apart (One w1.heap.size) W' w' := by
      intro k W' hk h1
      have c := set1_any S ps ms w.heap.size (w.heap.size + 1) k _ _ W' hk (HP.out.keep hS (K1.out.trans h1)) (HM.out.keep hS (K1.out.trans h1)) (V1.out.keep h1 V1.out.facts.2.2) (L1.out.keep h1 L1.out.facts.2.2)
      refine Calls.mono c ?_
      rintro e w' ⟨rfl, h4⟩
      exact ⟨rfl, fun _ => h1.trans h4, one_keep h4⟩
    have hone := hid (oneByOne_any ms.length (mbE ps ms) (fun _ W' => Keep w1 W') w1.heap.size hllen enter_set1 hcall w1 (Keep.refl _))
    clear hcall HX
    go_wp2_with fail
    refine hone.out.mono ?_
    rintro e w2 ⟨rfl, ha2⟩
    have K2 : Hid (Keep w w2) := Below.trans K1.out (ha2.below K1.out.size fun b hb e => by have : b = w1.heap.size := e; have := K1.out.size; omega)
    clear ha2 hone
    go_wp2_with fail
    go_ret
    exact ⟨ret_int HX2.out.symm, K2.out⟩
  · have HX2 : Hid (chkTS ps ms = ct) := by show _ = _; rw [HX.out, if_pos hz]
    have hz1 : (ct == 0) = false := by simp [hz]
    have hz2 : (ct != 0) = true := by simp [hz]
    clear hz HX
    go_wp2_with fail
    go_ret
    exact ⟨ret_int HX2.out.symm, K1.out⟩
end Go.Proofs.YtkckkjpkidcbnaaGreatDoor
