/- follow's ask: each clause that watches a literal which doesn't hold any more. -/
import Derived.Test.YtbblgmkjgcjcaabFolMove
import Derived.BigQuiet
namespace Go.Proofs.Ytbblgmkjgcjcaab
open Go.RowKit Go.Lib

/-- The table with other clauses and rows. -/
def XD.turned (x : XD) (C : List (List Int)) (rv : List Value) (W : List (List Nat)) : XD := { x with C := C, rv := rv, W := W }
/-- The table, what is known and what was found, side by side. -/
structure SM (kc : Nat) (J : List Value) (x : XD) (B B1 bk bg bf : Nat) (fv : Value) (K L : List Int) (w : World) : Prop where
  xm : XM x B w
  st : AskSt kc J B1 bk bg bf x.n fv K L w
  sep : ∀ b, x.own b → b ≠ bk ∧ b ≠ bg ∧ b ≠ bf ∧ fv.ownBlock ≠ some b
def SO (x : XD) (bg bf : Nat) (fv : Value) (b : Nat) : Prop := x.own b ∨ b = bg ∨ b = bf ∨ fv.ownBlock = some b
theorem SM.keep {kc : Nat} {J : List Value} {x : XD} {B B1 bk bg bf : Nat} {fv : Value} {K L : List Int} {w w' : World} (h : SM kc J x B B1 bk bg bf fv K L w) (k : Keep w w') : SM kc J x B B1 bk bg bf fv K L w' := ⟨h.xm.keep k, h.st.keep k, h.sep⟩
/-- The table is turned. -/
theorem SM.table {kc : Nat} {J : List Value} {x x' : XD} {B B1 bk bg bf : Nat} {fv : Value} {K L : List Int} {w w' : World} (h : SM kc J x B B1 bk bg bf fv K L w) (hn : x'.n = x.n) (hx : XM x' B w') (t : Turn x.own x'.own w w') : SM kc J x' B B1 bk bg bf fv K L w' ∧ Turn (SO x bg bf fv) (SO x' bg bf fv) w w' := by
  have l1 := h.st.kv.facts.2.2
  have l2 := h.st.kb.facts.2.2
  have l3 := h.st.fd.facts.2.2
  refine ⟨⟨hx, ?_, fun b hb => ?_⟩, ⟨t.os, t.tape, t.output, t.size, fun b hb hn => t.block b hb fun e => hn (.inl e), fun b hb => ?_⟩⟩
  · rw [hn]
    exact h.st.turn t (fun e => (h.sep _ e).1 rfl) (fun e => (h.sep _ e).2.1 rfl) (fun e => (h.sep _ e).2.2.1 rfl) fun b hb e => (h.sep _ e).2.2.2 hb
  · rcases t.new b hb with e | e
    · exact h.sep b e
    · exact ⟨by omega, by omega, by omega, fun e2 => by have := (owns_in h.st.own e2).2; omega⟩
  · rcases hb with hb | hb
    · exact (t.new b hb).imp .inl id
    · exact .inl (.inr hb)
/-- A literal is taken. -/
theorem SM.taken {kc : Nat} {J : List Value} {x : XD} {B B1 bk bg bf : Nat} {fv fv' : Value} {K L K' L' : List Int} {w w' : World} (h : SM kc J x B B1 bk bg bf fv K L w) (hs : AskSt kc J B1 bk bg bf x.n fv' K' L' w') (t : Turn (fun b => b = bg ∨ b = bf ∨ fv.ownBlock = some b) (fun b => b = bg ∨ b = bf ∨ fv'.ownBlock = some b) w w') : SM kc J x B B1 bk bg bf fv' K' L' w' ∧ Turn (SO x bg bf fv) (SO x bg bf fv') w w' := by
  refine ⟨⟨h.xm.turn t ?_, hs, fun b hb => ?_⟩, ⟨t.os, t.tape, t.output, t.size, fun b hb hn => t.block b hb fun e => hn (.inr e), fun b hb => ?_⟩⟩
  · rintro b hb (e | e | e)
    · exact (h.sep b hb).2.1 e
    · exact (h.sep b hb).2.2.1 e
    · exact (h.sep b hb).2.2.2 e
  · have hs := h.sep b hb
    refine ⟨hs.1, hs.2.1, hs.2.2.1, fun e => ?_⟩
    rcases t.new b (.inr (.inr e)) with (e | e | e) | e
    · exact hs.2.1 e
    · exact hs.2.2.1 e
    · exact hs.2.2.2 e
    · have := h.xm.lt hb; omega
  · rcases hb with hb | hb
    · exact .inl (.inl hb)
    · exact (t.new b hb).imp .inr id
/-- append, where there is room, writes the one cell. -/
theorem wpList_append_fits {P : Program} {w : World} {ops : Array Oper} {rest : List Oper} {o : Oper} {a : Act} {Q : Exit → Act → World → Prop} (hgd : o.guard = none) (s x : Operand) (t : TypeId)
    (ho : o.op = .call { callee := .builtin .append, args := #[s, x], argTypes := #[t, t] }) (e : TypeId) (i : TypeInfo) (ht : P.underlying t = some (.slice e)) (hi : P.info? e = some i) (hsize : i.size = 1)
    (b n cap : Nat) (hs : a.eval s = .slice (some ⟨b, 0, none⟩) n cap) (ad : Addr) (c : Nat) (u : Value) (hx : a.eval x = .slice (some ad) 1 c) (hnews : ∀ j v, [u][j]? = some v → w.cell? (ad.add j) = some v) (h1 : u.oneCell' = true) (hroom : n + 1 ≤ cap)
    (hc : (w.cell? ⟨b, n, none⟩).isSome = true) (hf : w.frozen? ⟨b, n, none⟩ = false)
    (h : wpList P ops Q rest (a.put o.dst (.slice (some ⟨b, 0, none⟩) (n + 1) cap)) (w.setCell ⟨b, n, none⟩ u)) : wpList P ops Q (o :: rest) a w := by
  have hr := run_append_room_cells (P := P) w t o.type e i ht hi b 0 n cap ad 1 c [u] (by simp [hsize]) hnews (by intro v hv; rw [List.mem_singleton.1 hv]; exact h1) hroom
    (fun j hj => by have : j = 0 := by simpa using hj
                    subst this; simpa [hsize] using hc) (fun j hj => by have : j = 0 := by simpa using hj
                                                                        subst this; simpa [hsize] using hf)
  have he : w.setCells b (0 + n * i.size) [u] = w.setCell ⟨b, n, none⟩ u := by simp [World.setCells, hsize]
  rw [he] at hr
  refine wpList_plain hgd fun K hK => ?_
  unfold Oper.wp
  simp [execOp, ho, resolve, invoke, builtin, hs, hx, hr, Result.andThen]
  exact hK _ _ h
end Go.Proofs.Ytbblgmkjgcjcaab
