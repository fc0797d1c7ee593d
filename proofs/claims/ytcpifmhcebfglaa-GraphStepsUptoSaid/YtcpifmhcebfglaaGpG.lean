/- A graph in a block that is written. No condition. -/
import Derived.Test.YtcpifmhcebfglaaGpR
namespace Go.Proofs.Ytcpifmhcebfglaa
open Go Go.RowKit Go.Sort
set_option linter.unusedVariables false
abbrev gV (v : Value) : Value := v
/-- a graph in a block that is written -/
abbrev BG (k : Nat) (v0 v1 v2 v3 v4 : Value) (w : World) : Prop := Arr 31 gV k [v0, v1, v2, v3, v4] w
theorem BG.gx {k : Nat} {v0 v1 v2 v3 v4 : Value} {w : World} (h : BG k v0 v1 v2 v3 v4 w) : GX k v0 v1 v2 v3 v4 w :=
  ⟨Arr.cell (j := 0) h (by simp), Arr.cell (j := 1) h (by simp), Arr.cell (j := 2) h (by simp), Arr.cell (j := 3) h (by simp), Arr.cell (j := 4) h (by simp)⟩
abbrev put5 (w : World) (k : Nat) (u0 u1 u2 u3 u4 : Value) : World := ((((w.setCell ⟨k, 0, none⟩ u0).setCell ⟨k, 1, none⟩ u1).setCell ⟨k, 2, none⟩ u2).setCell ⟨k, 3, none⟩ u3).setCell ⟨k, 4, none⟩ u4
theorem BG.all {k : Nat} {v0 v1 v2 v3 v4 : Value} {w : World} (h : BG k v0 v1 v2 v3 v4 w) (u0 u1 u2 u3 u4 : Value) : BG k u0 u1 u2 u3 u4 (put5 w k u0 u1 u2 u3 u4) :=
  ((((Arr.set h 0 u0).set 1 u1).set 2 u2).set 3 u3).set 4 u4
theorem BG.set3 {k : Nat} {v0 v1 v2 v3 v4 : Value} {w : World} (h : BG k v0 v1 v2 v3 v4 w) (u : Value) : BG k v0 v1 v2 u v4 (w.setCell ⟨k, 3, none⟩ u) := Arr.set h 3 u
theorem put5_below {k : Nat} {w0 w : World} (h : Below k w0 w) (u0 u1 u2 u3 u4 : Value) : Below k w0 (put5 w k u0 u1 u2 u3 u4) :=
  ((((h.setCell (Nat.le_refl _) u0).setCell (Nat.le_refl _) u1).setCell (Nat.le_refl _) u2).setCell (Nat.le_refl _) u3).setCell (Nat.le_refl _) u4
theorem b5_mono {k q : Nat} {w0 w : World} (h : Below q w0 w) (hq : q ≤ k) (u0 u1 u2 u3 u4 : Value) : Below q w0 (put5 w k u0 u1 u2 u3 u4) :=
  ((((h.setCell hq u0).setCell hq u1).setCell hq u2).setCell hq u3).setCell hq u4
theorem Arr.allocV (w : World) (l : List Value) (t : TypeId) : Arr t gV w.heap.size l (w.alloc (.cells l.toArray t)) := ⟨by
  show (w.heap.push _)[w.heap.size]? = _
  simp⟩
theorem grown_put (w : World) (p : Addr) (v : Value) : w.grownBy (w.setCell p v) (some p.block) :=
  ⟨rfl, rfl, rfl, by simp [World.setCell], fun k _ hne => Below.heap_setCell w p v k (fun e => hne (by rw [e]))⟩
theorem OwnK.set {B : Nat} {t : TypeId} {k : Nat} {α : Type} {enc : α → List Value} {w : World} {v : Value} {l : List α} (h : OwnK B t k enc w v l) (p : Addr) (u : Value) (hp : p.block < B) : OwnK B t k enc (w.setCell p u) v l :=
  World.ownsRow.kept h (grown_put w p u) (by
    cases hv : v.ownBlock with
    | none => exact .inl rfl
    | some b => exact .inr (fun e => by have := (World.ownsRow.lt h b hv).1; simp only [Option.some.injEq] at e; omega))
theorem OwnK.put5 {B : Nat} {t : TypeId} {k : Nat} {α : Type} {enc : α → List Value} {w : World} {v : Value} {l : List α} (h : OwnK B t k enc w v l) (q : Nat) (u0 u1 u2 u3 u4 : Value) (hq : q < B) : OwnK B t k enc (put5 w q u0 u1 u2 u3 u4) v l :=
  ((((OwnK.set h ⟨q, 0, none⟩ u0 hq).set ⟨q, 1, none⟩ u1 hq).set ⟨q, 2, none⟩ u2 hq).set ⟨q, 3, none⟩ u3 hq).set ⟨q, 4, none⟩ u4 hq
theorem OwnK.sl {B : Nat} {t : TypeId} {k : Nat} {α : Type} {enc : α → List Value} {w : World} {v : Value} {l : List α} (h : OwnK B t k enc w v l) : ∃ ad n cp, v = .slice ad n cp := by
  obtain ⟨ad, cp, h⟩ := h.slice
  exact ⟨ad, _, cp, h⟩
theorem ownk_sta (B : Nat) (t : TypeId) (k : Nat) {α : Type} (enc : α → List Value) (l : List α) : Sta (fun v w => OwnK B t k enc w v l) := fun v w w' h hb => h.below hb
/-- a graph whose rows are a call's own -/
structure OG (B : Nat) (g : Gr) (v : Value) (w : World) : Prop where
  all : ∃ v0 v1 v2 v3 v4, v = .agg #[v0, v1, v2, v3, v4] ∧ OwnK B 9 1 encT w v0 g.ins ∧ OwnK B 9 1 encT w v1 g.outN ∧ OwnK B 128 3 encR w v2 g.regs ∧ OwnK B 137 2 encN w v3 g.ands ∧ OwnK B 67 1 encI w v4 g.outs
theorem OG.go {B : Nat} {g : Gr} {v : Value} {w : World} (h : OG B g v w) : GO g v w := by
  obtain ⟨v0, v1, v2, v3, v4, rfl, h0, h1, h2, h3, h4⟩ := h.all
  obtain ⟨a0, c0, rfl, q0, n0, r0⟩ := h0.rowC lenT
  obtain ⟨a1, c1, rfl, q1, n1, r1⟩ := h1.rowC lenT
  obtain ⟨a2, c2, rfl, q2, n2, r2⟩ := h2.rowC lenR
  obtain ⟨a3, c3, rfl, q3, n3, r3⟩ := h3.rowC lenN
  obtain ⟨a4, c4, rfl, q4, n4, r4⟩ := h4.rowC lenI
  exact ⟨⟨a0, a1, a2, a3, a4, c0, c1, c2, c3, c4, rfl, ⟨q0, q1, q2, q3, q4, n0, n1, n2, n3, n4⟩, ⟨r0, r1, r2, r3, r4⟩⟩⟩
theorem OG.mono {B B' : Nat} {g : Gr} {v : Value} {w : World} (h : OG B g v w) (hb : B' ≤ B) : OG B' g v w := by
  obtain ⟨v0, v1, v2, v3, v4, h, h0, h1, h2, h3, h4⟩ := h.all
  exact ⟨⟨v0, v1, v2, v3, v4, h, h0.mono hb, h1.mono hb, h2.mono hb, h3.mono hb, h4.mono hb⟩⟩
theorem OG.below {B : Nat} {g : Gr} {v : Value} {w w' : World} (h : OG B g v w) (hb : Below w.heap.size w w') : OG B g v w' := by
  obtain ⟨v0, v1, v2, v3, v4, h, h0, h1, h2, h3, h4⟩ := h.all
  exact ⟨⟨v0, v1, v2, v3, v4, h, h0.below hb, h1.below hb, h2.below hb, h3.below hb, h4.below hb⟩⟩
end Go.Proofs.Ytcpifmhcebfglaa
