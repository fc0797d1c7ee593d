/- A graph in the making, in a box, its rows beside it: what appends, stores and calls that ask the stream do to it. No program. -/
import Derived.Test.YtcpifmhcebfglaaMgGsB
import Derived.Test.YtcpifmhcebfglaaMgGsA
import Derived.Test.YtcpifmhcebfglaaGpG
namespace Go.Proofs.Ytcpifmhcebfglaa
open Go Go.RowKit Go.Sort
set_option linter.unusedVariables false
/-- a graph in the box q, and the box p of the result -/
structure GB (B p q : Nat) (N N2 : List ByteArray) (R : List Rg) (A : List (Int × Int)) (O : List Int) (vi vN vn vr va vo : Value) (w : World) : Prop where
  pq : p ≠ q
  lo : B ≤ q
  res : BG p (.slice none 0 0) (.slice none 0 0) (.slice none 0 0) (.slice none 0 0) (.slice none 0 0) w
  box : BG q vi vn vr va vo w
  nm : OwnK B 9 1 encT w vN N
  on : OwnK B 9 1 encT w vn N2
  regs : OwnK B 128 3 encR w vr R
  ands : OwnK B 137 2 encN w va A
  outs : OwnK B 67 1 encI w vo O
section
variable {B p q : Nat} {N N2 : List ByteArray} {R : List Rg} {A : List (Int × Int)} {O : List Int} {vi vN vn vr va vo : Value} {w w' : World}
theorem GB.below (h : GB B p q N N2 R A O vi vN vn vr va vo w) (hb : Below w.heap.size w w') : GB B p q N N2 R A O vi vN vn vr va vo w' :=
  ⟨h.pq, h.lo, Arr.below h.res hb, Arr.below h.box hb, h.nm.below hb, h.on.below hb, h.regs.below hb, h.ands.below hb, h.outs.below hb⟩
theorem GB.adv {b : Nat} (h : GB B p q N N2 R A O vi vN vn vr va vo w) (hg : w.grownBy w' (some b)) (hb : b < B) (hp : b ≠ p) (hq : b ≠ q) : GB B p q N N2 R A O vi vN vn vr va vo w' :=
  ⟨h.pq, h.lo, Arr.gS h.res hg (by simpa using hp), Arr.gS h.box hg (by simpa using hq), h.nm.aparts hg hb, h.on.aparts hg hb, h.regs.aparts hg hb, h.ands.aparts hg hb, h.outs.aparts hg hb⟩
theorem GB.putA {v5 : Value} {A5 : List (Int × Int)} (h : GB B p q N N2 R A O vi vN vn vr va vo w) (hg : w.grownBy w' va.ownBlock) (O5 : OwnK B 137 2 encN w' v5 A5) : GB B p q N N2 R A5 O vi vN vn vr v5 vo (w'.setCell ⟨q, 3, none⟩ v5) := by
  have hq := Arr.gO h.box h.ands (by decide) hg
  exact ⟨h.pq, h.lo, Arr.other (Arr.gO h.res h.ands (by decide) hg) h.pq, Arr.set hq 3 v5, (h.nm.asideS h.ands (by decide) hg).putA hq (by decide) 3 v5, (h.on.asideS h.ands (by decide) hg).putA hq (by decide) 3 v5, (h.regs.asideS h.ands (by decide) hg).putA hq (by decide) 3 v5, O5.putA hq (by decide) 3 v5, (h.outs.asideS h.ands (by decide) hg).putA hq (by decide) 3 v5⟩
theorem GB.putR {v5 : Value} {R5 : List Rg} (h : GB B p q N N2 R A O vi vN vn vr va vo w) (hg : w.grownBy w' vr.ownBlock) (O5 : OwnK B 128 3 encR w' v5 R5) : GB B p q N N2 R5 A O vi vN vn v5 va vo (w'.setCell ⟨q, 2, none⟩ v5) := by
  have hq := Arr.gO h.box h.regs (by decide) hg
  exact ⟨h.pq, h.lo, Arr.other (Arr.gO h.res h.regs (by decide) hg) h.pq, Arr.set hq 2 v5, (h.nm.asideS h.regs (by decide) hg).putA hq (by decide) 2 v5, (h.on.asideS h.regs (by decide) hg).putA hq (by decide) 2 v5, O5.putA hq (by decide) 2 v5, (h.ands.asideS h.regs (by decide) hg).putA hq (by decide) 2 v5, (h.outs.asideS h.regs (by decide) hg).putA hq (by decide) 2 v5⟩
theorem GB.putO {v5 : Value} {O5 : List Int} (h : GB B p q N N2 R A O vi vN vn vr va vo w) (hg : w.grownBy w' vo.ownBlock) (O5' : OwnK B 67 1 encI w' v5 O5) : GB B p q N N2 R A O5 vi vN vn vr va v5 (w'.setCell ⟨q, 4, none⟩ v5) := by
  have hq := Arr.gO h.box h.outs (by decide) hg
  exact ⟨h.pq, h.lo, Arr.other (Arr.gO h.res h.outs (by decide) hg) h.pq, Arr.set hq 4 v5, (h.nm.asideS h.outs (by decide) hg).putA hq (by decide) 4 v5, (h.on.asideS h.outs (by decide) hg).putA hq (by decide) 4 v5, (h.regs.asideS h.outs (by decide) hg).putA hq (by decide) 4 v5, (h.ands.asideS h.outs (by decide) hg).putA hq (by decide) 4 v5, O5'.putA hq (by decide) 4 v5⟩
end
/-- a graph whose rows lie from block B on -/
structure GS (B : Nat) (g : Gr) (v : Value) (w : World) : Prop where
  all : ∃ a b c d e a' b' c' d' e', v = .agg #[.slice a g.ins.length a', .slice b g.outN.length b', .slice c g.regs.length c', .slice d g.ands.length d', .slice e g.outs.length e'] ∧ GC g a b c d e a' b' c' d' e' ∧ RowB B 1 encT g.ins a w ∧ RowB B 1 encT g.outN b w ∧ RowB B 3 encR g.regs c w ∧ RowB B 2 encN g.ands d w ∧ RowB B 1 encI g.outs e w
theorem GS.go {B : Nat} {g : Gr} {v : Value} {w : World} (h : GS B g v w) : GO g v w := by
  obtain ⟨a, b, c, d, e, a', b', c', d', e', hv, hC, h0, h1, h2, h3, h4⟩ := h.all
  exact ⟨⟨a, b, c, d, e, a', b', c', d', e', hv, hC, ⟨h0.at, h1.at, h2.at, h3.at, h4.at⟩⟩⟩
theorem GS.below {B : Nat} {g : Gr} {v : Value} {w w' : World} (h : GS B g v w) (hb : Below w.heap.size w w') : GS B g v w' := by
  obtain ⟨a, b, c, d, e, a', b', c', d', e', hv, hC, h0, h1, h2, h3, h4⟩ := h.all
  exact ⟨⟨a, b, c, d, e, a', b', c', d', e', hv, hC, h0.below hb, h1.below hb, h2.below hb, h3.below hb, h4.below hb⟩⟩
theorem GS.kept {B : Nat} {g : Gr} {v : Value} {w w' : World} {q : Nat} (h : GS B g v w) (hg : w.grownBy w' (some q)) (hq : q < B) : GS B g v w' := by
  obtain ⟨a, b, c, d, e, a', b', c', d', e', hv, hC, h0, h1, h2, h3, h4⟩ := h.all
  exact ⟨⟨a, b, c, d, e, a', b', c', d', e', hv, hC, h0.kept hg hq, h1.kept hg hq, h2.kept hg hq, h3.kept hg hq, h4.kept hg hq⟩⟩
theorem GS.mono {B B' : Nat} {g : Gr} {v : Value} {w : World} (h : GS B g v w) (hb : B' ≤ B) : GS B' g v w := by
  obtain ⟨a, b, c, d, e, a', b', c', d', e', hv, hC, h0, h1, h2, h3, h4⟩ := h.all
  exact ⟨⟨a, b, c, d, e, a', b', c', d', e', hv, hC, h0.mono hb, h1.mono hb, h2.mono hb, h3.mono hb, h4.mono hb⟩⟩
end Go.Proofs.Ytcpifmhcebfglaa
