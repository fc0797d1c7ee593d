/- Graphs that are equal: the reference. -/
import Derived.Test.YtbphhcjepeamcaaGrEq
namespace Go.Proofs.Ytbphhcjepeamcaa
open Go Go.RowKit
set_option linter.unusedVariables false
/-- two graphs are equal -/
def sameG (g h : Gr) : Bool := decide (g.ins = h.ins) && decide (g.outN = h.outN) && decide (g.outs = h.outs) && decide (g.regs = h.regs) && decide (g.ands = h.ands)
theorem sameG_iff {g h : Gr} : sameG g h = true ↔ g = h := by
  unfold sameG
  cases g; cases h
  simp only [Bool.and_eq_true, decide_eq_true_eq, Gr.mk.injEq]
  constructor
  · rintro ⟨⟨⟨⟨h1, h2⟩, h3⟩, h4⟩, h5⟩; exact ⟨h1, h2, h4, h5, h3⟩
  · rintro ⟨h1, h2, h4, h5, h3⟩; exact ⟨⟨⟨⟨h1, h2⟩, h3⟩, h4⟩, h5⟩
/-- a graph with rows of no more than so many elements -/
structure Small (g : Gr) : Prop where
  ins : g.ins.length ≤ 4000000000
  outN : g.outN.length ≤ 4000000000
  regs : g.regs.length ≤ 4000000000
  ands : g.ands.length ≤ 4000000000
  outs : g.outs.length ≤ 4000000000
  insT : ∀ x ∈ g.ins, x.size ≤ 9000000000000000000
  outT : ∀ x ∈ g.outN, x.size ≤ 9000000000000000000
  regT : ∀ x ∈ g.regs, x.nm.size ≤ 9000000000000000000
set_option maxRecDepth 100000 in
set_option maxHeartbeats 4000000 in
theorem sameGraph_any (g h : Gr) (v u : Value) (sg : Small g) (sh : Small h) (w : World) (hg : GO g v w) (hh : GO h u w) : Calls Try.prog 32 #[v, u] w fun e w' => e = .returned (.bool (sameG g h)) ∧ Below w.heap.size w w' := by
  obtain ⟨a, b, c, d, e, a', b', c', d', e', rfl, hC, hA⟩ := hg.all
  obtain ⟨za, zb, zc, zd, ze, za', zb', zc', zd', ze', rfl, zC, zA⟩ := hh.all
  have E1 := Lib.hid fun W (hb : Below w.heap.size w W) => equalT_any g.ins h.ins _ _ sg.ins sh.ins W (RowOf.mk hC.ins (hA.ins.below hb)) (RowOf.mk zC.ins (zA.ins.below hb))
  have E2 := Lib.hid fun W (hb : Below w.heap.size w W) => equalT_any g.outN h.outN _ _ sg.outN sh.outN W (RowOf.mk hC.outN (hA.outN.below hb)) (RowOf.mk zC.outN (zA.outN.below hb))
  have E3 := Lib.hid fun W (hb : Below w.heap.size w W) => equalI_any g.outs h.outs _ _ sg.outs sh.outs W (RowOf.mk hC.outs (hA.outs.below hb)) (RowOf.mk zC.outs (zA.outs.below hb))
  have E4 := Lib.hid fun W (hb : Below w.heap.size w W) => equalR_any g.regs h.regs _ _ sg.regs sh.regs W (RowOf.mk hC.regs (hA.regs.below hb)) (RowOf.mk zC.regs (zA.regs.below hb))
  have E5 := Lib.hid fun W (hb : Below w.heap.size w W) => equalN_any g.ands h.ands _ _ sg.ands sh.ands W (RowOf.mk hC.ands (hA.ands.below hb)) (RowOf.mk zC.ands (zA.ands.below hb))
  have HS : Hid (sameG g h = (decide (g.ins = h.ins) && decide (g.outN = h.outN) && decide (g.outs = h.outs) && decide (g.regs = h.regs) && decide (g.ands = h.ands))) := Lib.hid rfl
  generalize sameG g h = S at HS ⊢
  generalize decide (g.ins = h.ins) = p1 at E1 HS
  generalize decide (g.outN = h.outN) = p2 at E2 HS
  generalize decide (g.outs = h.outs) = p3 at E3 HS
  generalize decide (g.regs = h.regs) = p4 at E4 HS
  generalize decide (g.ands = h.ands) = p5 at E5 HS
  clear hC hA zC zA hg hh sg sh
  generalize g.ins.length = n1 at *
  generalize g.outN.length = n2 at *
  generalize g.regs.length = n3 at *
  generalize g.ands.length = n4 at *
  generalize g.outs.length = n5 at *
  generalize h.ins.length = m1 at *
  generalize h.outN.length = m2 at *
  generalize h.regs.length = m3 at *
  generalize h.ands.length = m4 at *
  generalize h.outs.length = m5 at *
  go_enter Try.func32, Try.ntmps32
  go_upto_region 1 with fail
  have bel := ((Below.refl w.heap.size w).alloc (Nat.le_refl _) (.cells #[.slice a n1 a', .slice b n2 b', .slice c n3 c', .slice d n4 d', .slice e n5 e'] 28)).alloc (by simp) (.cells #[.slice za m1 za', .slice zb m2 zb', .slice zc m3 zc', .slice zd m4 zd', .slice ze m5 ze'] 28)
  have X := (GX.new w (.slice a n1 a') (.slice b n2 b') (.slice c n3 c') (.slice d n4 d') (.slice e n5 e') 28).below ((Below.refl _ _).alloc (Nat.le_refl _) (.cells #[.slice za m1 za', .slice zb m2 zb', .slice zc m3 zc', .slice zd m4 zd', .slice ze m5 ze'] 28))
  have Y := GX.new (w.alloc (.cells #[.slice a n1 a', .slice b n2 b', .slice c n3 c', .slice d n4 d', .slice e n5 e'] 28)) (.slice za m1 za') (.slice zb m2 zb') (.slice zc m3 zc') (.slice zd m4 zd') (.slice ze m5 ze') 28
  rw [show (w.alloc (.cells #[.slice a n1 a', .slice b n2 b', .slice c n3 c', .slice d n4 d', .slice e n5 e'] 28)).heap.size = w.heap.size + 1 by simp] at Y
  generalize (w.alloc (.cells #[.slice a n1 a', .slice b n2 b', .slice c n3 c', .slice d n4 d', .slice e n5 e'] 28)).alloc (.cells #[.slice za m1 za', .slice zb m2 zb', .slice zc m3 zc', .slice zd m4 zd', .slice ze m5 ze'] 28) = W0 at bel X Y ⊢
  have lx := X.lt
  have ly := Y.lt
  obtain ⟨x0, x1, x2, x3, x4⟩ := id X
  obtain ⟨y0, y1, y2, y3, y4⟩ := id Y
  cases p1 with
  | false =>
    have HR : Hid (S = false) := Lib.hid (HS.out.trans (by simp))
    clear HS
    go_wp2_with (first | (go_at_call 80; refine (E1.out _ bel).mono ?_; rintro e ww ⟨rfl, hb⟩; replace bel := bel.trans (hb.mono bel.size); replace X := X.below hb; replace Y := Y.below hb; clear hb lx ly E1 x0 x1 x2 x3 x4 y0 y1 y2 y3 y4; have lx := X.lt; have ly := Y.lt; obtain ⟨x0, x1, x2, x3, x4⟩ := id X; obtain ⟨y0, y1, y2, y3, y4⟩ := id Y))
    go_ret
    exact ⟨ret_bool HR.out.symm, bel⟩
  | true =>
    cases p2 with
    | false =>
      have HR : Hid (S = false) := Lib.hid (HS.out.trans (by simp))
      clear HS
      go_wp2_with (first | (go_at_call 80; refine (E1.out _ bel).mono ?_; rintro e ww ⟨rfl, hb⟩; replace bel := bel.trans (hb.mono bel.size); replace X := X.below hb; replace Y := Y.below hb; clear hb lx ly E1 x0 x1 x2 x3 x4 y0 y1 y2 y3 y4; have lx := X.lt; have ly := Y.lt; obtain ⟨x0, x1, x2, x3, x4⟩ := id X; obtain ⟨y0, y1, y2, y3, y4⟩ := id Y))
      go_wp2_with (first | (go_at_call 80; refine (E2.out _ bel).mono ?_; rintro e ww ⟨rfl, hb⟩; replace bel := bel.trans (hb.mono bel.size); replace X := X.below hb; replace Y := Y.below hb; clear hb lx ly E2 x0 x1 x2 x3 x4 y0 y1 y2 y3 y4; have lx := X.lt; have ly := Y.lt; obtain ⟨x0, x1, x2, x3, x4⟩ := id X; obtain ⟨y0, y1, y2, y3, y4⟩ := id Y))
      go_ret
      exact ⟨ret_bool HR.out.symm, bel⟩
    | true =>
      cases p3 with
      | false =>
        have HR : Hid (S = false) := Lib.hid (HS.out.trans (by simp))
        clear HS
        go_wp2_with (first | (go_at_call 80; refine (E1.out _ bel).mono ?_; rintro e ww ⟨rfl, hb⟩; replace bel := bel.trans (hb.mono bel.size); replace X := X.below hb; replace Y := Y.below hb; clear hb lx ly E1 x0 x1 x2 x3 x4 y0 y1 y2 y3 y4; have lx := X.lt; have ly := Y.lt; obtain ⟨x0, x1, x2, x3, x4⟩ := id X; obtain ⟨y0, y1, y2, y3, y4⟩ := id Y))
        go_wp2_with (first | (go_at_call 80; refine (E2.out _ bel).mono ?_; rintro e ww ⟨rfl, hb⟩; replace bel := bel.trans (hb.mono bel.size); replace X := X.below hb; replace Y := Y.below hb; clear hb lx ly E2 x0 x1 x2 x3 x4 y0 y1 y2 y3 y4; have lx := X.lt; have ly := Y.lt; obtain ⟨x0, x1, x2, x3, x4⟩ := id X; obtain ⟨y0, y1, y2, y3, y4⟩ := id Y))
        go_wp2_with (first | (go_at_call 22; refine (E3.out _ bel).mono ?_; rintro e ww ⟨rfl, hb⟩; replace bel := bel.trans (hb.mono bel.size); replace X := X.below hb; replace Y := Y.below hb; clear hb lx ly E3 x0 x1 x2 x3 x4 y0 y1 y2 y3 y4; have lx := X.lt; have ly := Y.lt; obtain ⟨x0, x1, x2, x3, x4⟩ := id X; obtain ⟨y0, y1, y2, y3, y4⟩ := id Y))
        go_ret
        exact ⟨ret_bool HR.out.symm, bel⟩
      | true =>
        cases p4 with
        | false =>
          have HR : Hid (S = false) := Lib.hid (HS.out.trans (by simp))
          clear HS
          go_wp2_with (first | (go_at_call 80; refine (E1.out _ bel).mono ?_; rintro e ww ⟨rfl, hb⟩; replace bel := bel.trans (hb.mono bel.size); replace X := X.below hb; replace Y := Y.below hb; clear hb lx ly E1 x0 x1 x2 x3 x4 y0 y1 y2 y3 y4; have lx := X.lt; have ly := Y.lt; obtain ⟨x0, x1, x2, x3, x4⟩ := id X; obtain ⟨y0, y1, y2, y3, y4⟩ := id Y))
          go_wp2_with (first | (go_at_call 80; refine (E2.out _ bel).mono ?_; rintro e ww ⟨rfl, hb⟩; replace bel := bel.trans (hb.mono bel.size); replace X := X.below hb; replace Y := Y.below hb; clear hb lx ly E2 x0 x1 x2 x3 x4 y0 y1 y2 y3 y4; have lx := X.lt; have ly := Y.lt; obtain ⟨x0, x1, x2, x3, x4⟩ := id X; obtain ⟨y0, y1, y2, y3, y4⟩ := id Y))
          go_wp2_with (first | (go_at_call 22; refine (E3.out _ bel).mono ?_; rintro e ww ⟨rfl, hb⟩; replace bel := bel.trans (hb.mono bel.size); replace X := X.below hb; replace Y := Y.below hb; clear hb lx ly E3 x0 x1 x2 x3 x4 y0 y1 y2 y3 y4; have lx := X.lt; have ly := Y.lt; obtain ⟨x0, x1, x2, x3, x4⟩ := id X; obtain ⟨y0, y1, y2, y3, y4⟩ := id Y))
          go_wp2_with (first | (go_at_call 81; refine (E4.out _ bel).mono ?_; rintro e ww ⟨rfl, hb⟩; replace bel := bel.trans (hb.mono bel.size); replace X := X.below hb; replace Y := Y.below hb; clear hb lx ly E4 x0 x1 x2 x3 x4 y0 y1 y2 y3 y4; have lx := X.lt; have ly := Y.lt; obtain ⟨x0, x1, x2, x3, x4⟩ := id X; obtain ⟨y0, y1, y2, y3, y4⟩ := id Y))
          go_ret
          exact ⟨ret_bool HR.out.symm, bel⟩
        | true =>
          cases p5 with
          | false =>
            have HR : Hid (S = false) := Lib.hid (HS.out.trans (by simp))
            clear HS
            go_wp2_with (first | (go_at_call 80; refine (E1.out _ bel).mono ?_; rintro e ww ⟨rfl, hb⟩; replace bel := bel.trans (hb.mono bel.size); replace X := X.below hb; replace Y := Y.below hb; clear hb lx ly E1 x0 x1 x2 x3 x4 y0 y1 y2 y3 y4; have lx := X.lt; have ly := Y.lt; obtain ⟨x0, x1, x2, x3, x4⟩ := id X; obtain ⟨y0, y1, y2, y3, y4⟩ := id Y))
            go_wp2_with (first | (go_at_call 80; refine (E2.out _ bel).mono ?_; rintro e ww ⟨rfl, hb⟩; replace bel := bel.trans (hb.mono bel.size); replace X := X.below hb; replace Y := Y.below hb; clear hb lx ly E2 x0 x1 x2 x3 x4 y0 y1 y2 y3 y4; have lx := X.lt; have ly := Y.lt; obtain ⟨x0, x1, x2, x3, x4⟩ := id X; obtain ⟨y0, y1, y2, y3, y4⟩ := id Y))
            go_wp2_with (first | (go_at_call 22; refine (E3.out _ bel).mono ?_; rintro e ww ⟨rfl, hb⟩; replace bel := bel.trans (hb.mono bel.size); replace X := X.below hb; replace Y := Y.below hb; clear hb lx ly E3 x0 x1 x2 x3 x4 y0 y1 y2 y3 y4; have lx := X.lt; have ly := Y.lt; obtain ⟨x0, x1, x2, x3, x4⟩ := id X; obtain ⟨y0, y1, y2, y3, y4⟩ := id Y))
            go_wp2_with (first | (go_at_call 81; refine (E4.out _ bel).mono ?_; rintro e ww ⟨rfl, hb⟩; replace bel := bel.trans (hb.mono bel.size); replace X := X.below hb; replace Y := Y.below hb; clear hb lx ly E4 x0 x1 x2 x3 x4 y0 y1 y2 y3 y4; have lx := X.lt; have ly := Y.lt; obtain ⟨x0, x1, x2, x3, x4⟩ := id X; obtain ⟨y0, y1, y2, y3, y4⟩ := id Y))
            go_wp2_with (first | (go_at_call 82; refine (E5.out _ bel).mono ?_; rintro e ww ⟨rfl, hb⟩; replace bel := bel.trans (hb.mono bel.size); replace X := X.below hb; replace Y := Y.below hb; clear hb lx ly E5 x0 x1 x2 x3 x4 y0 y1 y2 y3 y4; have lx := X.lt; have ly := Y.lt; obtain ⟨x0, x1, x2, x3, x4⟩ := id X; obtain ⟨y0, y1, y2, y3, y4⟩ := id Y))
            go_ret
            exact ⟨ret_bool HR.out.symm, bel⟩
          | true =>
            have HR : Hid (S = true) := Lib.hid (HS.out.trans (by simp))
            clear HS
            go_wp2_with (first | (go_at_call 80; refine (E1.out _ bel).mono ?_; rintro e ww ⟨rfl, hb⟩; replace bel := bel.trans (hb.mono bel.size); replace X := X.below hb; replace Y := Y.below hb; clear hb lx ly E1 x0 x1 x2 x3 x4 y0 y1 y2 y3 y4; have lx := X.lt; have ly := Y.lt; obtain ⟨x0, x1, x2, x3, x4⟩ := id X; obtain ⟨y0, y1, y2, y3, y4⟩ := id Y))
            go_wp2_with (first | (go_at_call 80; refine (E2.out _ bel).mono ?_; rintro e ww ⟨rfl, hb⟩; replace bel := bel.trans (hb.mono bel.size); replace X := X.below hb; replace Y := Y.below hb; clear hb lx ly E2 x0 x1 x2 x3 x4 y0 y1 y2 y3 y4; have lx := X.lt; have ly := Y.lt; obtain ⟨x0, x1, x2, x3, x4⟩ := id X; obtain ⟨y0, y1, y2, y3, y4⟩ := id Y))
            go_wp2_with (first | (go_at_call 22; refine (E3.out _ bel).mono ?_; rintro e ww ⟨rfl, hb⟩; replace bel := bel.trans (hb.mono bel.size); replace X := X.below hb; replace Y := Y.below hb; clear hb lx ly E3 x0 x1 x2 x3 x4 y0 y1 y2 y3 y4; have lx := X.lt; have ly := Y.lt; obtain ⟨x0, x1, x2, x3, x4⟩ := id X; obtain ⟨y0, y1, y2, y3, y4⟩ := id Y))
            go_wp2_with (first | (go_at_call 81; refine (E4.out _ bel).mono ?_; rintro e ww ⟨rfl, hb⟩; replace bel := bel.trans (hb.mono bel.size); replace X := X.below hb; replace Y := Y.below hb; clear hb lx ly E4 x0 x1 x2 x3 x4 y0 y1 y2 y3 y4; have lx := X.lt; have ly := Y.lt; obtain ⟨x0, x1, x2, x3, x4⟩ := id X; obtain ⟨y0, y1, y2, y3, y4⟩ := id Y))
            go_wp2_with (first | (go_at_call 82; refine (E5.out _ bel).mono ?_; rintro e ww ⟨rfl, hb⟩; replace bel := bel.trans (hb.mono bel.size); replace X := X.below hb; replace Y := Y.below hb; clear hb lx ly E5 x0 x1 x2 x3 x4 y0 y1 y2 y3 y4; have lx := X.lt; have ly := Y.lt; obtain ⟨x0, x1, x2, x3, x4⟩ := id X; obtain ⟨y0, y1, y2, y3, y4⟩ := id Y))
            go_ret
            exact ⟨ret_bool HR.out.symm, bel⟩
end Go.Proofs.Ytbphhcjepeamcaa
