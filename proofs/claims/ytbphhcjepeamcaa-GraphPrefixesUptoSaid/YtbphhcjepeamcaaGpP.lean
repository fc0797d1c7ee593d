/- The program's Copy again: its two rows of names lie in two blocks. Condition: rows of at most 4,000,000,000 elements. -/
import Derived.Test.YtbphhcjepeamcaaGpZ
import Derived.Test.YtbphhcjepeamcaaGpY
import Derived.Deep.RegionHeld3
namespace Go.Proofs.Ytbphhcjepeamcaa
open Go Go.RowKit Go.Sort
set_option linter.unusedVariables false
/-- two rows that lie in no common block -/
def Sep (u v : Value) : Prop := ∀ b, u.ownBlock = some b → v.ownBlock ≠ some b
theorem Sep.of {B : Nat} {t t2 : TypeId} {k k2 : Nat} {α β : Type} {enc : α → List Value} {enc2 : β → List Value} {W w : World} {u v : Value} {l : List α} {l2 : List β} (h : OwnK B t k enc W u l) (h2 : OwnK W.heap.size t2 k2 enc2 w v l2) : Sep u v := fun b hb hb2 => by
  have h1 := World.ownsRow.lt h b hb
  have h3 := World.ownsRow.lt h2 b hb2
  omega
/-- a graph in rows of the call's own, its rows of names apart -/
def OS (B : Nat) (g : Gr) (v : Value) (w : World) : Prop := ∃ a b c d e, v = .agg #[a, b, c, d, e] ∧ OwnK B 9 1 encT w a g.ins ∧ OwnK B 9 1 encT w b g.outN ∧ OwnK B 89 3 encR w c g.regs ∧ OwnK B 110 2 encN w d g.ands ∧ OwnK B 22 1 encI w e g.outs ∧ Sep a b
theorem kpS {wb w1 w2 : World} {k n0 n1 n2 n3 n4 c0 c1 c2 c3 c4 : Nat} {a0 a1 a2 a3 a4 : Option Addr} (hb : Below w1.heap.size w1 w2) (h : w1.cell? ⟨k, 0, none⟩ = some (.slice a0 n0 c0) ∧ w1.cell? ⟨k, 1, none⟩ = some (.slice a1 n1 c1) ∧ w1.cell? ⟨k, 2, none⟩ = some (.slice a2 n2 c2) ∧ w1.cell? ⟨k, 3, none⟩ = some (.slice a3 n3 c3) ∧ w1.cell? ⟨k, 4, none⟩ = some (.slice a4 n4 c4) ∧ Below k wb w1) (hk : wb.heap.size = k) : w2.cell? ⟨k, 0, none⟩ = some (.slice a0 n0 c0) ∧ w2.cell? ⟨k, 1, none⟩ = some (.slice a1 n1 c1) ∧ w2.cell? ⟨k, 2, none⟩ = some (.slice a2 n2 c2) ∧ w2.cell? ⟨k, 3, none⟩ = some (.slice a3 n3 c3) ∧ w2.cell? ⟨k, 4, none⟩ = some (.slice a4 n4 c4) ∧ Below k wb w2 :=
  ⟨(hb.cell (p := ⟨k, 0, none⟩) (World.block_lt_of_cell? _ _ h.1)).trans h.1, (hb.cell (p := ⟨k, 1, none⟩) (World.block_lt_of_cell? _ _ h.2.1)).trans h.2.1, (hb.cell (p := ⟨k, 2, none⟩) (World.block_lt_of_cell? _ _ h.2.2.1)).trans h.2.2.1, (hb.cell (p := ⟨k, 3, none⟩) (World.block_lt_of_cell? _ _ h.2.2.2.1)).trans h.2.2.2.1, (hb.cell (p := ⟨k, 4, none⟩) (World.block_lt_of_cell? _ _ h.2.2.2.2.1)).trans h.2.2.2.2.1, h.2.2.2.2.2.trans (hb.mono (hk ▸ h.2.2.2.2.2.size))⟩
theorem kpD {wb w1 : World} {k n0 n1 n2 n3 n4 c0 c1 c2 c3 c4 : Nat} {a0 a1 a2 a3 a4 : Option Addr} (h : w1.cell? ⟨k, 0, none⟩ = some (.slice a0 n0 c0) ∧ w1.cell? ⟨k, 1, none⟩ = some (.slice a1 n1 c1) ∧ w1.cell? ⟨k, 2, none⟩ = some (.slice a2 n2 c2) ∧ w1.cell? ⟨k, 3, none⟩ = some (.slice a3 n3 c3) ∧ w1.cell? ⟨k, 4, none⟩ = some (.slice a4 n4 c4) ∧ Below k wb w1) : w1.drew.cell? ⟨k, 0, none⟩ = some (.slice a0 n0 c0) ∧ w1.drew.cell? ⟨k, 1, none⟩ = some (.slice a1 n1 c1) ∧ w1.drew.cell? ⟨k, 2, none⟩ = some (.slice a2 n2 c2) ∧ w1.drew.cell? ⟨k, 3, none⟩ = some (.slice a3 n3 c3) ∧ w1.drew.cell? ⟨k, 4, none⟩ = some (.slice a4 n4 c4) ∧ Below k wb w1.drew :=
  ⟨h.1, h.2.1, h.2.2.1, h.2.2.2.1, h.2.2.2.2.1, h.2.2.2.2.2.drew⟩
theorem p5_cell (w : World) (k c : Nat) (u0 u1 u2 u3 u4 : Value) : (put5 w (k + 1) u0 u1 u2 u3 u4).cell? ⟨k, c, none⟩ = w.cell? ⟨k, c, none⟩ := by
  unfold put5
  rw [World.cell?_setCell_other _ _ _ _ (by intro e; have := congrArg Addr.block e; simp at this), World.cell?_setCell_other _ _ _ _ (by intro e; have := congrArg Addr.block e; simp at this), World.cell?_setCell_other _ _ _ _ (by intro e; have := congrArg Addr.block e; simp at this), World.cell?_setCell_other _ _ _ _ (by intro e; have := congrArg Addr.block e; simp at this), World.cell?_setCell_other _ _ _ _ (by intro e; have := congrArg Addr.block e; simp at this)]
theorem kpP {wb w1 : World} {k n0 n1 n2 n3 n4 c0 c1 c2 c3 c4 : Nat} {a0 a1 a2 a3 a4 : Option Addr} {u0 u1 u2 u3 u4 : Value} (h : w1.cell? ⟨k, 0, none⟩ = some (.slice a0 n0 c0) ∧ w1.cell? ⟨k, 1, none⟩ = some (.slice a1 n1 c1) ∧ w1.cell? ⟨k, 2, none⟩ = some (.slice a2 n2 c2) ∧ w1.cell? ⟨k, 3, none⟩ = some (.slice a3 n3 c3) ∧ w1.cell? ⟨k, 4, none⟩ = some (.slice a4 n4 c4) ∧ Below k wb w1) : ((((((w1.setCell ⟨k + 1, 0, none⟩ u0).setCell ⟨k + 1, 1, none⟩ u1).setCell ⟨k + 1, 2, none⟩ u2).setCell ⟨k + 1, 3, none⟩ u3).setCell ⟨k + 1, 4, none⟩ u4)).cell? ⟨k, 0, none⟩ = some (.slice a0 n0 c0) ∧ ((((((w1.setCell ⟨k + 1, 0, none⟩ u0).setCell ⟨k + 1, 1, none⟩ u1).setCell ⟨k + 1, 2, none⟩ u2).setCell ⟨k + 1, 3, none⟩ u3).setCell ⟨k + 1, 4, none⟩ u4)).cell? ⟨k, 1, none⟩ = some (.slice a1 n1 c1) ∧ ((((((w1.setCell ⟨k + 1, 0, none⟩ u0).setCell ⟨k + 1, 1, none⟩ u1).setCell ⟨k + 1, 2, none⟩ u2).setCell ⟨k + 1, 3, none⟩ u3).setCell ⟨k + 1, 4, none⟩ u4)).cell? ⟨k, 2, none⟩ = some (.slice a2 n2 c2) ∧ ((((((w1.setCell ⟨k + 1, 0, none⟩ u0).setCell ⟨k + 1, 1, none⟩ u1).setCell ⟨k + 1, 2, none⟩ u2).setCell ⟨k + 1, 3, none⟩ u3).setCell ⟨k + 1, 4, none⟩ u4)).cell? ⟨k, 3, none⟩ = some (.slice a3 n3 c3) ∧ ((((((w1.setCell ⟨k + 1, 0, none⟩ u0).setCell ⟨k + 1, 1, none⟩ u1).setCell ⟨k + 1, 2, none⟩ u2).setCell ⟨k + 1, 3, none⟩ u3).setCell ⟨k + 1, 4, none⟩ u4)).cell? ⟨k, 4, none⟩ = some (.slice a4 n4 c4) ∧ Below k wb ((((((w1.setCell ⟨k + 1, 0, none⟩ u0).setCell ⟨k + 1, 1, none⟩ u1).setCell ⟨k + 1, 2, none⟩ u2).setCell ⟨k + 1, 3, none⟩ u3).setCell ⟨k + 1, 4, none⟩ u4)) :=
  ⟨(p5_cell ..).trans h.1, (p5_cell ..).trans h.2.1, (p5_cell ..).trans h.2.2.1, (p5_cell ..).trans h.2.2.2.1, (p5_cell ..).trans h.2.2.2.2.1, b5_mono h.2.2.2.2.2 (Nat.le_succ k) _ _ _ _ _⟩
theorem kpT {W w1 w2 : World} (h : Below W.heap.size W w1) (hb : Below w1.heap.size w1 w2) : Below W.heap.size W w2 := h.trans (hb.mono h.size)
set_option maxRecDepth 100000 in
set_option maxHeartbeats 4000000 in
theorem copyS_any (g : Gr) (v : Value) (w : World) (sg : Small g) (hG : GO g v w) : Calls Try.prog 33 #[v] w fun e w' => ∃ u, e = .returned u ∧ OS w.heap.size g u w' ∧ Below w.heap.size w w' := by
  have hG0 := hG
  obtain ⟨a, b, c, d0, e, a', b', c', d', e', rfl, hC, hA⟩ := hG.all
  clear hG
  go_enter Try.func33, Try.ntmps33
  go_upto_region 1 with fail
  have bel := ((Below.refl w.heap.size w).alloc (Nat.le_refl _) (.cells #[.slice a g.ins.length a', .slice b g.outN.length b', .slice c g.regs.length c', .slice d0 g.ands.length d', .slice e g.outs.length e'] 28)).alloc (by simp) (.cells #[.slice none 0 0, .slice none 0 0, .slice none 0 0, .slice none 0 0, .slice none 0 0] 28)
  have X := (GX.new w (.slice a g.ins.length a') (.slice b g.outN.length b') (.slice c g.regs.length c') (.slice d0 g.ands.length d') (.slice e g.outs.length e') 28).below ((Below.refl _ _).alloc (Nat.le_refl _) (.cells #[.slice none 0 0, .slice none 0 0, .slice none 0 0, .slice none 0 0, .slice none 0 0] 28))
  have Y : BG (w.heap.size + 1) (.slice none 0 0) (.slice none 0 0) (.slice none 0 0) (.slice none 0 0) (.slice none 0 0) ((w.alloc (.cells #[.slice a g.ins.length a', .slice b g.outN.length b', .slice c g.regs.length c', .slice d0 g.ands.length d', .slice e g.outs.length e'] 28)).alloc (.cells #[.slice none 0 0, .slice none 0 0, .slice none 0 0, .slice none 0 0, .slice none 0 0] 28)) := by
    have := Arr.allocV (w.alloc (.cells #[.slice a g.ins.length a', .slice b g.outN.length b', .slice c g.regs.length c', .slice d0 g.ands.length d', .slice e g.outs.length e'] 28)) [.slice none 0 0, .slice none 0 0, .slice none 0 0, .slice none 0 0, .slice none 0 0] 28
    rwa [show (w.alloc (.cells #[.slice a g.ins.length a', .slice b g.outN.length b', .slice c g.regs.length c', .slice d0 g.ands.length d', .slice e g.outs.length e'] 28)).heap.size = w.heap.size + 1 by simp] at this
  have hsz : w.heap.size + 1 < ((w.alloc (.cells #[.slice a g.ins.length a', .slice b g.outN.length b', .slice c g.regs.length c', .slice d0 g.ands.length d', .slice e g.outs.length e'] 28)).alloc (.cells #[.slice none 0 0, .slice none 0 0, .slice none 0 0, .slice none 0 0, .slice none 0 0] 28)).heap.size := by simp
  generalize (w.alloc (.cells #[.slice a g.ins.length a', .slice b g.outN.length b', .slice c g.regs.length c', .slice d0 g.ands.length d', .slice e g.outs.length e'] 28)).alloc (.cells #[.slice none 0 0, .slice none 0 0, .slice none 0 0, .slice none 0 0, .slice none 0 0] 28) = W0 at bel X Y hsz ⊢
  generalize hk : w.heap.size = k at X Y hsz bel ⊢
  have HK := Lib.hid hk
  clear hk
  have hkW : k ≤ W0.heap.size := by omega
  obtain ⟨x0, x1, x2, x3, x4⟩ := id X
  clear hG0
  have H0 := Lib.hid (Below.drew (Below.refl W0.heap.size W0))
  have HY := Lib.hid Y
  clear Y
  have HS := (⟨x0, x1, x2, x3, x4, bel⟩ : (W0.cell? ⟨k, 0, none⟩ = some (.slice a g.ins.length a') ∧ W0.cell? ⟨k, 1, none⟩ = some (.slice b g.outN.length b') ∧ W0.cell? ⟨k, 2, none⟩ = some (.slice c g.regs.length c') ∧ W0.cell? ⟨k, 3, none⟩ = some (.slice d0 g.ands.length d') ∧ W0.cell? ⟨k, 4, none⟩ = some (.slice e g.outs.length e') ∧ Below k w W0))
  go_region_held3 (fun w' => (w'.cell? ⟨k, 0, none⟩ = some (.slice a g.ins.length a') ∧ w'.cell? ⟨k, 1, none⟩ = some (.slice b g.outN.length b') ∧ w'.cell? ⟨k, 2, none⟩ = some (.slice c g.regs.length c') ∧ w'.cell? ⟨k, 3, none⟩ = some (.slice d0 g.ands.length d') ∧ w'.cell? ⟨k, 4, none⟩ = some (.slice e g.outs.length e') ∧ Below k w w')) (first | (with_reducible exact kpD HS) | (with_reducible exact kpS B1.out (by assumption) HK.out) | (with_reducible exact kpS B2.out (by assumption) HK.out) | (with_reducible exact kpS B3.out (by assumption) HK.out) | (with_reducible exact kpS B4.out (by assumption) HK.out) | (with_reducible exact kpS B5.out (by assumption) HK.out) | (with_reducible exact kpP (by assumption)))
    (first
      | (go_at_call 74; refine (cloneT_any g.ins _ _ sg.ins (RowOf.mk hC.ins (hA.below (HK.out ▸ (by assumption : _ ∧ _ ∧ _ ∧ _ ∧ _ ∧ _).2.2.2.2.2)).ins)).mono ?_; rintro ee w1 ⟨u1, rfl, o1, h1⟩; obtain ⟨ad1, n1, cp1, rfl⟩ := OwnK.sl o1; have H1 := Lib.hid (kpT H0.out h1); have O1 := Lib.hid o1; have B1 := Lib.hid h1; clear o1 h1)
      | (go_at_call 74; refine (cloneT_any g.outN _ _ sg.outN (RowOf.mk hC.outN (hA.below (HK.out ▸ (by assumption : _ ∧ _ ∧ _ ∧ _ ∧ _ ∧ _).2.2.2.2.2)).outN)).mono ?_; rintro ee w2 ⟨u2, rfl, o2, h2⟩; obtain ⟨ad2, n2, cp2, rfl⟩ := OwnK.sl o2; have H2 := Lib.hid (kpT H1.out h2); have O2 := Lib.hid o2; have B2 := Lib.hid h2; clear o2 h2)
      | (go_at_call 83; refine (cloneR_any g.regs _ _ sg.regs (RowOf.mk hC.regs (hA.below (HK.out ▸ (by assumption : _ ∧ _ ∧ _ ∧ _ ∧ _ ∧ _).2.2.2.2.2)).regs)).mono ?_; rintro ee w3 ⟨u3, rfl, o3, h3⟩; obtain ⟨ad3, n3, cp3, rfl⟩ := OwnK.sl o3; have H3 := Lib.hid (kpT H2.out h3); have O3 := Lib.hid o3; have B3 := Lib.hid h3; clear o3 h3)
      | (go_at_call 84; refine (cloneN_any g.ands _ _ sg.ands (RowOf.mk hC.ands (hA.below (HK.out ▸ (by assumption : _ ∧ _ ∧ _ ∧ _ ∧ _ ∧ _).2.2.2.2.2)).ands)).mono ?_; rintro ee w4 ⟨u4, rfl, o4, h4⟩; obtain ⟨ad4, n4, cp4, rfl⟩ := OwnK.sl o4; have H4 := Lib.hid (kpT H3.out h4); have O4 := Lib.hid o4; have B4 := Lib.hid h4; clear o4 h4)
      | (go_at_call 72; refine (cloneI_any g.outs _ _ sg.outs (RowOf.mk hC.outs (hA.below (HK.out ▸ (by assumption : _ ∧ _ ∧ _ ∧ _ ∧ _ ∧ _).2.2.2.2.2)).outs)).mono ?_; rintro ee w5 ⟨u5, rfl, o5, h5⟩; obtain ⟨ad5, n5, cp5, rfl⟩ := OwnK.sl o5; have H5 := Lib.hid (kpT H4.out h5); have O5 := Lib.hid o5; have B5 := Lib.hid h5; clear o5 h5; have Y5 := Arr.below HY.out H5.out; have q0 := Arr.free Y5 0; have q1 := Arr.free Y5 1; have q2 := Arr.free Y5 2; have q3 := Arr.free Y5 3; have q4 := Arr.free Y5 4; obtain ⟨y0, y1, y2, y3, y4⟩ := id (BG.gx Y5); clear Y5))
  rename_i hHd
  clear hHd y0 y1 y2 y3 y4 q0 q1 q2 q3 q4 x0 x1 x2 x3 x4
  have hs1 := H1.out.size
  have hs2 := H2.out.size
  have hs3 := H3.out.size
  have hs4 := H4.out.size
  have P1 : OwnK W0.heap.size 9 1 encT w5 (.slice ad1 n1 cp1) g.ins := (((O1.out.below B2.out).below B3.out).below B4.out).below B5.out
  have P2 : OwnK W0.heap.size 9 1 encT w5 (.slice ad2 n2 cp2) g.outN := (((O2.out.below B3.out).below B4.out).below B5.out).mono hs1
  have P3 : OwnK W0.heap.size 89 3 encR w5 (.slice ad3 n3 cp3) g.regs := ((O3.out.below B4.out).below B5.out).mono hs2
  have P4 : OwnK W0.heap.size 110 2 encN w5 (.slice ad4 n4 cp4) g.ands := (O4.out.below B5.out).mono hs3
  have P5 : OwnK W0.heap.size 22 1 encI w5 (.slice ad5 n5 cp5) g.outs := O5.out.mono hs4
  have SP : Sep (.slice ad1 n1 cp1) (.slice ad2 n2 cp2) := Sep.of O1.out O2.out
  have OGF : OS w.heap.size g (.agg #[.slice ad1 n1 cp1, .slice ad2 n2 cp2, .slice ad3 n3 cp3, .slice ad4 n4 cp4, .slice ad5 n5 cp5]) (put5 w5 (k + 1) (.slice ad1 n1 cp1) (.slice ad2 n2 cp2) (.slice ad3 n3 cp3) (.slice ad4 n4 cp4) (.slice ad5 n5 cp5)) := by
    have hw : w.heap.size ≤ W0.heap.size := by rw [HK.out]; exact hkW
    exact ⟨_, _, _, _, _, rfl, (P1.put5 (k + 1) (.slice ad1 n1 cp1) (.slice ad2 n2 cp2) (.slice ad3 n3 cp3) (.slice ad4 n4 cp4) (.slice ad5 n5 cp5) hsz).mono hw, (P2.put5 (k + 1) (.slice ad1 n1 cp1) (.slice ad2 n2 cp2) (.slice ad3 n3 cp3) (.slice ad4 n4 cp4) (.slice ad5 n5 cp5) hsz).mono hw, (P3.put5 (k + 1) (.slice ad1 n1 cp1) (.slice ad2 n2 cp2) (.slice ad3 n3 cp3) (.slice ad4 n4 cp4) (.slice ad5 n5 cp5) hsz).mono hw, (P4.put5 (k + 1) (.slice ad1 n1 cp1) (.slice ad2 n2 cp2) (.slice ad3 n3 cp3) (.slice ad4 n4 cp4) (.slice ad5 n5 cp5) hsz).mono hw, (P5.put5 (k + 1) (.slice ad1 n1 cp1) (.slice ad2 n2 cp2) (.slice ad3 n3 cp3) (.slice ad4 n4 cp4) (.slice ad5 n5 cp5) hsz).mono hw, SP⟩
  have BF : Below w.heap.size w (put5 w5 (k + 1) (.slice ad1 n1 cp1) (.slice ad2 n2 cp2) (.slice ad3 n3 cp3) (.slice ad4 n4 cp4) (.slice ad5 n5 cp5)) := by rw [HK.out]; exact b5_mono (bel.trans (H5.out.mono hkW)) (Nat.le_succ k) (.slice ad1 n1 cp1) (.slice ad2 n2 cp2) (.slice ad3 n3 cp3) (.slice ad4 n4 cp4) (.slice ad5 n5 cp5)
  have hg := BG.gx (BG.all (Arr.below HY.out H5.out) (.slice ad1 n1 cp1) (.slice ad2 n2 cp2) (.slice ad3 n3 cp3) (.slice ad4 n4 cp4) (.slice ad5 n5 cp5))
  unfold put5 at hg OGF BF
  generalize ((((w5.setCell ⟨k + 1, 0, none⟩ (.slice ad1 n1 cp1)).setCell ⟨k + 1, 1, none⟩ (.slice ad2 n2 cp2)).setCell ⟨k + 1, 2, none⟩ (.slice ad3 n3 cp3)).setCell ⟨k + 1, 3, none⟩ (.slice ad4 n4 cp4)).setCell ⟨k + 1, 4, none⟩ (.slice ad5 n5 cp5) = WF at hg OGF BF ⊢
  obtain ⟨z0, z1, z2, z3, z4⟩ := hg
  clear H1 H2 H3 H4 H5 O1 O2 O3 O4 O5 B1 B2 B3 B4 B5 P1 P2 P3 P4 P5 HS hC hA H0 HY bel
  go_wp2_with fail
  exact bodyPost_ret (v := .agg #[.slice ad1 n1 cp1, .slice ad2 n2 cp2, .slice ad3 n3 cp3, .slice ad4 n4 cp4, .slice ad5 n5 cp5]) (by simp [results, Try.results33, go_sem, z0, z1, z2, z3, z4]) rfl ⟨_, rfl, OGF, BF⟩
end Go.Proofs.Ytbphhcjepeamcaa
