/- The law on prefixes: its walk. Asked: what is said here of Prefix, and the fact. -/
import Derived.Test.YtbphhcjepeamcaaGlPd
import Derived.Test.YtbphhcjepeamcaaGrOk
import Derived.Test.YtbphhcjepeamcaaGlNil
namespace Go.Proofs.Ytbphhcjepeamcaa
open Go Go.RowKit Go.Sort
set_option linter.unusedVariables false
theorem infoR : (Try.prog.info? 89).map (fun i => (i.zero, i.size, i.bytes)) = some (some (.agg #[.string ⟨#[]⟩, .int .i64 0, .bool false]), 3, 32) := by kernel_rfl
theorem infoR_parts : ∃ i, Try.prog.info? 89 = some i ∧ i.zero = some (.agg #[.string ⟨#[]⟩, .int .i64 0, .bool false]) ∧ i.size = 3 ∧ i.bytes = 32 := by
  have h := infoR
  cases hi : Try.prog.info? 89 with
  | none => rw [hi] at h; cases h
  | some i =>
    rw [hi] at h
    simp only [Option.map_some, Option.some.injEq, Prod.mk.injEq] at h
    exact ⟨i, rfl, h.1, h.2.1, h.2.2⟩
abbrev fV (v : Value) : Value := v
abbrev zG : List Value := [.slice none 0 0, .slice none 0 0, .slice none 0 0, .slice none 0 0, .slice none 0 0]
/-- a graph in a block that is written -/
abbrev AG (k : Nat) (v0 v1 v2 v3 v4 : Value) (w : World) : Prop := Arr 28 fV k [v0, v1, v2, v3, v4] w
theorem AG.gx {k : Nat} {v0 v1 v2 v3 v4 : Value} {w : World} (h : AG k v0 v1 v2 v3 v4 w) : GX k v0 v1 v2 v3 v4 w :=
  ⟨Arr.cell (j := 0) h (by simp), Arr.cell (j := 1) h (by simp), Arr.cell (j := 2) h (by simp), Arr.cell (j := 3) h (by simp), Arr.cell (j := 4) h (by simp)⟩
theorem AG.all {k : Nat} {v0 v1 v2 v3 v4 : Value} {w : World} (h : AG k v0 v1 v2 v3 v4 w) (u0 u1 u2 u3 u4 : Value) : AG k u0 u1 u2 u3 u4 (((((w.setCell ⟨k, 0, none⟩ u0).setCell ⟨k, 1, none⟩ u1).setCell ⟨k, 2, none⟩ u2).setCell ⟨k, 3, none⟩ u3).setCell ⟨k, 4, none⟩ u4) :=
  ((((Arr.set h 0 u0).set 1 u1).set 2 u2).set 3 u3).set 4 u4
theorem AG.set1 {k : Nat} {v0 v1 v2 v3 v4 : Value} {w : World} (h : AG k v0 v1 v2 v3 v4 w) (u : Value) : AG k v0 u v2 v3 v4 (w.setCell ⟨k, 1, none⟩ u) := Arr.set h 1 u
theorem AG.set2 {k : Nat} {v0 v1 v2 v3 v4 : Value} {w : World} (h : AG k v0 v1 v2 v3 v4 w) (u : Value) : AG k v0 v1 u v3 v4 (w.setCell ⟨k, 2, none⟩ u) := Arr.set h 2 u
theorem below5 {k : Nat} {w0 w : World} (h : Below k w0 w) (u0 u1 u2 u3 u4 : Value) : Below k w0 (((((w.setCell ⟨k, 0, none⟩ u0).setCell ⟨k, 1, none⟩ u1).setCell ⟨k, 2, none⟩ u2).setCell ⟨k, 3, none⟩ u3).setCell ⟨k, 4, none⟩ u4) :=
  ((((h.setCell (Nat.le_refl _) u0).setCell (Nat.le_refl _) u1).setCell (Nat.le_refl _) u2).setCell (Nat.le_refl _) u3).setCell (Nat.le_refl _) u4
theorem Arr.alloc (w : World) (l : List Value) (t : TypeId) : Arr t fV w.heap.size l (w.alloc (.cells l.toArray t)) := ⟨by
  show (w.heap.push _)[w.heap.size]? = _
  simp⟩
theorem grown_set (w : World) (p : Addr) (v : Value) : w.grownBy (w.setCell p v) (some p.block) :=
  ⟨rfl, rfl, rfl, by simp [World.setCell], fun k _ hne => Below.heap_setCell w p v k (fun e => hne (by rw [e]))⟩
theorem owns_set {w : World} {B : Nat} {t : TypeId} {k : Nat} {v : Value} {n : Nat} {xs : List Value} (h : w.ownsRow B t k v n xs) (p : Addr) (u : Value) (hp : p.block < B) : (w.setCell p u).ownsRow B t k v n xs :=
  World.ownsRow.kept h (grown_set w p u) (by
    cases hv : v.ownBlock with
    | none => exact .inl rfl
    | some b => exact .inr (fun e => by have := (World.ownsRow.lt h b hv).1; simp only [Option.some.injEq] at e; omega))
theorem OwnK.slice3 {B : Nat} {t : TypeId} {k : Nat} {α : Type} {enc : α → List Value} {w : World} {v : Value} {l : List α} (h : OwnK B t k enc w v l) : ∃ ad n cp, v = .slice ad n cp := by
  obtain ⟨ad, cp, h⟩ := h.slice
  exact ⟨ad, _, cp, h⟩
def prR (s : ByteArray) (r : Rg) : Rg := ⟨s ++ r.nm, r.nx, r.it⟩
theorem OwnK.rowN {B : Nat} {t : TypeId} {k : Nat} {α : Type} {enc : α → List Value} {w : World} {l : List α} {ad : Option Addr} {n cp : Nat} (h : OwnK B t k enc w (.slice ad n cp) l) : ad = none → cp = 0 := fun hn => by
  subst hn
  rcases h.2 with ⟨h1, h0⟩ | ⟨g, cap, cur, hv, _⟩
  · cases h1; rfl
  · cases hv
theorem pref_small {g : Gr} {s : ByteArray} (sg : Small g) (hs : s.size ≤ 4000000000) (hss : ∀ x ∈ g.outN, x.size ≤ 4000000000) (hsr : ∀ r ∈ g.regs, r.nm.size ≤ 4000000000) : Small (prefG g s) := by
  refine ⟨sg.ins, ?_, ?_, sg.ands, sg.outs, sg.insT, ?_, ?_⟩
  · show (g.outN.map _).length ≤ _; rw [List.length_map]; exact sg.outN
  · show (g.regs.map _).length ≤ _; rw [List.length_map]; exact sg.regs
  · intro x hx
    obtain ⟨y, hy, rfl⟩ := List.mem_map.1 hx
    have := hss y hy
    rw [ByteArray.size_append]; omega
  · intro x hx
    obtain ⟨y, hy, rfl⟩ := List.mem_map.1 hx
    have := hsr y hy
    show (s ++ y.nm).size ≤ _
    rw [ByteArray.size_append]; omega
/-- the graph that was put together -/
theorem pref_go {g : Gr} {s : ByteArray} {a b c d0 e : Option Addr} {a' b' c' d' e' B B2 : Nat} {w : World} {ad1 ad2 : Option Addr} {c1 c2 n1 n2 : Nat} (hC : GC g a b c d0 e a' b' c' d' e') (hA : GA g a b c d0 e w) (h1 : OwnK B 9 1 encT w (.slice ad1 n1 c1) (g.outN.map (s ++ ·))) (h2 : OwnK B2 89 3 encR w (.slice ad2 n2 c2) (g.regs.map (prR s))) : GO (prefG g s) (.agg #[.slice a g.ins.length a', .slice ad1 n1 c1, .slice ad2 n2 c2, .slice d0 g.ands.length d', .slice e g.outs.length e']) w := by
  obtain ⟨x1, y1, e1, k1, r1⟩ := OwnK.row (k := 1) (enc := encT) (fun _ => rfl) h1
  obtain ⟨x2, y2, e2, k2, r2⟩ := OwnK.row (k := 3) (enc := encR) (fun _ => rfl) h2
  cases e1
  cases e2
  exact ⟨⟨a, ad1, ad2, d0, e, a', c1, c2, d', e', rfl, ⟨hC.ins, k1, k2, hC.ands, hC.outs, hC.insN, h1.rowN, h2.rowN, hC.andsN, hC.outsN⟩, ⟨hA.ins, r1, r2, hA.ands, hA.outs⟩⟩⟩
set_option maxRecDepth 100000 in
set_option maxHeartbeats 8000000 in
theorem prefixes_law (hF : FactC) (hP : PrefixC) (g : Gr) (v : Value) (s : ByteArray) (sg : Small g) (hs : s.size ≤ 4000000000) (hss : ∀ x ∈ g.outN, x.size ≤ 4000000000) (hsr : ∀ r ∈ g.regs, r.nm.size ≤ 4000000000) (w : World) (hG : GO g v w) : Calls Try.prog 11 #[v, .string s] w fun e w' => e = .returned (.bool true) ∧ Below w.heap.size w w' := by
  have hG0 := hG
  obtain ⟨a, b, c, d0, e, a', b', c', d', e', rfl, hC, hA⟩ := hG.all
  clear hG
  have HF := Lib.hid (fun W => hF W)
  clear hF
  go_enter Try.func11, Try.ntmps11
  go_upto_region 1 with fail
  have bel := (Below.refl w.heap.size w).alloc (Nat.le_refl _) (.cells #[.slice a g.ins.length a', .slice b g.outN.length b', .slice c g.regs.length c', .slice d0 g.ands.length d', .slice e g.outs.length e'] 28)
  have X := GX.new w (.slice a g.ins.length a') (.slice b g.outN.length b') (.slice c g.regs.length c') (.slice d0 g.ands.length d') (.slice e g.outs.length e') 28
  generalize w.alloc (.cells #[.slice a g.ins.length a', .slice b g.outN.length b', .slice c g.regs.length c', .slice d0 g.ands.length d', .slice e g.outs.length e'] 28) = W0 at bel X ⊢
  generalize hk : w.heap.size = k at X ⊢
  have HK := Lib.hid hk
  clear hk
  obtain ⟨x0, x1, x2, x3, x4⟩ := id X
  have H1 := Lib.hid (hP g _ s W0 sg hs hss hsr (hG0.below bel))
  go_upto_region 2 with (first | (go_at_call 61; refine H1.out.mono ?_; rintro ee W1 ⟨u, rfl, R1, hb1⟩; have R0 := R1; obtain ⟨pa, pb, pc, pd, pe, pa', pb', pc', pd', pe', rfl, pC, pA⟩ := R1.all; clear R1 pC pA; generalize (prefR g s).ins.length = l1 at R0 ⊢; generalize (prefR g s).outN.length = l2 at R0 ⊢; generalize (prefR g s).regs.length = l3 at R0 ⊢; generalize (prefR g s).ands.length = l4 at R0 ⊢; generalize (prefR g s).outs.length = l5 at R0 ⊢; replace bel := bel.trans (hb1.mono bel.size); replace X := X.below hb1; clear hb1 H1 x0 x1 x2 x3 x4; obtain ⟨x0, x1, x2, x3, x4⟩ := id X))
  have hba := (Below.refl _ W1).alloc (Nat.le_refl _) (.cells #[.slice pa l1 pa', .slice pb l2 pb', .slice pc l3 pc', .slice pd l4 pd', .slice pe l5 pe'] 28)
  have Y := GX.new W1 (.slice pa l1 pa') (.slice pb l2 pb') (.slice pc l3 pc') (.slice pd l4 pd') (.slice pe l5 pe') 28
  replace bel := bel.trans (hba.mono bel.size)
  replace X := X.below hba
  replace R0 := R0.below hba
  clear hba x0 x1 x2 x3 x4
  generalize W1.alloc (.cells #[.slice pa l1 pa', .slice pb l2 pb', .slice pc l3 pc', .slice pd l4 pd', .slice pe l5 pe'] 28) = W2 at bel X Y R0 ⊢
  generalize W1.heap.size = k5 at Y ⊢
  obtain ⟨x0, x1, x2, x3, x4⟩ := id X
  have H1 := Lib.hid (fault_any g _ sg W2 (hG0.below bel))
  go_upto_region 3 with (first | (go_at_call 30; refine H1.out.mono ?_; rintro ee W3 ⟨rfl, hb1⟩; replace bel := bel.trans (hb1.mono bel.size); replace X := X.below hb1; replace Y := Y.below hb1; replace R0 := R0.below hb1; clear hb1 H1 x0 x1 x2 x3 x4; obtain ⟨x0, x1, x2, x3, x4⟩ := id X))
  have hk5 := Y.lt
  have hkk := X.lt
  have ha : Below W3.heap.size W3 (W3.alloc (.cells #[.slice none 0 0, .slice none 0 0, .slice none 0 0, .slice none 0 0, .slice none 0 0] 28)) := (Below.refl _ W3).alloc (Nat.le_refl _) _
  have A8 : AG W3.heap.size (.slice none 0 0) (.slice none 0 0) (.slice none 0 0) (.slice none 0 0) (.slice none 0 0) (W3.alloc (.cells #[.slice none 0 0, .slice none 0 0, .slice none 0 0, .slice none 0 0, .slice none 0 0] 28)) := Arr.alloc W3 zG _
  by_cases hf : faultG g = 0
  rotate_left
  · have hpe : prefE g s = faultG g := if_neg hf
    have hpr : prefR g s = nilG := if_neg (fun h => hf (hpe ▸ h))
    have hfb : (faultG g == 0) = false := beq_eq_false_iff_ne.2 hf
    have hfc : (faultG g != 0) = true := by simp [bne, hfb]
    go_upto_region 21 with fail
    replace X := X.below ha
    replace bel := bel.trans (ha.mono bel.size)
    replace Y := Y.below ha
    replace R0 := R0.below ha
    have Z := AG.gx A8
    generalize W3.alloc (.cells #[.slice none 0 0, .slice none 0 0, .slice none 0 0, .slice none 0 0, .slice none 0 0] 28) = W4 at X Y Z ha bel R0 ⊢
    have R9 := nil_go W4
    have hsp := nil_small
    rw [hpr] at R0
    rw [hpe]
    generalize W3.heap.size = k8 at Z ⊢
    clear x0 x1 x2 x3 x4 ha A8 hG0 hC hA X hpr hpe
    have HSG := Lib.hid (fun v u W q1 q2 => by have := sameGraph_any _ _ v u hsp hsp W q1 q2; rwa [same_self2] at this)
    have hl5 := Y.lt
    have hl8 := Z.lt
    obtain ⟨y0, y1, y2, y3, y4⟩ := id Y
    obtain ⟨z0, z1, z2, z3, z4⟩ := id Z
    go_wp2_with (first | (go_at_call 15; refine (HF.out _).mono ?_; rintro ee wz ⟨rfl, hb1⟩; replace bel := bel.trans (hb1.mono bel.size); replace Y := Y.below hb1; replace Z := Z.below hb1; replace R0 := R0.below hb1; replace R9 := R9.below hb1; clear hb1 hl5 hl8 y0 y1 y2 y3 y4 z0 z1 z2 z3 z4; have hl5 := Y.lt; have hl8 := Z.lt; obtain ⟨y0, y1, y2, y3, y4⟩ := id Y; obtain ⟨z0, z1, z2, z3, z4⟩ := id Z) | (go_at_call 32; refine (HSG.out _ _ _ R0 R9).mono ?_; rintro ee wy ⟨rfl, hb2⟩; replace bel := bel.trans (hb2.mono bel.size)))
    go_ret
    exact ⟨rfl, bel⟩
  · rw [hf]
    by_cases hq : 128 < s.size
    · have hqi : (128 : Int) < (s.size : Int) := by omega
      have hpe : prefE g s = 9 := by unfold prefE; rw [if_pos hf, if_pos hq]
      have hpr : prefR g s = nilG := if_neg (fun h => by rw [hpe] at h; cases h)
      go_upto_region 21 with fail
      replace X := X.below ha
      replace bel := bel.trans (ha.mono bel.size)
      replace Y := Y.below ha
      replace R0 := R0.below ha
      have Z := AG.gx A8
      generalize W3.alloc (.cells #[.slice none 0 0, .slice none 0 0, .slice none 0 0, .slice none 0 0, .slice none 0 0] 28) = W4 at X Y Z ha bel R0 ⊢
      have R9 := nil_go W4
      have hsp := nil_small
      rw [hpr] at R0
      rw [hpe]
      generalize W3.heap.size = k8 at Z ⊢
      clear x0 x1 x2 x3 x4 ha A8 hG0 hC hA X hpr hpe
      have HSG := Lib.hid (fun v u W q1 q2 => by have := sameGraph_any _ _ v u hsp hsp W q1 q2; rwa [same_self2] at this)
      have hl5 := Y.lt
      have hl8 := Z.lt
      obtain ⟨y0, y1, y2, y3, y4⟩ := id Y
      obtain ⟨z0, z1, z2, z3, z4⟩ := id Z
      go_wp2_with (first | (go_at_call 15; refine (HF.out _).mono ?_; rintro ee wz ⟨rfl, hb1⟩; replace bel := bel.trans (hb1.mono bel.size); replace Y := Y.below hb1; replace Z := Z.below hb1; replace R0 := R0.below hb1; replace R9 := R9.below hb1; clear hb1 hl5 hl8 y0 y1 y2 y3 y4 z0 z1 z2 z3 z4; have hl5 := Y.lt; have hl8 := Z.lt; obtain ⟨y0, y1, y2, y3, y4⟩ := id Y; obtain ⟨z0, z1, z2, z3, z4⟩ := id Z) | (go_at_call 32; refine (HSG.out _ _ _ R0 R9).mono ?_; rintro ee wy ⟨rfl, hb2⟩; replace bel := bel.trans (hb2.mono bel.size)))
      go_ret
      exact ⟨rfl, bel⟩
    · have hqi : ¬ (128 : Int) < (s.size : Int) := by omega
      have hpe : prefE g s = faultG (prefG g s) := by unfold prefE; rw [if_pos hf, if_neg hq]
      have hs2 : s.size ≤ 128 := by omega
      have spg := pref_small sg hs hss hsr
      go_upto_region 7 with fail
      have X3 := X
      have Y3 := Y
      have R3 := R0
      replace X := X.below ha
      clear x0 x1 x2 x3 x4
      have f0 := A8.free 0
      have f1 := A8.free 1
      have f2 := A8.free 2
      have f3 := A8.free 3
      have f4 := A8.free 4
      have hsw : W3.heap.size < (W3.alloc (.cells #[.slice none 0 0, .slice none 0 0, .slice none 0 0, .slice none 0 0, .slice none 0 0] 28)).heap.size := A8.lt
      generalize W3.alloc (.cells #[.slice none 0 0, .slice none 0 0, .slice none 0 0, .slice none 0 0, .slice none 0 0] 28) = W4 at X A8 ha f0 f1 f2 f3 f4 hsw ⊢
      have bel3 := bel
      have hbk := bel.size
      clear bel
      obtain ⟨x0, x1, x2, x3, x4⟩ := id X
      obtain ⟨a0, a1, a2, a3, a4⟩ := id (AG.gx A8)
      go_upto_region 8 with fail
      have A9 := AG.all A8 (.slice a g.ins.length a') (.slice none 0 0) (.slice none 0 0) (.slice d0 g.ands.length d') (.slice e g.outs.length e')
      have b9 := below5 ha (.slice a g.ins.length a') (.slice none 0 0) (.slice none 0 0) (.slice d0 g.ands.length d') (.slice e g.outs.length e')
      have hs9 : (((((W4.setCell ⟨W3.heap.size, 0, none⟩ (.slice a g.ins.length a')).setCell ⟨W3.heap.size, 1, none⟩ (.slice none 0 0)).setCell ⟨W3.heap.size, 2, none⟩ (.slice none 0 0)).setCell ⟨W3.heap.size, 3, none⟩ (.slice d0 g.ands.length d')).setCell ⟨W3.heap.size, 4, none⟩ (.slice e g.outs.length e')).heap.size = W4.heap.size := by simp [World.setCell]
      clear x0 x1 x2 x3 x4 a0 a1 a2 a3 a4 f0 f1 f2 f3 f4 A8 ha X
      rw [← hs9] at hsw
      clear hs9
      generalize (((((W4.setCell ⟨W3.heap.size, 0, none⟩ (.slice a g.ins.length a')).setCell ⟨W3.heap.size, 1, none⟩ (.slice none 0 0)).setCell ⟨W3.heap.size, 2, none⟩ (.slice none 0 0)).setCell ⟨W3.heap.size, 3, none⟩ (.slice d0 g.ands.length d')).setCell ⟨W3.heap.size, 4, none⟩ (.slice e g.outs.length e')) = W5 at A9 b9 hsw ⊢
      have HX := Lib.hid (fun W (hb : Below W3.heap.size W3 W) => X3.below hb)
      have HA := Lib.hid (fun W (hb : Below W3.heap.size W3 W) => hA.below (bel3.trans (hb.mono bel3.size)))
      generalize hk8 : W3.heap.size = k8 at A9 b9 hk5 hkk hbk hsw HX HA ⊢
      have hw8 : k8 < W5.heap.size := hsw
      obtain ⟨x0, x1, x2, x3, x4⟩ := HX.out _ b9
      obtain ⟨i0, hi0, hz0, hz1, hz2⟩ := infoR_parts
      have hO := OwnK.nil (k8 + 1) 89 3 encR W5
      go_upto_block 0 with fail
      clear x0 x1 x2 x3 x4
      go_wp2_with fail
      go_loopw [40] (fun i wr => ∃ j : Nat, j ≤ g.regs.length ∧ i = .int .i64 (j : Int) ∧ Hid (∃ v2, AG k8 (.slice a g.ins.length a') (.slice none 0 0) v2 (.slice d0 g.ands.length d') (.slice e g.outs.length e') wr ∧ OwnK (k8 + 1) 89 3 encR wr v2 ((g.regs.take j).map (prR s))) ∧ Hid (Below k8 W3 wr ∧ k8 < wr.heap.size)) (fun i _ => g.regs.length - (intOf i).toNat)
      case atStart => exact ⟨0, Nat.zero_le _, rfl, Lib.hid ⟨_, A9, hO⟩, Lib.hid ⟨b9, hw8⟩⟩
      case round =>
        clear A9 b9 hO hw8 hsw
        obtain ⟨j, hj, rfl, hZ, hB⟩ := hrel
        rename World => WR
        have hj0 : (0 : Int) ≤ (j : Int) := by omega
        have hrl := sg.regs
        obtain ⟨v2, A1, O1⟩ := hZ.out
        obtain ⟨bR, sR⟩ := hB.out
        clear hZ hB
        by_cases hlt : j < g.regs.length
        · have hji : (j : Int) < (g.regs.length : Int) := by omega
          have HT := Lib.hid (show (g.regs.take (j + 1)).map (prR s) = (g.regs.take j).map (prR s) ++ [prR s g.regs[j]!] by rw [tk1 g.regs hlt, List.map_append]; rfl)
          have hML : ((g.regs.take j).map (prR s)).length ≤ 4000000000 := by have := sg.regs; simp; omega
          have hrs := hsr _ (mem1 g.regs hlt)
          obtain ⟨bb, oo, hdd, hcell⟩ := (HA.out _ bR).regs.pick (by omega)
          subst hdd
          have c0 := hcell j hlt 0 _ rfl
          have c1 := hcell j hlt 1 _ rfl
          have c2 := hcell j hlt 2 _ rfl
          simp only [Nat.add_zero] at c0
          clear hcell
          generalize g.regs[j]! = r at c0 c1 c2 HT hrs
          obtain ⟨r1, r2, r3⟩ := r
          simp only at c0 c1 c2 hrs
          generalize (g.regs.take j).map (prR s) = L at O1 HT hML
          obtain ⟨ad, cpv, hv⟩ := O1.slice
          subst hv
          have hcat : ¬ (9223372036854775807 : Int) < (s.size : Int) + (r1.size : Int) := by omega
          go_upto_region 11 with fail
          have bA := (Below.refl _ WR).alloc (Nat.le_refl _) (.cells #[.string r1, .int .i64 r2, .bool r3] 89)
          have y0 : (WR.alloc (.cells #[.string r1, .int .i64 r2, .bool r3] 89)).cell? ⟨WR.heap.size, 0, none⟩ = some (.string r1) := by go_simp
          have y1 : (WR.alloc (.cells #[.string r1, .int .i64 r2, .bool r3] 89)).cell? ⟨WR.heap.size, 1, none⟩ = some (.int .i64 r2) := by go_simp
          have y2 : (WR.alloc (.cells #[.string r1, .int .i64 r2, .bool r3] 89)).cell? ⟨WR.heap.size, 2, none⟩ = some (.bool r3) := by go_simp
          replace A1 := A1.below bA
          replace O1 := O1.below bA
          replace bR := bR.trans (bA.mono (by omega))
          replace sR := Nat.lt_of_lt_of_le sR bA.size
          clear bA c0 c1 c2
          generalize WR.alloc (.cells #[.string r1, .int .i64 r2, .bool r3] 89) = WS at A1 O1 bR sR y0 y1 y2 ⊢
          generalize WR.heap.size = k10 at y0 y1 y2 ⊢
          obtain ⟨a0, a1, a2, a3, a4⟩ := id (AG.gx A1)
          have O4 := O1.below ((Below.refl _ WS).alloc (Nat.le_refl _) (.cells #[.string (s ++ r1), .int .i64 r2, .bool r3] 89))
          have hy : ∀ q u, (encR (prR s ⟨r1, r2, r3⟩))[q]? = some u → (WS.alloc (.cells #[.string (s ++ r1), .int .i64 r2, .bool r3] 89)).cell? ⟨WS.heap.size, q, none⟩ = some u := by
            intro q u hq
            match q, hq with
            | 0, hq => cases hq; show _ = some (Value.string (s ++ r1)); go_simp
            | 1, hq => cases hq; show _ = some (Value.int .i64 r2); go_simp
            | 2, hq => cases hq; show _ = some (Value.bool r3); go_simp
          go_wp2_with (at_builtin; refine wpList_append_one (enc := encR) (k := 3) (fun _ => rfl) (by decide) (fun x u hu => by simp at hu; rcases hu with rfl | rfl | rfl <;> rfl) rfl _ _ 24 rfl (k8 + 1) 89 i0 (.agg #[.string ⟨#[]⟩, .int .i64 0, .bool false]) 32 Try.underlying24 hi0 hz0 hz1 hz2 (by decide) _ L rfl O4 WS.heap.size 1 (prR s ⟨r1, r2, r3⟩) rfl hy (show L.length + 1 ≤ maxLen by unfold maxLen; omega) (show (L.length + 1) * 32 ≤ 140737488355328 by omega) (by first | omega | (simp; omega)) ?_)
          intro v5 w5 O5 hb5 hg5
          obtain ⟨ad5, n5, cp5, rfl⟩ := OwnK.slice3 O5
          have hsS : WS.heap.size ≤ (WS.alloc (.cells #[.string (s ++ r1), .int .i64 r2, .bool r3] 89)).heap.size := by simp
          have b45 : Below (k8 + 1) WS w5 := (((Below.refl _ WS).alloc (Nat.le_refl _) (.cells #[.string (s ++ r1), .int .i64 r2, .bool r3] 89)).mono (by omega)).trans hb5
          have A5 := Arr.mono A1 b45 (by omega)
          have bR5 := bR.trans (b45.mono (by omega))
          have sR5 := Nat.lt_of_lt_of_le sR b45.size
          clear hy O4 O1 hg5 hb5 y0 y1 y2 a0 a1 a2 a3 a4 A1 bR hcat hsS
          have f2 := Arr.free A5 2
          obtain ⟨a0, a1, a2, a3, a4⟩ := id (AG.gx A5)
          have HA6 := Lib.hid (AG.set2 A5 (.slice ad5 n5 cp5))
          have HO6 := Lib.hid (owns_set O5 ⟨k8, 2, none⟩ (.slice ad5 n5 cp5) (Nat.lt_succ_self _))
          have HB6 := Lib.hid (⟨bR5.setCell (p := ⟨k8, 2, none⟩) (Nat.le_refl _) (.slice ad5 n5 cp5), by simpa [World.setCell] using sR5⟩ : Below k8 W3 (w5.setCell ⟨k8, 2, none⟩ (.slice ad5 n5 cp5)) ∧ k8 < (w5.setCell ⟨k8, 2, none⟩ (.slice ad5 n5 cp5)).heap.size)
          clear A5 O5 bR5 b45
          go_wp2_with fail
          go_roundw
          case rel => exact ⟨j + 1, by omega, by go_num, Lib.hid ⟨_, HA6.out, by rw [HT.out]; exact HO6.out⟩, HB6⟩
          all_goals first | done | (simp [intOf]; done) | (simp [intOf]; omega)
        · obtain rfl : j = g.regs.length := by omega
          have hji : ¬ (g.regs.length : Int) < (g.regs.length : Int) := by omega
          rw [List.take_of_length_le (Nat.le_refl _)] at O1
          obtain ⟨adr, nr, cr, rfl⟩ := OwnK.slice3 O1
          obtain ⟨x0, x1, x2, x3, x4⟩ := HX.out _ bR
          obtain ⟨j0, hj0i, jz0, jz1, jz2⟩ := infoT_parts
          have hO := OwnK.nil (k8 + 1) 9 1 encT WR
          go_upto_block 2 with fail
          clear x0 x1 x2 x3 x4
          go_wp2_with fail
          go_loopw [62] (fun i wr => ∃ j : Nat, j ≤ g.outN.length ∧ i = .int .i64 (j : Int) ∧ Hid (∃ v1, AG k8 (.slice a g.ins.length a') v1 (.slice adr nr cr) (.slice d0 g.ands.length d') (.slice e g.outs.length e') wr ∧ OwnK (k8 + 1) 9 1 encT wr v1 ((g.outN.take j).map (s ++ ·)) ∧ OwnK (k8 + 1) 89 3 encR wr (.slice adr nr cr) (g.regs.map (prR s))) ∧ Hid (Below k8 W3 wr ∧ k8 < wr.heap.size)) (fun i _ => g.outN.length - (intOf i).toNat)
          case atStart => exact ⟨0, Nat.zero_le _, rfl, Lib.hid ⟨_, A1, hO, O1⟩, Lib.hid ⟨bR, sR⟩⟩
          case round =>
            clear A1 hO O1 bR sR
            obtain ⟨j, hj, rfl, hZ, hB⟩ := hrel
            rename World => WT
            have hj0 : (0 : Int) ≤ (j : Int) := by omega
            have hol := sg.outN
            obtain ⟨v1, A1, O1, O2⟩ := hZ.out
            obtain ⟨bR, sR⟩ := hB.out
            clear hZ hB
            by_cases hlt : j < g.outN.length
            · have hji : (j : Int) < (g.outN.length : Int) := by omega
              have HT := Lib.hid (show (g.outN.take (j + 1)).map (s ++ ·) = (g.outN.take j).map (s ++ ·) ++ [s ++ g.outN[j]!] by rw [tk1 g.outN hlt, List.map_append]; rfl)
              have hML : ((g.outN.take j).map (s ++ ·)).length ≤ 4000000000 := by simp; omega
              have hrs := hss _ (mem1 g.outN hlt)
              obtain ⟨bb, oo, hdd, hcell⟩ := (HA.out _ bR).outN.pick (by omega)
              subst hdd
              have c0 := hcell j hlt 0 _ rfl
              simp only [Nat.mul_one, Nat.add_zero] at c0
              clear hcell
              generalize g.outN[j]! = r1 at c0 HT hrs
              generalize (g.outN.take j).map (s ++ ·) = L at O1 HT hML
              obtain ⟨ad, cpv, hv⟩ := O1.slice
              subst hv
              have hcat : ¬ (9223372036854775807 : Int) < (s.size : Int) + (r1.size : Int) := by omega
              obtain ⟨a0, a1, a2, a3, a4⟩ := id (AG.gx A1)
              have O4 := O1.below ((Below.refl _ WT).alloc (Nat.le_refl _) (.cells #[.string (s ++ r1)] 9))
              have hy : ∀ q u, (encT (s ++ r1))[q]? = some u → (WT.alloc (.cells #[.string (s ++ r1)] 9)).cell? ⟨WT.heap.size, q, none⟩ = some u := by
                intro q u hq
                match q, hq with
                | 0, hq => cases hq; go_simp
              go_wp2_with (at_builtin; refine wpList_append_one (enc := encT) (k := 1) (fun _ => rfl) (by decide) (fun x u hu => by simp at hu; rcases hu with rfl; rfl) rfl _ _ 23 rfl (k8 + 1) 9 j0 (.string ⟨#[]⟩) 16 Try.underlying23 hj0i jz0 jz1 jz2 (by decide) _ L rfl O4 WT.heap.size 1 (s ++ r1) rfl hy (show L.length + 1 ≤ maxLen by unfold maxLen; omega) (show (L.length + 1) * 16 ≤ 140737488355328 by omega) (by first | omega | (simp; omega)) ?_)
              intro v5 w5 O5 hb5 hg5
              have O25 := (O2.below ((Below.refl _ WT).alloc (Nat.le_refl _) (.cells #[.string (s ++ r1)] 9))).kept hg5 (OwnK.tags (O2.below ((Below.refl _ WT).alloc (Nat.le_refl _) (.cells #[.string (s ++ r1)] 9))) O4 (by decide))
              obtain ⟨ad5, n5, cp5, rfl⟩ := OwnK.slice3 O5
              have hsS : WT.heap.size ≤ (WT.alloc (.cells #[.string (s ++ r1)] 9)).heap.size := by simp
              have b45 : Below (k8 + 1) WT w5 := (((Below.refl _ WT).alloc (Nat.le_refl _) (.cells #[.string (s ++ r1)] 9)).mono (by omega)).trans hb5
              have A5 := Arr.mono A1 b45 (by omega)
              have bR5 := bR.trans (b45.mono (by omega))
              have sR5 := Nat.lt_of_lt_of_le sR b45.size
              clear hy O4 O1 O2 hg5 hb5 a0 a1 a2 a3 a4 A1 bR hcat hsS c0
              have f2 := Arr.free A5 1
              obtain ⟨a0, a1, a2, a3, a4⟩ := id (AG.gx A5)
              have HA6 := Lib.hid (AG.set1 A5 (.slice ad5 n5 cp5))
              have HO6 := Lib.hid (owns_set O5 ⟨k8, 1, none⟩ (.slice ad5 n5 cp5) (Nat.lt_succ_self _))
              have HO7 := Lib.hid (owns_set O25 ⟨k8, 1, none⟩ (.slice ad5 n5 cp5) (Nat.lt_succ_self _))
              have HB6 := Lib.hid (⟨bR5.setCell (p := ⟨k8, 1, none⟩) (Nat.le_refl _) (.slice ad5 n5 cp5), by simpa [World.setCell] using sR5⟩ : Below k8 W3 (w5.setCell ⟨k8, 1, none⟩ (.slice ad5 n5 cp5)) ∧ k8 < (w5.setCell ⟨k8, 1, none⟩ (.slice ad5 n5 cp5)).heap.size)
              clear A5 O5 O25 bR5 b45
              go_wp2_with fail
              go_roundw
              case rel => exact ⟨j + 1, by omega, by go_num, Lib.hid ⟨_, HA6.out, by rw [HT.out]; exact HO6.out, HO7.out⟩, HB6⟩
              all_goals first | done | (simp [intOf]; done) | (simp [intOf]; omega)
            · obtain rfl : j = g.outN.length := by omega
              have hji : ¬ (g.outN.length : Int) < (g.outN.length : Int) := by omega
              rw [List.take_of_length_le (Nat.le_refl _)] at O1
              obtain ⟨adn, nn, cn, rfl⟩ := OwnK.slice3 O1
              have GO9 := pref_go hC (HA.out _ bR) O1 O2
              have bel := bel3.trans (bR.mono hbk)
              have Z := AG.gx A1
              have Y := Y3.mono bR hk5
              have R0 := R3.below (w' := WT) (by rw [hk8]; exact bR)
              have hl8 := Z.lt
              obtain ⟨z0, z1, z2, z3, z4⟩ := id Z
              have HFA := Lib.hid (fault_any (prefG g s) _ spg WT GO9)
              clear O1 O2 HA HX hC hA hG0 X3 Y3 R3 bR bel3 hji hj hj0 hol hrl sg hss hsr
              go_upto_region 19 with (first | (go_at_call 30; refine HFA.out.mono ?_; rintro ee WU ⟨rfl, hb1⟩; replace bel := bel.trans (hb1.mono bel.size); replace Y := Y.below hb1; replace Z := Z.below hb1; replace R0 := R0.below hb1; replace GO9 := GO9.below hb1; replace A1 := Arr.below A1 hb1; clear hb1 HFA hl8 z0 z1 z2 z3 z4))
              by_cases hf2 : faultG (prefG g s) = 0
              · have hpr : prefR g s = prefG g s := if_pos (hpe.trans hf2)
                rw [hpr] at R0
                try rw [hpe]
                rw [hf2]
                have R9 := GO9
                have hsp := spg
                clear GO9 hpr hpe hf hf2 A1
                generalize prefG g s = G at R0 R9 hsp
                have HSG := Lib.hid (fun v u W q1 q2 => by have := sameGraph_any _ _ v u hsp hsp W q1 q2; rwa [same_self2] at this)
                have hl5 := Y.lt
                have hl8 := Z.lt
                obtain ⟨y0, y1, y2, y3, y4⟩ := id Y
                obtain ⟨z0, z1, z2, z3, z4⟩ := id Z
                go_wp2_with (first | (go_at_call 15; refine (HF.out _).mono ?_; rintro ee wz ⟨rfl, hb1⟩; replace bel := bel.trans (hb1.mono bel.size); replace Y := Y.below hb1; replace Z := Z.below hb1; replace R0 := R0.below hb1; replace R9 := R9.below hb1; clear hb1 hl5 hl8 y0 y1 y2 y3 y4 z0 z1 z2 z3 z4; have hl5 := Y.lt; have hl8 := Z.lt; obtain ⟨y0, y1, y2, y3, y4⟩ := id Y; obtain ⟨z0, z1, z2, z3, z4⟩ := id Z) | (go_at_call 32; refine (HSG.out _ _ _ R0 R9).mono ?_; rintro ee wy ⟨rfl, hb2⟩; replace bel := bel.trans (hb2.mono bel.size)))
                go_ret
                exact ⟨rfl, bel⟩
              · have hpr : prefR g s = nilG := if_neg (fun h => hf2 (hpe ▸ h))
                rw [hpr] at R0
                try rw [hpe]
                clear GO9 hpr hpe hf spg
                generalize faultG (prefG g s) = f at hf2 ⊢
                have hfb : (f == 0) = false := beq_eq_false_iff_ne.2 hf2
                have hfc : (f != 0) = true := by simp [bne, hfb]
                have f0 := A1.free 0
                have f1 := A1.free 1
                have f2 := A1.free 2
                have f3 := A1.free 3
                have f4 := A1.free 4
                obtain ⟨z0, z1, z2, z3, z4⟩ := id Z
                go_upto_region 21 with fail
                have A9 := AG.all A1 (.slice none 0 0) (.slice none 0 0) (.slice none 0 0) (.slice none 0 0) (.slice none 0 0)
                have b9 := below5 (Below.refl k8 WU) (.slice none 0 0) (.slice none 0 0) (.slice none 0 0) (.slice none 0 0) (.slice none 0 0)
                replace bel := bel.trans (b9.mono hbk)
                replace Y := Y.mono b9 hk5
                clear z0 z1 z2 z3 z4 f0 f1 f2 f3 f4 Z
                have Z := AG.gx A9
                replace R0 := nil_at R0
                generalize (((((WU.setCell ⟨k8, 0, none⟩ (.slice none 0 0)).setCell ⟨k8, 1, none⟩ (.slice none 0 0)).setCell ⟨k8, 2, none⟩ (.slice none 0 0)).setCell ⟨k8, 3, none⟩ (.slice none 0 0)).setCell ⟨k8, 4, none⟩ (.slice none 0 0)) = WV at bel Y Z ⊢
                replace R0 := R0 WV
                have R9 := nil_go WV
                have hsp := nil_small
                clear A1 A9 b9
                have HSG := Lib.hid (fun v u W q1 q2 => by have := sameGraph_any _ _ v u hsp hsp W q1 q2; rwa [same_self2] at this)
                have hl5 := Y.lt
                have hl8 := Z.lt
                obtain ⟨y0, y1, y2, y3, y4⟩ := id Y
                obtain ⟨z0, z1, z2, z3, z4⟩ := id Z
                go_wp2_with (first | (go_at_call 15; refine (HF.out _).mono ?_; rintro ee wz ⟨rfl, hb1⟩; replace bel := bel.trans (hb1.mono bel.size); replace Y := Y.below hb1; replace Z := Z.below hb1; replace R0 := R0.below hb1; replace R9 := R9.below hb1; clear hb1 hl5 hl8 y0 y1 y2 y3 y4 z0 z1 z2 z3 z4; have hl5 := Y.lt; have hl8 := Z.lt; obtain ⟨y0, y1, y2, y3, y4⟩ := id Y; obtain ⟨z0, z1, z2, z3, z4⟩ := id Z) | (go_at_call 32; refine (HSG.out _ _ _ R0 R9).mono ?_; rintro ee wy ⟨rfl, hb2⟩; replace bel := bel.trans (hb2.mono bel.size)))
                go_ret
                exact ⟨rfl, bel⟩
end Go.Proofs.Ytbphhcjepeamcaa
