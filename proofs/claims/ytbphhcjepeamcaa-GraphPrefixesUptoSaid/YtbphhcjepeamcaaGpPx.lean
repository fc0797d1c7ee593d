/- The program's checked and Prefix. Conditions: rows of at most 4,000,000,000 elements; names of at most 4,000,000,000 bytes. -/
import Derived.Test.YtbphhcjepeamcaaGpP
import Derived.Test.YtbphhcjepeamcaaGpC
import Derived.Test.YtbphhcjepeamcaaGlPd
import Derived.Test.YtbphhcjepeamcaaGlNil
namespace Go.Proofs.Ytbphhcjepeamcaa
open Go Go.RowKit Go.Sort
set_option linter.unusedVariables false
def pfR (s : ByteArray) (r : Rg) : Rg := ⟨s ++ r.nm, r.nx, r.it⟩
theorem flat_setN : ∀ (l : List Rg) (j : Nat) (y : ByteArray), j < l.length → (l.flatMap encR).set (j * 3) (.string y) = (l.set j ⟨y, l[j]!.nx, l[j]!.it⟩).flatMap encR
  | [], j, _, h => by simp at h
  | r :: l, 0, y, _ => by simp
  | r :: l, j + 1, y, h => by
    rw [List.flatMap_cons, show (j + 1) * 3 = (encR r).length + (j * 3) by show _ = 3 + _; omega, List.set_append_right _ _ (Nat.le_add_right _ _), Nat.add_sub_cancel_left, flat_setN l j y (by simpa using h)]
    simp
theorem OwnK.putN {B : Nat} {t : TypeId} {w : World} {b n cp : Nat} {l : List Rg} (h : OwnK B t 3 encR w (.slice (some ⟨b, 0, none⟩) n cp) l) (j : Nat) (y : ByteArray) (hj : j < l.length) : OwnK B t 3 encR (w.setCell ⟨b, j * 3, none⟩ (.string y)) (.slice (some ⟨b, 0, none⟩) n cp) (l.set j ⟨y, l[j]!.nx, l[j]!.it⟩) := by
  have hn := h.num
  subst hn
  have := (World.ownsRow.stored h (j * 3) (.string y)).1
  rw [flat_setN l j y hj] at this
  unfold OwnK
  rwa [List.length_set]
theorem OwnK.apart {B : Nat} {t : TypeId} {k : Nat} {α : Type} {enc : α → List Value} {w : World} {v : Value} {l : List α} (h : OwnK B t k enc w v l) {b n cp : Nat} (hs : Sep v (.slice (some ⟨b, 0, none⟩) n cp)) (j : Nat) (u : Value) : OwnK B t k enc (w.setCell ⟨b, j, none⟩ u) v l :=
  World.ownsRow.kept h (grown_put w ⟨b, j, none⟩ u) (by
    cases hv : v.ownBlock with
    | none => exact .inl rfl
    | some q => exact .inr (fun e => by
        simp only [Option.some.injEq] at e
        subst e
        exact hs _ hv rfl))
/-- the rows of the new graph -/
structure PrK (B : Nat) (g : Gr) (s : ByteArray) (k i j : Nat) (v0 v1 v2 v3 v4 : Value) (w : World) : Prop where
  box : BG k v0 v1 v2 v3 v4 w
  ins : OwnK B 9 1 encT w v0 g.ins
  outN : OwnK B 9 1 encT w v1 (mixL (s ++ ·) g.outN i)
  regs : OwnK B 89 3 encR w v2 (mixL (pfR s) g.regs j)
  ands : OwnK B 110 2 encN w v3 g.ands
  outs : OwnK B 22 1 encI w v4 g.outs
  sep : Sep v0 v1
theorem PrK.below {B : Nat} {g : Gr} {s : ByteArray} {k i j : Nat} {v0 v1 v2 v3 v4 : Value} {w w' : World} (h : PrK B g s k i j v0 v1 v2 v3 v4 w) (hb : Below w.heap.size w w') : PrK B g s k i j v0 v1 v2 v3 v4 w' :=
  ⟨Arr.below h.box hb, h.ins.below hb, h.outN.below hb, h.regs.below hb, h.ands.below hb, h.outs.below hb, h.sep⟩
theorem PrK.putO {B : Nat} {g : Gr} {s : ByteArray} {k i j : Nat} {v0 v2 v3 v4 : Value} {b n cp : Nat} {w : World} (h : PrK B g s k i j v0 (.slice (some ⟨b, 0, none⟩) n cp) v2 v3 v4 w) (hi : i < g.outN.length) (hkb : k ≠ b) : PrK B g s k (i + 1) j v0 (.slice (some ⟨b, 0, none⟩) n cp) v2 v3 v4 (w.setCell ⟨b, i, none⟩ (.string (s ++ g.outN[i]!))) :=
  ⟨Arr.other h.box hkb, h.ins.apart h.sep i _, by
    have := OwnK.put1 (f := fun n : ByteArray => Value.string n) h.outN i (s ++ g.outN[i]!)
    rwa [mix_set (s ++ ·) g.outN i hi] at this, h.regs.other h.outN (by decide) i _, h.ands.other h.outN (by decide) i _, h.outs.other h.outN (by decide) i _, h.sep⟩
theorem PrK.putG {B : Nat} {g : Gr} {s : ByteArray} {k i j : Nat} {v0 v1 v3 v4 : Value} {b n cp : Nat} {w : World} (h : PrK B g s k i j v0 v1 (.slice (some ⟨b, 0, none⟩) n cp) v3 v4 w) (hj : j < g.regs.length) (hkb : k ≠ b) : PrK B g s k i (j + 1) v0 v1 (.slice (some ⟨b, 0, none⟩) n cp) v3 v4 (w.setCell ⟨b, j * 3, none⟩ (.string (s ++ g.regs[j]!.nm))) :=
  ⟨Arr.other h.box hkb, h.ins.other h.regs (by decide) _ _, h.outN.other h.regs (by decide) _ _, by
    have := OwnK.putN h.regs j (s ++ g.regs[j]!.nm) (by rw [mix_len _ _ _ (by omega)]; exact hj)
    rw [mix_get _ _ _ hj] at this
    rwa [show (⟨s ++ g.regs[j]!.nm, g.regs[j]!.nx, g.regs[j]!.it⟩ : Rg) = pfR s g.regs[j]! from rfl, mix_set (pfR s) g.regs j hj] at this, h.ands.other h.regs (by decide) _ _, h.outs.other h.regs (by decide) _ _, h.sep⟩
theorem PrK.og {B : Nat} {g : Gr} {s : ByteArray} {k : Nat} {v0 v1 v2 v3 v4 : Value} {w : World} (h : PrK B g s k g.outN.length g.regs.length v0 v1 v2 v3 v4 w) : OG B (prefG g s) (.agg #[v0, v1, v2, v3, v4]) w := by
  refine ⟨⟨v0, v1, v2, v3, v4, rfl, h.ins, ?_, ?_, h.ands, h.outs⟩⟩
  · have := h.outN
    rwa [mix_all] at this
  · have := h.regs
    rwa [mix_all] at this
theorem OG.put5 {B : Nat} {g : Gr} {v : Value} {w : World} (h : OG B g v w) (q : Nat) (u0 u1 u2 u3 u4 : Value) (hq : q < B) : OG B g v (put5 w q u0 u1 u2 u3 u4) := by
  obtain ⟨v0, v1, v2, v3, v4, rfl, h0, h1, h2, h3, h4⟩ := h.all
  exact ⟨⟨v0, v1, v2, v3, v4, rfl, h0.put5 q u0 u1 u2 u3 u4 hq, h1.put5 q u0 u1 u2 u3 u4 hq, h2.put5 q u0 u1 u2 u3 u4 hq, h3.put5 q u0 u1 u2 u3 u4 hq, h4.put5 q u0 u1 u2 u3 u4 hq⟩⟩
theorem pf_small {g : Gr} {s : ByteArray} (sg : Small g) (hs : s.size ≤ 4000000000) (hss : ∀ x ∈ g.outN, x.size ≤ 4000000000) (hsr : ∀ r ∈ g.regs, r.nm.size ≤ 4000000000) : Small (prefG g s) := by
  refine ⟨sg.ins, ?_, ?_, sg.ands, sg.outs, sg.insT, ?_, ?_⟩
  · show (g.outN.map _).length ≤ _; rw [List.length_map]; exact sg.outN
  · show (g.regs.map _).length ≤ _; rw [List.length_map]; exact sg.regs
  · intro x hx
    obtain ⟨y, hy, rfl⟩ := List.mem_map.1 hx
    have := hss y hy
    rw [ByteArray.size_append]; omega
  · intro x hx
    obtain ⟨y, hy, rfl⟩ := List.mem_map.1 hx
    have := hsr y hy
    show (s ++ y.nm).size ≤ _
    rw [ByteArray.size_append]; omega
set_option maxRecDepth 100000 in
set_option maxHeartbeats 8000000 in
theorem checked_any (g : Gr) (v : Value) (w : World) (sg : Small g) (hG : GO g v w) : Calls Try.prog 91 #[v] w fun ee w' => ee = .returned (.tuple #[if faultG g = 0 then v else .agg #[.slice none 0 0, .slice none 0 0, .slice none 0 0, .slice none 0 0, .slice none 0 0], .int .i64 (faultG g)]) ∧ Below w.heap.size w w' := by
  have hG0 := hG
  obtain ⟨a, b, c, d0, e, a', b', c', d', e', rfl, hC, hA⟩ := hG.all
  clear hG
  go_enter Try.func91, Try.ntmps91
  go_upto_region 1 with fail
  have bel := ((Below.refl w.heap.size w).alloc (Nat.le_refl _) (.cells #[.slice a g.ins.length a', .slice b g.outN.length b', .slice c g.regs.length c', .slice d0 g.ands.length d', .slice e g.outs.length e'] 28)).alloc (by simp) (.cells #[.slice none 0 0, .slice none 0 0, .slice none 0 0, .slice none 0 0, .slice none 0 0] 28)
  have X : BG w.heap.size (.slice a g.ins.length a') (.slice b g.outN.length b') (.slice c g.regs.length c') (.slice d0 g.ands.length d') (.slice e g.outs.length e') ((w.alloc (.cells #[.slice a g.ins.length a', .slice b g.outN.length b', .slice c g.regs.length c', .slice d0 g.ands.length d', .slice e g.outs.length e'] 28)).alloc (.cells #[.slice none 0 0, .slice none 0 0, .slice none 0 0, .slice none 0 0, .slice none 0 0] 28)) := (Arr.allocV w [.slice a g.ins.length a', .slice b g.outN.length b', .slice c g.regs.length c', .slice d0 g.ands.length d', .slice e g.outs.length e'] 28).below ((Below.refl _ _).alloc (Nat.le_refl _) (.cells #[.slice none 0 0, .slice none 0 0, .slice none 0 0, .slice none 0 0, .slice none 0 0] 28))
  have Y : BG (w.heap.size + 1) (.slice none 0 0) (.slice none 0 0) (.slice none 0 0) (.slice none 0 0) (.slice none 0 0) ((w.alloc (.cells #[.slice a g.ins.length a', .slice b g.outN.length b', .slice c g.regs.length c', .slice d0 g.ands.length d', .slice e g.outs.length e'] 28)).alloc (.cells #[.slice none 0 0, .slice none 0 0, .slice none 0 0, .slice none 0 0, .slice none 0 0] 28)) := by
    have := Arr.allocV (w.alloc (.cells #[.slice a g.ins.length a', .slice b g.outN.length b', .slice c g.regs.length c', .slice d0 g.ands.length d', .slice e g.outs.length e'] 28)) [.slice none 0 0, .slice none 0 0, .slice none 0 0, .slice none 0 0, .slice none 0 0] 28
    rwa [show (w.alloc (.cells #[.slice a g.ins.length a', .slice b g.outN.length b', .slice c g.regs.length c', .slice d0 g.ands.length d', .slice e g.outs.length e'] 28)).heap.size = w.heap.size + 1 by simp] at this
  have hsz : w.heap.size + 1 < ((w.alloc (.cells #[.slice a g.ins.length a', .slice b g.outN.length b', .slice c g.regs.length c', .slice d0 g.ands.length d', .slice e g.outs.length e'] 28)).alloc (.cells #[.slice none 0 0, .slice none 0 0, .slice none 0 0, .slice none 0 0, .slice none 0 0] 28)).heap.size := by simp
  generalize (w.alloc (.cells #[.slice a g.ins.length a', .slice b g.outN.length b', .slice c g.regs.length c', .slice d0 g.ands.length d', .slice e g.outs.length e'] 28)).alloc (.cells #[.slice none 0 0, .slice none 0 0, .slice none 0 0, .slice none 0 0, .slice none 0 0] 28) = W0 at bel X Y hsz ⊢
  have H1 := Lib.hid (check_any g _ sg W0 (hG0.below bel))
  generalize hk : w.heap.size = k at X Y hsz bel H1 ⊢
  have HK := Lib.hid hk
  clear hk hA hC hG0
  obtain ⟨x0, x1, x2, x3, x4⟩ := id (BG.gx X)
  have lx := Arr.lt X
  go_upto_region 2 with (first | (go_at_call 29; refine H1.out.mono ?_; rintro ee W1 ⟨rfl, hb1⟩))
  have X1 := X.below hb1
  have Y1 := Y.below hb1
  have B1 := bel.trans (hb1.mono (by omega))
  clear x0 x1 x2 x3 x4 X Y bel hb1 H1
  have f0 := Arr.free Y1 0
  have f1 := Arr.free Y1 1
  have f2 := Arr.free Y1 2
  have f3 := Arr.free Y1 3
  have f4 := Arr.free Y1 4
  have lk1 := Arr.lt X1
  have lk2 := Arr.lt Y1
  obtain ⟨y0, y1, y2, y3, y4⟩ := id (BG.gx X1)
  obtain ⟨z0, z1, z2, z3, z4⟩ := id (BG.gx Y1)
  by_cases hf : faultG g = 0
  · rw [hf]
    have YF := BG.gx (BG.all Y1 (.slice a g.ins.length a') (.slice b g.outN.length b') (.slice c g.regs.length c') (.slice d0 g.ands.length d') (.slice e g.outs.length e'))
    have BF := b5_mono B1 (Nat.le_succ k) (.slice a g.ins.length a') (.slice b g.outN.length b') (.slice c g.regs.length c') (.slice d0 g.ands.length d') (.slice e g.outs.length e')
    have HYF := Lib.hid YF
    have HBF := Lib.hid BF
    clear YF BF
    go_wp2_with fail
    have YF := HYF.out
    have BF := HBF.out
    unfold put5 at YF BF
    clear HYF HBF f0 f1 f2 f3 f4 y0 y1 y2 y3 y4 z0 z1 z2 z3 z4
    generalize ((((W1.setCell ⟨k + 1, 0, none⟩ (.slice a g.ins.length a')).setCell ⟨k + 1, 1, none⟩ (.slice b g.outN.length b')).setCell ⟨k + 1, 2, none⟩ (.slice c g.regs.length c')).setCell ⟨k + 1, 3, none⟩ (.slice d0 g.ands.length d')).setCell ⟨k + 1, 4, none⟩ (.slice e g.outs.length e') = WF at YF BF ⊢
    obtain ⟨z0, z1, z2, z3, z4⟩ := YF
    exact bodyPost_ret (v := .tuple #[.agg #[.slice a g.ins.length a', .slice b g.outN.length b', .slice c g.regs.length c', .slice d0 g.ands.length d', .slice e g.outs.length e'], .int .i64 0]) (by simp [results, Try.results91, go_sem, z0, z1, z2, z3, z4]) rfl ⟨by first | rfl | (rw [if_pos hf]) | (simp [hf]), by rw [HK.out]; exact BF⟩
  · have hfb : (faultG g == 0) = false := beq_eq_false_iff_ne.2 hf
    have hfc : (faultG g != 0) = true := by simp [bne, hfb]
    have YF := BG.gx (BG.all Y1 (.slice none 0 0) (.slice none 0 0) (.slice none 0 0) (.slice none 0 0) (.slice none 0 0))
    have BF := b5_mono B1 (Nat.le_succ k) (.slice none 0 0) (.slice none 0 0) (.slice none 0 0) (.slice none 0 0) (.slice none 0 0)
    have HYF := Lib.hid YF
    have HBF := Lib.hid BF
    clear YF BF
    go_wp2_with fail
    have YF := HYF.out
    have BF := HBF.out
    unfold put5 at YF BF
    clear HYF HBF f0 f1 f2 f3 f4 y0 y1 y2 y3 y4 z0 z1 z2 z3 z4
    generalize ((((W1.setCell ⟨k + 1, 0, none⟩ (.slice none 0 0)).setCell ⟨k + 1, 1, none⟩ (.slice none 0 0)).setCell ⟨k + 1, 2, none⟩ (.slice none 0 0)).setCell ⟨k + 1, 3, none⟩ (.slice none 0 0)).setCell ⟨k + 1, 4, none⟩ (.slice none 0 0) = WF at YF BF ⊢
    obtain ⟨z0, z1, z2, z3, z4⟩ := YF
    exact bodyPost_ret (v := .tuple #[.agg #[.slice none 0 0, .slice none 0 0, .slice none 0 0, .slice none 0 0, .slice none 0 0], .int .i64 (faultG g)]) (by simp [results, Try.results91, go_sem, z0, z1, z2, z3, z4]) rfl ⟨by first | rfl | (rw [if_neg hf]) | (simp [hf]), by rw [HK.out]; exact BF⟩
set_option maxRecDepth 100000 in
set_option maxHeartbeats 8000000 in
theorem prefix_any (g : Gr) (v : Value) (s : ByteArray) (w : World) (sg : Small g) (hs : s.size ≤ 4000000000) (hss : ∀ x ∈ g.outN, x.size ≤ 4000000000) (hsr : ∀ r ∈ g.regs, r.nm.size ≤ 4000000000) (hG : GO g v w) : Calls Try.prog 61 #[v, .string s] w fun e w' => ∃ u, e = .returned (.tuple #[u, .int .i64 (prefE g s)]) ∧ GO (prefR g s) u w' ∧ Below w.heap.size w w' := by
  have s3 := sg.regs
  have s2 := sg.outN
  have hG0 := hG
  obtain ⟨a, b, c, d0, e, a', b', c', d', e', rfl, hC, hA⟩ := hG.all
  clear hG
  go_enter Try.func61, Try.ntmps61
  go_upto_region 1 with fail
  have bel := ((Below.refl w.heap.size w).alloc (Nat.le_refl _) (.cells #[.slice a g.ins.length a', .slice b g.outN.length b', .slice c g.regs.length c', .slice d0 g.ands.length d', .slice e g.outs.length e'] 28)).alloc (by simp) (.cells #[.slice none 0 0, .slice none 0 0, .slice none 0 0, .slice none 0 0, .slice none 0 0] 28)
  have X : BG w.heap.size (.slice a g.ins.length a') (.slice b g.outN.length b') (.slice c g.regs.length c') (.slice d0 g.ands.length d') (.slice e g.outs.length e') ((w.alloc (.cells #[.slice a g.ins.length a', .slice b g.outN.length b', .slice c g.regs.length c', .slice d0 g.ands.length d', .slice e g.outs.length e'] 28)).alloc (.cells #[.slice none 0 0, .slice none 0 0, .slice none 0 0, .slice none 0 0, .slice none 0 0] 28)) := (Arr.allocV w [.slice a g.ins.length a', .slice b g.outN.length b', .slice c g.regs.length c', .slice d0 g.ands.length d', .slice e g.outs.length e'] 28).below ((Below.refl _ _).alloc (Nat.le_refl _) (.cells #[.slice none 0 0, .slice none 0 0, .slice none 0 0, .slice none 0 0, .slice none 0 0] 28))
  have Y : BG (w.heap.size + 1) (.slice none 0 0) (.slice none 0 0) (.slice none 0 0) (.slice none 0 0) (.slice none 0 0) ((w.alloc (.cells #[.slice a g.ins.length a', .slice b g.outN.length b', .slice c g.regs.length c', .slice d0 g.ands.length d', .slice e g.outs.length e'] 28)).alloc (.cells #[.slice none 0 0, .slice none 0 0, .slice none 0 0, .slice none 0 0, .slice none 0 0] 28)) := by
    have := Arr.allocV (w.alloc (.cells #[.slice a g.ins.length a', .slice b g.outN.length b', .slice c g.regs.length c', .slice d0 g.ands.length d', .slice e g.outs.length e'] 28)) [.slice none 0 0, .slice none 0 0, .slice none 0 0, .slice none 0 0, .slice none 0 0] 28
    rwa [show (w.alloc (.cells #[.slice a g.ins.length a', .slice b g.outN.length b', .slice c g.regs.length c', .slice d0 g.ands.length d', .slice e g.outs.length e'] 28)).heap.size = w.heap.size + 1 by simp] at this
  have hsz : w.heap.size + 1 < ((w.alloc (.cells #[.slice a g.ins.length a', .slice b g.outN.length b', .slice c g.regs.length c', .slice d0 g.ands.length d', .slice e g.outs.length e'] 28)).alloc (.cells #[.slice none 0 0, .slice none 0 0, .slice none 0 0, .slice none 0 0, .slice none 0 0] 28)).heap.size := by simp
  generalize (w.alloc (.cells #[.slice a g.ins.length a', .slice b g.outN.length b', .slice c g.regs.length c', .slice d0 g.ands.length d', .slice e g.outs.length e'] 28)).alloc (.cells #[.slice none 0 0, .slice none 0 0, .slice none 0 0, .slice none 0 0, .slice none 0 0] 28) = W0 at bel X Y hsz ⊢
  have H1 := Lib.hid (check_any g _ sg W0 (hG0.below bel))
  have HG := Lib.hid (fun W (hb : Below w.heap.size w W) => hG0.below hb)
  generalize hk : w.heap.size = k at X Y hsz bel H1 ⊢
  have HK := Lib.hid hk
  rw [hk] at HG
  clear hk hA hC hG0
  obtain ⟨x0, x1, x2, x3, x4⟩ := id (BG.gx X)
  have lx := Arr.lt X
  go_upto_region 2 with (first | (go_at_call 29; refine H1.out.mono ?_; rintro ee W1 ⟨rfl, hb1⟩))
  have X1 := X.below hb1
  have Y1 := Y.below hb1
  have B1 := bel.trans (hb1.mono (by omega))
  clear x0 x1 x2 x3 x4 X Y bel H1
  have f0 := Arr.free Y1 0
  have f1 := Arr.free Y1 1
  have f2 := Arr.free Y1 2
  have f3 := Arr.free Y1 3
  have f4 := Arr.free Y1 4
  have lk1 := Arr.lt X1
  have lk2 := Arr.lt Y1
  have ls1 := hb1.size
  clear hb1
  obtain ⟨y0, y1, y2, y3, y4⟩ := id (BG.gx X1)
  obtain ⟨z0, z1, z2, z3, z4⟩ := id (BG.gx Y1)
  by_cases hf : faultG g = 0
  rotate_left
  · have hfb : (faultG g == 0) = false := beq_eq_false_iff_ne.2 hf
    have hfc : (faultG g != 0) = true := by simp [bne, hfb]
    have hpe : prefE g s = faultG g := if_neg hf
    have hpr : prefR g s = nilG := if_neg (fun h => hf (hpe ▸ h))
    have YF := BG.gx (BG.all Y1 (.slice none 0 0) (.slice none 0 0) (.slice none 0 0) (.slice none 0 0) (.slice none 0 0))
    have BF := b5_mono B1 (Nat.le_succ k) (.slice none 0 0) (.slice none 0 0) (.slice none 0 0) (.slice none 0 0) (.slice none 0 0)
    have HYF := Lib.hid YF
    have HBF := Lib.hid BF
    clear YF BF
    go_wp2_with fail
    have YF := HYF.out
    have BF := HBF.out
    unfold put5 at YF BF
    clear HYF HBF f0 f1 f2 f3 f4 y0 y1 y2 y3 y4 z0 z1 z2 z3 z4
    generalize ((((W1.setCell ⟨k + 1, 0, none⟩ (.slice none 0 0)).setCell ⟨k + 1, 1, none⟩ (.slice none 0 0)).setCell ⟨k + 1, 2, none⟩ (.slice none 0 0)).setCell ⟨k + 1, 3, none⟩ (.slice none 0 0)).setCell ⟨k + 1, 4, none⟩ (.slice none 0 0) = WF at YF BF ⊢
    obtain ⟨z0, z1, z2, z3, z4⟩ := YF
    exact bodyPost_ret (v := .tuple #[.agg #[.slice none 0 0, .slice none 0 0, .slice none 0 0, .slice none 0 0, .slice none 0 0], .int .i64 (faultG g)]) (by simp [results, Try.results61, go_sem, z0, z1, z2, z3, z4]) rfl ⟨_, by rw [hpe], by rw [hpr]; exact nil_go _, by rw [HK.out]; exact BF⟩
  · rw [hf]
    by_cases hq : 128 < s.size
    · have hqi : (128 : Int) < (s.size : Int) := by omega
      have hpe : prefE g s = 9 := by unfold prefE; rw [if_pos hf, if_pos hq]
      have hpr : prefR g s = nilG := if_neg (fun h => by rw [hpe] at h; cases h)
      have YF := BG.gx (BG.all Y1 (.slice none 0 0) (.slice none 0 0) (.slice none 0 0) (.slice none 0 0) (.slice none 0 0))
      have BF := b5_mono B1 (Nat.le_succ k) (.slice none 0 0) (.slice none 0 0) (.slice none 0 0) (.slice none 0 0) (.slice none 0 0)
      have HYF := Lib.hid YF
      have HBF := Lib.hid BF
      clear YF BF
      go_wp2_with fail
      have YF := HYF.out
      have BF := HBF.out
      unfold put5 at YF BF
      clear HYF HBF f0 f1 f2 f3 f4 y0 y1 y2 y3 y4 z0 z1 z2 z3 z4
      generalize ((((W1.setCell ⟨k + 1, 0, none⟩ (.slice none 0 0)).setCell ⟨k + 1, 1, none⟩ (.slice none 0 0)).setCell ⟨k + 1, 2, none⟩ (.slice none 0 0)).setCell ⟨k + 1, 3, none⟩ (.slice none 0 0)).setCell ⟨k + 1, 4, none⟩ (.slice none 0 0) = WF at YF BF ⊢
      obtain ⟨z0, z1, z2, z3, z4⟩ := YF
      exact bodyPost_ret (v := .tuple #[.agg #[.slice none 0 0, .slice none 0 0, .slice none 0 0, .slice none 0 0, .slice none 0 0], .int .i64 9]) (by simp [results, Try.results61, go_sem, z0, z1, z2, z3, z4]) rfl ⟨_, by rw [hpe], by rw [hpr]; exact nil_go _, by rw [HK.out]; exact BF⟩
    · have hqi : ¬ (128 : Int) < (s.size : Int) := by omega
      have hpe : prefE g s = faultG (prefG g s) := by unfold prefE; rw [if_pos hf, if_neg hq]
      have spg := Lib.hid (pf_small (s := s) sg hs hss hsr)
      clear f0 f1 f2 f3 f4 z0 z1 z2 z3 z4
      have H2 := Lib.hid (copyS_any g _ W1 sg (HG.out W1 B1))
      go_upto_region 7 with (first | (go_at_call 33; refine H2.out.mono ?_; rintro ee W2 ⟨u, rfl, OG2, hb2⟩; obtain ⟨v0, v1, v2, v3, v4, rfl, o0, o1, o2, o3, o4, os⟩ := OG2; obtain ⟨a0, c0, rfl⟩ := o0.slice; obtain ⟨a1, c1, rfl⟩ := o1.slice; obtain ⟨a2, c2, rfl⟩ := o2.slice; obtain ⟨a3, c3, rfl⟩ := o3.slice; obtain ⟨a4, c4, rfl⟩ := o4.slice; have X2 := X1.below hb2; have lx2 := Arr.lt X2; have f0 := Arr.free X2 0; have f1 := Arr.free X2 1; have f2 := Arr.free X2 2; have f3 := Arr.free X2 3; have f4 := Arr.free X2 4; clear y0 y1 y2 y3 y4; obtain ⟨y0, y1, y2, y3, y4⟩ := id (BG.gx X2)))
      have Y2 := Y1.below hb2
      have B2 := B1.trans (hb2.mono (by omega))
      have Z2 := BG.all X2 (.slice a0 g.ins.length c0) (.slice a1 g.outN.length c1) (.slice a2 g.regs.length c2) (.slice a3 g.ands.length c3) (.slice a4 g.outs.length c4)
      have B3 := put5_below B2 (.slice a0 g.ins.length c0) (.slice a1 g.outN.length c1) (.slice a2 g.regs.length c2) (.slice a3 g.ands.length c3) (.slice a4 g.outs.length c4)
      have hkb : k < W1.heap.size := by omega
      have hkb1 : k + 1 < W1.heap.size := by omega
      have p0 := o0.put5 k (.slice a0 g.ins.length c0) (.slice a1 g.outN.length c1) (.slice a2 g.regs.length c2) (.slice a3 g.ands.length c3) (.slice a4 g.outs.length c4) hkb
      have p1 := o1.put5 k (.slice a0 g.ins.length c0) (.slice a1 g.outN.length c1) (.slice a2 g.regs.length c2) (.slice a3 g.ands.length c3) (.slice a4 g.outs.length c4) hkb
      have p2 := o2.put5 k (.slice a0 g.ins.length c0) (.slice a1 g.outN.length c1) (.slice a2 g.regs.length c2) (.slice a3 g.ands.length c3) (.slice a4 g.outs.length c4) hkb
      have p3 := o3.put5 k (.slice a0 g.ins.length c0) (.slice a1 g.outN.length c1) (.slice a2 g.regs.length c2) (.slice a3 g.ands.length c3) (.slice a4 g.outs.length c4) hkb
      have p4 := o4.put5 k (.slice a0 g.ins.length c0) (.slice a1 g.outN.length c1) (.slice a2 g.regs.length c2) (.slice a3 g.ands.length c3) (.slice a4 g.outs.length c4) hkb
      have Y3 : BG (k + 1) (.slice none 0 0) (.slice none 0 0) (.slice none 0 0) (.slice none 0 0) (.slice none 0 0) (put5 W2 k (.slice a0 g.ins.length c0) (.slice a1 g.outN.length c1) (.slice a2 g.regs.length c2) (.slice a3 g.ands.length c3) (.slice a4 g.outs.length c4)) := ((((Y2.other (by show k + 1 ≠ k; omega)).other (by show k + 1 ≠ k; omega)).other (by show k + 1 ≠ k; omega)).other (by show k + 1 ≠ k; omega)).other (by show k + 1 ≠ k; omega)
      have R3 : PrK W1.heap.size g s k 0 0 (.slice a0 g.ins.length c0) (.slice a1 g.outN.length c1) (.slice a2 g.regs.length c2) (.slice a3 g.ands.length c3) (.slice a4 g.outs.length c4) (put5 W2 k (.slice a0 g.ins.length c0) (.slice a1 g.outN.length c1) (.slice a2 g.regs.length c2) (.slice a3 g.ands.length c3) (.slice a4 g.outs.length c4)) := ⟨Z2, p0, by rw [mix_zero]; exact p1, by rw [mix_zero]; exact p2, p3, p4, os⟩
      unfold put5 at R3 B3 Y3
      clear f0 f1 f2 f3 f4 y0 y1 y2 y3 y4 X1 Y1 B1 X2 Y2 B2 o0 o1 o2 o3 o4 lx lx2 hb2 H2 HG Z2 p0 p1 p2 p3 p4
      generalize ((((W2.setCell ⟨k, 0, none⟩ (.slice a0 g.ins.length c0)).setCell ⟨k, 1, none⟩ (.slice a1 g.outN.length c1)).setCell ⟨k, 2, none⟩ (.slice a2 g.regs.length c2)).setCell ⟨k, 3, none⟩ (.slice a3 g.ands.length c3)).setCell ⟨k, 4, none⟩ (.slice a4 g.outs.length c4) = W3 at R3 B3 Y3 ⊢
      have hk1 : k + 1 < W3.heap.size := Arr.lt Y3
      have HY3 := Lib.hid Y3
      have HR3 := Lib.hid R3
      have HB3 := Lib.hid B3
      clear Y3 R3 B3
      generalize W1.heap.size = N1 at HR3 hkb hkb1
      obtain ⟨y0, y1, y2, y3, y4⟩ := id (BG.gx HR3.out.box)
      have ly := Arr.lt HR3.out.box
      go_upto_block 0 with fail
      clear y0 y1 y2 y3 y4 ly
      go_wp2_with fail
      go_loopw [24] (fun i wr => ∃ j : Nat, j ≤ g.regs.length ∧ i = .int .i64 (j : Int) ∧ Hid (PrK N1 g s k 0 j (.slice a0 g.ins.length c0) (.slice a1 g.outN.length c1) (.slice a2 g.regs.length c2) (.slice a3 g.ands.length c3) (.slice a4 g.outs.length c4) wr) ∧ Hid (BG (k + 1) (.slice none 0 0) (.slice none 0 0) (.slice none 0 0) (.slice none 0 0) (.slice none 0 0) wr) ∧ Hid (Below k w wr)) (fun i _ => g.regs.length - (intOf i).toNat)
      case atStart => exact ⟨0, Nat.zero_le _, rfl, HR3, HY3, HB3⟩
      case round =>
        clear HR3 HY3 HB3 hk1
        obtain ⟨j, hj, rfl, hK, hY, hB⟩ := hrel
        rename World => WR
        have hj0 : (0 : Int) ≤ (j : Int) := by omega
        by_cases hlt : j < g.regs.length
        · have hji : (j : Int) < (g.regs.length : Int) := by omega
          obtain ⟨b2, hb2, hle2, hlt2⟩ := hK.out.regs.at (by omega)
          subst hb2
          have hml : j < (mixL (pfR s) g.regs j).length := by rw [mix_len _ _ _ hj]; exact hlt
          have hmg := mix_get (pfR s) g.regs j hlt
          have d0 := OwnK.cellK lenR hK.out.regs (j := j) (c := 0) (x := .string g.regs[j]!.nm) hml (by rw [hmg]; rfl)
          simp only [Nat.add_zero] at d0
          have HP := Lib.hid (fun (W : World) (h : PrK N1 g s k 0 j (.slice a0 g.ins.length c0) (.slice a1 g.outN.length c1) (.slice (some ⟨b2, 0, none⟩) g.regs.length c2) (.slice a3 g.ands.length c3) (.slice a4 g.outs.length c4) W) => h.putG hlt (by omega))
          have hrs := hsr _ (mem1 g.regs hlt)
          have KK := hK.out
          have YY := hY.out
          have BB := hB.out
          have hky := Arr.lt YY
          have HD := Lib.hid (fun (W : World) (h : PrK N1 g s k 0 j (.slice a0 g.ins.length c0) (.slice a1 g.outN.length c1) (.slice (some ⟨b2, 0, none⟩) g.regs.length c2) (.slice a3 g.ands.length c3) (.slice a4 g.outs.length c4) W) => (by have := OwnK.cellK lenR h.regs (j := j) (c := 0) (x := .string g.regs[j]!.nm) hml (by rw [hmg]; rfl); simpa using this : W.cell? ⟨b2, j * 3, none⟩ = some (.string g.regs[j]!.nm)))
          clear hK hY hB hmg hml
          generalize g.regs[j]!.nm = r0 at d0 HP hrs HD
          have hcat : ¬ (9223372036854775807 : Int) < (s.size : Int) + (r0.size : Int) := by omega
          have hcat2 : ¬ 9223372036854775807 < s.size + r0.size := by omega
          obtain ⟨y0, y1, y2, y3, y4⟩ := id (BG.gx KK.box)
          have ly := Arr.lt KK.box
          have HBR := Lib.hid (fun d os => below_regrown WR d os)
          have HBW := Lib.hid (fun d os => BB.trans ((below_regrown WR d os).mono (by omega)))
          go_upto_region 10 with fail
          have g2 := cell_regrown y2
          have g5 := cell_regrown d0
          clear d0 y0 y1 y2 y3 y4 ly hky
          refine wp_region_rel 13 (by kernel_rfl) (by kernel_rfl) ?_
          simp only [List.take_succ_cons, List.take_zero, List.drop_succ_cons, List.drop_zero]
          iterate 13 (refine rel_fix0 (fun K hK => ?_); go_simp; refine hK _ ?_; clear hK K)
          refine rel_nil ?_
          intro d os2
          simp only [relAll]
          have hbr := HBR.out d os2
          have KK2 := KK.below hbr
          have YY2 := YY.below hbr
          have BB2 := HBW.out d os2
          clear g2 g5 HBR HBW KK YY BB hbr hcat hcat2
          generalize grow (redrawn WR d) os2 = WS at KK2 YY2 BB2 ⊢
          have e1 := OwnK.free KK2.regs (j * 3)
          have e2 := HD.out _ KK2
          have e3 := (World.ownsRow.lt KK2.regs b2 rfl).2
          have HK9 := Lib.hid (HP.out _ KK2)
          have HY9 := Lib.hid (Arr.other YY2 (p := ⟨b2, j * 3, none⟩) (v := .string (s ++ r0)) (by show k + 1 ≠ b2; omega))
          have HB9 := Lib.hid (BB2.setCell (p := ⟨b2, j * 3, none⟩) (by show k ≤ b2; omega) (.string (s ++ r0)))
          clear KK2 YY2 BB2
          go_wp2_with fail
          go_roundw
          case rel => exact ⟨j + 1, by omega, by go_num, HK9, HY9, HB9⟩
          all_goals first | done | (simp [intOf]; done) | (simp [intOf]; omega)
        · have hji : ¬ (j : Int) < (g.regs.length : Int) := by omega
          have KK := hK.out
          rw [show j = g.regs.length by omega] at KK
          have YY := hY.out
          have BB := hB.out
          clear hK hY hB
          obtain ⟨y0, y1, y2, y3, y4⟩ := id (BG.gx KK.box)
          have ly := Arr.lt KK.box
          go_upto_block 2 with fail
          clear y0 y1 y2 y3 y4 ly
          have HK2 := Lib.hid KK
          have HY2 := Lib.hid YY
          have HB2 := Lib.hid BB
          clear KK YY BB
          go_wp2_with fail
          go_loopw [44] (fun i wr => ∃ j2 : Nat, j2 ≤ g.outN.length ∧ i = .int .i64 (j2 : Int) ∧ Hid (PrK N1 g s k j2 g.regs.length (.slice a0 g.ins.length c0) (.slice a1 g.outN.length c1) (.slice a2 g.regs.length c2) (.slice a3 g.ands.length c3) (.slice a4 g.outs.length c4) wr) ∧ Hid (BG (k + 1) (.slice none 0 0) (.slice none 0 0) (.slice none 0 0) (.slice none 0 0) (.slice none 0 0) wr) ∧ Hid (Below k w wr)) (fun i _ => g.outN.length - (intOf i).toNat)
          case atStart => exact ⟨0, Nat.zero_le _, rfl, HK2, HY2, HB2⟩
          case round =>
            clear HK2 HY2 HB2
            obtain ⟨j2, hj2, rfl, hK, hY, hB⟩ := hrel
            rename World => WQ
            have hj20 : (0 : Int) ≤ (j2 : Int) := by omega
            by_cases hlt2 : j2 < g.outN.length
            · have hji2 : (j2 : Int) < (g.outN.length : Int) := by omega
              obtain ⟨b1, hb1, hle1, hlt1⟩ := hK.out.outN.at (by omega)
              subst hb1
              have hml : j2 < (mixL (s ++ ·) g.outN j2).length := by rw [mix_len _ _ _ hj2]; exact hlt2
              have hmg := mix_get (s ++ ·) g.outN j2 hlt2
              have HP := Lib.hid (fun (W : World) (h : PrK N1 g s k j2 g.regs.length (.slice a0 g.ins.length c0) (.slice (some ⟨b1, 0, none⟩) g.outN.length c1) (.slice a2 g.regs.length c2) (.slice a3 g.ands.length c3) (.slice a4 g.outs.length c4) W) => h.putO hlt2 (by omega))
              have HD := Lib.hid (fun (W : World) (h : PrK N1 g s k j2 g.regs.length (.slice a0 g.ins.length c0) (.slice (some ⟨b1, 0, none⟩) g.outN.length c1) (.slice a2 g.regs.length c2) (.slice a3 g.ands.length c3) (.slice a4 g.outs.length c4) W) => (by have := OwnK.cellK lenT h.outN (j := j2) (c := 0) (x := .string g.outN[j2]!) hml (by rw [hmg]; rfl); simpa using this : W.cell? ⟨b1, j2, none⟩ = some (.string g.outN[j2]!)))
              have hrs := hss _ (mem1 g.outN hlt2)
              have KK := hK.out
              have YY := hY.out
              have BB := hB.out
              have hky := Arr.lt YY
              clear hK hY hB hmg hml
              generalize g.outN[j2]! = r0 at HP hrs HD
              have d0 := HD.out _ KK
              have hcat : ¬ (9223372036854775807 : Int) < (s.size : Int) + (r0.size : Int) := by omega
              have hcat2 : ¬ 9223372036854775807 < s.size + r0.size := by omega
              obtain ⟨y0, y1, y2, y3, y4⟩ := id (BG.gx KK.box)
              have ly := Arr.lt KK.box
              have HBR := Lib.hid (fun d os => below_regrown WQ d os)
              have HBW := Lib.hid (fun d os => BB.trans ((below_regrown WQ d os).mono (by omega)))
              go_upto_region 15 with fail
              have g2 := cell_regrown y1
              have g5 := cell_regrown d0
              clear d0 y0 y1 y2 y3 y4 ly hky
              refine wp_region_rel 11 (by kernel_rfl) (by kernel_rfl) ?_
              simp only [List.take_succ_cons, List.take_zero, List.drop_succ_cons, List.drop_zero]
              iterate 11 (refine rel_fix0 (fun K hK => ?_); go_simp; refine hK _ ?_; clear hK K)
              refine rel_nil ?_
              intro d os2
              simp only [relAll]
              have hbr := HBR.out d os2
              have KK2 := KK.below hbr
              have YY2 := YY.below hbr
              have BB2 := HBW.out d os2
              clear g2 g5 HBR HBW KK YY BB hbr hcat hcat2
              generalize grow (redrawn WQ d) os2 = WS at KK2 YY2 BB2 ⊢
              have e1 := OwnK.free KK2.outN j2
              have e2 := HD.out _ KK2
              have e3 := (World.ownsRow.lt KK2.outN b1 rfl).2
              have HK9 := Lib.hid (HP.out _ KK2)
              have HY9 := Lib.hid (Arr.other YY2 (p := ⟨b1, j2, none⟩) (v := .string (s ++ r0)) (by show k + 1 ≠ b1; omega))
              have HB9 := Lib.hid (BB2.setCell (p := ⟨b1, j2, none⟩) (by show k ≤ b1; omega) (.string (s ++ r0)))
              clear KK2 YY2 BB2
              go_wp2_with fail
              go_roundw
              case rel => exact ⟨j2 + 1, by omega, by go_num, HK9, HY9, HB9⟩
              all_goals first | done | (simp [intOf]; done) | (simp [intOf]; omega)
            · have hji2 : ¬ (j2 : Int) < (g.outN.length : Int) := by omega
              have KK := hK.out
              rw [show j2 = g.outN.length by omega] at KK
              have YY := hY.out
              have BB := hB.out
              have hky := Arr.lt YY
              clear hK hY hB
              obtain ⟨y0, y1, y2, y3, y4⟩ := id (BG.gx KK.box)
              have ly := Arr.lt KK.box
              have OGG := KK.og
              have H3 := Lib.hid (checked_any (prefG g s) (.agg #[.slice a0 g.ins.length c0, .slice a1 g.outN.length c1, .slice a2 g.regs.length c2, .slice a3 g.ands.length c3, .slice a4 g.outs.length c4]) WQ spg.out OGG.go)
              go_upto_region 17 with fail
              have HOG := Lib.hid OGG
              have HYY := Lib.hid YY
              have HBB := Lib.hid BB
              clear OGG YY BB KK
              by_cases hf2 : faultG (prefG g s) = 0
              · rw [if_pos hf2, hf2] at H3
                have hpe2 : prefE g s = 0 := hpe.trans hf2
                have hpr : prefR g s = prefG g s := if_pos hpe2
                go_wp2_with (first | (go_at_call 91; refine H3.out.mono ?_; rintro ee W5 ⟨rfl, hb5⟩; have Y5 := HYY.out.below hb5; have f0 := Arr.free Y5 0; have f1 := Arr.free Y5 1; have f2 := Arr.free Y5 2; have f3 := Arr.free Y5 3; have f4 := Arr.free Y5 4; have lk5 := Arr.lt Y5; obtain ⟨z0, z1, z2, z3, z4⟩ := id (BG.gx Y5); have HYF := Lib.hid (BG.gx (BG.all Y5 (.slice a0 g.ins.length c0) (.slice a1 g.outN.length c1) (.slice a2 g.regs.length c2) (.slice a3 g.ands.length c3) (.slice a4 g.outs.length c4))); have HBF := Lib.hid (b5_mono (HBB.out.trans (hb5.mono (by omega))) (Nat.le_succ k) (.slice a0 g.ins.length c0) (.slice a1 g.outN.length c1) (.slice a2 g.regs.length c2) (.slice a3 g.ands.length c3) (.slice a4 g.outs.length c4)); have HOF := Lib.hid (((HOG.out.below hb5).put5 (k + 1) (.slice a0 g.ins.length c0) (.slice a1 g.outN.length c1) (.slice a2 g.regs.length c2) (.slice a3 g.ands.length c3) (.slice a4 g.outs.length c4) hkb1).go)))
                have YF := HYF.out
                have BF := HBF.out
                have OF := HOF.out
                unfold put5 at YF BF OF
                clear HYF HBF HOF f0 f1 f2 f3 f4 y0 y1 y2 y3 y4 z0 z1 z2 z3 z4
                generalize ((((W5.setCell ⟨k + 1, 0, none⟩ (.slice a0 g.ins.length c0)).setCell ⟨k + 1, 1, none⟩ (.slice a1 g.outN.length c1)).setCell ⟨k + 1, 2, none⟩ (.slice a2 g.regs.length c2)).setCell ⟨k + 1, 3, none⟩ (.slice a3 g.ands.length c3)).setCell ⟨k + 1, 4, none⟩ (.slice a4 g.outs.length c4) = WF at YF BF OF ⊢
                obtain ⟨z0, z1, z2, z3, z4⟩ := YF
                exact bodyPost_ret (v := .tuple #[.agg #[.slice a0 g.ins.length c0, .slice a1 g.outN.length c1, .slice a2 g.regs.length c2, .slice a3 g.ands.length c3, .slice a4 g.outs.length c4], .int .i64 0]) (by simp [results, Try.results61, go_sem, z0, z1, z2, z3, z4]) rfl ⟨_, by rw [hpe2], by rw [hpr]; exact OF, by rw [HK.out]; exact BF⟩
              · rw [if_neg hf2] at H3
                have hpr : prefR g s = nilG := if_neg (fun h => hf2 (hpe ▸ h))
                go_wp2_with (first | (go_at_call 91; refine H3.out.mono ?_; rintro ee W5 ⟨rfl, hb5⟩; have Y5 := HYY.out.below hb5; have f0 := Arr.free Y5 0; have f1 := Arr.free Y5 1; have f2 := Arr.free Y5 2; have f3 := Arr.free Y5 3; have f4 := Arr.free Y5 4; have lk5 := Arr.lt Y5; obtain ⟨z0, z1, z2, z3, z4⟩ := id (BG.gx Y5); have HYF := Lib.hid (BG.gx (BG.all Y5 (.slice none 0 0) (.slice none 0 0) (.slice none 0 0) (.slice none 0 0) (.slice none 0 0))); have HBF := Lib.hid (b5_mono (HBB.out.trans (hb5.mono (by omega))) (Nat.le_succ k) (.slice none 0 0) (.slice none 0 0) (.slice none 0 0) (.slice none 0 0) (.slice none 0 0))))
                have YF := HYF.out
                have BF := HBF.out
                unfold put5 at YF BF
                clear HYF HBF f0 f1 f2 f3 f4 y0 y1 y2 y3 y4 z0 z1 z2 z3 z4
                generalize ((((W5.setCell ⟨k + 1, 0, none⟩ (.slice none 0 0)).setCell ⟨k + 1, 1, none⟩ (.slice none 0 0)).setCell ⟨k + 1, 2, none⟩ (.slice none 0 0)).setCell ⟨k + 1, 3, none⟩ (.slice none 0 0)).setCell ⟨k + 1, 4, none⟩ (.slice none 0 0) = WF at YF BF ⊢
                obtain ⟨z0, z1, z2, z3, z4⟩ := YF
                exact bodyPost_ret (v := .tuple #[.agg #[.slice none 0 0, .slice none 0 0, .slice none 0 0, .slice none 0 0, .slice none 0 0], .int .i64 (faultG (prefG g s))]) (by simp [results, Try.results61, go_sem, z0, z1, z2, z3, z4]) rfl ⟨_, by rw [hpe], by rw [hpr]; exact nil_go _, by rw [HK.out]; exact BF⟩
theorem prefix_holds : PrefixC := fun g v s w sg hs hss hsr hG => prefix_any g v s w sg hs hss hsr hG
end Go.Proofs.Ytbphhcjepeamcaa
