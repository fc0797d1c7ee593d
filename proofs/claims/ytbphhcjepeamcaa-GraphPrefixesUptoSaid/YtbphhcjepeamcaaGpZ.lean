/- The program's rewired: a graph with other ands, and with what its roots became. Conditions: rows of at most 4,000,000,000 elements; the roots are literals of nodes. -/
import Derived.Test.YtbphhcjepeamcaaGpD
namespace Go.Proofs.Ytbphhcjepeamcaa
open Go Go.RowKit Go.Sort
set_option linter.unusedVariables false
/-- a row of which the first ones are changed -/
def mixL {α : Type} (f : α → α) (l : List α) (j : Nat) : List α := (l.take j).map f ++ l.drop j
theorem mix_zero {α : Type} (f : α → α) (l : List α) : mixL f l 0 = l := by simp [mixL]
theorem mix_all {α : Type} (f : α → α) (l : List α) : mixL f l l.length = l.map f := by simp [mixL]
theorem mix_len {α : Type} (f : α → α) (l : List α) (j : Nat) (h : j ≤ l.length) : (mixL f l j).length = l.length := by simp [mixL]; omega
theorem mid_set {α : Type} (A R : List α) (y x : α) (j : Nat) (h : A.length = j) : (A ++ y :: R).set j x = A ++ x :: R := by
  subst h; simp
theorem drop_cons {α : Type} [Inhabited α] (l : List α) {j : Nat} (h : j < l.length) : l.drop j = l[j]! :: l.drop (j + 1) := by
  rw [getElem!_pos l j h]; exact List.drop_eq_getElem_cons h
theorem mix_set {α : Type} [Inhabited α] (f : α → α) (l : List α) (j : Nat) (h : j < l.length) : (mixL f l j).set j (f l[j]!) = mixL f l (j + 1) := by
  unfold mixL
  rw [drop_cons l h, mid_set _ _ _ _ _ (by simp; omega), tk1 l h, List.map_append]
  simp
theorem mix_get {α : Type} [Inhabited α] (f : α → α) (l : List α) (j : Nat) (h : j < l.length) : (mixL f l j)[j]! = l[j]! := by
  unfold mixL
  rw [drop_cons l h]
  have hl : ((l.take j).map f).length = j := by simp; omega
  generalize (l.take j).map f = A at hl
  subst hl
  rw [getElem!_pos _ _ (by simp)]
  simp
theorem OwnK.num {B : Nat} {t : TypeId} {k : Nat} {α : Type} {enc : α → List Value} {w : World} {ad : Option Addr} {n cp : Nat} {l : List α} (h : OwnK B t k enc w (.slice ad n cp) l) : n = l.length := by
  rcases h.2 with ⟨h1, h0⟩ | ⟨g, cap, cur, hv, _⟩
  · cases h1; exact h0.symm
  · cases hv; rfl
theorem OwnK.at {B : Nat} {t : TypeId} {k : Nat} {α : Type} {enc : α → List Value} {w : World} {ad : Option Addr} {n cp : Nat} {l : List α} (h : OwnK B t k enc w (.slice ad n cp) l) (hn : 0 < n) : ∃ b, ad = some ⟨b, 0, none⟩ ∧ B ≤ b ∧ b < w.heap.size := by
  have hnn := h.num
  obtain ⟨b, cp2, hv⟩ := h.lies (by omega)
  cases hv
  have := World.ownsRow.lt h b rfl
  exact ⟨b, rfl, this.1, this.2⟩
theorem OwnK.cellK {B : Nat} {t : TypeId} {k : Nat} {α : Type} [Inhabited α] {enc : α → List Value} (hk : ∀ x, (enc x).length = k) {w : World} {b n cp : Nat} {l : List α} (h : OwnK B t k enc w (.slice (some ⟨b, 0, none⟩) n cp) l) {j c : Nat} {x : Value} (hj : j < l.length) (hx : (enc l[j]!)[c]? = some x) : w.cell? ⟨b, j * k + c, none⟩ = some x := by
  have hn := h.num
  subst hn
  have hck : c < k := by rw [← hk l[j]!]; exact (List.getElem?_eq_some_iff.1 hx).1
  have hjk : j * k + c < l.length * k := by
    have : (j + 1) * k ≤ l.length * k := Nat.mul_le_mul_right k hj
    rw [Nat.add_mul] at this; omega
  have := World.ownsRow.cellAt h (j * k + c) hjk
  rw [flat_get hk l j c hj hck, hx] at this
  exact this
theorem OwnK.free {B : Nat} {t : TypeId} {k : Nat} {α : Type} {enc : α → List Value} {w : World} {b n cp : Nat} {l : List α} (h : OwnK B t k enc w (.slice (some ⟨b, 0, none⟩) n cp) l) (j : Nat) : w.frozen? ⟨b, j, none⟩ = false := by
  have hn := h.num
  subst hn
  exact World.ownsRow.frozenAt h j
theorem OwnK.put1 {B : Nat} {t : TypeId} {α : Type} {f : α → Value} {w : World} {b n cp : Nat} {l : List α} (h : OwnK B t 1 (fun x => [f x]) w (.slice (some ⟨b, 0, none⟩) n cp) l) (j : Nat) (x : α) : OwnK B t 1 (fun x => [f x]) (w.setCell ⟨b, j, none⟩ (f x)) (.slice (some ⟨b, 0, none⟩) n cp) (l.set j x) := by
  have hn := h.num
  subst hn
  have := (World.ownsRow.stored h j (f x)).1
  unfold OwnK
  rw [flat_one, List.length_set]
  rw [flat_one] at this
  rwa [List.map_set] 
theorem flat_set : ∀ (l : List Rg) (j : Nat) (y : Int), j < l.length → (l.flatMap encR).set (j * 3 + 1) (.int .i64 y) = (l.set j ⟨l[j]!.nm, y, l[j]!.it⟩).flatMap encR
  | [], j, _, h => by simp at h
  | r :: l, 0, y, _ => by simp
  | r :: l, j + 1, y, h => by
    rw [List.flatMap_cons, show (j + 1) * 3 + 1 = (encR r).length + (j * 3 + 1) by show _ = 3 + _; omega, List.set_append_right _ _ (Nat.le_add_right _ _), Nat.add_sub_cancel_left, flat_set l j y (by simpa using h)]
    simp
theorem OwnK.putR {B : Nat} {t : TypeId} {w : World} {b n cp : Nat} {l : List Rg} (h : OwnK B t 3 encR w (.slice (some ⟨b, 0, none⟩) n cp) l) (j : Nat) (y : Int) (hj : j < l.length) : OwnK B t 3 encR (w.setCell ⟨b, j * 3 + 1, none⟩ (.int .i64 y)) (.slice (some ⟨b, 0, none⟩) n cp) (l.set j ⟨l[j]!.nm, y, l[j]!.it⟩) := by
  have hn := h.num
  subst hn
  have := (World.ownsRow.stored h (j * 3 + 1) (.int .i64 y)).1
  rw [flat_set l j y hj] at this
  unfold OwnK
  rwa [List.length_set]
/-- another row stays -/
theorem OwnK.other {B B2 : Nat} {t t2 : TypeId} {k k2 : Nat} {α β : Type} {enc : α → List Value} {enc2 : β → List Value} {w : World} {v : Value} {l : List α} {b n cp : Nat} {l2 : List β} (h : OwnK B t k enc w v l) (h2 : OwnK B2 t2 k2 enc2 w (.slice (some ⟨b, 0, none⟩) n cp) l2) (ht : t ≠ t2) (j : Nat) (u : Value) : OwnK B t k enc (w.setCell ⟨b, j, none⟩ u) v l :=
  World.ownsRow.kept h (grown_put w ⟨b, j, none⟩ u) (OwnK.tags h h2 ht)
def reG (g : Gr) (ands : List (Int × Int)) (T : List Int) : Gr := ⟨g.ins, g.outN, g.regs.map (flR T), ands, g.outs.map (flL T)⟩
/-- the rows of the new graph -/
structure RwK (B : Nat) (g : Gr) (T : List Int) (k i j : Nat) (va v0 v1 v2 v4 : Value) (w : World) : Prop where
  box : BG k v0 v1 v2 va v4 w
  ins : OwnK B 9 1 encT w v0 g.ins
  outN : OwnK B 9 1 encT w v1 g.outN
  regs : OwnK B 89 3 encR w v2 (mixL (flR T) g.regs j)
  outs : OwnK B 22 1 encI w v4 (mixL (flL T) g.outs i)
theorem RwK.below {B : Nat} {g : Gr} {T : List Int} {k i j : Nat} {va v0 v1 v2 v4 : Value} {w w' : World} (h : RwK B g T k i j va v0 v1 v2 v4 w) (hb : Below w.heap.size w w') : RwK B g T k i j va v0 v1 v2 v4 w' :=
  ⟨Arr.below h.box hb, h.ins.below hb, h.outN.below hb, h.regs.below hb, h.outs.below hb⟩
theorem RwK.putO {B : Nat} {g : Gr} {T : List Int} {k i j : Nat} {va v0 v1 v2 : Value} {b n cp : Nat} {w : World} (h : RwK B g T k i j va v0 v1 v2 (.slice (some ⟨b, 0, none⟩) n cp) w) (hi : i < g.outs.length) (hkb : k ≠ b) : RwK B g T k (i + 1) j va v0 v1 v2 (.slice (some ⟨b, 0, none⟩) n cp) (w.setCell ⟨b, i, none⟩ (.int .i64 (flL T g.outs[i]!))) :=
  ⟨Arr.other h.box hkb, h.ins.other h.outs (by decide) i _, h.outN.other h.outs (by decide) i _, h.regs.other h.outs (by decide) i _, by
    have := OwnK.put1 (f := fun n : Int => Value.int .i64 n) h.outs i (flL T g.outs[i]!)
    rwa [mix_set (flL T) g.outs i hi] at this⟩
theorem RwK.putG {B : Nat} {g : Gr} {T : List Int} {k i j : Nat} {va v0 v1 v4 : Value} {b n cp : Nat} {w : World} (h : RwK B g T k i j va v0 v1 (.slice (some ⟨b, 0, none⟩) n cp) v4 w) (hj : j < g.regs.length) (hkb : k ≠ b) : RwK B g T k i (j + 1) va v0 v1 (.slice (some ⟨b, 0, none⟩) n cp) v4 (w.setCell ⟨b, j * 3 + 1, none⟩ (.int .i64 (flL T g.regs[j]!.nx))) :=
  ⟨Arr.other h.box hkb, h.ins.other h.regs (by decide) _ _, h.outN.other h.regs (by decide) _ _, by
    have := OwnK.putR h.regs j (flL T g.regs[j]!.nx) (by rw [mix_len _ _ _ (by omega)]; exact hj)
    rw [mix_get _ _ _ hj] at this
    rwa [show (⟨g.regs[j]!.nm, flL T g.regs[j]!.nx, g.regs[j]!.it⟩ : Rg) = flR T g.regs[j]! from rfl, mix_set (flR T) g.regs j hj] at this, h.outs.other h.regs (by decide) _ _⟩
set_option maxRecDepth 100000 in
set_option maxHeartbeats 8000000 in
theorem rewired_any (g : Gr) (v : Value) (ands : List (Int × Int)) (aa : Option Addr) (an ac : Nat) (T : List Int) (vb : Value) (Ba : Nat) (sg : Small g) (hro : ∀ l ∈ g.outs, 0 ≤ l ∧ ndL l < T.length) (hrr : ∀ r ∈ g.regs, 0 ≤ r.nx ∧ ndL r.nx < T.length) (w : World) (hG : GO g v w) (hand : OwnK Ba 110 2 encN w (.slice aa an ac) ands) (hR : RowOf 1 encI T vb w) : Calls Try.prog 95 #[v, .slice aa an ac, vb] w fun e w' => ∃ u, e = .returned u ∧ GO (reG g ands T) u w' ∧ Below w.heap.size w w' := by
  have hG0 := hG
  obtain ⟨a, b, c, d0, e, a', b', c', d', e', rfl, hC, hA⟩ := hG.all
  clear hG
  have s3 := sg.regs
  have s5 := sg.outs
  go_enter Try.func95, Try.ntmps95
  go_upto_region 1 with fail
  have bel := ((Below.refl w.heap.size w).alloc (Nat.le_refl _) (.cells #[.slice a g.ins.length a', .slice b g.outN.length b', .slice c g.regs.length c', .slice d0 g.ands.length d', .slice e g.outs.length e'] 28)).alloc (by simp) (.cells #[.slice none 0 0, .slice none 0 0, .slice none 0 0, .slice none 0 0, .slice none 0 0] 28)
  have X : BG w.heap.size (.slice a g.ins.length a') (.slice b g.outN.length b') (.slice c g.regs.length c') (.slice d0 g.ands.length d') (.slice e g.outs.length e') ((w.alloc (.cells #[.slice a g.ins.length a', .slice b g.outN.length b', .slice c g.regs.length c', .slice d0 g.ands.length d', .slice e g.outs.length e'] 28)).alloc (.cells #[.slice none 0 0, .slice none 0 0, .slice none 0 0, .slice none 0 0, .slice none 0 0] 28)) := (Arr.allocV w [.slice a g.ins.length a', .slice b g.outN.length b', .slice c g.regs.length c', .slice d0 g.ands.length d', .slice e g.outs.length e'] 28).below ((Below.refl _ _).alloc (Nat.le_refl _) (.cells #[.slice none 0 0, .slice none 0 0, .slice none 0 0, .slice none 0 0, .slice none 0 0] 28))
  have Y : BG (w.heap.size + 1) (.slice none 0 0) (.slice none 0 0) (.slice none 0 0) (.slice none 0 0) (.slice none 0 0) ((w.alloc (.cells #[.slice a g.ins.length a', .slice b g.outN.length b', .slice c g.regs.length c', .slice d0 g.ands.length d', .slice e g.outs.length e'] 28)).alloc (.cells #[.slice none 0 0, .slice none 0 0, .slice none 0 0, .slice none 0 0, .slice none 0 0] 28)) := by
    have := Arr.allocV (w.alloc (.cells #[.slice a g.ins.length a', .slice b g.outN.length b', .slice c g.regs.length c', .slice d0 g.ands.length d', .slice e g.outs.length e'] 28)) [.slice none 0 0, .slice none 0 0, .slice none 0 0, .slice none 0 0, .slice none 0 0] 28
    rwa [show (w.alloc (.cells #[.slice a g.ins.length a', .slice b g.outN.length b', .slice c g.regs.length c', .slice d0 g.ands.length d', .slice e g.outs.length e'] 28)).heap.size = w.heap.size + 1 by simp] at this
  have hsz : w.heap.size + 1 < ((w.alloc (.cells #[.slice a g.ins.length a', .slice b g.outN.length b', .slice c g.regs.length c', .slice d0 g.ands.length d', .slice e g.outs.length e'] 28)).alloc (.cells #[.slice none 0 0, .slice none 0 0, .slice none 0 0, .slice none 0 0, .slice none 0 0] 28)).heap.size := by simp
  generalize (w.alloc (.cells #[.slice a g.ins.length a', .slice b g.outN.length b', .slice c g.regs.length c', .slice d0 g.ands.length d', .slice e g.outs.length e'] 28)).alloc (.cells #[.slice none 0 0, .slice none 0 0, .slice none 0 0, .slice none 0 0, .slice none 0 0] 28) = W0 at bel X Y hsz ⊢
  have HR := Lib.hid (fun W (hb : Below w.heap.size w W) => hR.below hb)
  have HAN := Lib.hid (fun W (hb : Below w.heap.size w W) => hand.below hb)
  have H1 := Lib.hid (copy_any g _ W0 sg (hG0.below bel))
  generalize hk : w.heap.size = k at X Y hsz bel H1 ⊢
  have HK := Lib.hid hk
  rw [hk] at HR HAN
  clear hk hA hC hG0
  obtain ⟨x0, x1, x2, x3, x4⟩ := id (BG.gx X)
  have lx := Arr.lt X
  go_upto_region 2 with (first | (go_at_call 33; refine H1.out.mono ?_; rintro ee W1 ⟨u, rfl, OG1, hb1⟩; obtain ⟨v0, v1, v2, v3, v4, rfl, o0, o1, o2, o3, o4⟩ := OG1.all; obtain ⟨a0, c0, rfl⟩ := o0.slice; obtain ⟨a1, c1, rfl⟩ := o1.slice; obtain ⟨a2, c2, rfl⟩ := o2.slice; obtain ⟨a3, c3, rfl⟩ := o3.slice; obtain ⟨a4, c4, rfl⟩ := o4.slice; have X1 := X.below hb1; have lx1 := Arr.lt X1; have f0 := Arr.free X1 0; have f1 := Arr.free X1 1; have f2 := Arr.free X1 2; have f3 := Arr.free X1 3; have f4 := Arr.free X1 4; obtain ⟨y0, y1, y2, y3, y4⟩ := id (BG.gx X1)))
  have Y1 := Y.below hb1
  have B1 := bel.trans (hb1.mono (by omega))
  have Z1 := BG.all X1 (.slice a0 g.ins.length c0) (.slice a1 g.outN.length c1) (.slice a2 g.regs.length c2) (.slice a3 g.ands.length c3) (.slice a4 g.outs.length c4)
  have B2 := put5_below B1 (.slice a0 g.ins.length c0) (.slice a1 g.outN.length c1) (.slice a2 g.regs.length c2) (.slice a3 g.ands.length c3) (.slice a4 g.outs.length c4)
  have hkb : k < W0.heap.size := by omega
  have p0 := o0.put5 k (.slice a0 g.ins.length c0) (.slice a1 g.outN.length c1) (.slice a2 g.regs.length c2) (.slice a3 g.ands.length c3) (.slice a4 g.outs.length c4) hkb
  have p1 := o1.put5 k (.slice a0 g.ins.length c0) (.slice a1 g.outN.length c1) (.slice a2 g.regs.length c2) (.slice a3 g.ands.length c3) (.slice a4 g.outs.length c4) hkb
  have p2 := o2.put5 k (.slice a0 g.ins.length c0) (.slice a1 g.outN.length c1) (.slice a2 g.regs.length c2) (.slice a3 g.ands.length c3) (.slice a4 g.outs.length c4) hkb
  have p4 := o4.put5 k (.slice a0 g.ins.length c0) (.slice a1 g.outN.length c1) (.slice a2 g.regs.length c2) (.slice a3 g.ands.length c3) (.slice a4 g.outs.length c4) hkb
  have Y2 : BG (k + 1) (.slice none 0 0) (.slice none 0 0) (.slice none 0 0) (.slice none 0 0) (.slice none 0 0) (put5 W1 k (.slice a0 g.ins.length c0) (.slice a1 g.outN.length c1) (.slice a2 g.regs.length c2) (.slice a3 g.ands.length c3) (.slice a4 g.outs.length c4)) := ((((Y1.other (by show k + 1 ≠ k; omega)).other (by show k + 1 ≠ k; omega)).other (by show k + 1 ≠ k; omega)).other (by show k + 1 ≠ k; omega)).other (by show k + 1 ≠ k; omega)
  unfold put5 at Z1 B2 p0 p1 p2 p4 Y2
  clear f0 f1 f2 f3 f4 y0 y1 y2 y3 y4 X1 Y1 B1 o0 o1 o2 o3 o4 OG1 x0 x1 x2 x3 x4 X Y lx lx1 bel hb1 H1
  generalize ((((W1.setCell ⟨k, 0, none⟩ (.slice a0 g.ins.length c0)).setCell ⟨k, 1, none⟩ (.slice a1 g.outN.length c1)).setCell ⟨k, 2, none⟩ (.slice a2 g.regs.length c2)).setCell ⟨k, 3, none⟩ (.slice a3 g.ands.length c3)).setCell ⟨k, 4, none⟩ (.slice a4 g.outs.length c4) = W2 at Z1 B2 p0 p1 p2 p4 Y2 ⊢
  have f3 := Arr.free Z1 3
  have lz := Arr.lt Z1
  obtain ⟨y0, y1, y2, y3, y4⟩ := id (BG.gx Z1)
  go_upto_region 3 with fail
  have Z3 := BG.set3 Z1 (.slice aa an ac)
  have B3 := B2.setCell (p := ⟨k, 3, none⟩) (Nat.le_refl _) (.slice aa an ac)
  have R3 : RwK W0.heap.size g T k 0 0 (.slice aa an ac) (.slice a0 g.ins.length c0) (.slice a1 g.outN.length c1) (.slice a2 g.regs.length c2) (.slice a4 g.outs.length c4) (W2.setCell ⟨k, 3, none⟩ (.slice aa an ac)) :=
    ⟨Z3, p0.set ⟨k, 3, none⟩ _ hkb, p1.set ⟨k, 3, none⟩ _ hkb, by rw [mix_zero]; exact p2.set ⟨k, 3, none⟩ _ hkb, by rw [mix_zero]; exact p4.set ⟨k, 3, none⟩ _ hkb⟩
  have Y3 : BG (k + 1) (.slice none 0 0) (.slice none 0 0) (.slice none 0 0) (.slice none 0 0) (.slice none 0 0) (W2.setCell ⟨k, 3, none⟩ (.slice aa an ac)) := Y2.other (by show k + 1 ≠ k; omega)
  clear f3 lz y0 y1 y2 y3 y4 Z1 B2 p0 p1 p2 p4 Y2 Z3
  generalize W2.setCell ⟨k, 3, none⟩ (.slice aa an ac) = W3 at R3 B3 Y3 ⊢
  have hk1 : k + 1 < W3.heap.size := Arr.lt Y3
  have HY3 := Lib.hid Y3
  have HR3 := Lib.hid R3
  have HB3 := Lib.hid B3
  clear Y3 R3 B3
  obtain ⟨y0, y1, y2, y3, y4⟩ := id (BG.gx HR3.out.box)
  have ly := Arr.lt HR3.out.box
  go_upto_block 0 with fail
  clear y0 y1 y2 y3 y4 ly
  go_wp2_with fail
  go_loopw [18] (fun i wr => ∃ j : Nat, j ≤ g.outs.length ∧ i = .int .i64 (j : Int) ∧ Hid (RwK W0.heap.size g T k j 0 (.slice aa an ac) (.slice a0 g.ins.length c0) (.slice a1 g.outN.length c1) (.slice a2 g.regs.length c2) (.slice a4 g.outs.length c4) wr) ∧ Hid (BG (k + 1) (.slice none 0 0) (.slice none 0 0) (.slice none 0 0) (.slice none 0 0) (.slice none 0 0) wr) ∧ Hid (Below k w wr)) (fun i _ => g.outs.length - (intOf i).toNat)
  case atStart => exact ⟨0, Nat.zero_le _, rfl, HR3, HY3, HB3⟩
  case round =>
    clear HR3 HY3 HB3 hk1
    obtain ⟨j, hj, rfl, hK, hY, hB⟩ := hrel
    rename World => WR
    have hj0 : (0 : Int) ≤ (j : Int) := by omega
    by_cases hlt : j < g.outs.length
    · have hji : (j : Int) < (g.outs.length : Int) := by omega
      obtain ⟨b4, hb4, hle4, hlt4⟩ := hK.out.outs.at (by omega)
      subst hb4
      have d4 : WR.cell? ⟨b4, j, none⟩ = some (.int .i64 g.outs[j]!) := by
        have := OwnK.cellK lenI hK.out.outs (j := j) (c := 0) (x := .int .i64 g.outs[j]!) (by rw [mix_len _ _ _ hj]; exact hlt) (by rw [mix_get _ _ _ hlt]; rfl)
        simpa using this
      have HP := Lib.hid (fun (W : World) (h : RwK W0.heap.size g T k j 0 (.slice aa an ac) (.slice a0 g.ins.length c0) (.slice a1 g.outN.length c1) (.slice a2 g.regs.length c2) (.slice (some ⟨b4, 0, none⟩) g.outs.length c4) W) => h.putO hlt (by omega))
      have hlo := hro _ (mem1 g.outs hlt)
      have HF := Lib.hid (fun W (hb : Below k w W) => follow_any T vb g.outs[j]! hlo.1 hlo.2 W (HR.out W hb))
      have KK := hK.out
      have YY := hY.out
      have BB := hB.out
      clear hlo hK hY hB
      generalize flL T g.outs[j]! = y at HF HP
      generalize g.outs[j]! = x at d4 HF
      obtain ⟨y0, y1, y2, y3, y4⟩ := id (BG.gx KK.box)
      have ly := Arr.lt KK.box
      have HBR := Lib.hid (fun d os => below_regrown WR d os)
      have HBW := Lib.hid (fun d os => BB.trans ((below_regrown WR d os).mono (by have := Arr.lt YY; omega)))
      go_upto_region 6 with fail
      have g4 := cell_regrown y4
      clear d4 y0 y1 y2 y3 y4 ly
      refine wp_region_rel 6 (by kernel_rfl) (by kernel_rfl) ?_
      simp only [List.take_succ_cons, List.take_zero, List.drop_succ_cons, List.drop_zero]
      (refine rel_fix0 (fun K hK => ?_); go_simp; refine hK _ ?_; clear hK K)
      (refine rel_fix0 (fun K hK => ?_); go_simp; refine hK _ ?_; clear hK K)
      (refine rel_fix0 (fun K hK => ?_); go_simp; refine hK _ ?_; clear hK K)
      (refine rel_fix0 (fun K hK => ?_); go_simp; refine hK _ ?_; clear hK K)
      (refine rel_fix0 (fun K hK => ?_); go_simp; refine hK _ ?_; clear hK K)
      (refine rel_fix0 (fun K hK => ?_); go_simp; apply Exists.intro; refine ⟨fun _ _ => ?_, hK _ ?_⟩; (with_reducible exact ret_fix (HF.out _ (HBW.out _ _))); clear hK K)
      refine rel_nil ?_
      intro d os
      simp only [relAll]
      have hbr := HBR.out d os
      have KK2 := KK.below hbr
      have YY2 := YY.below hbr
      have BB2 := HBW.out d os
      clear g4 HBR HBW KK YY BB hbr
      generalize grow (redrawn WR d) os = WS at KK2 YY2 BB2 ⊢
      have e1 := OwnK.free KK2.outs j
      have e2 : WS.cell? ⟨b4, j, none⟩ = some (.int .i64 g.outs[j]!) := by
        have := OwnK.cellK lenI KK2.outs (j := j) (c := 0) (x := .int .i64 g.outs[j]!) (by rw [mix_len _ _ _ hj]; exact hlt) (by rw [mix_get _ _ _ hlt]; rfl)
        simpa using this
      have e3 := (World.ownsRow.lt KK2.outs b4 rfl).2
      have HK9 := Lib.hid (HP.out _ KK2)
      have HY9 := Lib.hid (Arr.other YY2 (p := ⟨b4, j, none⟩) (v := .int .i64 y) (by show k + 1 ≠ b4; omega))
      have HB9 := Lib.hid (BB2.setCell (p := ⟨b4, j, none⟩) (by show k ≤ b4; omega) (.int .i64 y))
      clear KK2 YY2 BB2
      go_wp2_with fail
      go_roundw
      case rel => exact ⟨j + 1, by omega, by go_num, HK9, HY9, HB9⟩
      all_goals first | done | (simp [intOf]; done) | (simp [intOf]; omega)
    · have hji : ¬ (j : Int) < (g.outs.length : Int) := by omega
      have KK := hK.out
      rw [show j = g.outs.length by omega] at KK
      have YY := hY.out
      have BB := hB.out
      clear hK hY hB
      obtain ⟨y0, y1, y2, y3, y4⟩ := id (BG.gx KK.box)
      have ly := Arr.lt KK.box
      go_upto_block 2 with fail
      clear y0 y1 y2 y3 y4 ly
      have HK2 := Lib.hid KK
      have HY2 := Lib.hid YY
      have HB2 := Lib.hid BB
      clear KK YY BB
      go_wp2_with fail
      go_loopw [34] (fun i wr => ∃ j2 : Nat, j2 ≤ g.regs.length ∧ i = .int .i64 (j2 : Int) ∧ Hid (RwK W0.heap.size g T k g.outs.length j2 (.slice aa an ac) (.slice a0 g.ins.length c0) (.slice a1 g.outN.length c1) (.slice a2 g.regs.length c2) (.slice a4 g.outs.length c4) wr) ∧ Hid (BG (k + 1) (.slice none 0 0) (.slice none 0 0) (.slice none 0 0) (.slice none 0 0) (.slice none 0 0) wr) ∧ Hid (Below k w wr)) (fun i _ => g.regs.length - (intOf i).toNat)
      case atStart => exact ⟨0, Nat.zero_le _, rfl, HK2, HY2, HB2⟩
      case round =>
        clear HK2 HY2 HB2
        obtain ⟨j2, hj2, rfl, hK, hY, hB⟩ := hrel
        rename World => WQ
        have hj20 : (0 : Int) ≤ (j2 : Int) := by omega
        by_cases hlt2 : j2 < g.regs.length
        · have hji2 : (j2 : Int) < (g.regs.length : Int) := by omega
          obtain ⟨b2, hb2, hle2, hlt22⟩ := hK.out.regs.at (by omega)
          subst hb2
          have hml : j2 < (mixL (flR T) g.regs j2).length := by rw [mix_len _ _ _ hj2]; exact hlt2
          have hmg := mix_get (flR T) g.regs j2 hlt2
          have d0 := OwnK.cellK lenR hK.out.regs (j := j2) (c := 0) (x := .string g.regs[j2]!.nm) hml (by rw [hmg]; rfl)
          have d1 := OwnK.cellK lenR hK.out.regs (j := j2) (c := 1) (x := .int .i64 g.regs[j2]!.nx) hml (by rw [hmg]; rfl)
          have d2 := OwnK.cellK lenR hK.out.regs (j := j2) (c := 2) (x := .bool g.regs[j2]!.it) hml (by rw [hmg]; rfl)
          simp only [Nat.add_zero] at d0
          have HP := Lib.hid (fun (W : World) (h : RwK W0.heap.size g T k g.outs.length j2 (.slice aa an ac) (.slice a0 g.ins.length c0) (.slice a1 g.outN.length c1) (.slice (some ⟨b2, 0, none⟩) g.regs.length c2) (.slice a4 g.outs.length c4) W) => h.putG hlt2 (by omega))
          have hlo := hrr _ (mem1 g.regs hlt2)
          have HF := Lib.hid (fun W (hb : Below k w W) => follow_any T vb g.regs[j2]!.nx hlo.1 hlo.2 W (HR.out W hb))
          have HML := Lib.hid hml
          have KK := hK.out
          have YY := hY.out
          have BB := hB.out
          clear hlo hK hY hB hmg hml
          generalize flL T g.regs[j2]!.nx = y at HF HP
          generalize g.regs[j2]!.nm = r0 at d0
          generalize g.regs[j2]!.it = r2 at d2
          generalize g.regs[j2]!.nx = x at d1 HF
          go_upto_region 11 with fail
          have bA := (Below.refl WQ.heap.size WQ).alloc (Nat.le_refl _) (.cells #[.string r0, .int .i64 x, .bool r2] 89)
          have z1 : (WQ.alloc (.cells #[.string r0, .int .i64 x, .bool r2] 89)).cell? ⟨WQ.heap.size, 1, none⟩ = some (.int .i64 x) := by go_simp
          replace KK := KK.below bA
          replace YY := YY.below bA
          have hkk := Arr.lt YY
          replace BB := BB.trans (bA.mono (by omega))
          clear bA d0 d1 d2
          generalize WQ.alloc (.cells #[.string r0, .int .i64 x, .bool r2] 89) = WR at KK YY BB hkk z1 ⊢
          generalize WQ.heap.size = q10 at z1 ⊢
          obtain ⟨y0, y1, y2, y3, y4⟩ := id (BG.gx KK.box)
          have HBR := Lib.hid (fun d os => below_regrown WR d os)
          have HBW := Lib.hid (fun d os => BB.trans ((below_regrown WR d os).mono (by omega)))
          have g2 := cell_regrown y2
          have g5 := cell_regrown z1
          clear y0 y1 y2 y3 y4 z1
          refine wp_region_rel 7 (by kernel_rfl) (by kernel_rfl) ?_
          simp only [List.take_succ_cons, List.take_zero, List.drop_succ_cons, List.drop_zero]
          (refine rel_fix0 (fun K hK => ?_); go_simp; refine hK _ ?_; clear hK K)
          (refine rel_fix0 (fun K hK => ?_); go_simp; refine hK _ ?_; clear hK K)
          (refine rel_fix0 (fun K hK => ?_); go_simp; refine hK _ ?_; clear hK K)
          (refine rel_fix0 (fun K hK => ?_); go_simp; refine hK _ ?_; clear hK K)
          (refine rel_fix0 (fun K hK => ?_); go_simp; refine hK _ ?_; clear hK K)
          (refine rel_fix0 (fun K hK => ?_); go_simp; refine hK _ ?_; clear hK K)
          (refine rel_fix0 (fun K hK => ?_); go_simp; apply Exists.intro; refine ⟨fun _ _ => ?_, hK _ ?_⟩; (with_reducible exact ret_fix (HF.out _ (HBW.out _ _))); clear hK K)
          refine rel_nil ?_
          intro d os
          simp only [relAll]
          have hbr := HBR.out d os
          have KK2 := KK.below hbr
          have YY2 := YY.below hbr
          have BB2 := HBW.out d os
          clear g2 g5 HBR HBW KK YY BB hbr hkk
          generalize grow (redrawn WR d) os = WS at KK2 YY2 BB2 ⊢
          have e1 := OwnK.free KK2.regs (j2 * 3 + 1)
          have hmg := mix_get (flR T) g.regs j2 hlt2
          have e2 := OwnK.cellK lenR KK2.regs (j := j2) (c := 1) (x := .int .i64 g.regs[j2]!.nx) HML.out (by rw [hmg]; rfl)
          have e3 := (World.ownsRow.lt KK2.regs b2 rfl).2
          have HK9 := Lib.hid (HP.out _ KK2)
          have HY9 := Lib.hid (Arr.other YY2 (p := ⟨b2, j2 * 3 + 1, none⟩) (v := .int .i64 y) (by show k + 1 ≠ b2; omega))
          have HB9 := Lib.hid (BB2.setCell (p := ⟨b2, j2 * 3 + 1, none⟩) (by show k ≤ b2; omega) (.int .i64 y))
          clear KK2 YY2 BB2 hmg
          go_wp2_with fail
          go_roundw
          case rel => exact ⟨j2 + 1, by omega, by go_num, HK9, HY9, HB9⟩
          all_goals first | done | (simp [intOf]; done) | (simp [intOf]; omega)
        · have hji2 : ¬ (j2 : Int) < (g.regs.length : Int) := by omega
          have KK := hK.out
          rw [show j2 = g.regs.length by omega] at KK
          have YY := hY.out
          have BB := hB.out
          clear hK hY hB
          obtain ⟨y0, y1, y2, y3, y4⟩ := id (BG.gx KK.box)
          have ly := Arr.lt KK.box
          have f0 := Arr.free YY 0
          have f1 := Arr.free YY 1
          have f2 := Arr.free YY 2
          have f3 := Arr.free YY 3
          have f4 := Arr.free YY 4
          have lk := Arr.lt YY
          obtain ⟨z0, z1, z2, z3, z4⟩ := id (BG.gx YY)
          have hk1b : k + 1 < W0.heap.size := hsz
          have p0 := KK.ins.put5 (k + 1) (.slice a0 g.ins.length c0) (.slice a1 g.outN.length c1) (.slice a2 g.regs.length c2) (.slice aa an ac) (.slice a4 g.outs.length c4) hk1b
          have p1 := KK.outN.put5 (k + 1) (.slice a0 g.ins.length c0) (.slice a1 g.outN.length c1) (.slice a2 g.regs.length c2) (.slice aa an ac) (.slice a4 g.outs.length c4) hk1b
          have p2 := KK.regs.put5 (k + 1) (.slice a0 g.ins.length c0) (.slice a1 g.outN.length c1) (.slice a2 g.regs.length c2) (.slice aa an ac) (.slice a4 g.outs.length c4) hk1b
          have p4 := KK.outs.put5 (k + 1) (.slice a0 g.ins.length c0) (.slice a1 g.outN.length c1) (.slice a2 g.regs.length c2) (.slice aa an ac) (.slice a4 g.outs.length c4) hk1b
          have BF := b5_mono BB (Nat.le_succ k) (.slice a0 g.ins.length c0) (.slice a1 g.outN.length c1) (.slice a2 g.regs.length c2) (.slice aa an ac) (.slice a4 g.outs.length c4)
          have p3 := HAN.out _ BF
          have YF := BG.gx (BG.all YY (.slice a0 g.ins.length c0) (.slice a1 g.outN.length c1) (.slice a2 g.regs.length c2) (.slice aa an ac) (.slice a4 g.outs.length c4))
          rw [mix_all] at p2 p4
          have GOF : GO (reG g ands T) (.agg #[.slice a0 g.ins.length c0, .slice a1 g.outN.length c1, .slice a2 g.regs.length c2, .slice aa an ac, .slice a4 g.outs.length c4]) (put5 WQ (k + 1) (.slice a0 g.ins.length c0) (.slice a1 g.outN.length c1) (.slice a2 g.regs.length c2) (.slice aa an ac) (.slice a4 g.outs.length c4)) := by
            obtain ⟨s0, t0, e0, q0, m0, rr0⟩ := p0.rowC lenT
            obtain ⟨s1, t1, e1, q1, m1, rr1⟩ := p1.rowC lenT
            obtain ⟨s2, t2, e2, q2, m2, rr2⟩ := p2.rowC lenR
            obtain ⟨s3, t3, e3, q3, m3, rr3⟩ := p3.rowC lenN
            obtain ⟨s4, t4, e4, q4, m4, rr4⟩ := p4.rowC lenI
            injection e0 with u0 w0 x0
            subst u0 x0
            injection e1 with u1 w1 x1
            subst u1 x1
            injection e2 with u2 w2 x2
            subst u2 x2
            injection e3 with u3 w3 x3
            subst u3 x3
            injection e4 with u4 w4 x4
            subst u4 x4
            exact ⟨⟨_, _, _, _, _, _, _, _, _, _, (by rw [w3]; simp [reG]), ⟨q0, q1, q2, q3, q4, m0, m1, m2, m3, m4⟩, ⟨rr0, rr1, rr2, rr3, rr4⟩⟩⟩
          have HGO := Lib.hid GOF
          have HBF := Lib.hid BF
          have HYF := Lib.hid YF
          clear p0 p1 p2 p3 p4 GOF BF YF KK YY BB
          go_wp2_with fail
          have GOF := HGO.out
          have BF := HBF.out
          have YF := HYF.out
          unfold put5 at GOF BF YF
          clear HGO HBF HYF y0 y1 y2 y3 y4 f0 f1 f2 f3 f4 z0 z1 z2 z3 z4
          generalize ((((WQ.setCell ⟨k + 1, 0, none⟩ (.slice a0 g.ins.length c0)).setCell ⟨k + 1, 1, none⟩ (.slice a1 g.outN.length c1)).setCell ⟨k + 1, 2, none⟩ (.slice a2 g.regs.length c2)).setCell ⟨k + 1, 3, none⟩ (.slice aa an ac)).setCell ⟨k + 1, 4, none⟩ (.slice a4 g.outs.length c4) = WF at GOF BF YF ⊢
          obtain ⟨z0, z1, z2, z3, z4⟩ := YF
          exact bodyPost_ret (v := .agg #[.slice a0 g.ins.length c0, .slice a1 g.outN.length c1, .slice a2 g.regs.length c2, .slice aa an ac, .slice a4 g.outs.length c4]) (by simp [results, Try.results95, go_sem, z0, z1, z2, z3, z4]) rfl ⟨_, rfl, GOF, by rw [HK.out]; exact BF⟩
end Go.Proofs.Ytbphhcjepeamcaa
