/- The nodes that literals of a valid graph need: the reference's closure. -/
import Derived.Test.YtbphhcjepeamcaaGrAr
import Derived.StillTailTactics
namespace Go.Proofs.Ytbphhcjepeamcaa
open Go Go.RowKit Go.Sort
set_option linter.unusedVariables false
def n0L (g : Gr) : Nat := 1 + g.ins.length + g.regs.length
/-- a literal is marked, with all that it needs -/
def markL (g : Gr) : Nat → List Bool → Int → List Bool
  | 0, M, _ => M
  | f + 1, M, l => if M[ndL l]! = true then M else if n0L g ≤ ndL l then markL g f (markL g f (M.set (ndL l) true) g.ands[ndL l - n0L g]!.1) g.ands[ndL l - n0L g]!.2 else M.set (ndL l) true
theorem markL_step (g : Gr) (f : Nat) (M : List Bool) (l : Int) : markL g (f + 1) M l = if M[ndL l]! = true then M else if n0L g ≤ ndL l then markL g f (markL g f (M.set (ndL l) true) g.ands[ndL l - n0L g]!.1) g.ands[ndL l - n0L g]!.2 else M.set (ndL l) true := rfl
theorem markL_len (g : Gr) : ∀ f M l, (markL g f M l).length = M.length
  | 0, _, _ => rfl
  | f + 1, M, l => by
    rw [markL_step]
    split
    · rfl
    · split
      · rw [markL_len g f, markL_len g f]; simp
      · simp
abbrev fnB (k t5 t6 t7 : Nat) : Value := .func (.func 90) #[] #[.pointer (some ⟨t6, 0, none⟩), .pointer (some ⟨t5, 0, none⟩), .pointer (some ⟨t7, 0, none⟩), .pointer (some ⟨k, 0, none⟩)]
/-- the closure's memory -/
structure BM (g : Gr) (k t5 t6 t7 q : Nat) (v0 v1 v2 v3 v4 : Value) (w0 : World) (M : List Bool) (w : World) : Prop where
  x : GX k v0 v1 v2 v3 v4 w
  n : w.cell? ⟨t5, 0, none⟩ = some (.int .i64 (1 + (g.ins.length : Int) + (g.regs.length : Int)))
  o : w.cell? ⟨t6, 0, none⟩ = some (.slice (some ⟨q, 0, none⟩) (n0L g + g.ands.length) (n0L g + g.ands.length))
  f : w.cell? ⟨t7, 0, none⟩ = some (fnB k t5 t6 t7)
  a : Arr 4 (fun b => Value.bool b) q M w
  bel : Below w0.heap.size w0 w
/-- the blocks are apart -/
structure BA (k t5 t6 t7 q : Nat) (w0 : World) : Prop where
  k : k ≠ q
  n : t5 ≠ q
  o : t6 ≠ q
  f : t7 ≠ q
  low : w0.heap.size ≤ q
theorem BM.set {g : Gr} {k t5 t6 t7 q : Nat} {v0 v1 v2 v3 v4 : Value} {w0 w : World} {M : List Bool} (h : BM g k t5 t6 t7 q v0 v1 v2 v3 v4 w0 M w) (hA : BA k t5 t6 t7 q w0) (i : Nat) (b : Bool) : BM g k t5 t6 t7 q v0 v1 v2 v3 v4 w0 (M.set i b) (w.setCell ⟨q, i, none⟩ (.bool b)) := by
  have e : ∀ t, t ≠ q → (w.setCell ⟨q, i, none⟩ (.bool b)).cell? ⟨t, 0, none⟩ = w.cell? ⟨t, 0, none⟩ := fun t ht => World.cell?_setCell_other _ _ _ _ (fun e => ht (congrArg Addr.block e).symm)
  exact ⟨h.x.set hA.k, (e _ hA.n).trans h.n, (e _ hA.o).trans h.o, (e _ hA.f).trans h.f, h.a.set i b, h.bel.setCell (p := ⟨q, i, none⟩) hA.low _⟩
theorem BM.below {g : Gr} {k t5 t6 t7 q : Nat} {v0 v1 v2 v3 v4 : Value} {w0 w w' : World} {M : List Bool} (h : BM g k t5 t6 t7 q v0 v1 v2 v3 v4 w0 M w) (hb : Below w.heap.size w w') : BM g k t5 t6 t7 q v0 v1 v2 v3 v4 w0 M w' := by
  have e : ∀ t v, w.cell? ⟨t, 0, none⟩ = some v → w'.cell? ⟨t, 0, none⟩ = some v := fun t v ht => (hb.cell (p := ⟨t, 0, none⟩) (World.block_lt_of_cell? w _ ht)).trans ht
  exact ⟨h.x.below hb, e _ _ h.n, e _ _ h.o, e _ _ h.f, h.a.below hb, h.bel.trans (hb.mono h.bel.size)⟩
set_option maxRecDepth 100000 in
set_option maxHeartbeats 8000000 in
theorem mark_any (g : Gr) (vg : VG g) (k t5 t6 t7 q : Nat) (v0 v1 v2 v4 : Value) (d : Option Addr) (d' : Nat) (hd' : g.ands.length ≤ d') (w0 : World) (hR : RowAt 2 encN g.ands d w0) (hA : BA k t5 t6 t7 q w0) : ∀ (f : Nat) (l : Int) (M : List Bool) (w : World), ndL l < f → 0 ≤ l → ndL l < n0L g + g.ands.length → M.length = n0L g + g.ands.length → BM g k t5 t6 t7 q v0 v1 v2 (.slice d g.ands.length d') v4 w0 M w →
    Calls Try.prog 90 #[.int .i64 l, .pointer (some ⟨t6, 0, none⟩), .pointer (some ⟨t5, 0, none⟩), .pointer (some ⟨t7, 0, none⟩), .pointer (some ⟨k, 0, none⟩)] w fun e w' => e = .returned (.tuple #[]) ∧ BM g k t5 t6 t7 q v0 v1 v2 (.slice d g.ands.length d') v4 w0 (markL g f M l) w'
  | 0, l, M, w, hf, _, _, _, _ => by omega
  | f + 1, l, M, w, hf, hl0, hlN, hM, B => by
    have ih := mark_any g vg k t5 t6 t7 q v0 v1 v2 v4 d d' hd' w0 hR hA f
    have IH := Lib.hid ih
    clear ih
    have HN : n0L g = 1 + g.ins.length + g.regs.length := rfl
    have hi0 : 0 ≤ l / 2 := by omega
    have HNL := Lib.hid (show (l / 2).toNat = ndL l from rfl)
    have hi1 : l / 2 < ((n0L g + g.ands.length : Nat) : Int) := by unfold ndL at hlN; omega
    have a1 : w.cell? ⟨q, (l / 2).toNat, none⟩ = some (.bool M[ndL l]!) := B.a.cell (j := ndL l) (by omega)
    have fr : w.frozen? ⟨q, (l / 2).toNat, none⟩ = false := B.a.free _
    obtain ⟨bx, bn, bo, bf, ba, bb⟩ := id B
    have HB := Lib.hid B
    cases hm : M[ndL l]! with
    | true =>
      have HMK : Hid (markL g (f + 1) M l = M) := Lib.hid ((markL_step g f M l).trans (if_pos hm))
      rw [hm] at a1
      generalize n0L g + g.ands.length = N at *
      clear hm
      go_enter Try.func90, Try.ntmps90
      go_wp2_with fail
      (try simp only [Exit.inBlock, Exit.then])
      exact bodyPost_ret (results_none rfl _ _ _) rfl ⟨rfl, by rw [HMK.out]; exact HB.out⟩
    | false =>
      rw [hm] at a1
      have B2 := B.set hA (l / 2).toNat true
      rw [HNL.out] at B2
      by_cases hg : n0L g ≤ ndL l
      · have HMK : Hid (markL g (f + 1) M l = markL g f (markL g f (M.set (ndL l) true) g.ands[ndL l - n0L g]!.1) g.ands[ndL l - n0L g]!.2) := Lib.hid ((markL_step g f M l).trans (by rw [if_neg (by rw [hm]; simp), if_pos hg]))
        have hge : (1 + (g.ins.length : Int) + (g.regs.length : Int)) ≤ l / 2 := by unfold ndL at hg; omega
        have hlt : ndL l - n0L g < g.ands.length := by omega
        have hlit := vg.lits _ hlt
        have hbl : baseL g = 2 * (1 + (g.ins.length : Int) + (g.regs.length : Int)) := rfl
        have hndl := ndL_int hl0
        obtain ⟨bd, od, hdd, hcell⟩ : ∃ bd od, d = some ⟨bd, od, none⟩ ∧ ∀ j, j < g.ands.length → ∀ c x, (encN g.ands[j]!)[c]? = some x → w0.cell? ⟨bd, od + j * 2 + c, none⟩ = some x := hR.pick (by omega)
        subst hdd
        have c0 := hcell _ hlt 0 _ rfl
        have c1 := hcell _ hlt 1 _ rfl
        simp only [Nat.add_zero] at c0
        clear hcell
        have hidx : (l / 2 - (1 + (g.ins.length : Int) + (g.regs.length : Int))).toNat = ndL l - n0L g := by omega
        have hbig : l / 2 < 5000 := by have := vg.ins; have := vg.regs; have := vg.ands; omega
        have hwr : IntKind.i64.wrap (l / 2 - (1 + (g.ins.length : Int) + (g.regs.length : Int))) = l / 2 - (1 + (g.ins.length : Int) + (g.regs.length : Int)) := IntWalk.i64_in _ (by have := vg.ins; have := vg.regs; omega)
        have hidx0 : 0 ≤ l / 2 - (1 + (g.ins.length : Int) + (g.regs.length : Int)) := by omega
        have hidx1 : l / 2 - (1 + (g.ins.length : Int) + (g.regs.length : Int)) < (g.ands.length : Int) := by omega
        generalize hp : g.ands[ndL l - n0L g]! = p at c0 c1 hlit HMK
        rw [← hidx] at c0 c1
        obtain ⟨p1, p2⟩ := p
        simp only at c0 c1 hlit HMK
        have l1 : ndL p1 < ndL l := by unfold ndL; omega
        have l2 : ndL p2 < ndL l := by unfold ndL; omega
        have hM2 : (M.set (ndL l) true).length = n0L g + g.ands.length := by rw [List.length_set]; exact hM
        have hM3 : (markL g f (M.set (ndL l) true) p1).length = n0L g + g.ands.length := by rw [markL_len]; exact hM2
        have HC1 := Lib.hid (fun W (hW : BM g k t5 t6 t7 q v0 v1 v2 (.slice (some ⟨bd, od, none⟩) g.ands.length d') v4 w0 (M.set (ndL l) true) W) => IH.out p1 (M.set (ndL l) true) W (by omega) hlit.1.1 (by omega) hM2 hW)
        have HC2 := Lib.hid (fun W (hW : BM g k t5 t6 t7 q v0 v1 v2 (.slice (some ⟨bd, od, none⟩) g.ands.length d') v4 w0 (markL g f (M.set (ndL l) true) p1) W) => IH.out p2 (markL g f (M.set (ndL l) true) p1) W (by omega) hlit.2.1 (by omega) hM3 hW)
        clear IH
        generalize markL g f (M.set (ndL l) true) p1 = M3 at HC1 HC2 HMK hM3
        generalize markL g f M3 p2 = M4 at HC2 HMK
        generalize M.set (ndL l) true = M2 at B2 HC1 hM2
        rw [← HNL.out] at B2
        have HB2 := Lib.hid B2
        obtain ⟨bx2, bn2, bo2, bf2, ba2, bb2⟩ := id B2
        obtain ⟨x0, x1, x2, x3, x4⟩ := id bx2
        have cb0 := (bb2.cell (p := ⟨bd, od + (l / 2 - (1 + (g.ins.length : Int) + (g.regs.length : Int))).toNat * 2, none⟩) (World.block_lt_of_cell? w0 _ c0)).trans c0
        generalize n0L g + g.ands.length = N at *
        clear hm B2 hg HN hlit hbl hidx hndl hp l1 l2 hM hM2 hM3 hlt HB B
        go_enter Try.func90, Try.ntmps90
        go_upto_region 4 with fail
        clear bo bn bf bx a1 fr ba bb
        generalize w.setCell ⟨q, (l / 2).toNat, none⟩ (.bool true) = W2 at *
        go_still_tail 9, (by kernel_rfl)
        go_wp2_with (go_at_call 90; refine (HC1.out _ (HB2.out.below (by first | exact Below.refl _ _ | exact (Below.refl _ _).drew | exact below_drewN (Below.refl _ _) _))).mono ?_; rintro e w3 ⟨rfl, hB3⟩)
        clear bx2 bn2 bo2 bf2 ba2 bb2 x0 x1 x2 x3 x4 cb0 HC1 HB2
        have HB3 := Lib.hid hB3
        obtain ⟨bx2, bn2, bo2, bf2, ba2, bb2⟩ := hB3
        obtain ⟨x0, x1, x2, x3, x4⟩ := id bx2
        have cb1 := (bb2.cell (p := ⟨bd, od + (l / 2 - (1 + (g.ins.length : Int) + (g.regs.length : Int))).toNat * 2 + 1, none⟩) (World.block_lt_of_cell? w0 _ c1)).trans c1
        go_upto_region 5 with fail
        go_still_tail 9, (by kernel_rfl)
        go_wp2_with (go_at_call 90; refine (HC2.out _ (HB3.out.below (by first | exact Below.refl _ _ | exact (Below.refl _ _).drew | exact below_drewN (Below.refl _ _) _))).mono ?_; rintro e w4 ⟨rfl, hB4⟩)
        go_end0
        exact ⟨rfl, by rw [HMK.out]; exact hB4⟩
      · have HMK : Hid (markL g (f + 1) M l = M.set (ndL l) true) := Lib.hid ((markL_step g f M l).trans (by rw [if_neg (by rw [hm]; simp), if_neg hg]))
        have hge : ¬ (1 + (g.ins.length : Int) + (g.regs.length : Int)) ≤ l / 2 := by unfold ndL at hg; omega
        rw [← HMK.out] at B2
        rw [← HNL.out] at B2
        have HB2 := Lib.hid B2
        obtain ⟨bx2, bn2, bo2, bf2, ba2, bb2⟩ := id B2
        generalize n0L g + g.ands.length = N at *
        clear hm B2 hg HN
        go_enter Try.func90, Try.ntmps90
        go_wp2_with fail
        go_end0
        exact ⟨rfl, HB2.out⟩
end Go.Proofs.Ytbphhcjepeamcaa
