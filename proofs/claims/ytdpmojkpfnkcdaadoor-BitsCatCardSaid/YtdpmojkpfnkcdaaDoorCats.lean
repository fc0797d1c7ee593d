/- Joining a list of vectors: what the program returns. -/
import Derived.Test.YtdpmojkpfnkcdaaDoorRaw
import Derived.Test.YtdpmojkpfnkcdaaDoorPut3
import Derived.Test.YtdpmojkpfnkcdaaDoorParts
import Derived.StillTailTactics
namespace Go.Proofs.YtdpmojkpfnkcdaaDoor
open Go Go.RowKit
set_option linter.unusedVariables false
/-- a slice of values of the type of vectors that can be read -/
structure Vs (a : Option Addr) (l : List Rb) (w : World) : Prop where
  le : l.length ≤ 17592186044416
  el : ∀ j, j < l.length → ∃ bl off, a = some ⟨bl, off, none⟩ ∧ w.cell? ⟨bl, off + j * 3, none⟩ = some (.int .i64 (l.getD j ⟨0, 0#64, 0#64⟩).W) ∧ w.cell? ⟨bl, off + j * 3 + 1, none⟩ = some (.int .u64 (U (l.getD j ⟨0, 0#64, 0#64⟩).v)) ∧ w.cell? ⟨bl, off + j * 3 + 2, none⟩ = some (.int .u64 (U (l.getD j ⟨0, 0#64, 0#64⟩).x))
theorem Vs.below {a : Option Addr} {l : List Rb} {w w' : World} (h : Vs a l w) (hb : Below w.heap.size w w') : Vs a l w' := by
  refine ⟨h.le, fun j hj => ?_⟩
  obtain ⟨bl, off, e, c0, c1, c2⟩ := h.el j hj
  have hlt : bl < w.heap.size := World.block_lt_of_cell? w _ c0
  exact ⟨bl, off, e, (hb.cell (p := ⟨bl, _, none⟩) hlt).trans c0, (hb.cell (p := ⟨bl, _, none⟩) hlt).trans c1, (hb.cell (p := ⟨bl, _, none⟩) hlt).trans c2⟩
def cat1 (c b : Rb) : Rb := ⟨c.W + b.W, c.v <<< b.W.toNat ||| b.v, c.x <<< b.W.toNat ||| b.x⟩
/-- the first k parts together -/
def catK (l : List Rb) : Nat → Rb
  | 0 => ⟨0, 0#64, 0#64⟩
  | k + 1 => cat1 (catK l k) (l.getD k ⟨0, 0#64, 0#64⟩)
/-- whether the first k parts can stand together -/
def catOk (l : List Rb) : Nat → Bool
  | 0 => true
  | k + 1 => catOk l k && (l.getD k ⟨0, 0#64, 0#64⟩).okB && decide ((catK l k).W + (l.getD k ⟨0, 0#64, 0#64⟩).W ≤ 64)
def catV (l : List Rb) : Rb := if catOk l l.length then catK l l.length else ⟨0, 0#64, 0#64⟩
theorem catOk_mono (l : List Rb) : ∀ k m, k ≤ m → catOk l k = false → catOk l m = false := by
  intro k m h h0
  induction m with
  | zero => obtain rfl : k = 0 := by omega
            exact h0
  | succ m ih =>
    by_cases e : k = m + 1
    · rw [← e]; exact h0
    · show (catOk l m && _ && _) = false
      rw [ih (by omega)]; rfl
theorem catK_bd (l : List Rb) : ∀ k, catOk l k = true → 0 ≤ (catK l k).W ∧ (catK l k).W ≤ 64 := by
  intro k
  cases k with
  | zero => intro _; exact ⟨Int.le_refl 0, by show (0 : Int) ≤ 64; omega⟩
  | succ k =>
    intro h
    have h' : (catOk l k && (l.getD k ⟨0, 0#64, 0#64⟩).okB && decide ((catK l k).W + (l.getD k ⟨0, 0#64, 0#64⟩).W ≤ 64)) = true := h
    simp only [Bool.and_eq_true, decide_eq_true_eq] at h'
    have hb := catK_bd l k h'.1.1
    obtain ⟨n, e, o⟩ := Rb.ok_of h'.1.2
    have := o.lo
    show 0 ≤ (catK l k).W + _ ∧ (catK l k).W + _ ≤ 64
    omega
theorem catV_bad {l : List Rb} {k : Nat} (hk : k < l.length) (h : (catOk l k && (l.getD k ⟨0, 0#64, 0#64⟩).okB && decide ((catK l k).W + (l.getD k ⟨0, 0#64, 0#64⟩).W ≤ 64)) = false) : catV l = ⟨0, 0#64, 0#64⟩ := by
  have h' : catOk l (k + 1) = false := h
  unfold catV
  rw [catOk_mono l (k + 1) l.length (by omega) h']; rfl
/-- what a round of Cat finds -/
structure CatR (w wr : World) (c : Rb) : Prop where
  g0 : wr.cell? ⟨w.heap.size + 1, 0, none⟩ = some (.int .i64 c.W)
  g1 : wr.cell? ⟨w.heap.size + 1, 1, none⟩ = some (.int .u64 (U c.v))
  g2 : wr.cell? ⟨w.heap.size + 1, 2, none⟩ = some (.int .u64 (U c.x))
  f : ∀ o, wr.frozen? ⟨w.heap.size + 1, o, none⟩ = false
  r0 : wr.cell? ⟨w.heap.size, 0, none⟩ = some (.int .i64 0)
  r1 : wr.cell? ⟨w.heap.size, 1, none⟩ = some (.int .u64 0)
  r2 : wr.cell? ⟨w.heap.size, 2, none⟩ = some (.int .u64 0)
  rf : ∀ o, wr.frozen? ⟨w.heap.size, o, none⟩ = false
  bel : Below w.heap.size w wr
theorem CatR.step {w wr w1 : World} {c : Rb} (h : CatR w wr c) (hb : Below wr.heap.size wr w1) : CatR w w1 c := by
  have l0 : w.heap.size < wr.heap.size := World.block_lt_of_cell? wr _ h.r0
  have l1 : w.heap.size + 1 < wr.heap.size := World.block_lt_of_cell? wr _ h.g0
  exact ⟨kcell0 hb h.g0, kcell0 hb h.g1, kcell0 hb h.g2, kfree hb l1 h.f, kcell0 hb h.r0, kcell0 hb h.r1, kcell0 hb h.r2, kfree hb l0 h.rf, h.bel.trans (hb.mono h.bel.size)⟩
theorem CatR.put {w W : World} {c : Rb} (h : CatR w W c) (d : Rb) : CatR w (((W.setCell ⟨w.heap.size + 1, 0, none⟩ (.int .i64 d.W)).setCell ⟨w.heap.size + 1, 1, none⟩ (.int .u64 (U d.v))).setCell ⟨w.heap.size + 1, 2, none⟩ (.int .u64 (U d.x))).drew d := by
  obtain ⟨x0, x1, x2, x3, x4⟩ := put3 (.int .i64 d.W) (.int .u64 (U d.v)) (.int .u64 (U d.x)) h.g0 h.g1 h.g2
  refine ⟨x0, x1, x2, fun o => (x4 _ o).trans (h.f o), (x3 _ 0 (by omega)).trans h.r0, (x3 _ 1 (by omega)).trans h.r1, (x3 _ 2 (by omega)).trans h.r2, fun o => (x4 _ o).trans (h.rf o), ?_⟩
  exact (((h.bel.setCell (by show w.heap.size ≤ w.heap.size + 1; omega) _).setCell (by show w.heap.size ≤ w.heap.size + 1; omega) _).setCell (by show w.heap.size ≤ w.heap.size + 1; omega) _).drew
set_option maxRecDepth 100000 in
set_option maxHeartbeats 2000000 in
theorem cat_any (a : Option Addr) (cap : Nat) (l : List Rb) (w : World) (hl : Vs a l w) :
    Calls Tryd.prog 28 #[.slice a l.length cap] w fun e w' => e = .returned (.agg #[.int .i64 (catV l).W, .int .u64 (U (catV l).v), .int .u64 (U (catV l).x)]) ∧ Below w.heap.size w w' := by
  have hle := hl.le
  have HL := Lib.hid hl
  clear hl
  go_enter Tryd.func28, Tryd.ntmps28
  go_wp2_with fail
  go_loopw [8] (fun i wr => ∃ k : Nat, k ≤ l.length ∧ i = .int .i64 k ∧ Hid (catOk l k = true) ∧ CatR w wr (catK l k)) (fun i _ => l.length - (intOf i).toNat)
  case atStart => exact ⟨0, Nat.zero_le _, rfl, rfl, by go_simp; rfl, by go_simp; rfl, by go_simp; rfl, by intro o; go_simp, by go_simp, by go_simp, by go_simp, by intro o; go_simp, by (repeat (first | exact Below.refl _ _ | exact Nat.le_refl _ | refine below_drewN ?_ _ | refine Below.drew ?_ | refine Below.alloc ?_ ?_ _ | refine Below.setCell ?_ ?_ _ | refine below_step (by assumption) ?_ ?_)) <;> (first | omega | (simp <;> omega))⟩
  case round =>
    obtain ⟨k, hk, rfl, hok, ⟨g0, g1, g2, gf, r0, r1, r2, rf, hb⟩⟩ := hrel
    have hbd := catK_bd l k hok.out
    by_cases hlt : k < l.length
    · obtain ⟨bl, off, rfl, c0, c1, c2⟩ := (HL.out.below hb).el k hlt
      have HR := Lib.hid (rfl : l.getD k ⟨0, 0#64, 0#64⟩ = l.getD k ⟨0, 0#64, 0#64⟩)
      have HC := Lib.hid (rfl : catK l k = catK l k)
      generalize hC : catK l k = C at HC g0 g1 g2 hbd
      generalize hR : l.getD k ⟨0, 0#64, 0#64⟩ = r at HR c0 c1 c2
      have HCC := Lib.hid hC
      have HRR := Lib.hid hR
      clear hC hR HC HR
      by_cases hv : r.okB = true
      · obtain ⟨n, e, o⟩ := Rb.ok_of hv
        have o1 := o.lo
        have o2 := o.hi
        have HE := Lib.hid e
        rw [e] at c0
        clear e
        have HV := Lib.hid hv
        clear hv
        by_cases hs : C.W + n ≤ 64
        · go_wp2_with fail
          refine (valid_ok n r.v r.x _ o).mono ?_
          rintro e w1 ⟨rfl, hb1⟩
          have e0 : w1.cell? ⟨wr.heap.size, 0, none⟩ = some (.int .i64 n) := kcell0 hb1 (by go_simp)
          have e1 : w1.cell? ⟨wr.heap.size, 1, none⟩ = some (.int .u64 (U r.v)) := kcell0 hb1 (by go_simp)
          have e2 : w1.cell? ⟨wr.heap.size, 2, none⟩ = some (.int .u64 (U r.x)) := kcell0 hb1 (by go_simp)
          have b1 : Below wr.heap.size wr w1 := below_step hb1 ((Below.refl _ _).alloc (Nat.le_refl _) _) (by simp)
          obtain ⟨j0, j1, j2, jf, s0, s1, s2, sf, hb'⟩ := CatR.step ⟨g0, g1, g2, gf, r0, r1, r2, rf, hb⟩ b1
          clear hb1 b1 g0 g1 g2 gf r0 r1 r2 rf hb c0 c1 c2
          go_wp2_with fail
          go_still_tail 22, (by kernel_rfl)
          go_wp2_with fail
          go_roundw
          case rel =>
            refine ⟨k + 1, by omega, by go_num, ?_, ?_⟩
            · show (catOk l k && (l.getD k ⟨0, 0#64, 0#64⟩).okB && decide ((catK l k).W + (l.getD k ⟨0, 0#64, 0#64⟩).W ≤ 64)) = true
              rw [hok.out, HCC.out, HRR.out, HV.out, HE.out]; simpa using hs
            · show CatR w _ (cat1 (catK l k) (l.getD k ⟨0, 0#64, 0#64⟩))
              rw [HCC.out, HRR.out]
              have hh := CatR.put ⟨j0, j1, j2, jf, s0, s1, s2, sf, hb'⟩ (cat1 C r)
              unfold cat1 at hh ⊢
              rw [HE.out] at hh ⊢
              exact hh
          case measure => simp [intOf]; omega
        · go_wp2_with fail
          refine (valid_ok n r.v r.x _ o).mono ?_
          rintro e w1 ⟨rfl, hb1⟩
          have e0 : w1.cell? ⟨wr.heap.size, 0, none⟩ = some (.int .i64 n) := kcell0 hb1 (by go_simp)
          have b1 : Below wr.heap.size wr w1 := below_step hb1 ((Below.refl _ _).alloc (Nat.le_refl _) _) (by simp)
          obtain ⟨j0, j1, j2, jf, s0, s1, s2, sf, hb'⟩ := CatR.step ⟨g0, g1, g2, gf, r0, r1, r2, rf, hb⟩ b1
          clear hb1 b1 g0 g1 g2 gf r0 r1 r2 rf hb c0 c1 c2
          go_wp2_with fail
          exact bodyPost_ret (v := .agg #[.int .i64 0, .int .u64 0, .int .u64 0]) (by simp [results, Tryd.results28, go_sem, s0, s1, s2]) rfl ⟨by rw [catV_bad (k := k) (by omega) (by rw [hok.out, HCC.out, HRR.out, HE.out]; simp; omega)]; rfl, by (repeat (first | exact Below.refl _ _ | exact Nat.le_refl _ | refine below_drewN ?_ _ | refine Below.drew ?_ | refine Below.alloc ?_ ?_ _ | refine Below.setCell ?_ ?_ _ | refine below_step (by assumption) ?_ ?_)) <;> (first | omega | (simp <;> omega))⟩
      · have hv' : (⟨r.W, r.v, r.x⟩ : Rb).okB = false := by simpa using hv
        have HV := Lib.hid hv'
        clear hv hv'
        go_wp2_with fail
        refine (valid_no r.W r.v r.x _ HV.out).mono ?_
        rintro e w1 ⟨rfl, hb1⟩
        have b1 : Below wr.heap.size wr w1 := below_step hb1 ((Below.refl _ _).alloc (Nat.le_refl _) _) (by simp)
        obtain ⟨j0, j1, j2, jf, s0, s1, s2, sf, hb'⟩ := CatR.step ⟨g0, g1, g2, gf, r0, r1, r2, rf, hb⟩ b1
        clear hb1 b1 g0 g1 g2 gf r0 r1 r2 rf hb c0 c1 c2
        go_wp2_with fail
        exact bodyPost_ret (v := .agg #[.int .i64 0, .int .u64 0, .int .u64 0]) (by simp [results, Tryd.results28, go_sem, s0, s1, s2]) rfl ⟨by rw [catV_bad (k := k) (by omega) (by rw [hok.out, HRR.out, HV.out]; rfl)]; rfl, by (repeat (first | exact Below.refl _ _ | exact Nat.le_refl _ | refine below_drewN ?_ _ | refine Below.drew ?_ | refine Below.alloc ?_ ?_ _ | refine Below.setCell ?_ ?_ _ | refine below_step (by assumption) ?_ ?_)) <;> (first | omega | (simp <;> omega))⟩
    · obtain rfl : k = l.length := by omega
      go_wp2_with fail
      exact bodyPost_ret (v := .agg #[.int .i64 (catK l l.length).W, .int .u64 (U (catK l l.length).v), .int .u64 (U (catK l l.length).x)]) (by simp [results, Tryd.results28, go_sem, r0, r1, r2]) rfl ⟨by rw [show catV l = catK l l.length from if_pos hok.out], by (repeat (first | exact Below.refl _ _ | exact Nat.le_refl _ | refine below_drewN ?_ _ | refine Below.drew ?_ | refine Below.alloc ?_ ?_ _ | refine Below.setCell ?_ ?_ _ | refine below_step (by assumption) ?_ ?_)) <;> (first | omega | (simp <;> omega))⟩
end Go.Proofs.YtdpmojkpfnkcdaaDoor
