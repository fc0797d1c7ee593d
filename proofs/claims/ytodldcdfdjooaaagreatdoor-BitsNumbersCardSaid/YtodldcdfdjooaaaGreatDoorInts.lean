/- What a row's first world gives a law of one slice of integers. -/
import Derived.Test.YtodldcdfdjooaaaGreatDoorRow
import Derived.Test.YtodldcdfdjooaaaGreatDoorSl
import Derived.Stop.LaidErr
import Derived.SizedLaws
namespace Go.Proofs.YtodldcdfdjooaaaGreatDoor
open Go.ChangeShapes Go.WideShapes Go.ChangeAt Go.RowKit
set_option linter.unusedVariables false
theorem glob_of {W : World} (hL : laidMetH Tryz.prog laid5 W) (hsh : W.ShapedOpen Tryz.prog) : Glob W.heap.size W := by
  rw [MakeChecks.laidMetH_plain _ _ _ (by kernel_rfl)] at hL
  have h3 : laidMet Tryz.prog [("internal/strconv.uint64pow10", Lib.tabData .u64 Lib.pow10Tab), ("strconv.ErrRange", Rows.laid_strconv_ErrRange), ("strconv.ErrSyntax", Rows.laid_strconv_ErrSyntax)] W := by
    rw [← tab_eq]; exact laidMet.tail (laidMet.tail hL)
  have ht : Lib.TabIs Tryz.prog W "internal/strconv.uint64pow10" .u64 Lib.pow10Tab :=
    Lib.tabIs_of_head (g := 3) (t := 139) (e := 22) (n := 20) (by kernel_rfl) (by kernel_rfl) Tryz.underlying139 Tryz.underlying22 (by kernel_rfl) (by kernel_rfl) h3
  obtain ⟨m, hm⟩ := cell_of_shapedOpen_int (g := 0) (t := 3) (k := .i64) (zero := #[.int .i64 0]) hsh (of_decide_eq_true (by kernel_rfl)) (by kernel_rfl) rfl (by kernel_rfl) (by kernel_rfl) Tryz.underlying3
  exact ⟨⟨m, hm⟩, Nat.lt_of_le_of_lt (Nat.zero_le _) (World.block_lt_of_cell? W _ hm), Lib.tabBelow_of_tabIs ht, Nat.le_refl _⟩
theorem sl_of_trod {H : Type} {enc : TypeId × Value → H} {W : World} {a0 : Option Addr} {len0 cap0 : Nat} {d0 : DataW H} {p0 : List MemPlace} {hh : Bool} {ts : List TypeId} {ds : List (DataW H)}
    (h0 : DataW.Trod enc Tryz.prog W 0 (fun _ => true) hh 27 (.slice a0 len0 cap0) d0 p0) (hsz : (DataW.weightsEach Tryz.prog (27 :: ts) (d0 :: ds)).all (· ≤ reachBytes) = true) : Sl a0 len0 W := by
  obtain ⟨fuel, hf⟩ := h0
  rcases open_ints Tryz.underlying27 Tryz.underlying3 (by kernel_rfl) hf with ⟨hcs, _⟩ | ⟨x, l, c, zs, hcs, _, hl, hm, hz, hx, hcell, hwz⟩
  · simp [Value.cells] at hcs
    obtain ⟨rfl, rfl, rfl⟩ := hcs
    exact ⟨by decide, fun j hj => by omega⟩
  · simp [Value.cells] at hcs
    obtain ⟨rfl, rfl, rfl⟩ := hcs
    simp only [if_true] at hz
    simp only [Prod.mk.injEq] at hx
    obtain ⟨rfl, _⟩ := hx
    have hw := sized_slice hsz (j := 0) (t := 27) (e := 3) rfl rfl Tryz.underlying27
    have h8 : Tryz.prog.bytesOf 3 = 8 := by kernel_rfl
    have hr := reachBytes_lt
    have e3 : (2 : Nat) ^ 47 = 140737488355328 := by decide
    rw [h8] at hw
    simp [lits] at hw
    refine ⟨by omega, fun j hj => ?_⟩
    have hc := hcell j (by omega)
    obtain ⟨bl, off, spot⟩ := x
    have hspot : spot = none := by simpa [Addr.add] using World.cell?_spot (hcell 0 (by omega))
    subst hspot
    have hadd : (⟨bl, off, none⟩ : Addr).add j = ⟨bl, off + j, none⟩ := by unfold Addr.add; split <;> simp_all
    rw [hadd] at hc
    exact ⟨bl, off, zs.getD j 0, rfl, hc⟩
end Go.Proofs.YtodldcdfdjooaaaGreatDoor
