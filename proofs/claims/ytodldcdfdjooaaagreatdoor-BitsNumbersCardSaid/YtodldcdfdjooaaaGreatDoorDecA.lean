/- Reading the decimal text "8'sd200". -/
import Derived.Test.YtodldcdfdjooaaaGreatDoorApart
import Derived.Test.YtodldcdfdjooaaaGreatDoorShelfMul
namespace Go.Proofs.YtodldcdfdjooaaaGreatDoor
open Go Go.RowKit
set_option linter.unusedVariables false
set_option maxRecDepth 100000 in
set_option maxHeartbeats 1000000 in
theorem takeApart_d {B : Nat} (w : World) (hG : Glob B w) :
    Calls Tryz.prog 76 #[.string ⟨#[56, 39, 115, 100, 50, 48, 48]⟩] w fun e w' => e = .returned (.tuple #[.agg #[.int .i64 8, .int .u8 100, .string ⟨#[50, 48, 48]⟩], .bool true]) ∧ Below w.heap.size w w' := by
  obtain ⟨m, hm⟩ := hG.mx
  have hw : 0 < w.heap.size := Nat.lt_of_lt_of_le hG.pos hG.le
  have hct : Hid (Lib.cut (⟨#[56, 39, 115, 100, 50, 48, 48]⟩ : ByteArray).data.toList (⟨#[39]⟩ : ByteArray).data.toList = ((⟨#[56]⟩ : ByteArray).data.toList, (⟨#[115, 100, 50, 48, 48]⟩ : ByteArray).data.toList, true)) := by show _ = _; decide +kernel
  have htrim : Hid (Lib.trimPrefix (⟨#[115, 100, 50, 48, 48]⟩ : ByteArray).data.toList (⟨#[115]⟩ : ByteArray).data.toList = (⟨#[100, 50, 48, 48]⟩ : ByteArray).data.toList) := by show _ = _; decide +kernel
  have hev : Hid (allB (fun c => isDig c.toNat) ⟨#[56]⟩ = true) := by show _ = _; decide +kernel
  have hev2 : Hid (allB (fun c => isDig c.toNat) ⟨#[50, 48, 48]⟩ = true) := by show _ = _; decide +kernel
  have hrw : Hid (rwd ⟨#[56]⟩ (⟨#[56]⟩ : ByteArray).size = 8) := by show _ = _; decide +kernel
  clear hG
  go_enter Tryz.func76, Tryz.ntmps76
  go_wp2_with fail
  refine (Tryz.strings_Cut _ _ m _ (by decide) (by go_simp)).mono ?_
  rintro e w' ⟨rfl, n1, rfl⟩
  rw [hct.out]
  simp only [Array.toArray_toList, ba_eta]
  have x0 : ((w.alloc (Obj.cells #[Value.int IntKind.i64 0, Value.int IntKind.u8 0, Value.string { data := #[] }] 80)).drewN n1).cell? ⟨w.heap.size, 0, none⟩ = some (.int .i64 0) := by go_simp
  have x1 : ((w.alloc (Obj.cells #[Value.int IntKind.i64 0, Value.int IntKind.u8 0, Value.string { data := #[] }] 80)).drewN n1).cell? ⟨w.heap.size, 1, none⟩ = some (.int .u8 0) := by go_simp
  have x2 : ((w.alloc (Obj.cells #[Value.int IntKind.i64 0, Value.int IntKind.u8 0, Value.string { data := #[] }] 80)).drewN n1).cell? ⟨w.heap.size, 2, none⟩ = some (.string ⟨#[]⟩) := by go_simp
  have xf : ∀ o, ((w.alloc (Obj.cells #[Value.int IntKind.i64 0, Value.int IntKind.u8 0, Value.string { data := #[] }] 80)).drewN n1).frozen? ⟨w.heap.size, o, none⟩ = false := fun o => by go_simp
  have xz : w.heap.size < ((w.alloc (Obj.cells #[Value.int IntKind.i64 0, Value.int IntKind.u8 0, Value.string { data := #[] }] 80)).drewN n1).heap.size := by go_simp
  have xb : Below w.heap.size w ((w.alloc (Obj.cells #[Value.int IntKind.i64 0, Value.int IntKind.u8 0, Value.string { data := #[] }] 80)).drewN n1) := below_drewN ((Below.refl _ _).alloc (Nat.le_refl _) _) _
  generalize ((w.alloc (Obj.cells #[Value.int IntKind.i64 0, Value.int IntKind.u8 0, Value.string { data := #[] }] 80)).drewN n1) = wx at x0 x1 x2 xf xz xb ⊢
  go_wp2_with fail
  refine (Tryz.strings_TrimPrefix _ _ _).mono ?_
  rintro e w' ⟨rfl, rfl⟩
  rw [htrim.out]
  simp only [Array.toArray_toList, ba_eta]
  go_wp2_with fail
  refine (every_dec ⟨#[56]⟩ (by decide) _).mono ?_
  rintro e w' ⟨rfl, rfl⟩
  rw [hev.out]
  go_wp2_with fail
  go_cut [7] (fun s7 wx => ∃ g : Nat, s7 = .pointer (some ⟨g, 0, none⟩) ∧ ApW w g 8 100 ⟨#[50, 48, 48]⟩ wx)
  case first =>
    go_region_with ((go_at_call 115; refine (readWidth_any ⟨#[56]⟩ (by decide) _).mono ?_; rintro e w' ⟨rfl, rfl⟩; rw [hrw.out]))
    all_goals
      go_wp2_with fail
      go_meet
      exact ⟨_, rfl, ⟨by (go_simp; try decide +kernel), by (go_simp; try decide +kernel), by (go_simp; try decide +kernel), fun o => by go_simp, by go_simp, by go_simp, by go_simp, fun o => by go_simp, xz, by (repeat (first | exact Below.refl _ _ | exact Nat.le_refl _ | refine below_drewN ?_ _ | refine Below.drew ?_ | refine Below.alloc ?_ ?_ _ | refine Below.setCell ?_ ?_ _ | refine below_step (by assumption) ?_ ?_)) <;> (first | omega | (simp <;> omega))⟩⟩
  case rest =>
    obtain ⟨g, rfl, ⟨c0, c1, c2, cf, r0', r1', r2', rf', gp, glo⟩⟩ := hcut
    have gz := World.block_lt_of_cell? wc _ c0
    have rz := World.block_lt_of_cell? wc _ r0'
    clear x0 x1 x2 xf xz
    go_wp2_with fail
    go_region_with ((go_at_call 113; refine (every_dec ⟨#[50, 48, 48]⟩ (by decide) _).mono ?_; rintro e w' ⟨rfl, rfl⟩; rw [hev2.out]))
    all_goals
      go_wp2_with fail
      exact bodyPost_ret (v := .tuple #[.agg #[.int .i64 8, .int .u8 100, .string ⟨#[50, 48, 48]⟩], .bool true]) (by simp [results, Tryz.results76, go_sem, r0', r1', r2', rz]) rfl ⟨rfl, by (repeat (first | exact Below.refl _ _ | exact Nat.le_refl _ | refine below_drewN ?_ _ | refine Below.drew ?_ | refine Below.alloc ?_ ?_ _ | refine Below.setCell ?_ ?_ _ | refine below_step (by assumption) ?_ ?_)) <;> (first | omega | (simp <;> omega))⟩
end Go.Proofs.YtodldcdfdjooaaaGreatDoor
