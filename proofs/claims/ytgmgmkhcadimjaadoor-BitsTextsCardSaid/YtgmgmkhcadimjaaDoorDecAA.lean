/- Reading the decimal text "8'sd200".
   Reading the decimal text "8'sd200": the number. -/
import Derived.Test.YtgmgmkhcadimjaaDoorApart
import Derived.Test.YtgmgmkhcadimjaaDoorShelfMul
import Derived.Lib.SmallJoins
namespace Go.Proofs.YtgmgmkhcadimjaaDoor
open Go Go.RowKit
set_option linter.unusedVariables false
set_option maxRecDepth 100000 in
set_option maxHeartbeats 1000000 in
theorem takeApart_d {B : Nat} (w : World) (hG : Glob B w) :
    Calls Tryd.prog 12 #[.string ⟨#[56, 39, 115, 100, 50, 48, 48]⟩] w fun e w' => e = .returned (.tuple #[.agg #[.int .i64 8, .int .u8 100, .string ⟨#[50, 48, 48]⟩], .bool true]) ∧ Below w.heap.size w w' := by
  obtain ⟨m, hm⟩ := hG.mx
  have hw : 0 < w.heap.size := Nat.lt_of_lt_of_le hG.pos hG.le
  have hct : Hid (Lib.cut (⟨#[56, 39, 115, 100, 50, 48, 48]⟩ : ByteArray).data.toList (⟨#[39]⟩ : ByteArray).data.toList = ((⟨#[56]⟩ : ByteArray).data.toList, (⟨#[115, 100, 50, 48, 48]⟩ : ByteArray).data.toList, true)) := by show _ = _; decide +kernel
  have htrim : Hid (Lib.trimPrefix (⟨#[115, 100, 50, 48, 48]⟩ : ByteArray).data.toList (⟨#[115]⟩ : ByteArray).data.toList = (⟨#[100, 50, 48, 48]⟩ : ByteArray).data.toList) := by show _ = _; decide +kernel
  have hev : Hid (allB (fun c => isDig c.toNat) ⟨#[56]⟩ = true) := by show _ = _; decide +kernel
  have hev2 : Hid (allB (fun c => isDig c.toNat) ⟨#[50, 48, 48]⟩ = true) := by show _ = _; decide +kernel
  have hrw : Hid (rwd ⟨#[56]⟩ (⟨#[56]⟩ : ByteArray).size = 8) := by show _ = _; decide +kernel
  clear hG
  go_enter Tryd.func12, Tryd.ntmps12
  go_wp2_with fail
  refine (Tryd.strings_Cut _ _ m _ (by decide) (by go_simp)).mono ?_
  rintro e w' ⟨rfl, n1, rfl⟩
  rw [hct.out]
  simp only []
  have x0 : ((w.alloc (Obj.cells #[Value.int IntKind.i64 0, Value.int IntKind.u8 0, Value.string { data := #[] }] 36)).drewN n1).cell? ⟨w.heap.size, 0, none⟩ = some (.int .i64 0) := by go_simp
  have x1 : ((w.alloc (Obj.cells #[Value.int IntKind.i64 0, Value.int IntKind.u8 0, Value.string { data := #[] }] 36)).drewN n1).cell? ⟨w.heap.size, 1, none⟩ = some (.int .u8 0) := by go_simp
  have x2 : ((w.alloc (Obj.cells #[Value.int IntKind.i64 0, Value.int IntKind.u8 0, Value.string { data := #[] }] 36)).drewN n1).cell? ⟨w.heap.size, 2, none⟩ = some (.string ⟨#[]⟩) := by go_simp
  have xf : ∀ o, ((w.alloc (Obj.cells #[Value.int IntKind.i64 0, Value.int IntKind.u8 0, Value.string { data := #[] }] 36)).drewN n1).frozen? ⟨w.heap.size, o, none⟩ = false := fun o => by go_simp
  have xz : w.heap.size < ((w.alloc (Obj.cells #[Value.int IntKind.i64 0, Value.int IntKind.u8 0, Value.string { data := #[] }] 36)).drewN n1).heap.size := by go_simp
  have xb : Below w.heap.size w ((w.alloc (Obj.cells #[Value.int IntKind.i64 0, Value.int IntKind.u8 0, Value.string { data := #[] }] 36)).drewN n1) := below_drewN ((Below.refl _ _).alloc (Nat.le_refl _) _) _
  generalize ((w.alloc (Obj.cells #[Value.int IntKind.i64 0, Value.int IntKind.u8 0, Value.string { data := #[] }] 36)).drewN n1) = wx at x0 x1 x2 xf xz xb ⊢
  go_wp2_with fail
  refine (Tryd.strings_TrimPrefix _ _ _).mono ?_
  rintro e w' ⟨rfl, rfl⟩
  rw [htrim.out]
  simp only []
  go_wp2_with fail
  refine (every_dec ⟨#[56]⟩ (by decide) _).mono ?_
  rintro e w' ⟨rfl, rfl⟩
  rw [hev.out]
  go_wp2_with fail
  go_cut [7] (fun s7 wx => ∃ g : Nat, s7 = .pointer (some ⟨g, 0, none⟩) ∧ ApW w g 8 100 ⟨#[50, 48, 48]⟩ wx)
  case first =>
    go_region_with ((go_at_call 31; refine (readWidth_any ⟨#[56]⟩ (by decide) _).mono ?_; rintro e w' ⟨rfl, rfl⟩; rw [hrw.out]))
    all_goals
      go_wp2_with fail
      go_meet
      exact ⟨_, rfl, ⟨by (go_simp; try decide +kernel), by (go_simp; try decide +kernel), by (go_simp; try decide +kernel), fun o => by go_simp, by go_simp, by go_simp, by go_simp, fun o => by go_simp, xz, by (repeat (first | exact Below.refl _ _ | exact Nat.le_refl _ | refine below_drewN ?_ _ | refine Below.drew ?_ | refine Below.alloc ?_ ?_ _ | refine Below.setCell ?_ ?_ _ | refine below_step (by assumption) ?_ ?_)) <;> (first | omega | (simp <;> omega))⟩⟩
  case rest =>
    obtain ⟨g, rfl, ⟨c0, c1, c2, cf, r0', r1', r2', rf', gp, glo⟩⟩ := hcut
    have gz := World.block_lt_of_cell? wc _ c0
    have rz := World.block_lt_of_cell? wc _ r0'
    clear x0 x1 x2 xf xz
    go_wp2_with fail
    go_region_with ((go_at_call 29; refine (every_dec ⟨#[50, 48, 48]⟩ (by decide) _).mono ?_; rintro e w' ⟨rfl, rfl⟩; rw [hev2.out]))
    all_goals
      go_wp2_with fail
      exact bodyPost_ret (v := .tuple #[.agg #[.int .i64 8, .int .u8 100, .string ⟨#[50, 48, 48]⟩], .bool true]) (by simp [results, Tryd.results12, go_sem, r0', r1', r2']) rfl ⟨rfl, by (repeat (first | exact Below.refl _ _ | exact Nat.le_refl _ | refine below_drewN ?_ _ | refine Below.drew ?_ | refine Below.alloc ?_ ?_ _ | refine Below.setCell ?_ ?_ _ | refine below_step (by assumption) ?_ ?_)) <;> (first | omega | (simp <;> omega))⟩
end Go.Proofs.YtgmgmkhcadimjaaDoor
namespace Go.Proofs.YtgmgmkhcadimjaaDoor
open Go Go.RowKit
set_option linter.unusedVariables false
theorem parse_200 : Lib.parseUintB 64 (⟨#[50, 48, 48]⟩ : ByteArray).data.toList = .ok 200 := by decide +kernel
set_option maxRecDepth 100000 in
set_option maxHeartbeats 1000000 in
theorem readDecimal_200 (w : World) :
    Calls Tryd.prog 13 #[.int .i64 8, .string ⟨#[50, 48, 48]⟩] w fun e w' => e = .returned (.tuple #[.agg #[.int .i64 8, .int .u64 (U (kv 8 200#64).v), .int .u64 (U (kv 8 200#64).x)], .int .i64 0]) ∧ Below w.heap.size w w' := by
  go_enter Tryd.func13, Tryd.ntmps13
  go_wp2_with fail
  refine (Tryd.strconv_ParseUint_10_at64_ok _ (by decide) 200 parse_200 _).mono ?_
  rintro e w1 ⟨rfl, hw1⟩
  have hb1 : Below (w.alloc (Obj.cells #[Value.int IntKind.i64 0, Value.int IntKind.u64 0, Value.int IntKind.u64 0] 24)).heap.size (w.alloc (Obj.cells #[Value.int IntKind.i64 0, Value.int IntKind.u64 0, Value.int IntKind.u64 0] 24)) w1 := by
    rcases hw1 with rfl | rfl
    · exact Below.refl _ _
    · exact Go.Joins.below_bytesWorld _ _ _ _ (Nat.le_refl _)
  clear hw1
  obtain ⟨hc1, hf1⟩ := bcell hb1
  have z1 : w.heap.size < w1.heap.size := bsize hb1 (by simp)
  have b1 : Below w.heap.size w w1 := ((Below.refl _ _).alloc (Nat.le_refl _) _).trans (hb1.mono (by simp))
  have u200 : (200 : Int) = U 200#64 := by decide
  have hg : (200#64 &&& ~~~msk 8 != 0#64) = false := by decide
  have HU := Lib.hid u200
  rw [show ((200 : Nat) : Int) = U 200#64 from by decide]
  clear u200 hb1
  go_wp2_with fail
  refine (mask_any 8 (by decide) _).mono ?_
  rintro e w' ⟨rfl, rfl⟩
  go_wp2_with fail
  refine (of_ok 8 200#64 _ (by decide) (by decide)).mono ?_
  rintro e w2 ⟨rfl, hb2⟩
  obtain ⟨hc2, hf2⟩ := bcell hb2
  have z2 : w.heap.size < w2.heap.size := bsize hb2 z1
  have b2 : Below w.heap.size w w2 := b1.trans (hb2.mono b1.size)
  go_wp2_with fail
  exact bodyPost_ret (v := .tuple #[.agg #[.int .i64 8, .int .u64 (U (kv 8 200#64).v), .int .u64 (U (kv 8 200#64).x)], .int .i64 0]) (by simp [results, Tryd.results13, go_sem, hc2, hc1, z1]) rfl ⟨rfl, by (repeat (first | (with_reducible exact b2) | (with_reducible exact Nat.le_refl _) | (with_reducible refine Below.setCell ?_ ?_ _) | (with_reducible refine Below.alloc ?_ ?_ _))) <;> (first | omega | (simp <;> omega))⟩
set_option maxRecDepth 100000 in
set_option maxHeartbeats 1000000 in
theorem read_d {B : Nat} (w : World) (hG : Glob B w) : Calls Tryd.prog 5 #[.string ⟨#[56, 39, 115, 100, 50, 48, 48]⟩] w fun e w' => e = .returned (.tuple #[.agg #[.int .i64 8, .int .u64 (U (kv 8 200#64).v), .int .u64 (U (kv 8 200#64).x)], .int .i64 0]) ∧ Below w.heap.size w w' := by
  have HG := Lib.hid hG
  clear hG
  go_enter Tryd.func5, Tryd.ntmps5
  go_wp2_with fail
  refine (takeApart_d _ (HG.out.here ((Below.refl _ _).alloc (Nat.le_refl _) _))).mono ?_
  rintro e w1 ⟨rfl, hb1⟩
  obtain ⟨hc1, hf1⟩ := bcell hb1
  have z1 : w.heap.size < w1.heap.size := bsize hb1 (by simp)
  have b1 : Below w.heap.size w w1 := ((Below.refl _ _).alloc (Nat.le_refl _) _).trans (hb1.mono (by simp))
  clear hb1
  go_wp2_with fail
  refine (readDecimal_200 _).mono ?_
  rintro e w2 ⟨rfl, hb2⟩
  obtain ⟨hc2, hf2⟩ := bcell hb2
  have zz : w.heap.size < w1.heap.size + 1 := by omega
  have z2 : w.heap.size < w2.heap.size := bsize hb2 (by simp; omega)
  have b2 : Below w.heap.size w w2 := (b1.alloc b1.size _).trans (hb2.mono (by simp; omega))
  go_wp2_with fail
  exact bodyPost_ret (v := .tuple #[.agg #[.int .i64 8, .int .u64 (U (kv 8 200#64).v), .int .u64 (U (kv 8 200#64).x)], .int .i64 0]) (by simp [results, Tryd.results5, go_sem, hc2, hc1, z1, zz]) rfl ⟨rfl, by (repeat (first | (with_reducible exact b2) | (with_reducible exact Nat.le_refl _) | (with_reducible refine Below.setCell ?_ ?_ _) | (with_reducible refine Below.alloc ?_ ?_ _))) <;> (first | omega | (simp <;> omega))⟩
end Go.Proofs.YtgmgmkhcadimjaaDoor
