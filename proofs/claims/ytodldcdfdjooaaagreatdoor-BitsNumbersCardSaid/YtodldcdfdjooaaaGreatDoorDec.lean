/- Reading the decimal text "8'sd200": the number. -/
import Derived.Test.YtodldcdfdjooaaaGreatDoorDecA
import Derived.Lib.SmallJoins
namespace Go.Proofs.YtodldcdfdjooaaaGreatDoor
open Go Go.RowKit
set_option linter.unusedVariables false
theorem parse_200 : Lib.parseUintB 64 (⟨#[50, 48, 48]⟩ : ByteArray).data.toList = .ok 200 := by decide +kernel
set_option maxRecDepth 100000 in
set_option maxHeartbeats 1000000 in
theorem readDecimal_200 (w : World) :
    Calls Tryz.prog 77 #[.int .i64 8, .string ⟨#[50, 48, 48]⟩] w fun e w' => e = .returned (.tuple #[.agg #[.int .i64 8, .int .u64 (U (kv 8 200#64).v), .int .u64 (U (kv 8 200#64).x)], .int .i64 0]) ∧ Below w.heap.size w w' := by
  go_enter Tryz.func77, Tryz.ntmps77
  go_wp2_with fail
  refine (Tryz.strconv_ParseUint_10_at64_ok _ (by decide) 200 parse_200 _).mono ?_
  rintro e w1 ⟨rfl, hw1⟩
  have hb1 : Below (w.alloc (Obj.cells #[Value.int IntKind.i64 0, Value.int IntKind.u64 0, Value.int IntKind.u64 0] 24)).heap.size (w.alloc (Obj.cells #[Value.int IntKind.i64 0, Value.int IntKind.u64 0, Value.int IntKind.u64 0] 24)) w1 := by
    rcases hw1 with rfl | rfl
    · exact Below.refl _ _
    · exact Go.Joins.below_bytesWorld _ _ _ _ (Nat.le_refl _)
  clear hw1
  obtain ⟨hc1, hf1⟩ := bcell hb1
  have z1 : w.heap.size < w1.heap.size := bsize hb1 (by simp)
  have b1 : Below w.heap.size w w1 := ((Below.refl _ _).alloc (Nat.le_refl _) _).trans (hb1.mono (by simp))
  have u200 : (200 : Int) = U 200#64 := by decide
  have hg : (200#64 &&& ~~~msk 8 != 0#64) = false := by decide
  have HU := Lib.hid u200
  rw [show ((200 : Nat) : Int) = U 200#64 from by decide]
  clear u200 hb1
  go_wp2_with fail
  refine (mask_any 8 (by decide) _).mono ?_
  rintro e w' ⟨rfl, rfl⟩
  go_wp2_with fail
  refine (of_ok 8 200#64 _ (by decide) (by decide)).mono ?_
  rintro e w2 ⟨rfl, hb2⟩
  obtain ⟨hc2, hf2⟩ := bcell hb2
  have z2 : w.heap.size < w2.heap.size := bsize hb2 z1
  have b2 : Below w.heap.size w w2 := b1.trans (hb2.mono b1.size)
  go_wp2_with fail
  exact bodyPost_ret (v := .tuple #[.agg #[.int .i64 8, .int .u64 (U (kv 8 200#64).v), .int .u64 (U (kv 8 200#64).x)], .int .i64 0]) (by simp [results, Tryz.results77, go_sem, hc2, hc1, z1, z2]) rfl ⟨rfl, by (repeat (first | (with_reducible exact b2) | (with_reducible exact Nat.le_refl _) | (with_reducible refine Below.setCell ?_ ?_ _) | (with_reducible refine Below.alloc ?_ ?_ _))) <;> (first | omega | (simp <;> omega))⟩
set_option maxRecDepth 100000 in
set_option maxHeartbeats 1000000 in
theorem read_d {B : Nat} (w : World) (hG : Glob B w) : Calls Tryz.prog 37 #[.string ⟨#[56, 39, 115, 100, 50, 48, 48]⟩] w fun e w' => e = .returned (.tuple #[.agg #[.int .i64 8, .int .u64 (U (kv 8 200#64).v), .int .u64 (U (kv 8 200#64).x)], .int .i64 0]) ∧ Below w.heap.size w w' := by
  have HG := Lib.hid hG
  clear hG
  go_enter Tryz.func37, Tryz.ntmps37
  go_wp2_with fail
  refine (takeApart_d _ (HG.out.here ((Below.refl _ _).alloc (Nat.le_refl _) _))).mono ?_
  rintro e w1 ⟨rfl, hb1⟩
  obtain ⟨hc1, hf1⟩ := bcell hb1
  have z1 : w.heap.size < w1.heap.size := bsize hb1 (by simp)
  have b1 : Below w.heap.size w w1 := ((Below.refl _ _).alloc (Nat.le_refl _) _).trans (hb1.mono (by simp))
  clear hb1
  go_wp2_with fail
  refine (readDecimal_200 _).mono ?_
  rintro e w2 ⟨rfl, hb2⟩
  obtain ⟨hc2, hf2⟩ := bcell hb2
  have zz : w.heap.size < w1.heap.size + 1 := by omega
  have z2 : w.heap.size < w2.heap.size := bsize hb2 (by simp; omega)
  have b2 : Below w.heap.size w w2 := (b1.alloc b1.size _).trans (hb2.mono (by simp; omega))
  go_wp2_with fail
  exact bodyPost_ret (v := .tuple #[.agg #[.int .i64 8, .int .u64 (U (kv 8 200#64).v), .int .u64 (U (kv 8 200#64).x)], .int .i64 0]) (by simp [results, Tryz.results37, go_sem, hc2, hc1, z1, z2, zz]) rfl ⟨rfl, by (repeat (first | (with_reducible exact b2) | (with_reducible exact Nat.le_refl _) | (with_reducible refine Below.setCell ?_ ?_ _) | (with_reducible refine Below.alloc ?_ ?_ _))) <;> (first | omega | (simp <;> omega))⟩
end Go.Proofs.YtodldcdfdjooaaaGreatDoor
