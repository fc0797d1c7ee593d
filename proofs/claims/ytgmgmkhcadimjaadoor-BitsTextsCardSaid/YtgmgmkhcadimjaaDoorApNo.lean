/- The texts that takeApart refuses at once. -/
import Derived.Test.YtgmgmkhcadimjaaDoorApart
import Derived.Deep.DeepCutAuto
namespace Go.Proofs.YtgmgmkhcadimjaaDoor
open Go Go.RowKit
set_option linter.unusedVariables false
set_option maxRecDepth 100000 in
set_option maxHeartbeats 2000000 in
theorem ap_a (s wd rs r0 : ByteArray) (hs : s.size < 4294967281) (m : Int) (w : World) (hm : w.cell? ⟨0, 0, none⟩ = some (.int .i64 m)) (hw : 0 < w.heap.size)
    (hc : Hid (Lib.cut s.data.toList (⟨#[39]⟩ : ByteArray).data.toList = (wd.data.toList, r0.data.toList, false))) (ht : Hid (Lib.trimPrefix r0.data.toList (⟨#[115]⟩ : ByteArray).data.toList = rs.data.toList))  :
    Calls Tryd.prog 12 #[.string s] w fun e w' => e = .returned (.tuple #[.agg #[.int .i64 0, .int .u8 0, .string ⟨#[]⟩], .bool false]) ∧ Below w.heap.size w w' := by
  go_enter Tryd.func12, Tryd.ntmps12
  go_wp2_with fail
  refine (Tryd.strings_Cut _ _ m _ hs (by go_simp)).mono ?_
  rintro e w' ⟨rfl, n1, rfl⟩
  have x0 : ((w.alloc (Obj.cells #[Value.int IntKind.i64 0, Value.int IntKind.u8 0, Value.string { data := #[] }] 36)).drewN n1).cell? ⟨w.heap.size, 0, none⟩ = some (.int .i64 0) := by go_simp
  have x1 : ((w.alloc (Obj.cells #[Value.int IntKind.i64 0, Value.int IntKind.u8 0, Value.string { data := #[] }] 36)).drewN n1).cell? ⟨w.heap.size, 1, none⟩ = some (.int .u8 0) := by go_simp
  have x2 : ((w.alloc (Obj.cells #[Value.int IntKind.i64 0, Value.int IntKind.u8 0, Value.string { data := #[] }] 36)).drewN n1).cell? ⟨w.heap.size, 2, none⟩ = some (.string ⟨#[]⟩) := by go_simp
  have xf : ∀ o, ((w.alloc (Obj.cells #[Value.int IntKind.i64 0, Value.int IntKind.u8 0, Value.string { data := #[] }] 36)).drewN n1).frozen? ⟨w.heap.size, o, none⟩ = false := fun o => by go_simp
  have xz : w.heap.size < ((w.alloc (Obj.cells #[Value.int IntKind.i64 0, Value.int IntKind.u8 0, Value.string { data := #[] }] 36)).drewN n1).heap.size := by go_simp
  have xb : Below w.heap.size w ((w.alloc (Obj.cells #[Value.int IntKind.i64 0, Value.int IntKind.u8 0, Value.string { data := #[] }] 36)).drewN n1) := below_drewN ((Below.refl _ _).alloc (Nat.le_refl _) _) _
  generalize ((w.alloc (Obj.cells #[Value.int IntKind.i64 0, Value.int IntKind.u8 0, Value.string { data := #[] }] 36)).drewN n1) = wx at x0 x1 x2 xf xz xb ⊢
  rw [hc.out]
  simp only [Array.toArray_toList, ba_eta]
  go_wp2_with fail
  refine (Tryd.strings_TrimPrefix _ _ _).mono ?_
  rintro e w' ⟨rfl, rfl⟩
  rw [ht.out]
  simp only [Array.toArray_toList, ba_eta]
  go_wp2_with fail
  exact bodyPost_ret (v := .tuple #[.agg #[.int .i64 0, .int .u8 0, .string ⟨#[]⟩], .bool false]) (by simp [results, Tryd.results12, go_sem, x0, x1, x2]) rfl ⟨rfl, by (repeat (first | exact Below.refl _ _ | exact Nat.le_refl _ | refine below_drewN ?_ _ | refine Below.drew ?_ | refine Below.alloc ?_ ?_ _ | refine Below.setCell ?_ ?_ _ | refine below_step (by assumption) ?_ ?_)) <;> (first | omega | (simp <;> omega))⟩
set_option maxRecDepth 100000 in
set_option maxHeartbeats 2000000 in
theorem ap_b (s rs r0 : ByteArray) (hs : s.size < 4294967281) (m : Int) (w : World) (hm : w.cell? ⟨0, 0, none⟩ = some (.int .i64 m)) (hw : 0 < w.heap.size)
    (hc : Hid (Lib.cut s.data.toList (⟨#[39]⟩ : ByteArray).data.toList = (([] : List UInt8), r0.data.toList, true))) (ht : Hid (Lib.trimPrefix r0.data.toList (⟨#[115]⟩ : ByteArray).data.toList = rs.data.toList))  :
    Calls Tryd.prog 12 #[.string s] w fun e w' => e = .returned (.tuple #[.agg #[.int .i64 0, .int .u8 0, .string ⟨#[]⟩], .bool false]) ∧ Below w.heap.size w w' := by
  go_enter Tryd.func12, Tryd.ntmps12
  go_wp2_with fail
  refine (Tryd.strings_Cut _ _ m _ hs (by go_simp)).mono ?_
  rintro e w' ⟨rfl, n1, rfl⟩
  have x0 : ((w.alloc (Obj.cells #[Value.int IntKind.i64 0, Value.int IntKind.u8 0, Value.string { data := #[] }] 36)).drewN n1).cell? ⟨w.heap.size, 0, none⟩ = some (.int .i64 0) := by go_simp
  have x1 : ((w.alloc (Obj.cells #[Value.int IntKind.i64 0, Value.int IntKind.u8 0, Value.string { data := #[] }] 36)).drewN n1).cell? ⟨w.heap.size, 1, none⟩ = some (.int .u8 0) := by go_simp
  have x2 : ((w.alloc (Obj.cells #[Value.int IntKind.i64 0, Value.int IntKind.u8 0, Value.string { data := #[] }] 36)).drewN n1).cell? ⟨w.heap.size, 2, none⟩ = some (.string ⟨#[]⟩) := by go_simp
  have xf : ∀ o, ((w.alloc (Obj.cells #[Value.int IntKind.i64 0, Value.int IntKind.u8 0, Value.string { data := #[] }] 36)).drewN n1).frozen? ⟨w.heap.size, o, none⟩ = false := fun o => by go_simp
  have xz : w.heap.size < ((w.alloc (Obj.cells #[Value.int IntKind.i64 0, Value.int IntKind.u8 0, Value.string { data := #[] }] 36)).drewN n1).heap.size := by go_simp
  have xb : Below w.heap.size w ((w.alloc (Obj.cells #[Value.int IntKind.i64 0, Value.int IntKind.u8 0, Value.string { data := #[] }] 36)).drewN n1) := below_drewN ((Below.refl _ _).alloc (Nat.le_refl _) _) _
  generalize ((w.alloc (Obj.cells #[Value.int IntKind.i64 0, Value.int IntKind.u8 0, Value.string { data := #[] }] 36)).drewN n1) = wx at x0 x1 x2 xf xz xb ⊢
  rw [hc.out]
  simp only [Array.toArray_toList, ba_eta]
  go_wp2_with fail
  refine (Tryd.strings_TrimPrefix _ _ _).mono ?_
  rintro e w' ⟨rfl, rfl⟩
  rw [ht.out]
  simp only [Array.toArray_toList, ba_eta]
  go_wp2_with fail
  exact bodyPost_ret (v := .tuple #[.agg #[.int .i64 0, .int .u8 0, .string ⟨#[]⟩], .bool false]) (by simp [results, Tryd.results12, go_sem, x0, x1, x2]) rfl ⟨rfl, by (repeat (first | exact Below.refl _ _ | exact Nat.le_refl _ | refine below_drewN ?_ _ | refine Below.drew ?_ | refine Below.alloc ?_ ?_ _ | refine Below.setCell ?_ ?_ _ | refine below_step (by assumption) ?_ ?_)) <;> (first | omega | (simp <;> omega))⟩
set_option maxRecDepth 100000 in
set_option maxHeartbeats 2000000 in
theorem ap_c (s wd rs r0 : ByteArray) (hs : s.size < 4294967281) (m : Int) (w : World) (hm : w.cell? ⟨0, 0, none⟩ = some (.int .i64 m)) (hw : 0 < w.heap.size)
    (hc : Hid (Lib.cut s.data.toList (⟨#[39]⟩ : ByteArray).data.toList = (wd.data.toList, r0.data.toList, true))) (ht : Hid (Lib.trimPrefix r0.data.toList (⟨#[115]⟩ : ByteArray).data.toList = rs.data.toList)) (w1 : 0 < wd.size) (w2 : ((wd[0].toNat : Int) == 48) = true) :
    Calls Tryd.prog 12 #[.string s] w fun e w' => e = .returned (.tuple #[.agg #[.int .i64 0, .int .u8 0, .string ⟨#[]⟩], .bool false]) ∧ Below w.heap.size w w' := by
  have wne := toList_ne w1
  have wne2 : wd.toList.isEmpty = false := by simpa using wne
  go_enter Tryd.func12, Tryd.ntmps12
  go_wp2_with fail
  refine (Tryd.strings_Cut _ _ m _ hs (by go_simp)).mono ?_
  rintro e w' ⟨rfl, n1, rfl⟩
  have x0 : ((w.alloc (Obj.cells #[Value.int IntKind.i64 0, Value.int IntKind.u8 0, Value.string { data := #[] }] 36)).drewN n1).cell? ⟨w.heap.size, 0, none⟩ = some (.int .i64 0) := by go_simp
  have x1 : ((w.alloc (Obj.cells #[Value.int IntKind.i64 0, Value.int IntKind.u8 0, Value.string { data := #[] }] 36)).drewN n1).cell? ⟨w.heap.size, 1, none⟩ = some (.int .u8 0) := by go_simp
  have x2 : ((w.alloc (Obj.cells #[Value.int IntKind.i64 0, Value.int IntKind.u8 0, Value.string { data := #[] }] 36)).drewN n1).cell? ⟨w.heap.size, 2, none⟩ = some (.string ⟨#[]⟩) := by go_simp
  have xf : ∀ o, ((w.alloc (Obj.cells #[Value.int IntKind.i64 0, Value.int IntKind.u8 0, Value.string { data := #[] }] 36)).drewN n1).frozen? ⟨w.heap.size, o, none⟩ = false := fun o => by go_simp
  have xz : w.heap.size < ((w.alloc (Obj.cells #[Value.int IntKind.i64 0, Value.int IntKind.u8 0, Value.string { data := #[] }] 36)).drewN n1).heap.size := by go_simp
  have xb : Below w.heap.size w ((w.alloc (Obj.cells #[Value.int IntKind.i64 0, Value.int IntKind.u8 0, Value.string { data := #[] }] 36)).drewN n1) := below_drewN ((Below.refl _ _).alloc (Nat.le_refl _) _) _
  generalize ((w.alloc (Obj.cells #[Value.int IntKind.i64 0, Value.int IntKind.u8 0, Value.string { data := #[] }] 36)).drewN n1) = wx at x0 x1 x2 xf xz xb ⊢
  rw [hc.out]
  simp only [Array.toArray_toList, ba_eta]
  go_wp2_with fail
  refine (Tryd.strings_TrimPrefix _ _ _).mono ?_
  rintro e w' ⟨rfl, rfl⟩
  rw [ht.out]
  simp only [Array.toArray_toList, ba_eta]
  go_wp2_with fail
  exact bodyPost_ret (v := .tuple #[.agg #[.int .i64 0, .int .u8 0, .string ⟨#[]⟩], .bool false]) (by simp [results, Tryd.results12, go_sem, x0, x1, x2]) rfl ⟨rfl, by (repeat (first | exact Below.refl _ _ | exact Nat.le_refl _ | refine below_drewN ?_ _ | refine Below.drew ?_ | refine Below.alloc ?_ ?_ _ | refine Below.setCell ?_ ?_ _ | refine below_step (by assumption) ?_ ?_)) <;> (first | omega | (simp <;> omega))⟩
set_option maxRecDepth 100000 in
set_option maxHeartbeats 2000000 in
theorem ap_d (s wd rs r0 : ByteArray) (hs : s.size < 4294967281) (m : Int) (w : World) (hm : w.cell? ⟨0, 0, none⟩ = some (.int .i64 m)) (hw : 0 < w.heap.size)
    (hc : Hid (Lib.cut s.data.toList (⟨#[39]⟩ : ByteArray).data.toList = (wd.data.toList, r0.data.toList, true))) (ht : Hid (Lib.trimPrefix r0.data.toList (⟨#[115]⟩ : ByteArray).data.toList = rs.data.toList)) (w1 : 0 < wd.size) (w2 : ((wd[0].toNat : Int) == 48) = false) (w3 : Hid (allB (fun c => isDig c.toNat) wd = false)) (hwl : wd.size ≤ s.size) :
    Calls Tryd.prog 12 #[.string s] w fun e w' => e = .returned (.tuple #[.agg #[.int .i64 0, .int .u8 0, .string ⟨#[]⟩], .bool false]) ∧ Below w.heap.size w w' := by
  have wne := toList_ne w1
  have wne2 : wd.toList.isEmpty = false := by simpa using wne
  go_enter Tryd.func12, Tryd.ntmps12
  go_wp2_with fail
  refine (Tryd.strings_Cut _ _ m _ hs (by go_simp)).mono ?_
  rintro e w' ⟨rfl, n1, rfl⟩
  have x0 : ((w.alloc (Obj.cells #[Value.int IntKind.i64 0, Value.int IntKind.u8 0, Value.string { data := #[] }] 36)).drewN n1).cell? ⟨w.heap.size, 0, none⟩ = some (.int .i64 0) := by go_simp
  have x1 : ((w.alloc (Obj.cells #[Value.int IntKind.i64 0, Value.int IntKind.u8 0, Value.string { data := #[] }] 36)).drewN n1).cell? ⟨w.heap.size, 1, none⟩ = some (.int .u8 0) := by go_simp
  have x2 : ((w.alloc (Obj.cells #[Value.int IntKind.i64 0, Value.int IntKind.u8 0, Value.string { data := #[] }] 36)).drewN n1).cell? ⟨w.heap.size, 2, none⟩ = some (.string ⟨#[]⟩) := by go_simp
  have xf : ∀ o, ((w.alloc (Obj.cells #[Value.int IntKind.i64 0, Value.int IntKind.u8 0, Value.string { data := #[] }] 36)).drewN n1).frozen? ⟨w.heap.size, o, none⟩ = false := fun o => by go_simp
  have xz : w.heap.size < ((w.alloc (Obj.cells #[Value.int IntKind.i64 0, Value.int IntKind.u8 0, Value.string { data := #[] }] 36)).drewN n1).heap.size := by go_simp
  have xb : Below w.heap.size w ((w.alloc (Obj.cells #[Value.int IntKind.i64 0, Value.int IntKind.u8 0, Value.string { data := #[] }] 36)).drewN n1) := below_drewN ((Below.refl _ _).alloc (Nat.le_refl _) _) _
  generalize ((w.alloc (Obj.cells #[Value.int IntKind.i64 0, Value.int IntKind.u8 0, Value.string { data := #[] }] 36)).drewN n1) = wx at x0 x1 x2 xf xz xb ⊢
  rw [hc.out]
  simp only [Array.toArray_toList, ba_eta]
  go_wp2_with fail
  refine (Tryd.strings_TrimPrefix _ _ _).mono ?_
  rintro e w' ⟨rfl, rfl⟩
  rw [ht.out]
  simp only [Array.toArray_toList, ba_eta]
  go_wp2_with fail
  refine (every_dec wd (by omega) _).mono ?_
  rintro e w' ⟨rfl, rfl⟩
  rw [w3.out]
  go_wp2_with fail
  exact bodyPost_ret (v := .tuple #[.agg #[.int .i64 0, .int .u8 0, .string ⟨#[]⟩], .bool false]) (by simp [results, Tryd.results12, go_sem, x0, x1, x2]) rfl ⟨rfl, by (repeat (first | exact Below.refl _ _ | exact Nat.le_refl _ | refine below_drewN ?_ _ | refine Below.drew ?_ | refine Below.alloc ?_ ?_ _ | refine Below.setCell ?_ ?_ _ | refine below_step (by assumption) ?_ ?_)) <;> (first | omega | (simp <;> omega))⟩
set_option maxRecDepth 100000 in
set_option maxHeartbeats 2000000 in
theorem ap_e (s wd rs r0 : ByteArray) (hs : s.size < 4294967281) (m : Int) (w : World) (hm : w.cell? ⟨0, 0, none⟩ = some (.int .i64 m)) (hw : 0 < w.heap.size)
    (hc : Hid (Lib.cut s.data.toList (⟨#[39]⟩ : ByteArray).data.toList = (wd.data.toList, r0.data.toList, true))) (ht : Hid (Lib.trimPrefix r0.data.toList (⟨#[115]⟩ : ByteArray).data.toList = rs.data.toList)) (w1 : 0 < wd.size) (w2 : ((wd[0].toNat : Int) == 48) = false) (w3 : Hid (allB (fun c => isDig c.toNat) wd = true)) (hr : rs.size < 2) (hwl : wd.size ≤ s.size) :
    Calls Tryd.prog 12 #[.string s] w fun e w' => e = .returned (.tuple #[.agg #[.int .i64 0, .int .u8 0, .string ⟨#[]⟩], .bool false]) ∧ Below w.heap.size w w' := by
  have hr2 : (rs.size : Int) < 2 := by omega
  have wne := toList_ne w1
  have wne2 : wd.toList.isEmpty = false := by simpa using wne
  go_enter Tryd.func12, Tryd.ntmps12
  go_wp2_with fail
  refine (Tryd.strings_Cut _ _ m _ hs (by go_simp)).mono ?_
  rintro e w' ⟨rfl, n1, rfl⟩
  have x0 : ((w.alloc (Obj.cells #[Value.int IntKind.i64 0, Value.int IntKind.u8 0, Value.string { data := #[] }] 36)).drewN n1).cell? ⟨w.heap.size, 0, none⟩ = some (.int .i64 0) := by go_simp
  have x1 : ((w.alloc (Obj.cells #[Value.int IntKind.i64 0, Value.int IntKind.u8 0, Value.string { data := #[] }] 36)).drewN n1).cell? ⟨w.heap.size, 1, none⟩ = some (.int .u8 0) := by go_simp
  have x2 : ((w.alloc (Obj.cells #[Value.int IntKind.i64 0, Value.int IntKind.u8 0, Value.string { data := #[] }] 36)).drewN n1).cell? ⟨w.heap.size, 2, none⟩ = some (.string ⟨#[]⟩) := by go_simp
  have xf : ∀ o, ((w.alloc (Obj.cells #[Value.int IntKind.i64 0, Value.int IntKind.u8 0, Value.string { data := #[] }] 36)).drewN n1).frozen? ⟨w.heap.size, o, none⟩ = false := fun o => by go_simp
  have xz : w.heap.size < ((w.alloc (Obj.cells #[Value.int IntKind.i64 0, Value.int IntKind.u8 0, Value.string { data := #[] }] 36)).drewN n1).heap.size := by go_simp
  have xb : Below w.heap.size w ((w.alloc (Obj.cells #[Value.int IntKind.i64 0, Value.int IntKind.u8 0, Value.string { data := #[] }] 36)).drewN n1) := below_drewN ((Below.refl _ _).alloc (Nat.le_refl _) _) _
  generalize ((w.alloc (Obj.cells #[Value.int IntKind.i64 0, Value.int IntKind.u8 0, Value.string { data := #[] }] 36)).drewN n1) = wx at x0 x1 x2 xf xz xb ⊢
  rw [hc.out]
  simp only [Array.toArray_toList, ba_eta]
  go_wp2_with fail
  refine (Tryd.strings_TrimPrefix _ _ _).mono ?_
  rintro e w' ⟨rfl, rfl⟩
  rw [ht.out]
  simp only [Array.toArray_toList, ba_eta]
  go_wp2_with fail
  refine (every_dec wd (by omega) _).mono ?_
  rintro e w' ⟨rfl, rfl⟩
  rw [w3.out]
  go_wp2_with fail
  exact bodyPost_ret (v := .tuple #[.agg #[.int .i64 0, .int .u8 0, .string ⟨#[]⟩], .bool false]) (by simp [results, Tryd.results12, go_sem, x0, x1, x2]) rfl ⟨rfl, by (repeat (first | exact Below.refl _ _ | exact Nat.le_refl _ | refine below_drewN ?_ _ | refine Below.drew ?_ | refine Below.alloc ?_ ?_ _ | refine Below.setCell ?_ ?_ _ | refine below_step (by assumption) ?_ ?_)) <;> (first | omega | (simp <;> omega))⟩
end Go.Proofs.YtgmgmkhcadimjaaDoor
