/- The texts that takeApart refuses at once.
   The text of a vector.
   The text of a vector: the whole function.
   The digits of a text: when a digit exceeds its room, bit by bit.
   Three stores into one block; what lay below a call keeps standing.
   The reference's lists of states: V of a valid vector.
   The digits of a text: the states of the vector that they spell. -/
import Derived.Test.YtogmipbdnffegaaGreatDoorApart
import Derived.Deep.DeepCutAuto
import Derived.Lib.AppendStr
import Derived.Laws.IdiomStrings
import Derived.Test.YtogmipbdnffegaaGreatDoorDigits
import Derived.Test.YtogmipbdnffegaaGreatDoorVec
namespace Go.Proofs.YtogmipbdnffegaaGreatDoor
open Go Go.RowKit
set_option linter.unusedVariables false
set_option maxRecDepth 100000 in
set_option maxHeartbeats 2000000 in
theorem ap_a (s wd rs r0 : ByteArray) (hs : s.size < 4294967281) (m : Int) (w : World) (hm : w.cell? ⟨2, 0, none⟩ = some (.int .i64 m)) (hw : 2 < w.heap.size)
    (hc : Hid (Lib.cut s.data.toList (⟨#[39]⟩ : ByteArray).data.toList = (wd.data.toList, r0.data.toList, false))) (ht : Hid (Lib.trimPrefix r0.data.toList (⟨#[115]⟩ : ByteArray).data.toList = rs.data.toList))  :
    Calls Tryz.prog 91 #[.string s] w fun e w' => e = .returned (.tuple #[.agg #[.int .i64 0, .int .u8 0, .string ⟨#[]⟩], .bool false]) ∧ Below w.heap.size w w' := by
  go_enter Tryz.func91, Tryz.ntmps91
  go_wp2_with fail
  refine (Tryz.strings_Cut _ _ m _ hs (by go_simp)).mono ?_
  rintro e w' ⟨rfl, n1, rfl⟩
  have x0 : ((w.alloc (Obj.cells #[Value.int IntKind.i64 0, Value.int IntKind.u8 0, Value.string { data := #[] }] 129)).drewN n1).cell? ⟨w.heap.size, 0, none⟩ = some (.int .i64 0) := by go_simp
  have x1 : ((w.alloc (Obj.cells #[Value.int IntKind.i64 0, Value.int IntKind.u8 0, Value.string { data := #[] }] 129)).drewN n1).cell? ⟨w.heap.size, 1, none⟩ = some (.int .u8 0) := by go_simp
  have x2 : ((w.alloc (Obj.cells #[Value.int IntKind.i64 0, Value.int IntKind.u8 0, Value.string { data := #[] }] 129)).drewN n1).cell? ⟨w.heap.size, 2, none⟩ = some (.string ⟨#[]⟩) := by go_simp
  have xf : ∀ o, ((w.alloc (Obj.cells #[Value.int IntKind.i64 0, Value.int IntKind.u8 0, Value.string { data := #[] }] 129)).drewN n1).frozen? ⟨w.heap.size, o, none⟩ = false := fun o => by go_simp
  have xz : w.heap.size < ((w.alloc (Obj.cells #[Value.int IntKind.i64 0, Value.int IntKind.u8 0, Value.string { data := #[] }] 129)).drewN n1).heap.size := by go_simp
  have xb : Below w.heap.size w ((w.alloc (Obj.cells #[Value.int IntKind.i64 0, Value.int IntKind.u8 0, Value.string { data := #[] }] 129)).drewN n1) := below_drewN ((Below.refl _ _).alloc (Nat.le_refl _) _) _
  generalize ((w.alloc (Obj.cells #[Value.int IntKind.i64 0, Value.int IntKind.u8 0, Value.string { data := #[] }] 129)).drewN n1) = wx at x0 x1 x2 xf xz xb ⊢
  rw [hc.out]
  simp only [Array.toArray_toList, ba_eta]
  go_wp2_with fail
  refine (Tryz.strings_TrimPrefix _ _ _).mono ?_
  rintro e w' ⟨rfl, rfl⟩
  rw [ht.out]
  simp only [Array.toArray_toList, ba_eta]
  go_wp2_with fail
  exact bodyPost_ret (v := .tuple #[.agg #[.int .i64 0, .int .u8 0, .string ⟨#[]⟩], .bool false]) (by simp [results, Tryz.results91, go_sem, x0, x1, x2, xz]) rfl ⟨rfl, by (repeat (first | exact Below.refl _ _ | exact Nat.le_refl _ | refine below_drewN ?_ _ | refine Below.drew ?_ | refine Below.alloc ?_ ?_ _ | refine Below.setCell ?_ ?_ _ | refine below_step (by assumption) ?_ ?_)) <;> (first | omega | (simp <;> omega))⟩
set_option maxRecDepth 100000 in
set_option maxHeartbeats 2000000 in
theorem ap_b (s rs r0 : ByteArray) (hs : s.size < 4294967281) (m : Int) (w : World) (hm : w.cell? ⟨2, 0, none⟩ = some (.int .i64 m)) (hw : 2 < w.heap.size)
    (hc : Hid (Lib.cut s.data.toList (⟨#[39]⟩ : ByteArray).data.toList = (([] : List UInt8), r0.data.toList, true))) (ht : Hid (Lib.trimPrefix r0.data.toList (⟨#[115]⟩ : ByteArray).data.toList = rs.data.toList))  :
    Calls Tryz.prog 91 #[.string s] w fun e w' => e = .returned (.tuple #[.agg #[.int .i64 0, .int .u8 0, .string ⟨#[]⟩], .bool false]) ∧ Below w.heap.size w w' := by
  go_enter Tryz.func91, Tryz.ntmps91
  go_wp2_with fail
  refine (Tryz.strings_Cut _ _ m _ hs (by go_simp)).mono ?_
  rintro e w' ⟨rfl, n1, rfl⟩
  have x0 : ((w.alloc (Obj.cells #[Value.int IntKind.i64 0, Value.int IntKind.u8 0, Value.string { data := #[] }] 129)).drewN n1).cell? ⟨w.heap.size, 0, none⟩ = some (.int .i64 0) := by go_simp
  have x1 : ((w.alloc (Obj.cells #[Value.int IntKind.i64 0, Value.int IntKind.u8 0, Value.string { data := #[] }] 129)).drewN n1).cell? ⟨w.heap.size, 1, none⟩ = some (.int .u8 0) := by go_simp
  have x2 : ((w.alloc (Obj.cells #[Value.int IntKind.i64 0, Value.int IntKind.u8 0, Value.string { data := #[] }] 129)).drewN n1).cell? ⟨w.heap.size, 2, none⟩ = some (.string ⟨#[]⟩) := by go_simp
  have xf : ∀ o, ((w.alloc (Obj.cells #[Value.int IntKind.i64 0, Value.int IntKind.u8 0, Value.string { data := #[] }] 129)).drewN n1).frozen? ⟨w.heap.size, o, none⟩ = false := fun o => by go_simp
  have xz : w.heap.size < ((w.alloc (Obj.cells #[Value.int IntKind.i64 0, Value.int IntKind.u8 0, Value.string { data := #[] }] 129)).drewN n1).heap.size := by go_simp
  have xb : Below w.heap.size w ((w.alloc (Obj.cells #[Value.int IntKind.i64 0, Value.int IntKind.u8 0, Value.string { data := #[] }] 129)).drewN n1) := below_drewN ((Below.refl _ _).alloc (Nat.le_refl _) _) _
  generalize ((w.alloc (Obj.cells #[Value.int IntKind.i64 0, Value.int IntKind.u8 0, Value.string { data := #[] }] 129)).drewN n1) = wx at x0 x1 x2 xf xz xb ⊢
  rw [hc.out]
  simp only [Array.toArray_toList, ba_eta]
  go_wp2_with fail
  refine (Tryz.strings_TrimPrefix _ _ _).mono ?_
  rintro e w' ⟨rfl, rfl⟩
  rw [ht.out]
  simp only [Array.toArray_toList, ba_eta]
  go_wp2_with fail
  exact bodyPost_ret (v := .tuple #[.agg #[.int .i64 0, .int .u8 0, .string ⟨#[]⟩], .bool false]) (by simp [results, Tryz.results91, go_sem, x0, x1, x2, xz]) rfl ⟨rfl, by (repeat (first | exact Below.refl _ _ | exact Nat.le_refl _ | refine below_drewN ?_ _ | refine Below.drew ?_ | refine Below.alloc ?_ ?_ _ | refine Below.setCell ?_ ?_ _ | refine below_step (by assumption) ?_ ?_)) <;> (first | omega | (simp <;> omega))⟩
set_option maxRecDepth 100000 in
set_option maxHeartbeats 2000000 in
theorem ap_c (s wd rs r0 : ByteArray) (hs : s.size < 4294967281) (m : Int) (w : World) (hm : w.cell? ⟨2, 0, none⟩ = some (.int .i64 m)) (hw : 2 < w.heap.size)
    (hc : Hid (Lib.cut s.data.toList (⟨#[39]⟩ : ByteArray).data.toList = (wd.data.toList, r0.data.toList, true))) (ht : Hid (Lib.trimPrefix r0.data.toList (⟨#[115]⟩ : ByteArray).data.toList = rs.data.toList)) (w1 : 0 < wd.size) (w2 : ((wd[0].toNat : Int) == 48) = true) :
    Calls Tryz.prog 91 #[.string s] w fun e w' => e = .returned (.tuple #[.agg #[.int .i64 0, .int .u8 0, .string ⟨#[]⟩], .bool false]) ∧ Below w.heap.size w w' := by
  have wne := toList_ne w1
  have wne2 : wd.toList.isEmpty = false := by simpa using wne
  go_enter Tryz.func91, Tryz.ntmps91
  go_wp2_with fail
  refine (Tryz.strings_Cut _ _ m _ hs (by go_simp)).mono ?_
  rintro e w' ⟨rfl, n1, rfl⟩
  have x0 : ((w.alloc (Obj.cells #[Value.int IntKind.i64 0, Value.int IntKind.u8 0, Value.string { data := #[] }] 129)).drewN n1).cell? ⟨w.heap.size, 0, none⟩ = some (.int .i64 0) := by go_simp
  have x1 : ((w.alloc (Obj.cells #[Value.int IntKind.i64 0, Value.int IntKind.u8 0, Value.string { data := #[] }] 129)).drewN n1).cell? ⟨w.heap.size, 1, none⟩ = some (.int .u8 0) := by go_simp
  have x2 : ((w.alloc (Obj.cells #[Value.int IntKind.i64 0, Value.int IntKind.u8 0, Value.string { data := #[] }] 129)).drewN n1).cell? ⟨w.heap.size, 2, none⟩ = some (.string ⟨#[]⟩) := by go_simp
  have xf : ∀ o, ((w.alloc (Obj.cells #[Value.int IntKind.i64 0, Value.int IntKind.u8 0, Value.string { data := #[] }] 129)).drewN n1).frozen? ⟨w.heap.size, o, none⟩ = false := fun o => by go_simp
  have xz : w.heap.size < ((w.alloc (Obj.cells #[Value.int IntKind.i64 0, Value.int IntKind.u8 0, Value.string { data := #[] }] 129)).drewN n1).heap.size := by go_simp
  have xb : Below w.heap.size w ((w.alloc (Obj.cells #[Value.int IntKind.i64 0, Value.int IntKind.u8 0, Value.string { data := #[] }] 129)).drewN n1) := below_drewN ((Below.refl _ _).alloc (Nat.le_refl _) _) _
  generalize ((w.alloc (Obj.cells #[Value.int IntKind.i64 0, Value.int IntKind.u8 0, Value.string { data := #[] }] 129)).drewN n1) = wx at x0 x1 x2 xf xz xb ⊢
  rw [hc.out]
  simp only [Array.toArray_toList, ba_eta]
  go_wp2_with fail
  refine (Tryz.strings_TrimPrefix _ _ _).mono ?_
  rintro e w' ⟨rfl, rfl⟩
  rw [ht.out]
  simp only [Array.toArray_toList, ba_eta]
  go_wp2_with fail
  exact bodyPost_ret (v := .tuple #[.agg #[.int .i64 0, .int .u8 0, .string ⟨#[]⟩], .bool false]) (by simp [results, Tryz.results91, go_sem, x0, x1, x2, xz]) rfl ⟨rfl, by (repeat (first | exact Below.refl _ _ | exact Nat.le_refl _ | refine below_drewN ?_ _ | refine Below.drew ?_ | refine Below.alloc ?_ ?_ _ | refine Below.setCell ?_ ?_ _ | refine below_step (by assumption) ?_ ?_)) <;> (first | omega | (simp <;> omega))⟩
set_option maxRecDepth 100000 in
set_option maxHeartbeats 2000000 in
theorem ap_d (s wd rs r0 : ByteArray) (hs : s.size < 4294967281) (m : Int) (w : World) (hm : w.cell? ⟨2, 0, none⟩ = some (.int .i64 m)) (hw : 2 < w.heap.size)
    (hc : Hid (Lib.cut s.data.toList (⟨#[39]⟩ : ByteArray).data.toList = (wd.data.toList, r0.data.toList, true))) (ht : Hid (Lib.trimPrefix r0.data.toList (⟨#[115]⟩ : ByteArray).data.toList = rs.data.toList)) (w1 : 0 < wd.size) (w2 : ((wd[0].toNat : Int) == 48) = false) (w3 : Hid (allB (fun c => isDig c.toNat) wd = false)) (hwl : wd.size ≤ s.size) :
    Calls Tryz.prog 91 #[.string s] w fun e w' => e = .returned (.tuple #[.agg #[.int .i64 0, .int .u8 0, .string ⟨#[]⟩], .bool false]) ∧ Below w.heap.size w w' := by
  have wne := toList_ne w1
  have wne2 : wd.toList.isEmpty = false := by simpa using wne
  go_enter Tryz.func91, Tryz.ntmps91
  go_wp2_with fail
  refine (Tryz.strings_Cut _ _ m _ hs (by go_simp)).mono ?_
  rintro e w' ⟨rfl, n1, rfl⟩
  have x0 : ((w.alloc (Obj.cells #[Value.int IntKind.i64 0, Value.int IntKind.u8 0, Value.string { data := #[] }] 129)).drewN n1).cell? ⟨w.heap.size, 0, none⟩ = some (.int .i64 0) := by go_simp
  have x1 : ((w.alloc (Obj.cells #[Value.int IntKind.i64 0, Value.int IntKind.u8 0, Value.string { data := #[] }] 129)).drewN n1).cell? ⟨w.heap.size, 1, none⟩ = some (.int .u8 0) := by go_simp
  have x2 : ((w.alloc (Obj.cells #[Value.int IntKind.i64 0, Value.int IntKind.u8 0, Value.string { data := #[] }] 129)).drewN n1).cell? ⟨w.heap.size, 2, none⟩ = some (.string ⟨#[]⟩) := by go_simp
  have xf : ∀ o, ((w.alloc (Obj.cells #[Value.int IntKind.i64 0, Value.int IntKind.u8 0, Value.string { data := #[] }] 129)).drewN n1).frozen? ⟨w.heap.size, o, none⟩ = false := fun o => by go_simp
  have xz : w.heap.size < ((w.alloc (Obj.cells #[Value.int IntKind.i64 0, Value.int IntKind.u8 0, Value.string { data := #[] }] 129)).drewN n1).heap.size := by go_simp
  have xb : Below w.heap.size w ((w.alloc (Obj.cells #[Value.int IntKind.i64 0, Value.int IntKind.u8 0, Value.string { data := #[] }] 129)).drewN n1) := below_drewN ((Below.refl _ _).alloc (Nat.le_refl _) _) _
  generalize ((w.alloc (Obj.cells #[Value.int IntKind.i64 0, Value.int IntKind.u8 0, Value.string { data := #[] }] 129)).drewN n1) = wx at x0 x1 x2 xf xz xb ⊢
  rw [hc.out]
  simp only [Array.toArray_toList, ba_eta]
  go_wp2_with fail
  refine (Tryz.strings_TrimPrefix _ _ _).mono ?_
  rintro e w' ⟨rfl, rfl⟩
  rw [ht.out]
  simp only [Array.toArray_toList, ba_eta]
  go_wp2_with fail
  refine (every_dec wd (by omega) _).mono ?_
  rintro e w' ⟨rfl, rfl⟩
  rw [w3.out]
  go_wp2_with fail
  exact bodyPost_ret (v := .tuple #[.agg #[.int .i64 0, .int .u8 0, .string ⟨#[]⟩], .bool false]) (by simp [results, Tryz.results91, go_sem, x0, x1, x2, xz]) rfl ⟨rfl, by (repeat (first | exact Below.refl _ _ | exact Nat.le_refl _ | refine below_drewN ?_ _ | refine Below.drew ?_ | refine Below.alloc ?_ ?_ _ | refine Below.setCell ?_ ?_ _ | refine below_step (by assumption) ?_ ?_)) <;> (first | omega | (simp <;> omega))⟩
set_option maxRecDepth 100000 in
set_option maxHeartbeats 2000000 in
theorem ap_e (s wd rs r0 : ByteArray) (hs : s.size < 4294967281) (m : Int) (w : World) (hm : w.cell? ⟨2, 0, none⟩ = some (.int .i64 m)) (hw : 2 < w.heap.size)
    (hc : Hid (Lib.cut s.data.toList (⟨#[39]⟩ : ByteArray).data.toList = (wd.data.toList, r0.data.toList, true))) (ht : Hid (Lib.trimPrefix r0.data.toList (⟨#[115]⟩ : ByteArray).data.toList = rs.data.toList)) (w1 : 0 < wd.size) (w2 : ((wd[0].toNat : Int) == 48) = false) (w3 : Hid (allB (fun c => isDig c.toNat) wd = true)) (hr : rs.size < 2) (hwl : wd.size ≤ s.size) :
    Calls Tryz.prog 91 #[.string s] w fun e w' => e = .returned (.tuple #[.agg #[.int .i64 0, .int .u8 0, .string ⟨#[]⟩], .bool false]) ∧ Below w.heap.size w w' := by
  have hr2 : (rs.size : Int) < 2 := by omega
  have wne := toList_ne w1
  have wne2 : wd.toList.isEmpty = false := by simpa using wne
  go_enter Tryz.func91, Tryz.ntmps91
  go_wp2_with fail
  refine (Tryz.strings_Cut _ _ m _ hs (by go_simp)).mono ?_
  rintro e w' ⟨rfl, n1, rfl⟩
  have x0 : ((w.alloc (Obj.cells #[Value.int IntKind.i64 0, Value.int IntKind.u8 0, Value.string { data := #[] }] 129)).drewN n1).cell? ⟨w.heap.size, 0, none⟩ = some (.int .i64 0) := by go_simp
  have x1 : ((w.alloc (Obj.cells #[Value.int IntKind.i64 0, Value.int IntKind.u8 0, Value.string { data := #[] }] 129)).drewN n1).cell? ⟨w.heap.size, 1, none⟩ = some (.int .u8 0) := by go_simp
  have x2 : ((w.alloc (Obj.cells #[Value.int IntKind.i64 0, Value.int IntKind.u8 0, Value.string { data := #[] }] 129)).drewN n1).cell? ⟨w.heap.size, 2, none⟩ = some (.string ⟨#[]⟩) := by go_simp
  have xf : ∀ o, ((w.alloc (Obj.cells #[Value.int IntKind.i64 0, Value.int IntKind.u8 0, Value.string { data := #[] }] 129)).drewN n1).frozen? ⟨w.heap.size, o, none⟩ = false := fun o => by go_simp
  have xz : w.heap.size < ((w.alloc (Obj.cells #[Value.int IntKind.i64 0, Value.int IntKind.u8 0, Value.string { data := #[] }] 129)).drewN n1).heap.size := by go_simp
  have xb : Below w.heap.size w ((w.alloc (Obj.cells #[Value.int IntKind.i64 0, Value.int IntKind.u8 0, Value.string { data := #[] }] 129)).drewN n1) := below_drewN ((Below.refl _ _).alloc (Nat.le_refl _) _) _
  generalize ((w.alloc (Obj.cells #[Value.int IntKind.i64 0, Value.int IntKind.u8 0, Value.string { data := #[] }] 129)).drewN n1) = wx at x0 x1 x2 xf xz xb ⊢
  rw [hc.out]
  simp only [Array.toArray_toList, ba_eta]
  go_wp2_with fail
  refine (Tryz.strings_TrimPrefix _ _ _).mono ?_
  rintro e w' ⟨rfl, rfl⟩
  rw [ht.out]
  simp only [Array.toArray_toList, ba_eta]
  go_wp2_with fail
  refine (every_dec wd (by omega) _).mono ?_
  rintro e w' ⟨rfl, rfl⟩
  rw [w3.out]
  go_wp2_with fail
  exact bodyPost_ret (v := .tuple #[.agg #[.int .i64 0, .int .u8 0, .string ⟨#[]⟩], .bool false]) (by simp [results, Tryz.results91, go_sem, x0, x1, x2, xz]) rfl ⟨rfl, by (repeat (first | exact Below.refl _ _ | exact Nat.le_refl _ | refine below_drewN ?_ _ | refine Below.drew ?_ | refine Below.alloc ?_ ?_ _ | refine Below.setCell ?_ ?_ _ | refine below_step (by assumption) ?_ ?_)) <;> (first | omega | (simp <;> omega))⟩
end Go.Proofs.YtogmipbdnffegaaGreatDoor
namespace Go.Proofs.YtogmipbdnffegaaGreatDoor
open Go Go.RowKit
set_option linter.unusedVariables false
/-- the state of bit i, as a character -/
def st (a : Vx) (i : Nat) : UInt8 := if a.x.getLsbD i then (if a.v.getLsbD i then 120 else 122) else (if a.v.getLsbD i then 49 else 48)
theorem bit_word (a : BitVec 64) (i : Nat) : a >>> i &&& 1#64 = if a.getLsbD i then 1#64 else 0#64 := by
  apply BitVec.eq_of_getLsbD_eq
  intro j hj
  rw [BitVec.getLsbD_and, BitVec.getLsbD_ushiftRight]
  by_cases h0 : j = 0
  · subst h0; cases h : a.getLsbD i <;> simp
  · have : (1#64).getLsbD j = false := by
      rw [BitVec.getLsbD_one]; simp [h0]
    rw [this, Bool.and_false]
    cases a.getLsbD i <;> simp [this]
/-- the states of the highest j bits, the highest one first -/
def hib (n : Nat) (a : Vx) (j : Nat) : List UInt8 := (List.range j).map fun k => st a (n - 1 - k)
theorem hib_succ (n : Nat) (a : Vx) (j : Nat) : hib n a (j + 1) = hib n a j ++ [st a (n - 1 - j)] := by
  unfold hib; rw [List.range_succ, List.map_append]; rfl
theorem hib_len (n : Nat) (a : Vx) (j : Nat) : (hib n a j).length = j := by unfold hib; simp
def txt (n : Nat) (a : Vx) (j : Nat) : List UInt8 := Lib.itoa n ++ [39, 98] ++ hib n a j
theorem info5 : (Tryz.prog.info? 5).map (fun i => (i.zero, i.size, i.bytes)) = some (some (.int .u8 0), 1, 1) := by kernel_rfl
end Go.Proofs.YtogmipbdnffegaaGreatDoor
namespace Go.Proofs.YtogmipbdnffegaaGreatDoor
open Go Go.RowKit
set_option linter.unusedVariables false
theorem txt_succ (n : Nat) (a : Vx) (j : Nat) : txt n a (j + 1) = txt n a j ++ [st a (n - 1 - j)] := by unfold txt; rw [hib_succ]; simp only [List.append_assoc]
theorem txt_len (n : Nat) (a : Vx) (j : Nat) : (txt n a j).length = (Lib.itoa n).length + 2 + j := by unfold txt; simp [hib_len]; omega
/-- what the loop knows of the bytes that it has collected -/
structure TX (w1 wr : World) (v : Value) (l : List UInt8) : Prop where
  own : wr.ownsRow w1.heap.size 5 1 v l.length (Lib.byteCells l)
  lo : Below w1.heap.size w1 wr
theorem own_below2 {w w' : World} {B : Nat} {e : TypeId} {size : Nat} {v : Value} {n : Nat} {xs : List Value} (h : w.ownsRow B e size v n xs) (hb : Below w.heap.size w w') : w'.ownsRow B e size v n xs :=
  h.kept (row := none) ⟨hb.os, hb.tape, hb.output, hb.size, fun k hk _ => hb.block k hk⟩ (by cases v.ownBlock <;> simp)
theorem own_bytes {w : World} {B : Nat} {v : Value} {l : List UInt8} (h : w.ownsRow B 5 1 v l.length (Lib.byteCells l)) (hl : 0 < l.length) :
    ∃ g cap, v = .slice (some ⟨g, 0, none⟩) l.length cap ∧ ∀ q (hq : q < l.length), w.cell? ((⟨g, 0, none⟩ : Addr).add q) = some (.int .u8 (l[q].toNat : Int)) := by
  have hc := fun g (hg : v.ownBlock = some g) => h.cells hg
  rcases h.2 with ⟨_, h0⟩ | ⟨g, cap, cur, hv, _⟩
  · omega
  · subst hv
    exact ⟨g, cap, rfl, fun q hq => hc g rfl q _ (by simp [Lib.byteCells, hq])⟩
end Go.Proofs.YtogmipbdnffegaaGreatDoor
namespace Go.Proofs.YtogmipbdnffegaaGreatDoor
open Go Go.RowKit
set_option linter.unusedVariables false
theorem bv_ne_zero {b : BitVec 64} : (b != 0#64) = true ↔ ∃ j, j < 64 ∧ b.getLsbD j = true := by
  constructor
  · intro h
    rcases Classical.em (∃ j, j < 64 ∧ b.getLsbD j = true) with h' | h'
    · exact h'
    · exfalso
      have e : b = 0#64 := by
        apply BitVec.eq_of_getLsbD_eq
        intro i hi
        cases hb : b.getLsbD i
        · simp
        · exact absurd ⟨i, hi, hb⟩ h'
      rw [e] at h
      exact absurd h (by decide)
  · rintro ⟨j, _, hj⟩
    rw [bne_iff_ne]
    rintro rfl
    simp at hj
theorem st_zero (d : Vx) (j : Nat) : st d j ≠ 48 ↔ (d.v ||| d.x).getLsbD j = true := by
  unfold st
  rw [BitVec.getLsbD_or]
  cases d.v.getLsbD j <;> cases d.x.getLsbD j <;> simp <;> decide
/-- a digit that doesn't fit: one of its states from the width on is no 0, and it isn't an x or z of which a bit lies within -/
theorem exc_iff {size : Nat} {d : Vx} (hd : d.ok size) (n at_ : Nat) :
    excB d ((n : Int) - (at_ : Int)) = true ↔ ∃ j, j < size ∧ n ≤ at_ + j ∧ st d j ≠ 48 ∧ (at_ < n → d.x = 0#64) := by
  have hi := hd.hi
  unfold excB
  by_cases h : n ≤ at_
  · rw [if_pos (by omega), bv_ne_zero]
    constructor
    · rintro ⟨j, hj, hb⟩
      have hjs : j < size := by
        rcases Nat.lt_or_ge j size with h' | h'
        · exact h'
        · rw [BitVec.getLsbD_or, hd.subv j h', hd.subx j h'] at hb
          cases hb
      exact ⟨j, hjs, by omega, (st_zero d j).2 hb, by omega⟩
    · rintro ⟨j, hj, _, hs, _⟩
      exact ⟨j, by omega, (st_zero d j).1 hs⟩
  · rw [if_neg (by omega), Bool.and_eq_true, bv_ne_zero, beq_iff_eq]
    have e : ((n : Int) - (at_ : Int)).toNat = n - at_ := by omega
    rw [e]
    constructor
    · rintro ⟨hx, j, hj, hb⟩
      rw [BitVec.getLsbD_ushiftRight] at hb
      have hjs : n - at_ + j < size := by
        rcases Nat.lt_or_ge (n - at_ + j) size with h' | h'
        · exact h'
        · rw [hd.subv _ h'] at hb
          cases hb
      exact ⟨n - at_ + j, hjs, by omega, (st_zero d _).2 (by rw [BitVec.getLsbD_or, hb]; rfl), fun _ => hx⟩
    · rintro ⟨j, hj, hn, hs, hx⟩
      have hx := hx (by omega)
      refine ⟨hx, j - (n - at_), by omega, ?_⟩
      rw [BitVec.getLsbD_ushiftRight, show n - at_ + (j - (n - at_)) = j by omega]
      have := (st_zero d j).1 hs
      rw [BitVec.getLsbD_or, hx] at this
      simpa using this
theorem rdE_iff {n size : Nat} (z1 : 1 ≤ size) (z2 : size ≤ 4) (s : ByteArray) (i : Nat) :
    rdE n size s i = true ↔ ∃ j, j < size ∧ n ≤ i * size + j ∧ st (dbits size (dgt s i)) j ≠ 48 ∧ (i * size < n → (dbits size (dgt s i)).x = 0#64) := by
  have h := exc_iff (dbits_ok z1 (by omega : size ≤ 64) (dgt s i)) n (i * size)
  unfold rdE
  rw [← h, show ((i * size : Nat) : Int) = (i : Int) * (size : Int) by simp]
/-- the states of the digits, the lowest first, as the reference lays them -/
def dl (size : Nat) (s : ByteArray) : Nat → List UInt8
  | 0 => []
  | k + 1 => dl size s k ++ (List.range size).map (st (dbits size (dgt s k)))
theorem dl_len (size : Nat) (s : ByteArray) (k : Nat) : (dl size s k).length = k * size := by
  induction k with
  | zero => simp [dl]
  | succ k ih => simp [dl, ih, Nat.succ_mul]
theorem dl_at (size : Nat) (s : ByteArray) (k i j : Nat) (hi : i < k) (hj : j < size) : (dl size s k).getD (i * size + j) 48 = st (dbits size (dgt s i)) j := by
  induction k with
  | zero => omega
  | succ k ih =>
    unfold dl
    rw [List.getD_eq_getElem?_getD]
    by_cases h : i < k
    · have hm : i * size + j < k * size := by
        have := Nat.mul_le_mul_right size (show i + 1 ≤ k from h)
        rw [Nat.succ_mul] at this
        omega
      rw [List.getElem?_append_left (by rw [dl_len]; exact hm), ← List.getD_eq_getElem?_getD]
      exact ih h
    · obtain rfl : i = k := by omega
      rw [List.getElem?_append_right (by rw [dl_len]; omega), dl_len, show i * size + j - i * size = j by omega, List.getElem?_map, List.getElem?_range hj]
      rfl
/-- how many states an x or z digit has above the width n, a bit of which lies within it (after k digits) -/
def loo (n size : Nat) (s : ByteArray) : Nat → Nat
  | 0 => 0
  | k + 1 => if (dgt s k = 120 ∨ dgt s k = 122) ∧ k * size < n ∧ n < k * size + size then k * size + size - n else loo n size s k
theorem dbits_x {size : Nat} (z1 : 1 ≤ size) (z2 : size ≤ 4) (c : Nat) : (dbits size c).x = 0#64 ↔ ¬ (c = 120 ∨ c = 122) := by
  have hm : msk size ≠ 0#64 := by
    intro h
    have := congrArg (fun b : BitVec 64 => b.getLsbD 0) h
    simp only [msk_bit (show size ≤ 64 by omega)] at this
    simp at this
    omega
  unfold dbits
  by_cases h1 : c = 120
  · rw [if_pos h1]; simp [fl, hm, h1]
  · rw [if_neg h1]
    by_cases h2 : c = 122
    · rw [if_pos h2]; simp [fl, hm, h2]
    · rw [if_neg h2]; simp [kv, h1, h2]
theorem loo_spec (n size : Nat) (s : ByteArray) (K : Nat) :
    (∃ k, k < K ∧ (dgt s k = 120 ∨ dgt s k = 122) ∧ k * size < n ∧ n < k * size + size ∧ loo n size s K = k * size + size - n) ∨
    ((∀ k, k < K → k * size < n → n < k * size + size → ¬ (dgt s k = 120 ∨ dgt s k = 122)) ∧ loo n size s K = 0) := by
  induction K with
  | zero => exact .inr ⟨fun k hk => by omega, rfl⟩
  | succ K ih =>
    unfold loo
    by_cases h : (dgt s K = 120 ∨ dgt s K = 122) ∧ K * size < n ∧ n < K * size + size
    · rw [if_pos h]
      exact .inl ⟨K, by omega, h.1, h.2.1, h.2.2, rfl⟩
    · rw [if_neg h]
      rcases ih with ⟨k, hk, h1, h2, h3, h4⟩ | ⟨h1, h2⟩
      · exact .inl ⟨k, by omega, h1, h2, h3, h4⟩
      · refine .inr ⟨fun k hk a b => ?_, h2⟩
        by_cases hkK : k < K
        · exact h1 k hkK a b
        · obtain rfl : k = K := by omega
          exact fun hx => h ⟨hx, a, b⟩
theorem strad_one {n size k m : Nat} (h1 : k * size < n) (h2 : n < k * size + size) (h3 : m * size < n) (h4 : n < m * size + size) : k = m := by
  rcases Nat.lt_trichotomy k m with h | h | h
  · have := Nat.mul_le_mul_right size (show k + 1 ≤ m from h)
    rw [Nat.succ_mul] at this
    omega
  · exact h
  · have := Nat.mul_le_mul_right size (show m + 1 ≤ k from h)
    rw [Nat.succ_mul] at this
    omega
/-- the reference's and the program's word on a text that is too large are one -/
theorem large_iff {n size : Nat} (z1 : 1 ≤ size) (z2 : size ≤ 4) (s : ByteArray) :
    (∃ i, n + loo n size s s.size ≤ i ∧ i < s.size * size ∧ (dl size s s.size).getD i 48 ≠ 48) ↔ ∃ k, k < s.size ∧ rdE n size s k = true := by
  constructor
  · rintro ⟨i, h1, h2, h3⟩
    have hm : i % size < size := Nat.mod_lt _ (by omega)
    have hi : i / size * size + i % size = i := by rw [Nat.mul_comm]; exact Nat.div_add_mod i size
    have hk : i / size < s.size := (Nat.div_lt_iff_lt_mul (by omega)).2 h2
    refine ⟨i / size, hk, (rdE_iff z1 z2 s _).2 ⟨i % size, hm, by omega, ?_, fun hlt => ?_⟩⟩
    · rw [← dl_at size s s.size _ _ hk hm, hi]; exact h3
    · rw [dbits_x z1 z2]
      intro hx
      have hs : n < i / size * size + size := by omega
      rcases loo_spec n size s s.size with ⟨k, _, _, g2, g3, g4⟩ | ⟨g1, _⟩
      · have := strad_one g2 g3 hlt hs
        subst this
        omega
      · exact g1 _ hk hlt hs hx
  · rintro ⟨k, hk, he⟩
    obtain ⟨j, hj, h1, h2, h3⟩ := (rdE_iff z1 z2 s k).1 he
    have hle : k * size + size ≤ s.size * size := by
      have := Nat.mul_le_mul_right size (show k + 1 ≤ s.size from hk)
      rw [Nat.succ_mul] at this
      exact this
    refine ⟨k * size + j, ?_, by omega, by rw [dl_at size s s.size k j hk hj]; exact h2⟩
    rcases loo_spec n size s s.size with ⟨m, _, g1, g2, g3, g4⟩ | ⟨_, g2⟩
    · by_cases hlt : k * size < n
      · have := strad_one g2 g3 hlt (by omega)
        subst this
        exact absurd g1 ((dbits_x z1 z2 _).1 (h3 hlt))
      · have hmk : m < k := by
          rcases Nat.lt_or_ge m k with h' | h'
          · exact h'
          · have := Nat.mul_le_mul_right size h'
            omega
        have := Nat.mul_le_mul_right size (show m + 1 ≤ k from hmk)
        rw [Nat.succ_mul] at this
        omega
    · omega
end Go.Proofs.YtogmipbdnffegaaGreatDoor
namespace Go.Proofs.YtogmipbdnffegaaGreatDoor
open Go Go.RowKit
set_option linter.unusedVariables false
theorem ne_off {p o o' : Nat} (h : o ≠ o') : (⟨p, o, none⟩ : Addr) ≠ ⟨p, o', none⟩ := fun e => h (by injection e)
theorem ne_blk {p q o o' : Nat} (h : p ≠ q) : (⟨p, o, none⟩ : Addr) ≠ ⟨q, o', none⟩ := fun e => h (by injection e)
theorem put3 {W : World} {p : Nat} {u0 u1 u2 : Value} (v0 v1 v2 : Value) (h0 : W.cell? ⟨p, 0, none⟩ = some u0) (h1 : W.cell? ⟨p, 1, none⟩ = some u1) (h2 : W.cell? ⟨p, 2, none⟩ = some u2) :
    (((W.setCell ⟨p, 0, none⟩ v0).setCell ⟨p, 1, none⟩ v1).setCell ⟨p, 2, none⟩ v2).cell? ⟨p, 0, none⟩ = some v0 ∧ (((W.setCell ⟨p, 0, none⟩ v0).setCell ⟨p, 1, none⟩ v1).setCell ⟨p, 2, none⟩ v2).cell? ⟨p, 1, none⟩ = some v1 ∧ (((W.setCell ⟨p, 0, none⟩ v0).setCell ⟨p, 1, none⟩ v1).setCell ⟨p, 2, none⟩ v2).cell? ⟨p, 2, none⟩ = some v2 ∧
    (∀ q o, q ≠ p → (((W.setCell ⟨p, 0, none⟩ v0).setCell ⟨p, 1, none⟩ v1).setCell ⟨p, 2, none⟩ v2).cell? ⟨q, o, none⟩ = W.cell? ⟨q, o, none⟩) ∧ (∀ q o, (((W.setCell ⟨p, 0, none⟩ v0).setCell ⟨p, 1, none⟩ v1).setCell ⟨p, 2, none⟩ v2).frozen? ⟨q, o, none⟩ = W.frozen? ⟨q, o, none⟩) := by
  refine ⟨?_, ?_, ?_, fun q o hq => ?_, fun q o => ?_⟩
  · rw [World.cell?_setCell_other _ _ _ _ (ne_off (by decide)), World.cell?_setCell_other _ _ _ _ (ne_off (by decide)), World.cell?_setCell_same _ _ _ h0]
  · rw [World.cell?_setCell_other _ _ _ _ (ne_off (by decide)), World.cell?_setCell_same (u := u1) _ _ _ (by rw [World.cell?_setCell_other _ _ _ _ (ne_off (by decide)), h1])]
  · rw [World.cell?_setCell_same (u := u2) _ _ _ (by rw [World.cell?_setCell_other _ _ _ _ (ne_off (by decide)), World.cell?_setCell_other _ _ _ _ (ne_off (by decide)), h2])]
  · rw [World.cell?_setCell_other _ _ _ _ (ne_blk (Ne.symm hq)), World.cell?_setCell_other _ _ _ _ (ne_blk (Ne.symm hq)), World.cell?_setCell_other _ _ _ _ (ne_blk (Ne.symm hq))]
  · rw [World.frozen?_setCell, World.frozen?_setCell, World.frozen?_setCell]
theorem kcell0 {W w' : World} {p o : Nat} {v : Value} (hb : Below W.heap.size W w') (h : W.cell? ⟨p, o, none⟩ = some v) : w'.cell? ⟨p, o, none⟩ = some v :=
  (hb.cell (p := ⟨p, o, none⟩) (World.block_lt_of_cell? W _ h)).trans h
theorem kfree {W w' : World} {p : Nat} (hb : Below W.heap.size W w') (hp : p < W.heap.size) (h : ∀ o, W.frozen? ⟨p, o, none⟩ = false) : ∀ o, w'.frozen? ⟨p, o, none⟩ = false :=
  fun o => (hb.frozen (p := ⟨p, o, none⟩) hp).trans (h o)
end Go.Proofs.YtogmipbdnffegaaGreatDoor
namespace Go.Proofs.YtogmipbdnffegaaGreatDoor
open Go Go.RowKit
set_option linter.unusedVariables false
/-- the states of the first k bits, the lowest first -/
def vl (a : Vx) (k : Nat) : List UInt8 := (List.range k).map (st a)
theorem vl_succ (a : Vx) (k : Nat) : vl a (k + 1) = vl a k ++ [st a k] := by unfold vl; rw [List.range_succ]; simp
theorem vl_len (a : Vx) (k : Nat) : (vl a k).length = k := by unfold vl; simp
theorem bit_one (v : BitVec 64) (i : Nat) (hi : i < 64) : (v >>> i &&& 1#64 == 1#64) = v.getLsbD i := by
  have e : v >>> i &&& 1#64 = if v.getLsbD i then 1#64 else 0#64 := by
    apply BitVec.eq_of_getLsbD_eq
    intro j hj
    rw [BitVec.getLsbD_and, BitVec.getLsbD_ushiftRight]
    by_cases h0 : j = 0
    · subst h0; cases h : v.getLsbD i <;> simp [h]
    · have h1 : (1#64).getLsbD j = false := by
        rw [BitVec.getLsbD_one]; simp [h0]
      rw [h1, Bool.and_false]
      split
      · exact h1.symm
      · simp
  rw [e]; cases v.getLsbD i <;> decide
end Go.Proofs.YtogmipbdnffegaaGreatDoor
namespace Go.Proofs.YtogmipbdnffegaaGreatDoor
open Go Go.RowKit
set_option linter.unusedVariables false
theorem st_eq_ {a b : Vx} {i j : Nat} (h1 : a.v.getLsbD i = b.v.getLsbD j) (h2 : a.x.getLsbD i = b.x.getLsbD j) : st a i = st b j := by unfold st; rw [h1, h2]
theorem vput_st {n m k : Nat} {a p : Vx} (hn : n ≤ 64) (hm : m ≤ 64) {i : Nat} (hi : i < n) : st (vput n m a k p) i = if k ≤ i ∧ i - k < m then st p (i - k) else st a i := by
  have h64 : i < 64 := by omega
  by_cases c : k ≤ i ∧ i - k < m
  · rw [if_pos c]
    obtain ⟨c1, c2⟩ := c
    have c3 : ¬ i < k := by omega
    apply st_eq_ <;> simp only [vput, plc, BitVec.getLsbD_or, BitVec.getLsbD_and, BitVec.getLsbD_not, BitVec.getLsbD_shiftLeft, BitVec.getLsbD_ushiftRight, decide_true, decide_false, Bool.true_and, Bool.and_true, Bool.not_true, Bool.not_false, Bool.and_false, Bool.false_and, Bool.or_false, Bool.false_or, Bool.and_self, Bool.or_true, Bool.true_or, msk_bit hn, msk_bit hm, hi, h64, c2, c3]
  · rw [if_neg c]
    by_cases c3 : i < k
    · apply st_eq_ <;> simp only [vput, plc, BitVec.getLsbD_or, BitVec.getLsbD_and, BitVec.getLsbD_not, BitVec.getLsbD_shiftLeft, BitVec.getLsbD_ushiftRight, decide_true, decide_false, Bool.true_and, Bool.and_true, Bool.not_true, Bool.not_false, Bool.and_false, Bool.false_and, Bool.or_false, Bool.false_or, Bool.and_self, Bool.or_true, Bool.true_or, msk_bit hn, msk_bit hm, hi, h64, c3]
    · have c2 : ¬ i - k < m := fun e => c ⟨by omega, e⟩
      apply st_eq_ <;> simp only [vput, plc, BitVec.getLsbD_or, BitVec.getLsbD_and, BitVec.getLsbD_not, BitVec.getLsbD_shiftLeft, BitVec.getLsbD_ushiftRight, decide_true, decide_false, Bool.true_and, Bool.and_true, Bool.not_true, Bool.not_false, Bool.and_false, Bool.false_and, Bool.or_false, Bool.false_or, Bool.and_self, Bool.or_true, Bool.true_or, msk_bit hn, msk_bit hm, hi, h64, c2, c3]
/-- the state above the digits: the first digit's where it is an x or z, else 0 -/
def fst_ (s : ByteArray) : UInt8 := if dgt s (s.size - 1) = 120 then 120 else if dgt s (s.size - 1) = 122 then 122 else 48
theorem rdI_st {n : Nat} (h2 : n ≤ 64) (s : ByteArray) {i : Nat} (hi : i < n) : st (rdI n s) i = fst_ s := by
  unfold rdI fst_
  by_cases h1 : dgt s (s.size - 1) = 120
  · rw [if_pos h1, if_pos h1]
    simp [st, fl, msk_bit h2, hi]
  · rw [if_neg h1, if_neg h1]
    by_cases h3 : dgt s (s.size - 1) = 122
    · rw [if_pos h3, if_pos h3]
      simp [st, fl, msk_bit h2, hi]
    · rw [if_neg h3, if_neg h3]
      simp [st, kv]
theorem dl_left (size : Nat) (s : ByteArray) (K i : Nat) (h : i < K * size) : (dl size s (K + 1)).getD i 48 = (dl size s K).getD i 48 := by
  show (dl size s K ++ _).getD i 48 = _
  rw [List.getD_eq_getElem?_getD, List.getElem?_append_left (by rw [dl_len]; exact h), ← List.getD_eq_getElem?_getD]
theorem rdB_st {n size : Nat} (h2 : n ≤ 64) (z2 : size ≤ 4) (s : ByteArray) (K : Nat) {i : Nat} (hi : i < n) :
    st (rdB n size s K) i = if i < K * size then (dl size s K).getD i 48 else fst_ s := by
  induction K with
  | zero =>
    rw [if_neg (by omega)]
    exact rdI_st h2 s hi
  | succ K ih =>
    show st (vput n size (rdB n size s K) (K * size) (dbits size (dgt s K))) i = _
    rw [vput_st h2 (by omega) hi, Nat.succ_mul]
    by_cases c : K * size ≤ i ∧ i - K * size < size
    · rw [if_pos c, if_pos (by omega)]
      have := dl_at size s (K + 1) K (i - K * size) (by omega) c.2
      rw [show K * size + (i - K * size) = i by omega] at this
      exact this.symm
    · rw [if_neg c, ih]
      by_cases d : i < K * size
      · rw [if_pos d, if_pos (by omega), dl_left size s K i d]
      · rw [if_neg d, if_neg (by omega)]
/-- the reference's list of states, filled up to the width and cut at it, is that of the program's vector -/
theorem rdB_vl {n size : Nat} (h2 : n ≤ 64) (z2 : size ≤ 4) (s : ByteArray) :
    vl (rdB n size s s.size) n = (dl size s s.size ++ List.replicate (n - s.size * size) (fst_ s)).take n := by
  apply List.ext_getElem?
  intro i
  by_cases hi : i < n
  · rw [List.getElem?_take_of_lt hi]
    unfold vl
    rw [List.getElem?_map, List.getElem?_range hi]
    show some (st _ i) = _
    rw [rdB_st h2 z2 s s.size hi]
    by_cases c : i < s.size * size
    · rw [if_pos c, List.getElem?_append_left (by rw [dl_len]; exact c), List.getD_eq_getElem?_getD, List.getElem?_eq_getElem (by rw [dl_len]; exact c)]
      rfl
    · rw [if_neg c, List.getElem?_append_right (by rw [dl_len]; omega), dl_len, List.getElem?_replicate, if_pos (by omega)]
  · rw [List.getElem?_eq_none (by rw [vl_len]; omega), List.getElem?_eq_none (by rw [List.length_take]; omega)]
end Go.Proofs.YtogmipbdnffegaaGreatDoor
