/- takeApart of texts that it looks into further.
   takeApart of texts that it looks into further. -/
import Derived.Test.YtogmipbdnffegaaGreatDoorMgTxt
import Derived.Test.YtogmipbdnffegaaGreatDoorMgDec
namespace Go.Proofs.YtogmipbdnffegaaGreatDoor
open Go Go.RowKit
set_option linter.unusedVariables false
set_option maxRecDepth 100000 in
set_option maxHeartbeats 8000000 in
theorem ap_h (s wd rs r0 : ByteArray) (hs : s.size < 4294967281) (m : Int) (w : World) (hm : w.cell? ⟨2, 0, none⟩ = some (.int .i64 m)) (hw : 2 < w.heap.size)
    (hc : Hid (Lib.cut s.data.toList (⟨#[39]⟩ : ByteArray).data.toList = (wd.data.toList, r0.data.toList, true))) (ht : Hid (Lib.trimPrefix r0.data.toList (⟨#[115]⟩ : ByteArray).data.toList = rs.data.toList))
    (w1 : 0 < wd.size) (w2 : ((wd[0].toNat : Int) == 48) = false) (w3 : Hid (allB (fun c => isDig c.toNat) wd = true)) (hr : 2 ≤ rs.size) (hwl : wd.size ≤ s.size) (hrl : rs.size ≤ s.size)
    (hr0 : 0 < rs.size) (hb : ((rs[0].toNat : Int) == 100) = false) (hz1 : 1 ≤ dw rs[0].toNat) (hz2 : dw rs[0].toNat ≤ 4) (hd : Hid (allB (fun c => digOk (dw rs[0].toNat) c.toNat) (rs.extract 1 rs.size) = false)) :
    Calls Tryz.prog 91 #[.string s] w fun e w' => e = .returned (.tuple #[.agg #[.int .i64 (rwd wd wd.size), .int .u8 rs[0].toNat, .string (rs.extract 1 rs.size)], .bool false]) ∧ Below w.heap.size w w' := by
  have hr2 : (1 : Int) ≤ (rs.size : Int) := by omega
  have hr1 : 1 ≤ rs.size := by omega
  have hby : rs[0].toNat ≤ 255 := by have := rs[0].toNat_lt; omega
  have hsz : (rs.extract 1 rs.size).size ≤ 9223372036854775807 := by simp; omega
  have wne := toList_ne w1
  have wne2 : wd.toList.isEmpty = false := by simpa using wne
  go_enter Tryz.func91, Tryz.ntmps91
  go_wp2_with fail
  refine (Tryz.strings_Cut _ _ m _ hs (by go_simp)).mono ?_
  rintro e w' ⟨rfl, n1, rfl⟩
  have x0 : ((w.alloc (Obj.cells #[Value.int IntKind.i64 0, Value.int IntKind.u8 0, Value.string { data := #[] }] 129)).drewN n1).cell? ⟨w.heap.size, 0, none⟩ = some (.int .i64 0) := by go_simp
  have x1 : ((w.alloc (Obj.cells #[Value.int IntKind.i64 0, Value.int IntKind.u8 0, Value.string { data := #[] }] 129)).drewN n1).cell? ⟨w.heap.size, 1, none⟩ = some (.int .u8 0) := by go_simp
  have x2 : ((w.alloc (Obj.cells #[Value.int IntKind.i64 0, Value.int IntKind.u8 0, Value.string { data := #[] }] 129)).drewN n1).cell? ⟨w.heap.size, 2, none⟩ = some (.string ⟨#[]⟩) := by go_simp
  have xf : ∀ o, ((w.alloc (Obj.cells #[Value.int IntKind.i64 0, Value.int IntKind.u8 0, Value.string { data := #[] }] 129)).drewN n1).frozen? ⟨w.heap.size, o, none⟩ = false := fun o => by go_simp
  have xz : w.heap.size < ((w.alloc (Obj.cells #[Value.int IntKind.i64 0, Value.int IntKind.u8 0, Value.string { data := #[] }] 129)).drewN n1).heap.size := by go_simp
  have xb : Below w.heap.size w ((w.alloc (Obj.cells #[Value.int IntKind.i64 0, Value.int IntKind.u8 0, Value.string { data := #[] }] 129)).drewN n1) := below_drewN ((Below.refl _ _).alloc (Nat.le_refl _) _) _
  generalize ((w.alloc (Obj.cells #[Value.int IntKind.i64 0, Value.int IntKind.u8 0, Value.string { data := #[] }] 129)).drewN n1) = wx at x0 x1 x2 xf xz xb ⊢
  rw [hc.out]
  simp only [Array.toArray_toList, ba_eta]
  go_wp2_with fail
  refine (Tryz.strings_TrimPrefix _ _ _).mono ?_
  rintro e w' ⟨rfl, rfl⟩
  rw [ht.out]
  simp only [Array.toArray_toList, ba_eta]
  go_wp2_with fail
  refine (every_dec wd (by omega) _).mono ?_
  rintro e w' ⟨rfl, rfl⟩
  rw [w3.out]
  go_wp2_with fail
  go_cut [7] (fun s7 wx => ∃ g : Nat, s7 = .pointer (some ⟨g, 0, none⟩) ∧ ApW w g (rwd wd wd.size) rs[0].toNat (rs.extract 1 rs.size) wx)
  case first =>
    go_region_with ((go_at_call 112; refine (readWidth_any wd (by omega) _).mono ?_; rintro e w' ⟨rfl, rfl⟩))
    all_goals
      go_wp2_with fail
      go_meet
      exact ⟨_, rfl, ⟨by go_simp, by go_simp, by go_simp, fun o => by go_simp, by go_simp, by go_simp, by go_simp, fun o => by go_simp, xz, by (repeat (first | exact Below.refl _ _ | exact Nat.le_refl _ | refine below_drewN ?_ _ | refine Below.drew ?_ | refine Below.alloc ?_ ?_ _ | refine Below.setCell ?_ ?_ _ | refine below_step (by assumption) ?_ ?_)) <;> (first | omega | (simp <;> omega))⟩⟩
  case rest =>
    obtain ⟨g, rfl, ⟨c0, c1, c2, cf, r0', r1', r2', rf', gp, glo⟩⟩ := hcut
    have gz := World.block_lt_of_cell? wc _ c0
    have rz := World.block_lt_of_cell? wc _ r0'
    clear x0 x1 x2 xf xz
    go_wp2_with fail
    have hz0 : 0 < dw rs[0].toNat := by omega
    refine (digitWidth_any _ hby _).mono ?_
    rintro e w' ⟨rfl, rfl⟩
    go_wp2_with fail
    go_region_with ((go_at_call 110; refine (every_clos (rs.extract 1 rs.size) hsz (dw rs[0].toNat) _ hz2 _ (by go_simp)).mono ?_; rintro e w' ⟨rfl, nq, hnq⟩; subst hnq; rw [hd.out]))
    all_goals
      go_wp2_with fail
      exact bodyPost_ret (v := .tuple #[.agg #[.int .i64 (rwd wd wd.size), .int .u8 rs[0].toNat, .string (rs.extract 1 rs.size)], .bool false]) (by simp [results, Tryz.results91, go_sem, r0', r1', r2', rz]) rfl ⟨rfl, by (repeat (first | exact Below.refl _ _ | exact Nat.le_refl _ | refine below_drewN ?_ _ | refine Below.drew ?_ | refine Below.alloc ?_ ?_ _ | refine Below.setCell ?_ ?_ _ | refine below_step (by assumption) ?_ ?_)) <;> (first | omega | (simp <;> omega))⟩
end Go.Proofs.YtogmipbdnffegaaGreatDoor
namespace Go.Proofs.YtogmipbdnffegaaGreatDoor
open Go Go.RowKit
set_option linter.unusedVariables false
set_option maxRecDepth 100000 in
set_option maxHeartbeats 8000000 in
theorem ap_g (s wd rs r0 : ByteArray) (hs : s.size < 4294967281) (m : Int) (w : World) (hm : w.cell? ⟨2, 0, none⟩ = some (.int .i64 m)) (hw : 2 < w.heap.size)
    (hc : Hid (Lib.cut s.data.toList (⟨#[39]⟩ : ByteArray).data.toList = (wd.data.toList, r0.data.toList, true))) (ht : Hid (Lib.trimPrefix r0.data.toList (⟨#[115]⟩ : ByteArray).data.toList = rs.data.toList))
    (w1 : 0 < wd.size) (w2 : ((wd[0].toNat : Int) == 48) = false) (w3 : Hid (allB (fun c => isDig c.toNat) wd = true)) (hr : 2 ≤ rs.size) (hwl : wd.size ≤ s.size) (hrl : rs.size ≤ s.size)
    (hr0 : 0 < rs.size) (hb : ((rs[0].toNat : Int) == 100) = false) (hz : Hid (dw rs[0].toNat = 0)) :
    Calls Tryz.prog 91 #[.string s] w fun e w' => e = .returned (.tuple #[.agg #[.int .i64 (rwd wd wd.size), .int .u8 rs[0].toNat, .string (rs.extract 1 rs.size)], .bool false]) ∧ Below w.heap.size w w' := by
  have hr2 : (1 : Int) ≤ (rs.size : Int) := by omega
  have hr1 : 1 ≤ rs.size := by omega
  have hby : rs[0].toNat ≤ 255 := by have := rs[0].toNat_lt; omega
  have hsz : (rs.extract 1 rs.size).size ≤ 9223372036854775807 := by simp; omega
  have wne := toList_ne w1
  have wne2 : wd.toList.isEmpty = false := by simpa using wne
  go_enter Tryz.func91, Tryz.ntmps91
  go_wp2_with fail
  refine (Tryz.strings_Cut _ _ m _ hs (by go_simp)).mono ?_
  rintro e w' ⟨rfl, n1, rfl⟩
  have x0 : ((w.alloc (Obj.cells #[Value.int IntKind.i64 0, Value.int IntKind.u8 0, Value.string { data := #[] }] 129)).drewN n1).cell? ⟨w.heap.size, 0, none⟩ = some (.int .i64 0) := by go_simp
  have x1 : ((w.alloc (Obj.cells #[Value.int IntKind.i64 0, Value.int IntKind.u8 0, Value.string { data := #[] }] 129)).drewN n1).cell? ⟨w.heap.size, 1, none⟩ = some (.int .u8 0) := by go_simp
  have x2 : ((w.alloc (Obj.cells #[Value.int IntKind.i64 0, Value.int IntKind.u8 0, Value.string { data := #[] }] 129)).drewN n1).cell? ⟨w.heap.size, 2, none⟩ = some (.string ⟨#[]⟩) := by go_simp
  have xf : ∀ o, ((w.alloc (Obj.cells #[Value.int IntKind.i64 0, Value.int IntKind.u8 0, Value.string { data := #[] }] 129)).drewN n1).frozen? ⟨w.heap.size, o, none⟩ = false := fun o => by go_simp
  have xz : w.heap.size < ((w.alloc (Obj.cells #[Value.int IntKind.i64 0, Value.int IntKind.u8 0, Value.string { data := #[] }] 129)).drewN n1).heap.size := by go_simp
  have xb : Below w.heap.size w ((w.alloc (Obj.cells #[Value.int IntKind.i64 0, Value.int IntKind.u8 0, Value.string { data := #[] }] 129)).drewN n1) := below_drewN ((Below.refl _ _).alloc (Nat.le_refl _) _) _
  generalize ((w.alloc (Obj.cells #[Value.int IntKind.i64 0, Value.int IntKind.u8 0, Value.string { data := #[] }] 129)).drewN n1) = wx at x0 x1 x2 xf xz xb ⊢
  rw [hc.out]
  simp only [Array.toArray_toList, ba_eta]
  go_wp2_with fail
  refine (Tryz.strings_TrimPrefix _ _ _).mono ?_
  rintro e w' ⟨rfl, rfl⟩
  rw [ht.out]
  simp only [Array.toArray_toList, ba_eta]
  go_wp2_with fail
  refine (every_dec wd (by omega) _).mono ?_
  rintro e w' ⟨rfl, rfl⟩
  rw [w3.out]
  go_wp2_with fail
  go_cut [7] (fun s7 wx => ∃ g : Nat, s7 = .pointer (some ⟨g, 0, none⟩) ∧ ApW w g (rwd wd wd.size) rs[0].toNat (rs.extract 1 rs.size) wx)
  case first =>
    go_region_with ((go_at_call 112; refine (readWidth_any wd (by omega) _).mono ?_; rintro e w' ⟨rfl, rfl⟩))
    all_goals
      go_wp2_with fail
      go_meet
      exact ⟨_, rfl, ⟨by go_simp, by go_simp, by go_simp, fun o => by go_simp, by go_simp, by go_simp, by go_simp, fun o => by go_simp, xz, by (repeat (first | exact Below.refl _ _ | exact Nat.le_refl _ | refine below_drewN ?_ _ | refine Below.drew ?_ | refine Below.alloc ?_ ?_ _ | refine Below.setCell ?_ ?_ _ | refine below_step (by assumption) ?_ ?_)) <;> (first | omega | (simp <;> omega))⟩⟩
  case rest =>
    obtain ⟨g, rfl, ⟨c0, c1, c2, cf, r0', r1', r2', rf', gp, glo⟩⟩ := hcut
    have gz := World.block_lt_of_cell? wc _ c0
    have rz := World.block_lt_of_cell? wc _ r0'
    clear x0 x1 x2 xf xz
    go_wp2_with fail
    refine (digitWidth_any _ hby _).mono ?_
    rintro e w' ⟨rfl, rfl⟩
    rw [hz.out]
    go_wp2_with fail
    go_region
    all_goals
      go_wp2_with fail
      exact bodyPost_ret (v := .tuple #[.agg #[.int .i64 (rwd wd wd.size), .int .u8 rs[0].toNat, .string (rs.extract 1 rs.size)], .bool false]) (by simp [results, Tryz.results91, go_sem, r0', r1', r2', rz]) rfl ⟨rfl, by (repeat (first | exact Below.refl _ _ | exact Nat.le_refl _ | refine below_drewN ?_ _ | refine Below.drew ?_ | refine Below.alloc ?_ ?_ _ | refine Below.setCell ?_ ?_ _ | refine below_step (by assumption) ?_ ?_)) <;> (first | omega | (simp <;> omega))⟩
end Go.Proofs.YtogmipbdnffegaaGreatDoor
