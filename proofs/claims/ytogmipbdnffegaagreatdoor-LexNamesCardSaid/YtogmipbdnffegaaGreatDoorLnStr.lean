/- The token of a string: the reference. -/
import Derived.Test.YtogmipbdnffegaaGreatDoorQtQ
import Derived.LoopTactic
namespace Go.Proofs.YtogmipbdnffegaaGreatDoor
open Go Go.RowKit
set_option linter.unusedVariables false
theorem ext_one (s : ByteArray) (k : Nat) (h : k < s.size) : s.extract k (k + 1) = qbs [s[k]] := by
  apply ByteArray.ext
  apply Array.ext'
  have hl : k < s.data.toList.length := by rw [Array.length_toList]; exact h
  rw [ByteArray.data_extract]
  show (s.data.extract k (k + 1)).toList = [s[k]]
  rw [Array.toList_extract]
  rw [List.extract_eq_take_drop, Nat.add_sub_cancel_left, List.drop_eq_getElem_cons hl]
  rfl
theorem qbs_app (a b : List UInt8) : qbs a ++ qbs b = qbs (a ++ b) := by
  apply ByteArray.ext
  simp [qbs, ByteArray.data_append]
theorem esc_bound (s : ByteArray) (hs : s.size ≤ 1000) (k : Nat) (hk : k ≤ s.size) : (qbs ([34] ++ escL (s.data.toList.take k))).size ≤ 3001 := by
  show ([34] ++ escL (s.data.toList.take k)).toArray.size ≤ 3001
  have h := escL_len (s.data.toList.take k)
  have h1 := cntB_le 92 (s.data.toList.take k)
  have h2 := cntB_le 34 (s.data.toList.take k)
  have hll : (s.data.toList.take k).length ≤ s.size := by rw [List.length_take, Array.length_toList]; exact Nat.min_le_right _ _
  rw [List.size_toArray, List.length_append]
  show 1 + _ ≤ _
  omega
theorem esc_next (s : ByteArray) (k : Nat) (h : k < s.size) : qbs ([34] ++ escL (s.data.toList.take (k + 1))) = qbs ([34] ++ escL (s.data.toList.take k)) ++ qbs (escC s[k]) := by
  have hl : k < s.data.toList.length := by rw [Array.length_toList]; exact h
  rw [escL_take _ _ hl, qbs_app, List.append_assoc]
  rfl
set_option maxRecDepth 100000 in
set_option maxHeartbeats 2000000 in
theorem rstring_any (s : ByteArray) (hs : s.size ≤ 1000) (w : World) : Calls Tryz.prog 17 #[.string s] w fun e w' => e = .returned (.string (qbs (quoL s.data.toList))) ∧ w = w' := by
  go_enter Tryz.func17, Tryz.ntmps17
  go_wp2_with fail
  go_loop [3, 7] (fun x i => ∃ (k : Nat) (X : ByteArray), k ≤ s.size ∧ i = .int .i64 (k : Int) ∧ x = .string X ∧ X.size ≤ 3001 ∧ Hid (X = qbs ([34] ++ escL (s.data.toList.take k)))) (fun _ i => s.size - (intOf i).toNat)
  case atStart => exact ⟨0, _, Nat.zero_le _, rfl, rfl, by show 1 ≤ 3001; omega, Lib.hid rfl⟩
  case round =>
    obtain ⟨k, X, hk, rfl, rfl, hX, HX⟩ := hrel
    have hk0 : (0 : Int) ≤ (k : Int) := by omega
    by_cases hlt : k < s.size
    · have hki : (k : Int) < (s.size : Int) := by omega
      have hk1 : (k : Int) + 1 ≤ (s.size : Int) := by omega
      have hnx := esc_next s k hlt
      have hbd := esc_bound s hs (k + 1) (by omega)
      rw [hnx, ← HX.out] at hbd
      have e1 := ext_one s k hlt
      have HE1 := Lib.hid e1
      have hz1 : (s.extract k (k + 1)).size = 1 := by rw [e1]; rfl
      clear e1
      by_cases e92 : s[k] = 92
      · have hb : s[k].toNat = 92 := by rw [e92]; rfl
        have hesc : escC s[k] = [92, 92] := by rw [e92]; rfl
        rw [hesc] at hbd hnx
        have hX2 : X ++ ⟨#[92]⟩ ++ s.extract k (k + 1) = X ++ qbs [92, 92] := by
          rw [HE1.out, e92, ByteArray.append_assoc]
          rfl
        have HX2 : Hid (X ++ ⟨#[92]⟩ ++ s.extract k (k + 1) = qbs ([34] ++ escL (s.data.toList.take (k + 1)))) := Lib.hid (by rw [hX2, hnx, HX.out])
        have HZ2 : (X ++ ⟨#[92]⟩ ++ s.extract k (k + 1)).size ≤ 3001 := by rw [hX2]; exact hbd
        clear hX2 hesc hnx hbd e92 HE1
        go_wp2_with fail
        go_round
        case rel => exact ⟨k + 1, _, by omega, by go_num, rfl, HZ2, HX2⟩
        case measure => simp [intOf] <;> omega
      · by_cases e34 : s[k] = 34
        · have hb : s[k].toNat = 34 := by rw [e34]; rfl
          have hesc : escC s[k] = [92, 34] := by rw [e34]; rfl
          rw [hesc] at hbd hnx
          have hX2 : X ++ ⟨#[92]⟩ ++ s.extract k (k + 1) = X ++ qbs [92, 34] := by
            rw [HE1.out, e34, ByteArray.append_assoc]
            rfl
          have HX2 : Hid (X ++ ⟨#[92]⟩ ++ s.extract k (k + 1) = qbs ([34] ++ escL (s.data.toList.take (k + 1)))) := Lib.hid (by rw [hX2, hnx, HX.out])
          have HZ2 : (X ++ ⟨#[92]⟩ ++ s.extract k (k + 1)).size ≤ 3001 := by rw [hX2]; exact hbd
          clear hX2 hesc hnx hbd e92 e34 HE1
          go_wp2_with fail
          go_round
          case rel => exact ⟨k + 1, _, by omega, by go_num, rfl, HZ2, HX2⟩
          case measure => simp [intOf] <;> omega
        · have n92 : ¬ s[k].toNat = 92 := fun h => e92 (UInt8.toNat_inj.1 h)
          have n34 : ¬ s[k].toNat = 34 := fun h => e34 (UInt8.toNat_inj.1 h)
          have hb92 : ((s[k].toNat : Int) == 92) = false := beq_eq_false_iff_ne.2 (by omega)
          have hb34 : ((s[k].toNat : Int) == 34) = false := beq_eq_false_iff_ne.2 (by omega)
          have hesc : escC s[k] = [s[k]] := by unfold escC; rw [if_neg e92, if_neg e34]
          rw [hesc] at hbd hnx
          have HX2 : Hid (X ++ s.extract k (k + 1) = qbs ([34] ++ escL (s.data.toList.take (k + 1)))) := Lib.hid (by rw [HE1.out, hnx, HX.out])
          have HZ2 : (X ++ s.extract k (k + 1)).size ≤ 3001 := by rw [HE1.out]; exact hbd
          clear hesc hnx hbd e92 e34 HE1 n92 n34
          go_wp2_with fail
          go_round
          case rel => exact ⟨k + 1, _, by omega, by go_num, rfl, HZ2, HX2⟩
          case measure => simp [intOf] <;> omega
    · obtain rfl : k = s.size := by omega
      have he : X ++ ⟨#[34]⟩ = qbs (quoL s.data.toList) := by
        rw [HX.out, List.take_of_length_le (by rw [Array.length_toList]; exact Nat.le_refl _)]
        exact qbs_app _ [34]
      have HE := Lib.hid he
      clear he HX
      go_wp2_with fail
      go_ret
      exact ⟨by rw [← HE.out]; rfl, rfl⟩
end Go.Proofs.YtogmipbdnffegaaGreatDoor
