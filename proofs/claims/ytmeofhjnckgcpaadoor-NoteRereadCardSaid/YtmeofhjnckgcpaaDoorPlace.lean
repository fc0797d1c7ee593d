/- Place, the reference's PlaceOf, and the law NotePlaces. -/
import Derived.Test.YtmeofhjnckgcpaaDoorNoteT
import Derived.Test.YtmeofhjnckgcpaaDoorPlaceMath
namespace Go.Proofs.YtmeofhjnckgcpaaDoor
open Go Go.RowKit
set_option linter.unusedVariables false
set_option maxHeartbeats 400000 in
theorem place_out (s : ByteArray) (p : Int) (hs : s.size ≤ 9223372036854775807) (h : p < 0 ∨ (s.size : Int) < p) (w : World) : Calls Tryd.prog 26 #[.string s, .int .i64 p] w fun e w' => e = .returned (.tuple #[.int .i64 0, .int .i64 0]) ∧ w = w' := by
  by_cases h0 : p < 0
  · clear h
    go_enter Tryd.func26, Tryd.ntmps26
    go_wp2_with fail
    go_ret2
    exact ⟨rfl, rfl⟩
  · have h1 : (s.size : Int) < p := by omega
    clear h
    go_enter Tryd.func26, Tryd.ntmps26
    go_wp2_with fail
    go_ret2
    exact ⟨rfl, rfl⟩
theorem ret_two {k : IntKind} {a b c d : Int} (h : a = b) (h2 : c = d) : Ending.returned (.tuple #[.int k a, .int k c]) = .returned (.tuple #[.int k b, .int k d]) := by rw [h, h2]
set_option maxHeartbeats 400000 in
theorem place_in (s : ByteArray) (k : Nat) (hk : k ≤ s.size) (hs : s.size ≤ 1000000000) (w : World) : Calls Tryd.prog 26 #[.string s, .int .i64 k] w fun e w' => e = .returned (.tuple #[.int .i64 (plc s k).1, .int .i64 (plc s k).2]) ∧ w = w' := by
  have e1 := place_line s k hk
  have e2 := place_col s k hk
  have hle := plc_le s k
  have hz : (s.extract 0 k).size = k := by simp; omega
  have b1 : (0 : Int) ≤ (Lib.countByte (s.data.toList.take k) 10 : Nat) := by omega
  have b2 : ((Lib.countByte (s.data.toList.take k) 10 : Nat) : Int) ≤ 1000000001 := by omega
  have b3 : -1 ≤ Lib.lastIndexByte (s.extract 0 k) 10 := by omega
  have b4 : Lib.lastIndexByte (s.extract 0 k) 10 ≤ 1000000001 := by omega
  have hk0 : (0 : Int) ≤ (k : Int) := by omega
  have hk1 : ¬ (s.size : Int) < (k : Int) := by omega
  have E1 := Lib.hid e1
  have E2 := Lib.hid e2
  have HZ := Lib.hid hz
  clear e1 e2 hle hz
  go_enter Tryd.func26, Tryd.ntmps26
  go_wp2_with fail
  refine (Tryd.strings_Count_one _ 10 _).mono ?_
  rintro e w' ⟨rfl, rfl⟩
  go_wp2_with fail
  refine (Tryd.strings_LastIndexByte _ 10 (by rw [HZ.out]; omega) _).mono ?_
  rintro e w' ⟨rfl, rfl⟩
  go_wp2_with fail
  go_ret2
  exact ⟨ret_two E1.out E2.out, rfl⟩
set_option maxHeartbeats 400000 in
theorem placeOf_out (s : ByteArray) (p : Int) (hs : s.size ≤ 9223372036854775807) (h : p < 0 ∨ (s.size : Int) < p) (w : World) : Calls Tryd.prog 27 #[.string s, .int .i64 p] w fun e w' => e = .returned (.tuple #[.int .i64 0, .int .i64 0]) ∧ w = w' := by
  by_cases h0 : p < 0
  · clear h
    go_enter Tryd.func27, Tryd.ntmps27
    go_wp2_with fail
    go_ret2
    exact ⟨rfl, rfl⟩
  · have h1 : (s.size : Int) < p := by omega
    clear h
    go_enter Tryd.func27, Tryd.ntmps27
    go_wp2_with fail
    go_ret2
    exact ⟨rfl, rfl⟩
set_option maxHeartbeats 800000 in
theorem placeOf_in (s : ByteArray) (n : Nat) (hn : n ≤ s.size) (hs : s.size ≤ 1000000000) (w : World) : Calls Tryd.prog 27 #[.string s, .int .i64 n] w fun e w' => e = .returned (.tuple #[.int .i64 (plc s n).1, .int .i64 (plc s n).2]) ∧ w = w' := by
  have hn0 : (0 : Int) ≤ (n : Int) := by omega
  have hn1 : ¬ (s.size : Int) < (n : Int) := by omega
  go_enter Tryd.func27, Tryd.ntmps27
  go_wp2_with fail
  go_loop [6, 7, 18] (fun l c i => ∃ k : Nat, k ≤ n ∧ i = .int .i64 k ∧ l = .int .i64 (plc s k).1 ∧ c = .int .i64 (plc s k).2) (fun _ _ i => n - (intOf i).toNat)
  case atStart => exact ⟨0, Nat.zero_le _, rfl, rfl, rfl⟩
  case round =>
    obtain ⟨k, hk, rfl, rfl, rfl⟩ := hrel
    obtain ⟨l1, l2, l3, l4⟩ := plc_le s k
    by_cases hlt : k < n
    · have hks : k < s.size := by omega
      have hg := get_of_lt s k hks
      by_cases h10 : s[k].toNat = 10
      · have ht : ((s[k].toNat : Int) == 10) = true := by simp; omega
        have HS : Hid (plc s (k + 1) = ((plc s k).1 + 1, 1)) := by
          show plc s (k + 1) = _
          conv => lhs; unfold plc
          rw [hg, if_pos (by omega)]
        clear hg h10
        go_wp2_with fail
        go_round
        case rel => exact ⟨k + 1, by omega, by go_num, by rw [HS.out]; go_num, by rw [HS.out]; rfl⟩
        case measure => simp [intOf]; omega
      · have ht : ((s[k].toNat : Int) == 10) = false := by simp; omega
        have HS : Hid (plc s (k + 1) = ((plc s k).1, (plc s k).2 + 1)) := by
          show plc s (k + 1) = _
          conv => lhs; unfold plc
          rw [hg, if_neg (by omega)]
        clear hg h10
        go_wp2_with fail
        go_round
        case rel => exact ⟨k + 1, by omega, by go_num, by rw [HS.out], by rw [HS.out]; go_num⟩
        case measure => simp [intOf]; omega
    · have hkn : k = n := by omega
      have HK := Lib.hid hkn
      clear hkn
      go_wp2_with fail
      go_ret2
      exact ⟨ret_two (by rw [HK.out]) (by rw [HK.out]), rfl⟩
theorem place_any (s : ByteArray) (p : Int) (hs : s.size ≤ 1000000000) : ∃ a b : Int, (∀ w, Calls Tryd.prog 26 #[.string s, .int .i64 p] w fun e w' => e = .returned (.tuple #[.int .i64 a, .int .i64 b]) ∧ w = w') ∧ (∀ w, Calls Tryd.prog 27 #[.string s, .int .i64 p] w fun e w' => e = .returned (.tuple #[.int .i64 a, .int .i64 b]) ∧ w = w') := by
  by_cases h : p < 0 ∨ (s.size : Int) < p
  · exact ⟨0, 0, fun w => place_out s p (by omega) h w, fun w => placeOf_out s p (by omega) h w⟩
  · obtain ⟨k, rfl⟩ : ∃ k : Nat, p = k := ⟨p.toNat, by omega⟩
    exact ⟨_, _, fun w => place_in s k (by omega) hs w, fun w => placeOf_in s k (by omega) hs w⟩
set_option maxHeartbeats 400000 in
theorem notePlaces_any (s : ByteArray) (p : Int) (hs : s.size ≤ 9223372036854775807) {B : Nat} (w : World) (hG : NGlob B w) : Calls Tryd.prog 6 #[.string s, .int .i64 p] w fun e w' => e = .returned (.bool true) ∧ Below w.heap.size w w' := by
  obtain ⟨a, b, h1, h2⟩ := place_any (s.extract 0 (min (s.size : Int) 5000).toNat) p (by simp; omega)
  have H1 := Lib.hid h1
  have H2 := Lib.hid h2
  have HG := Lib.hid hG
  clear h1 h2 hG
  go_enter Tryd.func6, Tryd.ntmps6
  go_wp2_with fail
  refine (H1.out _).mono ?_
  rintro e w' ⟨rfl, rfl⟩
  go_wp2_with fail
  refine (H2.out _).mono ?_
  rintro e w' ⟨rfl, rfl⟩
  go_wp2_with fail
  refine (told_ok _ HG.out).mono ?_
  rintro e w1 ⟨rfl, hb1⟩
  go_wp2_with fail
  go_ret
  exact ⟨rfl, hb1⟩
end Go.Proofs.YtmeofhjnckgcpaaDoor
