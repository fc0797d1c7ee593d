/- Place, the reference's PlaceOf, and the law NotePlaces. -/
import Derived.Test.YtmememehlfbgaaaDoorNoteT
import Derived.Test.YtmememehlfbgaaaDoorPlaceMath
import Derived.Test.YtmememehlfbgaaaDoorShelfRep
namespace Go.Proofs.YtmememehlfbgaaaDoor
open Go Go.RowKit
set_option linter.unusedVariables false
set_option maxHeartbeats 400000 in
theorem place_out (s : ByteArray) (p : Int) (hs : s.size ≤ 9223372036854775807) (h : p < 0 ∨ (s.size : Int) < p) (w : World) : Calls Tryd.prog 48 #[.string s, .int .i64 p] w fun e w' => e = .returned (.tuple #[.int .i64 0, .int .i64 0]) ∧ w = w' := by
  by_cases h0 : p < 0
  · clear h
    go_enter Tryd.func48, Tryd.ntmps48
    go_wp2_with fail
    go_ret2
    exact ⟨rfl, rfl⟩
  · have h1 : (s.size : Int) < p := by omega
    clear h
    go_enter Tryd.func48, Tryd.ntmps48
    go_wp2_with fail
    go_ret2
    exact ⟨rfl, rfl⟩
theorem ret_two {k : IntKind} {a b c d : Int} (h : a = b) (h2 : c = d) : Ending.returned (.tuple #[.int k a, .int k c]) = .returned (.tuple #[.int k b, .int k d]) := by rw [h, h2]
set_option maxHeartbeats 400000 in
theorem place_in (s : ByteArray) (k : Nat) (hk : k ≤ s.size) (hs : s.size ≤ 1000000000) (w : World) : Calls Tryd.prog 48 #[.string s, .int .i64 k] w fun e w' => e = .returned (.tuple #[.int .i64 (plc s k).1, .int .i64 (plc s k).2]) ∧ w = w' := by
  have e1 := place_line s k hk
  have e2 := place_col s k hk
  have hle := plc_le s k
  have hz : (s.extract 0 k).size = k := by simp; omega
  have b1 : (0 : Int) ≤ (Lib.countByte (s.data.toList.take k) 10 : Nat) := by omega
  have b2 : ((Lib.countByte (s.data.toList.take k) 10 : Nat) : Int) ≤ 1000000001 := by omega
  have b3 : -1 ≤ Lib.lastIndexByte (s.extract 0 k) 10 := by omega
  have b4 : Lib.lastIndexByte (s.extract 0 k) 10 ≤ 1000000001 := by omega
  have hk0 : (0 : Int) ≤ (k : Int) := by omega
  have hk1 : ¬ (s.size : Int) < (k : Int) := by omega
  have E1 := Lib.hid e1
  have E2 := Lib.hid e2
  have HZ := Lib.hid hz
  clear e1 e2 hle hz
  go_enter Tryd.func48, Tryd.ntmps48
  go_wp2_with fail
  refine (Tryd.strings_Count_one _ 10 _).mono ?_
  rintro e w' ⟨rfl, rfl⟩
  go_wp2_with fail
  refine (Tryd.strings_LastIndexByte _ 10 (by rw [HZ.out]; omega) _).mono ?_
  rintro e w' ⟨rfl, rfl⟩
  go_wp2_with fail
  go_ret2
  exact ⟨ret_two E1.out E2.out, rfl⟩
end Go.Proofs.YtmememehlfbgaaaDoor
