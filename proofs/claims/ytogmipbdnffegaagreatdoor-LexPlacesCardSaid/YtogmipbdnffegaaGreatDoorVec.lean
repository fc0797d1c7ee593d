/- The functions of package bits on words, and on vectors that are valid. -/
import Derived.Test.YtogmipbdnffegaaGreatDoorBase
import Derived.Test.YtogmipbdnffegaaGreatDoorShelf
namespace Go.Proofs.YtogmipbdnffegaaGreatDoor
open Go Go.RowKit
set_option linter.unusedVariables false
theorem below_step {B B' : Nat} {a w w' : World} (hb : Below B' w w') (h : Below B a w) (hB : B ≤ B') : Below B a w' := h.trans (hb.mono hB)
/-- the two words of a vector -/
structure Vx where
  v : BitVec 64
  x : BitVec 64
abbrev Vx.ok (a : Vx) (n : Nat) : Prop := Ok n a.v a.x
def one1 (a : Vx) : BitVec 64 := a.v &&& ~~~a.x
def zero1 (n : Nat) (a : Vx) : BitVec 64 := msk n &&& ~~~(a.v ||| a.x)
def unk (n : Nat) (o z : BitVec 64) : BitVec 64 := msk n &&& ~~~(o ||| z)
def jn (n : Nat) (o z : BitVec 64) : Vx := ⟨o ||| unk n o z, unk n o z⟩
def diff1 (a b : Vx) : BitVec 64 := (a.v ^^^ b.v) ||| (a.x ^^^ b.x)
def free1 (a : Vx) : BitVec 64 := a.x &&& ~~~a.v
/-- a known vector -/
def kv (n : Nat) (v : BitVec 64) : Vx := ⟨v &&& msk n, 0#64⟩
/-- all bits of one state: of the number k = 2 x + v -/
def fl (n : Nat) (k : Nat) : Vx := ⟨if k % 2 = 1 then msk n else 0#64, if k / 2 % 2 = 1 then msk n else 0#64⟩
/-- a truth value -/
def tr (t : Bool) : Vx := kv 1 (if t then 1#64 else 0#64)
def ext (n : Nat) (v : BitVec 64) : BitVec 64 := (v <<< (64 - n)).sshiftRight (64 - n)
theorem shl_min (v : BitVec 64) (k : Nat) : v <<< min k 64 = v <<< k := by
  by_cases hn : k ≤ 64
  · rw [Nat.min_eq_left hn]
  · rw [Nat.min_eq_right (by omega), BitVec.shiftLeft_eq_zero (by omega), BitVec.shiftLeft_eq_zero (by omega)]
theorem shr_min (v : BitVec 64) (k : Nat) : v >>> min k 64 = v >>> k := by
  by_cases hn : k ≤ 64
  · rw [Nat.min_eq_left hn]
  · rw [Nat.min_eq_right (by omega), BitVec.ushiftRight_eq_zero (by omega), BitVec.ushiftRight_eq_zero (by omega)]
set_option maxHeartbeats 400000 in
theorem of_ok (n : Nat) (v : BitVec 64) (w : World) (h1 : 1 ≤ n) (h2 : n ≤ 64) : Calls Tryz.prog 81 #[.int .i64 n, .int .u64 (U v)] w fun e w' => e = .returned (.agg #[.int .i64 n, .int .u64 (U (kv n v).v), .int .u64 (U (kv n v).x)]) ∧ Below w.heap.size w w' := by
  go_enter Tryz.func81, Tryz.ntmps81
  go_wp2_with fail
  refine (mask_any n h2 _).mono ?_
  rintro e w' ⟨rfl, rfl⟩
  go_wp2_with fail
  exact bodyPost_ret (v := .agg #[.int .i64 n, .int .u64 (U (kv n v).v), .int .u64 (U (kv n v).x)]) (by simp [results, Tryz.results81, go_sem] <;> first | rfl | exact ⟨rfl, rfl⟩ | exact ⟨rfl, rfl, rfl⟩) rfl ⟨rfl, by (repeat (first | exact Below.refl _ _ | exact Nat.le_refl _ | refine below_drewN ?_ _ | refine Below.drew ?_ | refine Below.alloc ?_ ?_ _ | refine Below.setCell ?_ ?_ _ | refine below_step (by assumption) ?_ ?_)) <;> (simp <;> omega)⟩
set_option maxHeartbeats 400000 in
theorem up_ok (v : BitVec 64) (k : Nat) (w : World) (h : k ≤ 1000000) : Calls Tryz.prog 135 #[.int .u64 (U v), .int .i64 k] w fun e w' => e = .returned (.int .u64 (U (v <<< k))) ∧ w = w' := by
  go_enter Tryz.func135, Tryz.ntmps135
  go_wp2_with fail
  go_ret
  exact ⟨ret_int (congrArg U (shl_min v k)), rfl⟩
set_option maxHeartbeats 400000 in
theorem all_x (n : Nat) (w : World) (h1 : 1 ≤ n) (h2 : n ≤ 64) : Calls Tryz.prog 115 #[.int .i64 n, .int .u8 120] w fun e w' => e = .returned (.agg #[.int .i64 n, .int .u64 (U (fl n 3).v), .int .u64 (U (fl n 3).x)]) ∧ Below w.heap.size w w' := by
  have hi : Lib.indexByte [48, 49, 122, 120] (120 : Int).toNat.toUInt8 = 3 := by decide
  have Hi := Lib.hid hi
  clear hi
  go_enter Tryz.func115, Tryz.ntmps115
  go_wp2_with fail
  refine (Tryz.strings_IndexByte _ _ _).mono ?_
  rintro e w' ⟨rfl, rfl⟩
  rw [Hi.out]
  go_wp2_with fail
  refine (mask_any n h2 _).mono ?_
  rintro e w' ⟨rfl, rfl⟩
  go_wp2_with fail
  refine (mask_any n h2 _).mono ?_
  rintro e w' ⟨rfl, rfl⟩
  go_wp2_with fail
  exact bodyPost_ret (v := .agg #[.int .i64 n, .int .u64 (U (fl n 3).v), .int .u64 (U (fl n 3).x)]) (by simp [results, Tryz.results115, go_sem] <;> first | rfl | exact ⟨rfl, rfl⟩ | exact ⟨rfl, rfl, rfl⟩) rfl ⟨rfl, by (repeat (first | exact Below.refl _ _ | exact Nat.le_refl _ | refine below_drewN ?_ _ | refine Below.drew ?_ | refine Below.alloc ?_ ?_ _ | refine Below.setCell ?_ ?_ _ | refine below_step (by assumption) ?_ ?_)) <;> (simp <;> omega)⟩
set_option maxHeartbeats 400000 in
theorem all_z (n : Nat) (w : World) (h1 : 1 ≤ n) (h2 : n ≤ 64) : Calls Tryz.prog 115 #[.int .i64 n, .int .u8 122] w fun e w' => e = .returned (.agg #[.int .i64 n, .int .u64 (U (fl n 2).v), .int .u64 (U (fl n 2).x)]) ∧ Below w.heap.size w w' := by
  have hi : Lib.indexByte [48, 49, 122, 120] (122 : Int).toNat.toUInt8 = 2 := by decide
  have Hi := Lib.hid hi
  clear hi
  go_enter Tryz.func115, Tryz.ntmps115
  go_wp2_with fail
  refine (Tryz.strings_IndexByte _ _ _).mono ?_
  rintro e w' ⟨rfl, rfl⟩
  rw [Hi.out]
  go_wp2_with fail
  refine (mask_any n h2 _).mono ?_
  rintro e w' ⟨rfl, rfl⟩
  go_wp2_with fail
  exact bodyPost_ret (v := .agg #[.int .i64 n, .int .u64 (U (fl n 2).v), .int .u64 (U (fl n 2).x)]) (by simp [results, Tryz.results115, go_sem] <;> first | rfl | exact ⟨rfl, rfl⟩ | exact ⟨rfl, rfl, rfl⟩) rfl ⟨rfl, by (repeat (first | exact Below.refl _ _ | exact Nat.le_refl _ | refine below_drewN ?_ _ | refine Below.drew ?_ | refine Below.alloc ?_ ?_ _ | refine Below.setCell ?_ ?_ _ | refine below_step (by assumption) ?_ ?_)) <;> (simp <;> omega)⟩
set_option maxHeartbeats 400000 in
theorem all_0 (n : Nat) (w : World) (h1 : 1 ≤ n) (h2 : n ≤ 64) : Calls Tryz.prog 115 #[.int .i64 n, .int .u8 48] w fun e w' => e = .returned (.agg #[.int .i64 n, .int .u64 (U (fl n 0).v), .int .u64 (U (fl n 0).x)]) ∧ Below w.heap.size w w' := by
  have hi : Lib.indexByte [48, 49, 122, 120] (48 : Int).toNat.toUInt8 = 0 := by decide
  have Hi := Lib.hid hi
  clear hi
  go_enter Tryz.func115, Tryz.ntmps115
  go_wp2_with fail
  refine (Tryz.strings_IndexByte _ _ _).mono ?_
  rintro e w' ⟨rfl, rfl⟩
  rw [Hi.out]
  go_wp2_with fail
  exact bodyPost_ret (v := .agg #[.int .i64 n, .int .u64 (U (fl n 0).v), .int .u64 (U (fl n 0).x)]) (by simp [results, Tryz.results115, go_sem] <;> first | rfl | exact ⟨rfl, rfl⟩ | exact ⟨rfl, rfl, rfl⟩) rfl ⟨rfl, by (repeat (first | exact Below.refl _ _ | exact Nat.le_refl _ | refine below_drewN ?_ _ | refine Below.drew ?_ | refine Below.alloc ?_ ?_ _ | refine Below.setCell ?_ ?_ _ | refine below_step (by assumption) ?_ ?_)) <;> (simp <;> omega)⟩
set_option maxHeartbeats 400000 in
theorem all_1 (n : Nat) (w : World) (h1 : 1 ≤ n) (h2 : n ≤ 64) : Calls Tryz.prog 115 #[.int .i64 n, .int .u8 49] w fun e w' => e = .returned (.agg #[.int .i64 n, .int .u64 (U (fl n 1).v), .int .u64 (U (fl n 1).x)]) ∧ Below w.heap.size w w' := by
  have hi : Lib.indexByte [48, 49, 122, 120] (49 : Int).toNat.toUInt8 = 1 := by decide
  have Hi := Lib.hid hi
  clear hi
  go_enter Tryz.func115, Tryz.ntmps115
  go_wp2_with fail
  refine (Tryz.strings_IndexByte _ _ _).mono ?_
  rintro e w' ⟨rfl, rfl⟩
  rw [Hi.out]
  go_wp2_with fail
  refine (mask_any n h2 _).mono ?_
  rintro e w' ⟨rfl, rfl⟩
  go_wp2_with fail
  exact bodyPost_ret (v := .agg #[.int .i64 n, .int .u64 (U (fl n 1).v), .int .u64 (U (fl n 1).x)]) (by simp [results, Tryz.results115, go_sem] <;> first | rfl | exact ⟨rfl, rfl⟩ | exact ⟨rfl, rfl, rfl⟩) rfl ⟨rfl, by (repeat (first | exact Below.refl _ _ | exact Nat.le_refl _ | refine below_drewN ?_ _ | refine Below.drew ?_ | refine Below.alloc ?_ ?_ _ | refine Below.setCell ?_ ?_ _ | refine below_step (by assumption) ?_ ?_)) <;> (simp <;> omega)⟩
end Go.Proofs.YtogmipbdnffegaaGreatDoor
