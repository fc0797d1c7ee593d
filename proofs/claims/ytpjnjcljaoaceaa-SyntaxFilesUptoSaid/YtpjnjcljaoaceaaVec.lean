/- The functions of package bits on words, and on vectors that are valid. -/
import Derived.Test.YtpjnjcljaoaceaaBase
import Derived.Test.YtpjnjcljaoaceaaShelf
namespace Go.Proofs.Ytpjnjcljaoaceaa
open Go Go.RowKit
set_option linter.unusedVariables false
theorem below_step {B B' : Nat} {a w w' : World} (hb : Below B' w w') (h : Below B a w) (hB : B ≤ B') : Below B a w' := h.trans (hb.mono hB)
/-- the two words of a vector -/
structure Vx where
  v : BitVec 64
  x : BitVec 64
abbrev Vx.ok (a : Vx) (n : Nat) : Prop := Ok n a.v a.x
def one1 (a : Vx) : BitVec 64 := a.v &&& ~~~a.x
def zero1 (n : Nat) (a : Vx) : BitVec 64 := msk n &&& ~~~(a.v ||| a.x)
def unk (n : Nat) (o z : BitVec 64) : BitVec 64 := msk n &&& ~~~(o ||| z)
def jn (n : Nat) (o z : BitVec 64) : Vx := ⟨o ||| unk n o z, unk n o z⟩
def diff1 (a b : Vx) : BitVec 64 := (a.v ^^^ b.v) ||| (a.x ^^^ b.x)
def free1 (a : Vx) : BitVec 64 := a.x &&& ~~~a.v
/-- a known vector -/
def kv (n : Nat) (v : BitVec 64) : Vx := ⟨v &&& msk n, 0#64⟩
/-- all bits of one state: of the number k = 2 x + v -/
def fl (n : Nat) (k : Nat) : Vx := ⟨if k % 2 = 1 then msk n else 0#64, if k / 2 % 2 = 1 then msk n else 0#64⟩
/-- a truth value -/
def tr (t : Bool) : Vx := kv 1 (if t then 1#64 else 0#64)
def ext (n : Nat) (v : BitVec 64) : BitVec 64 := (v <<< (64 - n)).sshiftRight (64 - n)
theorem shl_min (v : BitVec 64) (k : Nat) : v <<< min k 64 = v <<< k := by
  by_cases hn : k ≤ 64
  · rw [Nat.min_eq_left hn]
  · rw [Nat.min_eq_right (by omega), BitVec.shiftLeft_eq_zero (by omega), BitVec.shiftLeft_eq_zero (by omega)]
theorem shr_min (v : BitVec 64) (k : Nat) : v >>> min k 64 = v >>> k := by
  by_cases hn : k ≤ 64
  · rw [Nat.min_eq_left hn]
  · rw [Nat.min_eq_right (by omega), BitVec.ushiftRight_eq_zero (by omega), BitVec.ushiftRight_eq_zero (by omega)]
end Go.Proofs.Ytpjnjcljaoaceaa
