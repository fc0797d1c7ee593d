/- More operations of package bits on vectors that are valid: shifts, comparisons, parts. -/
import Derived.Test.YtgmgmkhcadimjaaDoorOps
import Derived.StillTailTactics
namespace Go.Proofs.YtgmgmkhcadimjaaDoor
open Go Go.RowKit
set_option linter.unusedVariables false
theorem extend_q (n : Nat) (v : BitVec 64) (w : World) (h1 : 1 ≤ n) (h2 : n ≤ 64) : Calls Tryd.prog 24 #[.int .i64 n, .int .u64 (U v)] w fun e w' => e = .returned (.int .i64 (S (ext n v))) ∧ w' = w := (extend_ok n v w h1 h2).mono fun _ _ ⟨a, b⟩ => ⟨a, b.symm⟩
/-- the words of a moved up by k -/
def vshl (n : Nat) (a : Vx) (k : Nat) : Vx := ⟨a.v <<< k &&& msk n, a.x <<< k &&& msk n⟩
def unk2 (a b : Vx) : BitVec 64 := a.x ||| b.x
def veq (a b : Vx) : Vx := if diff1 a b &&& ~~~(a.x ||| b.x) = 0#64 then (if a.x ||| b.x = 0#64 then tr true else fl 1 3) else tr false
def ltb (n : Nat) (s : Bool) (a b : Vx) : Bool := if s then (ext n a.v).slt (ext n b.v) else decide (a.v < b.v)
def vlt (n : Nat) (s : Bool) (a b : Vx) : Vx := if a.x = 0#64 ∧ b.x = 0#64 then tr (ltb n s a b) else fl 1 3
theorem vlt_ok (n : Nat) (s : Bool) (a b : Vx) : (vlt n s a b).ok 1 := by
  unfold vlt; split
  · exact tr_ok _
  · exact fl_ok (by decide) (by decide) 3
theorem veq_ok (a b : Vx) : (veq a b).ok 1 := by
  unfold veq; split
  · split
    · exact tr_ok _
    · exact fl_ok (by decide) (by decide) 3
  · exact tr_ok _
end Go.Proofs.YtgmgmkhcadimjaaDoor
