/- The small functions of package bits: mask, Check, valid. -/
import Derived.Test.YtcpifmhcebfglaaChecked
import Derived.Test.YtcpifmhcebfglaaWord
import Derived.WalkKit
import Derived.WalkSpells
import Derived.WalkLawsBesides
import Derived.Deep.QuietTactic
import Derived.BigQuiet
import Derived.Lib.Hide
import Derived.WalkSmall
namespace Go.Proofs.Ytcpifmhcebfglaa
open Go Go.RowKit
set_option linter.unusedVariables false
theorem ret_int {k : IntKind} {a b : Int} (h : a = b) : Ending.returned (.int k a) = .returned (.int k b) := by rw [h]
theorem msk_wrap (n : Nat) : IntKind.u64.wrap (IntKind.u64.wrap (2 ^ n) - 1) = U (msk n) := by
  have h1 : IntKind.u64.wrap (2 ^ n) = U (1#64 <<< n) := by
    have := U_shl 1#64 n
    rw [← this]; congr 1; show _ = 1 * _; omega
  rw [h1]; exact U_sub _ 1#64
theorem bcell {W w1 : World} (hb : Below W.heap.size W w1) : (∀ b o, b < W.heap.size → w1.cell? ⟨b, o, none⟩ = W.cell? ⟨b, o, none⟩) ∧ (∀ b o, b < W.heap.size → w1.frozen? ⟨b, o, none⟩ = W.frozen? ⟨b, o, none⟩) :=
  ⟨fun b o h => hb.cell (p := ⟨b, o, none⟩) h, fun b o h => hb.frozen (p := ⟨b, o, none⟩) h⟩
theorem below_drewN {B : Nat} {a w : World} (h : Below B a w) (n : Nat) : Below B a (w.drewN n) := ⟨h.os, h.tape, h.output, h.size, h.block⟩
theorem bsize {W w1 : World} (hb : Below W.heap.size W w1) {k : Nat} (h : k < W.heap.size) : k < w1.heap.size := Nat.lt_of_lt_of_le h hb.size
/-- a vector that is valid -/
structure Ok (n : Nat) (V X : BitVec 64) : Prop where
  lo : 1 ≤ n
  hi : n ≤ 64
  v : V &&& ~~~msk n = 0#64
  x : X &&& ~~~msk n = 0#64
theorem Ok.both {n : Nat} {V X : BitVec 64} (h : Ok n V X) : ((V ||| X) &&& ~~~msk n != 0#64) = false := by
  have e : (V ||| X) &&& ~~~msk n = (V &&& ~~~msk n) ||| (X &&& ~~~msk n) := by
    apply BitVec.eq_of_getLsbD_eq; intro i hi; simp only [BitVec.getLsbD_and, BitVec.getLsbD_or, Bool.and_or_distrib_right]
  rw [e, h.v, h.x]; decide
theorem Ok.of_both {n : Nat} {V X : BitVec 64} (h1 : 1 ≤ n) (h2 : n ≤ 64) (h : ((V ||| X) &&& ~~~msk n != 0#64) = false) : Ok n V X := by
  have e : (V ||| X) &&& ~~~msk n = (V &&& ~~~msk n) ||| (X &&& ~~~msk n) := by
    apply BitVec.eq_of_getLsbD_eq; intro i hi; simp only [BitVec.getLsbD_and, BitVec.getLsbD_or, Bool.and_or_distrib_right]
  have h0 : (V ||| X) &&& ~~~msk n = 0#64 := by simpa using h
  rw [e] at h0
  exact ⟨h1, h2, (BitVec.or_eq_zero_iff.1 h0).1, (BitVec.or_eq_zero_iff.1 h0).2⟩
end Go.Proofs.Ytcpifmhcebfglaa
