/- The law BitsReread: its walk. -/
import Derived.Test.YtkjlhhaiephmdaaDoorReread
import Derived.Test.YtkjlhhaiephmdaaDoorJoined
import Derived.Test.YtkjlhhaiephmdaaDoorSl
namespace Go.Proofs.YtkjlhhaiephmdaaDoor
open Go Go.RowKit
set_option linter.unusedVariables false
set_option maxRecDepth 100000 in
set_option maxHeartbeats 1000000 in
theorem bitsReread_any (a : Option Addr) (len cap : Nat) (w : World) (hS : Sl a len w) {B : Nat} (hG : Glob B w) :
    Calls Tryd.prog 8 #[.slice a len cap] w fun e w' => e = .returned (.bool true) ∧ Below w.heap.size w w' := by
  have HG := Lib.hid hG
  clear hG
  go_enter Tryd.func8, Tryd.ntmps8
  go_wp2_with fail
  have S0 := hS.str cap _ rfl
  refine (width_any w.heap.size len cap a 0 (by omega) _ S0).mono ?_
  rintro e w1 ⟨n, ⟨h1, h2⟩, rfl, A1⟩
  obtain ⟨k1, hk1, S1⟩ := A1.st
  have b1 := adv_low A1 ((Below.refl _ _).alloc (Nat.le_refl _) _)
  go_wp2_with fail
  refine (bits_any w.heap.size len cap a k1 (by omega) n h1 h2 _ S1).mono ?_
  rintro e w2 ⟨V, hV, -, rfl, A2⟩
  have b2 := adv_low A2 b1
  have s2 := b2.size
  clear A1 A2 S0 S1
  go_wp2_with fail
  have hl20 : (Lib.itoa n).length ≤ 20 := by
    have hw := width_ok n (by omega) h1
    simp only [widthOk, Bool.and_eq_true, decide_eq_true_eq] at hw
    omega
  refine (text_ok n V hV hl20 _ ((HG.out.here b2).here ((Below.refl _ _).alloc (Nat.le_refl _) _))).mono ?_
  rintro e w3 ⟨rfl, hb3⟩
  obtain ⟨hc3, hf3⟩ := bcell hb3
  have z3_w2 : w2.heap.size < w3.heap.size := bsize hb3 (by first | omega | (simp <;> omega))
  have b3 : Below w.heap.size w w3 := (b2.trans (((Below.refl _ _).alloc (Nat.le_refl _) _).mono s2)).trans (hb3.mono (by first | omega | (simp <;> omega)))
  have s3 := b3.size
  clear hf3
  go_wp2_with fail
  refine (reread_ok hV _ (HG.out.here b3)).mono ?_
  rintro e w4 ⟨rfl, hb4⟩
  obtain ⟨hc4, hf4⟩ := bcell hb4
  have z4_w2 : w2.heap.size < w4.heap.size := bsize hb4 (by first | omega | (simp <;> omega))
  have b4 : Below w.heap.size w w4 := b3.trans (hb4.mono s3)
  have s4 := b4.size
  clear hf4
  go_wp2_with fail
  refine (joined_ok _ ((HG.out.here b4).here ((Below.refl _ _).alloc (Nat.le_refl _) _))).mono ?_
  rintro e w5 ⟨rfl, hb5⟩
  obtain ⟨hc5, hf5⟩ := bcell hb5
  have z5_w2 : w2.heap.size < w5.heap.size := bsize hb5 (by first | omega | (simp <;> omega))
  have z5_w4 : w4.heap.size < w5.heap.size := bsize hb5 (by first | omega | (simp <;> omega))
  have b5 : Below w.heap.size w w5 := (b4.trans (((Below.refl _ _).alloc (Nat.le_refl _) _).mono s4)).trans (hb5.mono (by first | omega | (simp <;> omega)))
  have s5 := b5.size
  clear hf5
  go_wp2_with fail
  go_ret
  exact ⟨rfl, b5⟩
end Go.Proofs.YtkjlhhaiephmdaaDoor
