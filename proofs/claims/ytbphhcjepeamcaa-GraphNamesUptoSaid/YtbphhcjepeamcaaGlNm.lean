/- The law on names: its walk. Asked: what is said here of Name and Names, and the fact. -/
import Derived.Test.YtbphhcjepeamcaaGlNd
namespace Go.Proofs.Ytbphhcjepeamcaa
open Go Go.RowKit Go.Sort
set_option linter.unusedVariables false
set_option maxRecDepth 100000 in
set_option maxHeartbeats 4000000 in
theorem gnames_law (hF : FactC) (hN : NameC) (hM : NamesC) (l : List ByteArray) (v : Value) (hn : l.length ≤ 4000000000) (hz : ∀ x ∈ l, x.size ≤ 4000000000) (w : World) (hR : RowOf 1 encT l v w) : Calls Try.prog 4 #[v] w fun e w' => e = .returned (.bool true) ∧ Below w.heap.size w w' := by
  have HF := Lib.hid hF
  clear hF
  have HM := Lib.hid (fun W (hb : Below w.heap.size w W) => hM l v W hn hz (hR.below hb))
  obtain ⟨ad, cp, rfl, hcp, R⟩ := hR.open'
  go_enter Try.func4, Try.ntmps4
  go_upto_block 0 with fail
  go_wp2_with fail
  go_loopw [7] (fun i wr => ∃ j : Nat, j ≤ l.length ∧ i = .int .i64 (j : Int) ∧ Hid (Below w.heap.size w wr)) (fun i _ => l.length - (intOf i).toNat)
  case atStart => exact ⟨0, Nat.zero_le _, rfl, Lib.hid (Below.refl _ _)⟩
  case round =>
    obtain ⟨j, hj, rfl, hB⟩ := hrel
    rename World => WR
    have hj0 : (0 : Int) ≤ (j : Int) := by omega
    by_cases hlt : j < l.length
    · have hji : (j : Int) < (l.length : Int) := by omega
      obtain ⟨bb, oo, rfl, hcell⟩ := (R.below hB.out).pick (by omega)
      have c0 := hcell j hlt 0 _ rfl
      simp only [Nat.mul_one, Nat.add_zero] at c0
      clear hcell
      have hs := hz l[j]! (mem1 l hlt)
      generalize l[j]! = s at c0 hs
      have H1 := Lib.hid (fun W => hN s W hs)
      have H2 := Lib.hid (fun W => rnamed_any s (by omega) W)
      generalize nmB s = b at H1 H2
      have bel := hB.out
      go_wp2_with (first | (go_at_call 25; refine (H1.out _).mono ?_; rintro ee w1 ⟨rfl, hb1⟩; clear H1; replace bel := bel.trans (hb1.mono bel.size); clear hb1) | (go_at_call 26; refine (H2.out _).mono ?_; rintro ee w1 ⟨rfl, rfl⟩))
      go_roundw
      case rel => exact ⟨j + 1, by omega, by go_num, Lib.hid bel⟩
      case measure => first | done | (simp [intOf]; done) | (simp [intOf]; omega)
    · have hji : ¬ (j : Int) < (l.length : Int) := by omega
      have bel := hB.out
      have H1 := Lib.hid (fun W => HF.out W)
      have H2 := Lib.hid (fun W hb => rnames_any l ad cp hcp (by omega) (fun x hx => by have := hz x hx; omega) W (R.below hb))
      generalize namesF l = f at HM H2
      go_wp2_with (first | (go_at_call 15; refine (H1.out _).mono ?_; rintro ee w1 ⟨rfl, hb1⟩; clear H1; replace bel := bel.trans (hb1.mono bel.size); clear hb1) | (go_at_call 27; refine (HM.out _ bel).mono ?_; rintro ee w2 ⟨rfl, hb2⟩; clear HM; replace bel := bel.trans (hb2.mono bel.size); clear hb2) | (go_at_call 28; refine (H2.out _ bel).mono ?_; rintro ee w3 ⟨rfl, rfl⟩))
      go_ret
      exact ⟨rfl, bel⟩
end Go.Proofs.Ytbphhcjepeamcaa
