/- Rows of texts that are equal: slices.Equal. -/
import Derived.Test.YtogmipbdnffegaaGreatDoorBase
import Derived.RegionTactic
import Derived.LoopTactic
import Derived.Deep.CutBlock
import Derived.Deep.DeepCutAuto
namespace Go.Proofs.YtogmipbdnffegaaGreatDoor
open Go Go.RowKit
set_option linter.unusedVariables false
/-- the texts of a row in memory -/
def TxtRow (w : World) (g n : Nat) (f : Nat → ByteArray) : Prop := ∀ i, i < n → w.cell? ⟨g, i, none⟩ = some (.string (f i))
theorem TxtRow.below {w w' : World} {g n : Nat} {f : Nat → ByteArray} (h : TxtRow w g n f) (hb : Below w.heap.size w w') : TxtRow w' g n f := fun i hi =>
  (hb.cell (p := ⟨g, i, none⟩) (World.block_lt_of_cell? w _ (h i hi))).trans (h i hi)
set_option maxRecDepth 100000 in
set_option maxHeartbeats 2000000 in
theorem equal_str (b1 c1 b2 c2 n : Nat) (f : Nat → ByteArray) (hn : n ≤ 1000000) (k1 : n ≤ c1) (k2 : n ≤ c2) (w : World) (h1 : TxtRow w b1 n f) (h2 : TxtRow w b2 n f) :
    Calls Tryz.prog 7 #[.slice (some ⟨b1, 0, none⟩) n c1, .slice (some ⟨b2, 0, none⟩) n c2] w fun e w' => e = .returned (.bool true) ∧ Below w.heap.size w w' := by
  have H1 := Lib.hid h1
  have H2 := Lib.hid h2
  clear h1 h2
  go_enter Tryz.func7, Tryz.ntmps7
  go_wp2_with fail
  go_loopw [13] (fun u wr => ∃ i : Nat, i ≤ n ∧ u = .int .i64 (i : Int) ∧ Hid (Below w.heap.size w wr)) (fun u _ => n - (intOf u).toNat)
  case atStart => exact ⟨0, Nat.zero_le _, rfl, Lib.hid (Below.refl _ _)⟩
  case round =>
    rename World => wr
    obtain ⟨i, hi, rfl, hlo⟩ := hrel
    have hi0 : (0 : Int) ≤ (i : Int) := by omega
    by_cases hin : i < n
    · have hini : (i : Int) < (n : Int) := by omega
      have a0 := (hlo.out.cell (p := ⟨b1, i, none⟩) (World.block_lt_of_cell? w _ (H1.out i hin))).trans (H1.out i hin)
      have e0 := (hlo.out.cell (p := ⟨b2, i, none⟩) (World.block_lt_of_cell? w _ (H2.out i hin))).trans (H2.out i hin)
      generalize f i = x at a0 e0
      go_upto_region 6 with fail
      go_region
      all_goals go_wp2_with fail
      all_goals go_roundw
      case rel => exact ⟨i + 1, by omega, by go_num, Lib.hid (below_drewN hlo.out 1)⟩
      all_goals simp [intOf] <;> omega
    · obtain rfl : i = n := by omega
      go_wp2_with fail
      go_ret
      exact ⟨rfl, hlo.out⟩
end Go.Proofs.YtogmipbdnffegaaGreatDoor
