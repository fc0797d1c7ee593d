/- Rows of texts that are owned. -/
import Derived.Test.YtmimihjbepjnfaaGreatDoorBase
import Derived.Laws.AppendOwn
import Derived.RegionTactic
import Derived.Deep.CutBlock
import Derived.Deep.DeepCutAuto
import Derived.Deep.RegionLaw
import Derived.LoopTactic
import Derived.Lib.QuietBelow
namespace Go.Proofs.YtmimihjbepjnfaaGreatDoor
open Go Go.RowKit Go.Sort
set_option linter.unusedVariables false
def OS (B : Nat) (w : World) (v : Value) (l : List ByteArray) : Prop := w.ownsRow B 9 1 v l.length (l.map Value.string)
theorem OS.below {w w' : World} {B : Nat} {v : Value} {l : List ByteArray} (h : OS B w v l) (hb : Below w.heap.size w w') : OS B w' v l :=
  World.ownsRow.kept (row := none) h ⟨hb.os, hb.tape, hb.output, hb.size, fun k hk _ => hb.block k hk⟩ (by cases v.ownBlock <;> simp)
theorem OS.at {B : Nat} {w : World} {v : Value} {l : List ByteArray} (h : OS B w v l) (hl : 1 ≤ l.length) : ∃ g cap, v = .slice (some ⟨g, 0, none⟩) l.length cap ∧ l.length ≤ cap ∧ ∀ j (hj : j < l.length), w.cell? ⟨g, j, none⟩ = some (.string l[j]) := by
  have hh := h
  rcases h.2 with ⟨_, h0⟩ | ⟨g, cap, cur, hv, hb, hg, hc, _⟩
  · omega
  · subst hv
    refine ⟨g, cap, rfl, hc, fun j hj => ?_⟩
    have := World.ownsRow.cellAt hh j (by omega)
    rw [this]
    simp [List.getElem?_eq_getElem hj]
theorem infoS : (Tryz.prog.info? 9).map (fun i => (i.zero, i.size, i.bytes)) = some (some (.string ⟨#[]⟩), 1, 16) := by kernel_rfl
theorem infoS_parts : ∃ i, Tryz.prog.info? 9 = some i ∧ i.zero = some (.string ⟨#[]⟩) ∧ i.size = 1 ∧ i.bytes = 16 := by
  have h := infoS
  cases hi : Tryz.prog.info? 9 with
  | none => rw [hi] at h; cases h
  | some i =>
    rw [hi] at h
    simp only [Option.map_some, Option.some.injEq, Prod.mk.injEq] at h
    exact ⟨i, rfl, h.1, h.2.1, h.2.2⟩
/-- the texts of a row in memory -/
def TxtRow (w : World) (g n : Nat) (f : Nat → ByteArray) : Prop := ∀ i, i < n → w.cell? ⟨g, i, none⟩ = some (.string (f i))
theorem TxtRow.below {w w' : World} {g n : Nat} {f : Nat → ByteArray} (h : TxtRow w g n f) (hb : Below w.heap.size w w') : TxtRow w' g n f := fun i hi =>
  (hb.cell (p := ⟨g, i, none⟩) (World.block_lt_of_cell? w _ (h i hi))).trans (h i hi)
set_option maxRecDepth 100000 in
set_option maxHeartbeats 2000000 in
theorem equal_str (b1 c1 b2 c2 n : Nat) (f : Nat → ByteArray) (hn : n ≤ 1000000) (k1 : n ≤ c1) (k2 : n ≤ c2) (w : World) (h1 : TxtRow w b1 n f) (h2 : TxtRow w b2 n f) :
    Calls Tryz.prog 10 #[.slice (some ⟨b1, 0, none⟩) n c1, .slice (some ⟨b2, 0, none⟩) n c2] w fun e w' => e = .returned (.bool true) ∧ Below w.heap.size w w' := by
  have H1 := Lib.hid h1
  have H2 := Lib.hid h2
  clear h1 h2
  go_enter Tryz.func10, Tryz.ntmps10
  go_wp2_with fail
  go_loopw [13] (fun u wr => ∃ i : Nat, i ≤ n ∧ u = .int .i64 (i : Int) ∧ Hid (Below w.heap.size w wr)) (fun u _ => n - (intOf u).toNat)
  case atStart => exact ⟨0, Nat.zero_le _, rfl, Lib.hid (Below.refl _ _)⟩
  case round =>
    rename World => wr
    obtain ⟨i, hi, rfl, hlo⟩ := hrel
    have hi0 : (0 : Int) ≤ (i : Int) := by omega
    by_cases hin : i < n
    · have hini : (i : Int) < (n : Int) := by omega
      have a0 := (hlo.out.cell (p := ⟨b1, i, none⟩) (World.block_lt_of_cell? w _ (H1.out i hin))).trans (H1.out i hin)
      have e0 := (hlo.out.cell (p := ⟨b2, i, none⟩) (World.block_lt_of_cell? w _ (H2.out i hin))).trans (H2.out i hin)
      generalize f i = x at a0 e0
      go_upto_region 6 with fail
      go_region
      all_goals go_wp2_with fail
      all_goals go_roundw
      case rel => exact ⟨i + 1, by omega, by go_num, Lib.hid (below_drewN hlo.out 1)⟩
      all_goals simp [intOf] <;> omega
    · obtain rfl : i = n := by omega
      go_wp2_with fail
      go_ret
      exact ⟨rfl, hlo.out⟩
/-- a row of texts that a call has made -/
theorem OS.row {B n : Nat} {w : World} {v : Value} {f : Nat → ByteArray} (h : OS B w v ((List.range n).map f)) (hn : 1 ≤ n) : ∃ g cap, v = .slice (some ⟨g, 0, none⟩) n cap ∧ n ≤ cap ∧ TxtRow w g n f := by
  obtain ⟨g, cap, hv, hc, hr⟩ := h.at (by simpa using hn)
  rw [List.length_map, List.length_range] at hv hc
  refine ⟨g, cap, hv, hc, fun i hi => ?_⟩
  have := hr i (by simpa using hi)
  simpa using this
end Go.Proofs.YtmimihjbepjnfaaGreatDoor
