/- The law NotePlaced: its walk. -/
import Derived.Test.YtmememehlfbgaaaDoorPlace
import Derived.Test.YtmememehlfbgaaaDoorSplitMath
import Derived.Test.YtmememehlfbgaaaDoorNStream
import Derived.Lib.QuietBelow
namespace Go.Proofs.YtmememehlfbgaaaDoor
open Go Go.RowKit Go.Sort
set_option linter.unusedVariables false
set_option maxHeartbeats 400000 in
theorem placed_ok (w : World) : Calls Tryd.prog 23 #[] w fun e w' => e = .returned (.bool true) ∧ w = w' := by
  have h1 := fun w => place_in ⟨#[97, 98, 10, 99]⟩ 2 (by decide) (by decide) w
  have h2 := fun w => place_in ⟨#[97, 98, 10, 99]⟩ 3 (by decide) (by decide) w
  have e1 : plc ⟨#[97, 98, 10, 99]⟩ 2 = (1, 3) := by decide +kernel
  have e2 : plc ⟨#[97, 98, 10, 99]⟩ 3 = (2, 1) := by decide +kernel
  simp only [e1] at h1
  simp only [e2] at h2
  have H1 := Lib.hid h1
  have H2 := Lib.hid h2
  clear h1 h2 e1 e2
  go_enter Tryd.func23, Tryd.ntmps23
  go_wp2_with fail
  refine (H1.out _).mono ?_
  rintro e w' ⟨rfl, rfl⟩
  go_wp2_with fail
  refine (H2.out _).mono ?_
  rintro e w' ⟨rfl, rfl⟩
  go_wp2_with fail
  go_ret
  exact ⟨rfl, rfl⟩
/-- the pieces of a text in block g -/
structure Pcs (g : Nat) (P : List ByteArray) (w : World) : Prop where
  c : ∀ (j : Nat) x, P[j]? = some x → w.cell? ⟨g, j, none⟩ = some (.string x)
theorem pcs_new (P : List ByteArray) (w : World) (t : TypeId) : Pcs w.heap.size P (w.alloc (.cells (P.map Value.string).toArray t)) :=
  ⟨fun j x h => by
    have e : ((P.map Value.string).toArray)[j]? = some (.string x) := by simp [h]
    go_simp⟩
theorem Pcs.grown {g : Nat} {P : List ByteArray} {w w' : World} (h : Pcs g P w) {b : Nat} (hg : w.grownBy w' (some b)) (hne : g ≠ b) : Pcs g P w' :=
  ⟨fun j x hx => hg.cell (h.c j x hx) (by simpa using hne)⟩
/-- what the loop that makes the text knows -/
def Txt (B : Nat) (a : Option Addr) (len cap : Nat) (w : World) (j : Nat) (v : Value) (wr : World) : Prop :=
  ∃ (s : ByteArray) (k : Nat), v = .string s ∧ s.size = j ∧ k ≤ 1 + j ∧ Str B a len cap k wr ∧ Below B w wr
theorem four_cells {w w1 : World} {B r : Nat} (hr : (r : Int) < 4) (hg : (w.alloc (.cells #[.string ⟨#[97]⟩, .string ⟨#[98]⟩, .string ⟨#[10]⟩, .string ⟨#[32]⟩] 9)).grownBy w1 (some B)) (hB : B < w.heap.size) : ∃ c : UInt8, w1.cell? ⟨w.heap.size, r, none⟩ = some (.string ⟨#[c]⟩) := by
  have h : ∃ c : UInt8, (w.alloc (.cells #[.string ⟨#[97]⟩, .string ⟨#[98]⟩, .string ⟨#[10]⟩, .string ⟨#[32]⟩] 9)).cell? ⟨w.heap.size, r, none⟩ = some (.string ⟨#[c]⟩) := by
    match r, hr with
    | 0, _ => exact ⟨97, by go_simp⟩
    | 1, _ => exact ⟨98, by go_simp⟩
    | 2, _ => exact ⟨10, by go_simp⟩
    | 3, _ => exact ⟨32, by go_simp⟩
  obtain ⟨c, hc⟩ := h
  exact ⟨c, hg.cell hc (by simp; omega)⟩
end Go.Proofs.YtmememehlfbgaaaDoor
