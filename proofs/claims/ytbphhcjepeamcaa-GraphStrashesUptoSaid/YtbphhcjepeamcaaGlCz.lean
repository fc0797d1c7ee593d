/- What is asked of Clean; rows that do not lie in a block of slices. No condition. -/
import Derived.Test.YtbphhcjepeamcaaGrRm
import Derived.Test.YtbphhcjepeamcaaGrBl
import Derived.Test.YtbphhcjepeamcaaGrRe
import Derived.Test.YtbphhcjepeamcaaGlC
import Derived.Test.YtbphhcjepeamcaaGlNil
namespace Go.Proofs.Ytbphhcjepeamcaa
open Go Go.RowKit Go.Sort
set_option linter.unusedVariables false
/-- rows do not lie in a block of slices -/
theorem RowAt.far {α : Type} [Inhabited α] {k b : Nat} {T : TypeId} {enc : α → List Value} {l : List α} {ad : Option Addr} {w w' : World} (h : RowAt k enc l ad w) (A : Arr T fV b zG w) (henc : ∀ x, ∃ u, (enc x)[0]? = some u ∧ u ≠ .slice none 0 0) (hw : ∀ g, g ≠ b → w'.heap[g]? = w.heap[g]?) : RowAt k enc l ad w' := by
  rcases h with h | ⟨b0, o, rfl, hc⟩
  · exact .inl h
  · by_cases hl : l.length = 0
    · exact .inl hl
    · have hb : b0 ≠ b := by
        intro e
        subst e
        obtain ⟨u, hu, hne⟩ := henc l[0]!
        have h1 := hc 0 (by omega) 0 u hu
        rw [cell_of_row w b0 _ _ T _ A.blk, List.getElem?_toArray] at h1
        have h2 := List.mem_of_getElem? h1
        simp at h2
        exact hne h2
      exact .inr ⟨b0, o, rfl, fun j hj c x hx => (World.cell?_of_block (w := w) (hw b0 hb)).trans (hc j hj c x hx)⟩
theorem RowOf.far {α : Type} [Inhabited α] {k b : Nat} {T : TypeId} {enc : α → List Value} {l : List α} {v : Value} {w w' : World} (h : RowOf k enc l v w) (A : Arr T fV b zG w) (henc : ∀ x, ∃ u, (enc x)[0]? = some u ∧ u ≠ .slice none 0 0) (hw : ∀ g, g ≠ b → w'.heap[g]? = w.heap[g]?) : RowOf k enc l v w' := by
  obtain ⟨ad, cap, h1, h2, h3⟩ := h.open'
  exact ⟨ad, cap, h1, h2, h3.far A henc hw⟩
theorem GO.far {b : Nat} {T : TypeId} {g : Gr} {v : Value} {w w' : World} (h : GO g v w) (A : Arr T fV b zG w) (hw : ∀ q, q ≠ b → w'.heap[q]? = w.heap[q]?) : GO g v w' := by
  obtain ⟨a, b, c, d, e, a', b', c', d', e', h1, h2, h3⟩ := h.all
  exact ⟨⟨a, b, c, d, e, a', b', c', d', e', h1, h2, ⟨h3.ins.far A (fun x => ⟨_, rfl, by simp⟩) hw, h3.outN.far A (fun x => ⟨_, rfl, by simp⟩) hw, h3.regs.far A (fun x => ⟨_, rfl, by simp⟩) hw, h3.ands.far A (fun x => ⟨_, rfl, by simp⟩) hw, h3.outs.far A (fun x => ⟨_, rfl, by simp⟩) hw⟩⟩⟩
theorem sets_far (w : World) (b : Nat) (u0 u1 u2 u3 u4 : Value) : ∀ g, g ≠ b → (((((w.setCell ⟨b, 0, none⟩ u0).setCell ⟨b, 1, none⟩ u1).setCell ⟨b, 2, none⟩ u2).setCell ⟨b, 3, none⟩ u3).setCell ⟨b, 4, none⟩ u4).heap[g]? = w.heap[g]? := fun g hg => by
  rw [Below.heap_setCell _ _ _ g hg, Below.heap_setCell _ _ _ g hg, Below.heap_setCell _ _ _ g hg, Below.heap_setCell _ _ _ g hg, Below.heap_setCell _ _ _ g hg]
def kpG (g : Gr) : List Bool := belowG g (goalsL g)
def cleanG (g : Gr) : Gr := if faultG g = 0 then renG g (kpG g) else nilG
def cplG (g : Gr) : List Int := if faultG g = 0 then plG g (kpG g) else []
def CleanC : Prop := ∀ (g : Gr) (v : Value) (w : World), Small g → GO g v w → Calls Try.prog 62 #[v] w fun e w' => ∃ u vp, e = .returned (.tuple #[u, vp, .int .i64 (faultG g)]) ∧ GO (cleanG g) u w' ∧ RowOf 1 encI (cplG g) vp w' ∧ Below w.heap.size w w'
end Go.Proofs.Ytbphhcjepeamcaa
