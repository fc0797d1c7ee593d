/- What match needs: owned bytes, a part of a row of kids, a mark. -/
import Derived.Test.YtpjnjcljaoaceaaSyTak
import Derived.Lib.BufferRead
import Derived.Deep.RegionLaw
namespace Go.Proofs.Ytpjnjcljaoaceaa
open Go Go.RowKit
set_option linter.unusedVariables false
theorem infoB : (Try.prog.info? 5).map (fun i => (i.zero, i.size, i.bytes)) = some (some (.int .u8 0), 1, 1) := by kernel_rfl
theorem infoB_parts : ∃ i, Try.prog.info? 5 = some i ∧ i.zero = some (.int .u8 0) ∧ i.size = 1 ∧ i.bytes = 1 := by
  have h := infoB
  cases hi : Try.prog.info? 5 with
  | none => rw [hi] at h; cases h
  | some i =>
    rw [hi] at h
    simp only [Option.map_some, Option.some.injEq, Prod.mk.injEq] at h
    exact ⟨i, rfl, h.1, h.2.1, h.2.2⟩
def OB (B : Nat) (w : World) (v : Value) (l : List UInt8) : Prop := w.ownsRow B 5 1 v l.length (Lib.byteCells l)
theorem OB.below {w w' : World} {B : Nat} {v : Value} {l : List UInt8} (h : OB B w v l) (hb : Below w.heap.size w w') : OB B w' v l :=
  World.ownsRow.kept (row := none) h ⟨hb.os, hb.tape, hb.output, hb.size, fun k hk _ => hb.block k hk⟩ (by cases v.ownBlock <;> simp)
theorem OB.form {w : World} {B : Nat} {v : Value} {l : List UInt8} (h : OB B w v l) : ∃ a cap, v = .slice a l.length cap := by
  rcases h.2 with ⟨h1, h0⟩ | ⟨g, cap, cur, hv, _⟩
  · exact ⟨none, 0, by rw [h1, h0]⟩
  · exact ⟨_, _, hv⟩
theorem Row.drop {w : World} {b o cap : Nat} {ks : List Nd} (n : Nat) (h : Row w (some ⟨b, o, none⟩) cap ks) (hn : n ≤ ks.length) : Row w (some ⟨b, o + n * 10, none⟩) (cap - n) (ks.drop n) := by
  refine ⟨by have := h.1; simp; omega, fun hne => ⟨b, o + n * 10, rfl, fun j hj => ?_⟩⟩
  have hk : ks ≠ [] := by rintro rfl; simp at hne
  obtain ⟨b', o', e, f⟩ := h.2 hk
  cases e
  have := f (n + j) (by simp at hj; omega)
  rw [show o + (n + j) * 10 = o + n * 10 + j * 10 by omega] at this
  rw [List.getElem_drop]
  exact this
theorem toL_ne {r : ByteArray} (h : 0 < r.size) : r.toList.isEmpty = false := by
  rw [ByteArray.toList_eq]
  cases hh : r.data.toList with
  | nil => have : r.data.toList.length = r.size := by rw [Array.length_toList]; rfl
           rw [hh] at this; simp at this; omega
  | cons c l => rfl
theorem markN_yes {m : UInt8} {r : List UInt8} (h : isMark m = true) : markN (m :: r) = (m, r) := by
  show (if isMark m = true then (m, r) else ((0 : UInt8), m :: r)) = _
  rw [if_pos h]
theorem markN_no {m : UInt8} {r : List UInt8} (h : isMark m = false) : markN (m :: r) = (0, m :: r) := by
  show (if isMark m = true then (m, r) else ((0 : UInt8), m :: r)) = _
  rw [h]; rfl
theorem mark_ix : ∀ m : Fin 256, (0 ≤ Lib.indexByte [42, 43, 63] (UInt8.ofNat m.1)) = (isMark (UInt8.ofNat m.1) = true) := by
  have h : ∀ m : Fin 256, decide (0 ≤ Lib.indexByte [42, 43, 63] (UInt8.ofNat m.1)) = isMark (UInt8.ofNat m.1) := by decide +kernel
  intro m
  rw [← h m, decide_eq_true_eq]
end Go.Proofs.Ytpjnjcljaoaceaa
