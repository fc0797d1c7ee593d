/- A message that came in: its fields. -/
import Derived.Test.YtmeofhjnckgcpaaDoorNRow
import Derived.Deep.Fields
import Derived.ChangeMaps5
namespace Go.Proofs.YtmeofhjnckgcpaaDoor
open Go Go.ChangeShapes Go.WideShapes Go.ChangeAt Go.RowKit Go.ChangeMaps
set_option linter.unusedVariables false
set_option maxRecDepth 100000 in
theorem open_note {H : Type} {enc : TypeId × Value → H} {W : World} {sp : Nat → Bool} {hh : Bool} {b0 : Nat} {v : Value} {d : DataW H} {p : List MemPlace} (hv : Value.okWide Tryd.prog W .any b0 24 v) (h : DataW.Trod enc Tryd.prog W 0 sp hh 24 v d p) :
    ∃ (f t : ByteArray) (l c e : Int), v = .agg #[.string f, .int .i64 l, .int .i64 c, .int .i64 e, .string t] ∧ f.size ≤ maxLen ∧ t.size ≤ maxLen := by
  obtain ⟨cs, rfl, hsz⟩ := okWide_struct Tryd.underlying24 hv
  have h5 : Tryd.prog.cellsOf 24 = 5 := by kernel_rfl
  have c9 : Tryd.prog.cellsOf 9 = 1 := by kernel_rfl
  have c3 : Tryd.prog.cellsOf 3 = 1 := by kernel_rfl
  have c22 : Tryd.prog.cellsOf 22 = 1 := by kernel_rfl
  rw [h5] at hsz
  obtain ⟨fuel, hf⟩ := h
  obtain ⟨xs, n, _, hx, _, hlen, hg⟩ := DataW.trod_struct Tryd.underlying24 hf
  obtain ⟨l⟩ := cs
  match l, hsz, xs, hlen, hg with
  | [v0, v1, v2, v3, v4], _, [y0, y1, y2, y3, y4], _, hg =>
    have g0 := hg 0 _ rfl
    have g1 := hg 1 _ rfl
    have g2 := hg 2 _ rfl
    have g3 := hg 3 _ rfl
    have g4 := hg 4 _ rfl
    simp [Value.cells, c9] at g0
    simp [Value.cells, c3] at g1
    simp [Value.cells, c3] at g2
    simp [Value.cells, c22] at g3
    simp [Value.cells, c9] at g4
    obtain ⟨f, e0, _, s0⟩ := DataW.trod_string Tryd.underlying9 g0
    obtain ⟨a, e1, _, _⟩ := DataW.trod_int Tryd.underlying3 g1
    obtain ⟨b, e2, _, _⟩ := DataW.trod_int Tryd.underlying3 g2
    obtain ⟨c, e3, _, _⟩ := DataW.trod_int Tryd.underlying22 g3
    obtain ⟨t, e4, _, s4⟩ := DataW.trod_string Tryd.underlying9 g4
    simp at e0 e1 e2 e3 e4
    subst e0 e1 e2 e3 e4
    exact ⟨f, t, a, b, c, rfl, s0, s4⟩
end Go.Proofs.YtmeofhjnckgcpaaDoor
