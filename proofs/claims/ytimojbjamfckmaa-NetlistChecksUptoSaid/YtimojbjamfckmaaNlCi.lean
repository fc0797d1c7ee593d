/- The cells of a library that came in. -/
import Derived.Test.YtimojbjamfckmaaNlIn
import Derived.Test.YtimojbjamfckmaaNlCe
namespace Go.Proofs.Ytimojbjamfckmaa
open Go Go.ChangeShapes Go.WideShapes Go.ChangeAt Go.RowKit Go.ChangeMaps
set_option linter.unusedVariables false
set_option maxRecDepth 100000
section
variable {H : Type} {enc : TypeId × Value → H} {W : World} {sp : Nat → Bool} {hh : Bool} {fuel : Nat} {cs : List Value} {x : DataW H × List MemPlace}
theorem rowI_of_cells (hf : DataW.trod enc Try.prog W 0 sp hh fuel 25 cs = some x) : ∃ (a : Option Addr) (n k : Nat), cs = [.slice a n k] := by
  obtain ⟨l, ad, cp, e, _⟩ := row_of_trod encI (fun _ => 0) (fun _ => rfl) Try.underlying25 (by kernel_rfl) (by decide) (fun _ _ _ h hf => intN_of_cells h hf) hf
  exact ⟨_, _, _, e⟩
theorem cell_of_cells (h : cs.length = 11) (hf : DataW.trod enc Try.prog W 0 sp hh fuel 86 cs = some x) : ∃ r : Ce, cs = encCe r ∧ 0 ≤ Rows.uptoBulk x.1 := by
  have c3 : Try.prog.cellsOf 3 = 1 := by kernel_rfl
  have c9 : Try.prog.cellsOf 9 = 1 := by kernel_rfl
  have c4 : Try.prog.cellsOf 4 = 1 := by kernel_rfl
  have c6 : Try.prog.cellsOf 29 = 1 := by kernel_rfl
  have c5 : Try.prog.cellsOf 25 = 1 := by kernel_rfl
  obtain ⟨xs, n, _, hx, _, hlen, hg⟩ := DataW.trod_struct Try.underlying86 hf
  match cs, h, xs, hlen, hg, hx with
  | [v0, v1, v2, v3, v4, v5, v6, v7, v8, v9, v10], _, [y0, y1, y2, y3, y4, y5, y6, y7, y8, y9, y10], _, hg, hx =>
    have g0 := hg 0 _ rfl
    have g1 := hg 1 _ rfl
    have g2 := hg 2 _ rfl
    have g3 := hg 3 _ rfl
    have g4 := hg 4 _ rfl
    have g5 := hg 5 _ rfl
    have g6 := hg 6 _ rfl
    have g7 := hg 7 _ rfl
    have g8 := hg 8 _ rfl
    have g9 := hg 9 _ rfl
    have g10 := hg 10 _ rfl
    simp [c9] at g0
    simp [c4] at g1
    simp [c3] at g2
    simp [c6] at g3
    simp [c3] at g4
    simp [c5] at g5
    simp [c5] at g6
    simp [c5] at g7
    simp [c3] at g8
    simp [c3] at g9
    simp [c3] at g10
    obtain ⟨s, e0, _⟩ := text_of_cells rfl g0
    obtain ⟨a1, e1, _⟩ := DataW.trod_bool Try.underlying4 g1
    obtain ⟨a2, e2, _, _⟩ := DataW.trod_int Try.underlying3 g2
    obtain ⟨a3, e3⟩ := wordU_of_cells g3
    obtain ⟨a4, e4, _, _⟩ := DataW.trod_int Try.underlying3 g4
    obtain ⟨p5, n5, k5, e5⟩ := rowI_of_cells g5
    obtain ⟨p6, n6, k6, e6⟩ := rowI_of_cells g6
    obtain ⟨p7, n7, k7, e7⟩ := rowI_of_cells g7
    obtain ⟨a8, e8, _, _⟩ := DataW.trod_int Try.underlying3 g8
    obtain ⟨a9, e9, _, _⟩ := DataW.trod_int Try.underlying3 g9
    obtain ⟨a10, e10, _, _⟩ := DataW.trod_int Try.underlying3 g10
    simp at e0 e1 e2 e3 e4 e5 e6 e7 e8 e9 e10
    subst e0 e1 e2 e3 e4 e5 e6 e7 e8 e9 e10
    exact ⟨⟨s, a1, a2, a3, a4, p5, n5, k5, p6, n6, k6, p7, n7, k7, a8, a9, a10⟩, rfl, Nat.zero_le _⟩
theorem cells_open {b0 : Nat} {v : Value} {d : DataW H} {p : List MemPlace} (hv : Value.okWide Try.prog W .any b0 37 v) (h : DataW.Trod enc Try.prog W 0 sp hh 37 v d p) : ∃ l : List Ce, RowOf 11 encCe l v W ∧ l.length ≤ Rows.uptoBulk d := by
  obtain ⟨l, ad, cp, rfl, h1, h2, h3, h4, h5⟩ := row_open encCe (fun _ => 0) (fun _ => rfl) Try.underlying37 (by kernel_rfl) (by decide) (fun _ _ _ h hf => cell_of_cells h hf) hv h
  exact ⟨l, RowOf.mk h1 h3, h4⟩
end
end Go.Proofs.Ytimojbjamfckmaa
