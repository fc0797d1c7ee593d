/- Netlists that came in. -/
import Derived.Test.YtimojbjamfckmaaGlIn
import Derived.Test.YtimojbjamfckmaaNlMem
namespace Go.Proofs.Ytimojbjamfckmaa
open Go Go.ChangeShapes Go.WideShapes Go.ChangeAt Go.RowKit Go.ChangeMaps
set_option linter.unusedVariables false
set_option maxRecDepth 100000
section
variable {H : Type} {enc : TypeId × Value → H} {W : World} {sp : Nat → Bool} {hh : Bool} {fuel : Nat} {cs : List Value} {x : DataW H × List MemPlace}
theorem intN_of_cells (h : cs.length = 1) (hf : DataW.trod enc Try.prog W 0 sp hh fuel 3 cs = some x) : ∃ r : Int, cs = encI r ∧ 0 ≤ Rows.uptoBulk x.1 := by
  obtain ⟨n, h1, _, _⟩ := DataW.trod_int Try.underlying3 hf
  exact ⟨n, h1, Nat.zero_le _⟩
theorem wordU_of_cells (hf : DataW.trod enc Try.prog W 0 sp hh fuel 29 cs = some x) : ∃ b : BitVec 64, cs = [.int .u64 (U b)] := by
  obtain ⟨n, h1, _, h2⟩ := DataW.trod_int Try.underlying29 hf
  have h3 : (decide (IntKind.u64.min ≤ n) && decide (n ≤ IntKind.u64.max)) = true := h2
  rw [Bool.and_eq_true, decide_eq_true_eq, decide_eq_true_eq] at h3
  have e1 : IntKind.u64.min = 0 := by decide
  have e2 : IntKind.u64.max = 18446744073709551615 := by decide
  rw [e1, e2] at h3
  refine ⟨BitVec.ofInt 64 n, ?_⟩
  rw [h1]
  have : U (BitVec.ofInt 64 n) = n := by
    unfold U
    rw [BitVec.toNat_ofInt]
    omega
  rw [this]
open Classical in
/-- the number of inputs of a gate that lies there -/
noncomputable def farG (W : World) (g : Ga) : Nat := if GaIn g W then g.ins.length else 1073741824
theorem gate_of_cells (h : cs.length = 3) (hf : DataW.trod enc Try.prog W 0 sp hh fuel 82 cs = some x) : ∃ r : Ga, cs = encGa r ∧ farG W r ≤ Rows.uptoBulk x.1 := by
  have c3 : Try.prog.cellsOf 3 = 1 := by kernel_rfl
  have c4 : Try.prog.cellsOf 29 = 1 := by kernel_rfl
  have c5 : Try.prog.cellsOf 25 = 1 := by kernel_rfl
  obtain ⟨xs, n, _, hx, _, hlen, hg⟩ := DataW.trod_struct Try.underlying82 hf
  match cs, h, xs, hlen, hg, hx with
  | [v0, v1, v2], _, [y0, y1, y2], _, hg, hx =>
    have g0 := hg 0 _ rfl
    have g1 := hg 1 _ rfl
    have g2 := hg 2 _ rfl
    simp [c3] at g0
    simp [c4] at g1
    simp [c5] at g2
    obtain ⟨a0, e0, _, _⟩ := DataW.trod_int Try.underlying3 g0
    obtain ⟨a1, e1⟩ := wordU_of_cells g1
    obtain ⟨l, ad, cp, e2, h1, h2, h3, h4, _⟩ := row_of_trod encI (fun _ => 0) (fun _ => rfl) Try.underlying25 (by kernel_rfl) (by decide) (fun _ _ _ h hf => intN_of_cells h hf) g2
    simp at e0 e1 e2
    subst e0 e1 e2
    refine ⟨⟨a0, a1, l, ad, cp⟩, rfl, ?_⟩
    have hb : Rows.uptoBulk y2.1 ≤ Rows.uptoBulk x.1 := by
      rw [hx]
      simp only [List.map_cons, List.map_nil, Rows.uptoBulk, Rows.uptoBulkAll]
      omega
    unfold farG
    rw [if_pos ⟨h3, h1, h2⟩]
    exact Nat.le_trans h4 hb
theorem flop_of_cells (h : cs.length = 5) (hf : DataW.trod enc Try.prog W 0 sp hh fuel 84 cs = some x) : ∃ r : Fl, cs = encFl r ∧ r.nm.size ≤ Rows.uptoBulk x.1 := by
  have c3 : Try.prog.cellsOf 3 = 1 := by kernel_rfl
  have c9 : Try.prog.cellsOf 9 = 1 := by kernel_rfl
  have c4 : Try.prog.cellsOf 4 = 1 := by kernel_rfl
  obtain ⟨xs, n, _, hx, _, hlen, hg⟩ := DataW.trod_struct Try.underlying84 hf
  match cs, h, xs, hlen, hg, hx with
  | [v0, v1, v2, v3, v4], _, [y0, y1, y2, y3, y4], _, hg, hx =>
    have g0 := hg 0 _ rfl
    have g1 := hg 1 _ rfl
    have g2 := hg 2 _ rfl
    have g3 := hg 3 _ rfl
    have g4 := hg 4 _ rfl
    simp [c9] at g0
    simp [c3] at g1
    simp [c3] at g2
    simp [c3] at g3
    simp [c4] at g4
    obtain ⟨s, e0, hs⟩ := text_of_cells rfl g0
    obtain ⟨a1, e1, _, _⟩ := DataW.trod_int Try.underlying3 g1
    obtain ⟨a2, e2, _, _⟩ := DataW.trod_int Try.underlying3 g2
    obtain ⟨a3, e3, _, _⟩ := DataW.trod_int Try.underlying3 g3
    obtain ⟨a4, e4, _⟩ := DataW.trod_bool Try.underlying4 g4
    simp at e0 e1 e2 e3 e4
    subst e0 e1 e2 e3 e4
    refine ⟨⟨s, a1, a2, a3, a4⟩, rfl, ?_⟩
    have : Rows.uptoBulk y0.1 ≤ Rows.uptoBulk x.1 := by
      rw [hx]
      simp only [List.map_cons, List.map_nil, Rows.uptoBulk, Rows.uptoBulkAll]
      omega
    exact Nat.le_trans hs this
/-- a netlist that came in -/
theorem net_of_trod {b0 : Nat} {v : Value} {d : DataW H} {p : List MemPlace} (hv : Value.okWide Try.prog W .any b0 27 v) (h : DataW.Trod enc Try.prog W 0 sp hh 27 v d p) (hb : Rows.uptoBulk d ≤ 1048576) :
    ∃ n : Nl, NO n v W ∧ SmN n := by
  obtain ⟨cs, rfl, hsz5⟩ := okWide_struct Try.underlying27 hv
  have h5 : Try.prog.cellsOf 27 = 5 := by kernel_rfl
  have c1 : Try.prog.cellsOf 22 = 1 := by kernel_rfl
  have c2 : Try.prog.cellsOf 23 = 1 := by kernel_rfl
  have c3 : Try.prog.cellsOf 24 = 1 := by kernel_rfl
  have c4 : Try.prog.cellsOf 25 = 1 := by kernel_rfl
  rw [h5] at hsz5
  obtain ⟨fuel, hf⟩ := h
  obtain ⟨xs, n, _, hx, _, hlen, hg⟩ := DataW.trod_struct Try.underlying27 hf
  obtain ⟨l⟩ := cs
  match l, hsz5, xs, hlen, hg, hx with
  | [v0, v1, v2, v3, v4], _, [y0, y1, y2, y3, y4], _, hg, hx =>
    have g0 := hg 0 _ rfl
    have g1 := hg 1 _ rfl
    have g2 := hg 2 _ rfl
    have g3 := hg 3 _ rfl
    have g4 := hg 4 _ rfl
    simp [Value.cells, c1] at g0
    simp [Value.cells, c1] at g1
    simp [Value.cells, c2] at g2
    simp [Value.cells, c3] at g3
    simp [Value.cells, c4] at g4
    obtain ⟨l0, a0, p0, e0, q0, z0, r0, n0, s0⟩ := row_of_trod encT ByteArray.size (fun _ => rfl) Try.underlying22 (by kernel_rfl) (by decide) (fun _ _ _ h hf => text_of_cells h hf) g0
    obtain ⟨l1, a1, p1, e1, q1, z1, r1, n1, s1⟩ := row_of_trod encT ByteArray.size (fun _ => rfl) Try.underlying22 (by kernel_rfl) (by decide) (fun _ _ _ h hf => text_of_cells h hf) g1
    obtain ⟨l2, a2, p2, e2, q2, z2, r2, n2, s2⟩ := row_of_trod encFl (fun r => r.nm.size) (fun _ => rfl) Try.underlying23 (by kernel_rfl) (by decide) (fun _ _ _ h hf => flop_of_cells h hf) g2
    obtain ⟨l3, a3, p3, e3, q3, z3, r3, n3, s3⟩ := row_of_trod encGa (farG W) (fun _ => rfl) Try.underlying24 (by kernel_rfl) (by decide) (fun _ _ _ h hf => gate_of_cells h hf) g3
    obtain ⟨l4, a4, p4, e4, q4, z4, r4, n4, s4⟩ := row_of_trod encI (fun _ => 0) (fun _ => rfl) Try.underlying25 (by kernel_rfl) (by decide) (fun _ _ _ h hf => intN_of_cells h hf) g4
    simp at e0 e1 e2 e3 e4
    subst e0 e1 e2 e3 e4
    have hd : d = .agg [y0.1, y1.1, y2.1, y3.1, y4.1] := by simp at hx; exact hx.1
    have hbb : Rows.uptoBulk y0.1 + Rows.uptoBulk y1.1 + Rows.uptoBulk y2.1 + Rows.uptoBulk y3.1 + Rows.uptoBulk y4.1 ≤ 1048576 := by
      rw [hd] at hb
      simp only [Rows.uptoBulk, Rows.uptoBulkAll] at hb
      omega
    have key : ∀ j, j < l3.length → GaIn l3[j]! W ∧ l3[j]!.ins.length ≤ 1048576 := fun j hj => by
      have h6 := s3 _ (mem1 l3 hj)
      unfold farG at h6
      split at h6
      · exact ⟨by assumption, by omega⟩
      · omega
    refine ⟨⟨l0, l1, l2, l3, l4⟩, ⟨⟨a0, a1, a2, a3, a4, p0, p1, p2, p3, p4, rfl, ⟨q0, q1, q2, q3, q4, z0, z1, z2, z3, z4⟩, ⟨r0, r1, r2, r3, r4, fun j hj => (key j hj).1⟩⟩⟩, ⟨?_, ?_, ?_, ?_, ?_, ?_, ?_, ?_, ?_, fun j hj => (key j hj).2⟩⟩
    · show l0.length ≤ _; omega
    · show l1.length ≤ _; omega
    · show l2.length ≤ _; omega
    · show l3.length ≤ _; omega
    · show l4.length ≤ _; omega
    · show l0.length + l1.length + l2.length + l3.length + l4.length ≤ _; omega
    · intro x hx; have := s0 x hx; omega
    · intro x hx; have := s1 x hx; omega
    · intro x hx; have := s2 x hx; omega
end
theorem u64_wf {n : Int} (h : (Lit.int .u64 n).wf = true) : ∃ b : BitVec 64, n = U b := by
  have h1 : (decide (IntKind.u64.min ≤ n) && decide (n ≤ IntKind.u64.max)) = true := h
  rw [Bool.and_eq_true, decide_eq_true_eq, decide_eq_true_eq] at h1
  have e1 : IntKind.u64.min = 0 := by decide
  have e2 : IntKind.u64.max = 18446744073709551615 := by decide
  rw [e1, e2] at h1
  refine ⟨BitVec.ofInt 64 n, ?_⟩
  unfold U
  rw [BitVec.toNat_ofInt]
  omega
end Go.Proofs.Ytimojbjamfckmaa
