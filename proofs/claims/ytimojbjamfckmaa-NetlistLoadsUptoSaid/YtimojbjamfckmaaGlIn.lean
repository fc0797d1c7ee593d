/- Graphs and rows that came in, with what is known of their sizes. -/
import Derived.Test.YtimojbjamfckmaaGrIn
import Derived.Test.YtimojbjamfckmaaGrTf
namespace Go.Proofs.Ytimojbjamfckmaa
open Go Go.ChangeShapes Go.WideShapes Go.ChangeAt Go.RowKit Go.ChangeMaps
set_option linter.unusedVariables false
set_option maxRecDepth 100000
/-- the sizes of a graph that came in -/
structure Tiny (g : Gr) : Prop where
  n : g.ins.length + g.outN.length + g.regs.length + g.ands.length + g.outs.length ≤ 1048576
  insT : ∀ x ∈ g.ins, x.size ≤ 1048576
  outT : ∀ x ∈ g.outN, x.size ≤ 1048576
  regT : ∀ x ∈ g.regs, x.nm.size ≤ 1048576
section
variable {H : Type} {enc : TypeId × Value → H} {W : World} {sp : Nat → Bool} {hh : Bool} {fuel : Nat} {cs : List Value} {x : DataW H × List MemPlace}
set_option maxRecDepth 100000 in
/-- a graph that came in -/
theorem graph_of_trod2 {b0 : Nat} {v : Value} {d : DataW H} {p : List MemPlace} (hv : Value.okWide Try.prog W .any b0 95 v) (h : DataW.Trod enc Try.prog W 0 sp hh 95 v d p) (hb : Rows.uptoBulk d ≤ 1048576) :
    ∃ g : Gr, GO g v W ∧ Small g ∧ Tiny g := by
  obtain ⟨cs, rfl, hsz5⟩ := okWide_struct Try.underlying95 hv
  have h5 : Try.prog.cellsOf 95 = 5 := by kernel_rfl
  have c1 : Try.prog.cellsOf 22 = 1 := by kernel_rfl
  have c2 : Try.prog.cellsOf 91 = 1 := by kernel_rfl
  have c3 : Try.prog.cellsOf 92 = 1 := by kernel_rfl
  have c4 : Try.prog.cellsOf 93 = 1 := by kernel_rfl
  rw [h5] at hsz5
  obtain ⟨fuel, hf⟩ := h
  obtain ⟨xs, n, _, hx, _, hlen, hg⟩ := DataW.trod_struct Try.underlying95 hf
  obtain ⟨l⟩ := cs
  match l, hsz5, xs, hlen, hg, hx with
  | [v0, v1, v2, v3, v4], _, [y0, y1, y2, y3, y4], _, hg, hx =>
    have g0 := hg 0 _ rfl
    have g1 := hg 1 _ rfl
    have g2 := hg 2 _ rfl
    have g3 := hg 3 _ rfl
    have g4 := hg 4 _ rfl
    simp [Value.cells, c1] at g0
    simp [Value.cells, c1] at g1
    simp [Value.cells, c2] at g2
    simp [Value.cells, c3] at g3
    simp [Value.cells, c4] at g4
    obtain ⟨l0, a0, p0, e0, q0, z0, r0, n0, s0⟩ := row_of_trod encT ByteArray.size (fun _ => rfl) Try.underlying22 (by kernel_rfl) (by decide) (fun _ _ _ h hf => text_of_cells h hf) g0
    obtain ⟨l1, a1, p1, e1, q1, z1, r1, n1, s1⟩ := row_of_trod encT ByteArray.size (fun _ => rfl) Try.underlying22 (by kernel_rfl) (by decide) (fun _ _ _ h hf => text_of_cells h hf) g1
    obtain ⟨l2, a2, p2, e2, q2, z2, r2, n2, s2⟩ := row_of_trod encR (fun r => r.nm.size) (fun _ => rfl) Try.underlying91 (by kernel_rfl) (by decide) (fun _ _ _ h hf => reg_of_cells h hf) g2
    obtain ⟨l3, a3, p3, e3, q3, z3, r3, n3, s3⟩ := row_of_trod encN (fun _ => 0) (fun _ => rfl) Try.underlying92 (by kernel_rfl) (by decide) (fun _ _ _ h hf => node_of_cells h hf) g3
    obtain ⟨l4, a4, p4, e4, q4, z4, r4, n4, s4⟩ := row_of_trod encI (fun _ => 0) (fun _ => rfl) Try.underlying93 (by kernel_rfl) (by decide) (fun _ _ _ h hf => lit_of_cells h hf) g4
    simp at e0 e1 e2 e3 e4
    subst e0 e1 e2 e3 e4
    have hd : d = .agg [y0.1, y1.1, y2.1, y3.1, y4.1] := by simp at hx; exact hx.1
    have hbb : Rows.uptoBulk y0.1 + Rows.uptoBulk y1.1 + Rows.uptoBulk y2.1 + Rows.uptoBulk y3.1 + Rows.uptoBulk y4.1 ≤ 1048576 := by
      rw [hd] at hb
      simp only [Rows.uptoBulk, Rows.uptoBulkAll] at hb
      omega
    refine ⟨⟨l0, l1, l2, l3, l4⟩, ⟨⟨a0, a1, a2, a3, a4, p0, p1, p2, p3, p4, rfl, ⟨q0, q1, q2, q3, q4, z0, z1, z2, z3, z4⟩, ⟨r0, r1, r2, r3, r4⟩⟩⟩, ⟨?_, ?_, ?_, ?_, ?_, ?_, ?_, ?_⟩, ⟨?_, ?_, ?_, ?_⟩⟩
    · show l0.length ≤ _; omega
    · show l1.length ≤ _; omega
    · show l2.length ≤ _; omega
    · show l3.length ≤ _; omega
    · show l4.length ≤ _; omega
    · intro x hx; have := s0 x hx; omega
    · intro x hx; have := s1 x hx; omega
    · intro x hx; have := s2 x hx; omega
    · show l0.length + l1.length + l2.length + l3.length + l4.length ≤ _; omega
    · intro x hx; have := s0 x hx; omega
    · intro x hx; have := s1 x hx; omega
    · intro x hx; have := s2 x hx; omega
theorem row_open {α : Type} [Inhabited α] {k b0 : Nat} {st et : TypeId} {v : Value} {d : DataW H} {p : List MemPlace} (en : α → List Value) (sz : α → Nat) (hlen : ∀ r, (en r).length = k)
    (hu : Try.prog.underlying st = some (.slice et)) (hc : Try.prog.cellsOf et = k) (hk : 0 < k) (hop : ∀ (fuel : Nat) (cs : List Value) (x : DataW H × List MemPlace), cs.length = k → DataW.trod enc Try.prog W 0 sp hh fuel et cs = some x → ∃ r : α, cs = en r ∧ sz r ≤ Rows.uptoBulk x.1)
    (hv : Value.okWide Try.prog W .any b0 st v) (h : DataW.Trod enc Try.prog W 0 sp hh st v d p) : ∃ (l : List α) (ad : Option Addr) (cap : Nat), v = .slice ad l.length cap ∧ l.length ≤ cap ∧ (ad = none → cap = 0) ∧ RowAt k en l ad W ∧ l.length ≤ Rows.uptoBulk d ∧ ∀ r ∈ l, sz r ≤ Rows.uptoBulk d := by
  obtain ⟨a, len, cap, rfl⟩ := okWide_slice hu hv
  obtain ⟨fuel, hf⟩ := h
  obtain ⟨l, ad, cp, e, h1, h2, h3, h4, h5⟩ := row_of_trod en sz hlen hu hc hk hop hf
  simp [Value.cells] at e
  obtain ⟨rfl, rfl, rfl⟩ := e
  exact ⟨l, _, _, rfl, h1, h2, h3, h4, h5⟩
theorem texts_open {b0 : Nat} {v : Value} {d : DataW H} {p : List MemPlace} (hv : Value.okWide Try.prog W .any b0 22 v) (h : DataW.Trod enc Try.prog W 0 sp hh 22 v d p) : ∃ l : List ByteArray, RowOf 1 encT l v W ∧ l.length ≤ Rows.uptoBulk d ∧ ∀ r ∈ l, r.size ≤ Rows.uptoBulk d := by
  obtain ⟨l, ad, cp, rfl, h1, h2, h3, h4, h5⟩ := row_open encT ByteArray.size (fun _ => rfl) Try.underlying22 (by kernel_rfl) (by decide) (fun _ _ _ h hf => text_of_cells h hf) hv h
  exact ⟨l, RowOf.mk h1 h3, h4, h5⟩
theorem lits_open {b0 : Nat} {v : Value} {d : DataW H} {p : List MemPlace} (hv : Value.okWide Try.prog W .any b0 93 v) (h : DataW.Trod enc Try.prog W 0 sp hh 93 v d p) : ∃ l : List Int, RowOf 1 encI l v W ∧ l.length ≤ Rows.uptoBulk d := by
  obtain ⟨l, ad, cp, rfl, h1, h2, h3, h4, h5⟩ := row_open encI (fun _ => 0) (fun _ => rfl) Try.underlying93 (by kernel_rfl) (by decide) (fun _ _ _ h hf => lit_of_cells h hf) hv h
  exact ⟨l, RowOf.mk h1 h3, h4⟩
theorem bools_open {b0 : Nat} {v : Value} {d : DataW H} {p : List MemPlace} (hv : Value.okWide Try.prog W .any b0 42 v) (h : DataW.Trod enc Try.prog W 0 sp hh 42 v d p) : ∃ l : List Bool, RowC (fun b => Value.bool b) l v W ∧ l.length ≤ Rows.uptoBulk d := by
  obtain ⟨l, ad, cp, rfl, h1, h2, h3, h4, h5⟩ := row_open encB (fun _ => 0) (fun _ => rfl) Try.underlying42 (by kernel_rfl) (by decide) (fun _ _ _ h hf => bool_of_cells h hf) hv h
  exact ⟨l, ⟨_, _, rfl, h1, h2, h3⟩, h4⟩
/-- 0 for what fits in 64 bits -/
def far64 (n : Int) : Nat := if 0 ≤ n ∧ n < 18446744073709551616 then 0 else 1073741824
theorem word_of_cells (h : cs.length = 1) (hf : DataW.trod enc Try.prog W 0 sp hh fuel 29 cs = some x) : ∃ r : Int, cs = [.int .u64 r] ∧ far64 r ≤ Rows.uptoBulk x.1 := by
  obtain ⟨n, h1, _, h2⟩ := DataW.trod_int Try.underlying29 hf
  refine ⟨n, h1, ?_⟩
  have h3 : (decide (IntKind.u64.min ≤ n) && decide (n ≤ IntKind.u64.max)) = true := h2
  rw [Bool.and_eq_true, decide_eq_true_eq, decide_eq_true_eq] at h3
  have e1 : IntKind.u64.min = 0 := by decide
  have e2 : IntKind.u64.max = 18446744073709551615 := by decide
  rw [e1, e2] at h3
  unfold far64
  rw [if_pos ⟨h3.1, by omega⟩]
  exact Nat.zero_le _
theorem words_open {b0 : Nat} {v : Value} {d : DataW H} {p : List MemPlace} (hv : Value.okWide Try.prog W .any b0 40 v) (h : DataW.Trod enc Try.prog W 0 sp hh 40 v d p) (hb : Rows.uptoBulk d ≤ 1048576) : ∃ l : List Int, RowC (fun n : Int => Value.int .u64 n) l v W ∧ l.length ≤ Rows.uptoBulk d ∧ ∀ n ∈ l, 0 ≤ n ∧ n < 18446744073709551616 := by
  obtain ⟨l, ad, cp, rfl, h1, h2, h3, h4, h5⟩ := row_open (fun n : Int => [Value.int .u64 n]) far64 (fun _ => rfl) Try.underlying40 (by kernel_rfl) (by decide) (fun _ _ _ h hf => word_of_cells h hf) hv h
  refine ⟨l, ⟨ad, cp, rfl, h1, h2, h3⟩, h4, fun n hn => ?_⟩
  have h6 := h5 n hn
  unfold far64 at h6
  split at h6
  · assumption
  · omega
open Classical in
/-- the length of a row that lies there -/
noncomputable def farRow (W : World) (q : List Bool × Value) : Nat := if RowC (fun b => Value.bool b) q.1 q.2 W then q.1.length else 1073741824
theorem rowb_of_cells (h : cs.length = 1) (hf : DataW.trod enc Try.prog W 0 sp hh fuel 42 cs = some x) : ∃ r : List Bool × Value, cs = [r.2] ∧ farRow W r ≤ Rows.uptoBulk x.1 := by
  obtain ⟨l, ad, cp, e, h1, h2, h3, h4, h5⟩ := row_of_trod encB (fun _ => 0) (fun _ => rfl) Try.underlying42 (by kernel_rfl) (by decide) (fun _ _ _ h hf => bool_of_cells h hf) hf
  refine ⟨(l, .slice ad l.length cp), e, ?_⟩
  unfold farRow
  have hR : RowC (fun b => Value.bool b) (l, Value.slice ad l.length cp).1 (l, Value.slice ad l.length cp).2 W := ⟨_, _, rfl, h1, h2, h3⟩
  rw [if_pos hR]
  exact h4
theorem rows_open {b0 : Nat} {v : Value} {d : DataW H} {p : List MemPlace} (hv : Value.okWide Try.prog W .any b0 55 v) (h : DataW.Trod enc Try.prog W 0 sp hh 55 v d p) (hb : Rows.uptoBulk d ≤ 1048576) : ∃ l : List (List Bool), TR l v W ∧ l.length ≤ 1048576 ∧ ∀ r ∈ l, r.length ≤ 1048576 := by
  obtain ⟨l, ad, cp, rfl, h1, h2, h3, h4, h5⟩ := row_open (fun q : List Bool × Value => [q.2]) (farRow W) (fun _ => rfl) Try.underlying55 (by kernel_rfl) (by decide) (fun _ _ _ h hf => rowb_of_cells h hf) hv h
  have key : ∀ q ∈ l, RowC (fun b => Value.bool b) q.1 q.2 W ∧ q.1.length ≤ 1048576 := fun q hq => by
    have h6 := h5 q hq
    unfold farRow at h6
    split at h6
    · exact ⟨by assumption, by omega⟩
    · omega
  refine ⟨l.map (·.1), ⟨ad, cp, l.map (·.2), by rw [List.length_map], by rw [List.length_map]; exact h1, h2, by simp, ?_, fun j hj => ?_⟩, by rw [List.length_map]; omega, fun r hr => ?_⟩
  · rcases h3 with h3 | ⟨b, oo, e, hc⟩
    · exact .inl (by rw [List.length_map]; exact h3)
    · refine .inr ⟨b, oo, e, fun j hj c y hy => hc j (by rw [List.length_map] at hj; exact hj) c y ?_⟩
      rw [List.length_map] at hj
      rw [getElem!_pos _ j (by rw [List.length_map]; exact hj), List.getElem_map] at hy
      rw [getElem!_pos l j hj]; exact hy
  · rw [List.length_map] at hj
    rw [getElem!_pos _ j (by rw [List.length_map]; exact hj), getElem!_pos _ j (by rw [List.length_map]; exact hj), List.getElem_map, List.getElem_map]
    exact (key _ (List.getElem_mem hj)).1
  · obtain ⟨q, hq, rfl⟩ := List.mem_map.1 hr
    exact (key q hq).2
end
theorem u8_wf {n : Int} (h : (Lit.int .u8 n).wf = true) : ∃ m : Nat, n = m ∧ m < 256 := by
  have h1 : (decide (IntKind.u8.min ≤ n) && decide (n ≤ IntKind.u8.max)) = true := h
  rw [Bool.and_eq_true, decide_eq_true_eq, decide_eq_true_eq] at h1
  have e1 : IntKind.u8.min = 0 := by decide
  have e2 : IntKind.u8.max = 255 := by decide
  rw [e1, e2] at h1
  exact ⟨n.toNat, by omega, by omega⟩
theorem i64_wf {n : Int} (h : (Lit.int .i64 n).wf = true) : -9223372036854775808 ≤ n ∧ n ≤ 9223372036854775807 := by
  have h1 : (decide (IntKind.i64.min ≤ n) && decide (n ≤ IntKind.i64.max)) = true := h
  rw [Bool.and_eq_true, decide_eq_true_eq, decide_eq_true_eq] at h1
  have e1 : IntKind.i64.min = -9223372036854775808 := by decide
  have e2 : IntKind.i64.max = 9223372036854775807 := by decide
  rw [e1, e2] at h1
  omega
end Go.Proofs.Ytimojbjamfckmaa
