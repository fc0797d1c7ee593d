/- Graphs and rows that came in. -/
import Derived.Test.YtcpifmhcebfglaaGrSg
import Derived.Test.YtcpifmhcebfglaaRows
import Derived.ProofKit
import Derived.OpenShut
import Derived.Deep.Fields
import Derived.Deep.Slices
import Derived.SizedLaws
import Derived.ChangeMaps5
namespace Go.Proofs.Ytcpifmhcebfglaa
open Go Go.ChangeShapes Go.WideShapes Go.ChangeAt Go.RowKit Go.ChangeMaps
set_option linter.unusedVariables false
theorem list_choose {α : Type} {P : Nat → α → Prop} : ∀ n : Nat, (∀ i, i < n → ∃ r, P i r) → ∃ l : List α, l.length = n ∧ ∀ i (h : i < l.length), P i l[i]
  | 0, _ => ⟨[], rfl, fun i h => by simp at h⟩
  | n + 1, h => by
    obtain ⟨l, hl, hp⟩ := list_choose n (fun i hi => h i (by omega))
    obtain ⟨r, hr⟩ := h n (by omega)
    refine ⟨l ++ [r], by simp [hl], fun i hi => ?_⟩
    by_cases e : i < l.length
    · rw [List.getElem_append_left e]; exact hp i e
    · have : i = n := by simp at hi; omega
      subst this
      rw [List.getElem_append_right (by omega)]
      simpa [hl] using hr
theorem bulk_pos {H : Type} (d : DataW H) : 1 ≤ Rows.uptoBulk d := by
  cases d with
  | lit l => cases l <;> simp [Rows.uptoBulk]
  | nil => simp [Rows.uptoBulk]
  | ptr d => simp [Rows.uptoBulk]
  | slice elems spare => simp [Rows.uptoBulk]
  | agg parts => simp [Rows.uptoBulk]
  | iface t d => simp [Rows.uptoBulk]
  | map entries => simp [Rows.uptoBulk]
  | held h => simp [Rows.uptoBulk]
theorem bulk_len {H : Type} : ∀ ds : List (DataW H), ds.length ≤ Rows.uptoBulkAll ds
  | [] => by simp
  | d :: ds => by have := bulk_len ds; have := bulk_pos d; simp only [List.length_cons, Rows.uptoBulkAll]; omega
theorem bulk_mem {H : Type} : ∀ (ds : List (DataW H)) (d : DataW H), d ∈ ds → Rows.uptoBulk d ≤ Rows.uptoBulkAll ds
  | [], d, h => by cases h
  | e :: ds, d, h => by
    rcases List.mem_cons.1 h with rfl | h
    · simp only [Rows.uptoBulkAll]; omega
    · have := bulk_mem ds d h; simp only [Rows.uptoBulkAll]; omega
/-- a slice that came in, by what is known of an element's cells -/
theorem row_of_trod {α : Type} [Inhabited α] {H : Type} {enc : TypeId × Value → H} {W : World} {sp : Nat → Bool} {hh : Bool} {fuel k : Nat} {st et : TypeId} {cs : List Value} {x : DataW H × List MemPlace} (en : α → List Value) (sz : α → Nat) (hlen : ∀ r, (en r).length = k)
    (hu : Try.prog.underlying st = some (.slice et)) (hc : Try.prog.cellsOf et = k) (hk : 0 < k) (hop : ∀ (fuel : Nat) (cs : List Value) (x : DataW H × List MemPlace), cs.length = k → DataW.trod enc Try.prog W 0 sp hh fuel et cs = some x → ∃ r : α, cs = en r ∧ sz r ≤ Rows.uptoBulk x.1)
    (hf : DataW.trod enc Try.prog W 0 sp hh fuel st cs = some x) : ∃ (l : List α) (ad : Option Addr) (cap : Nat), cs = [.slice ad l.length cap] ∧ l.length ≤ cap ∧ (ad = none → cap = 0) ∧ RowAt k en l ad W ∧ l.length ≤ Rows.uptoBulk x.1 ∧ ∀ r ∈ l, sz r ≤ Rows.uptoBulk x.1 := by
  rcases DataW.trod_slice hu hf with ⟨hcs, _⟩ | ⟨ad, l, c, elems, rest, m, hm, hcs, hy, _, hl, _, hle, hel, _, _⟩
  · exact ⟨[], none, 0, hcs, Nat.le_refl _, fun _ => rfl, .inl rfl, Nat.zero_le _, fun r h => by cases h⟩
  · rw [hc] at hel
    have hbulk : Rows.uptoBulkAll (elems.map (·.1)) ≤ Rows.uptoBulk x.1 := by rw [hy]; simp only [Rows.uptoBulk]; omega
    have each : ∀ i, i < l → ∃ r : α, (∀ j, j < k → W.cell? ((ad.add (i * k)).add j) = (en r)[j]?) ∧ sz r ≤ Rows.uptoBulk x.1 := by
      intro i hi
      have h1 := hel i hi
      rw [List.getElem?_eq_getElem (by omega), Option.bind_eq_some_iff] at h1
      obtain ⟨cs, hcc, ht⟩ := h1
      obtain ⟨_, hcl, hat⟩ := World.cells?_some hcc
      obtain ⟨r, hr, hs⟩ := hop m cs _ hcl ht
      subst hr
      refine ⟨r, hat, Nat.le_trans hs (Nat.le_trans (bulk_mem _ _ ?_) hbulk)⟩
      exact List.mem_map_of_mem (List.getElem_mem _)
    obtain ⟨ks, hks, hp⟩ := list_choose l each
    subst hks
    refine ⟨ks, some ad, c, hcs, hl, fun h => (by cases h), ?_, ?_, fun r hr => ?_⟩
    · by_cases h0 : ks.length = 0
      · exact .inl h0
      · obtain ⟨b, o, s⟩ := ad
        have hlt : 0 < ks.length := by omega
        have hs : s = none := by
          have q := (hp 0 hlt).1 0 hk
          have hz : 0 < (en ks[0]).length := by rw [hlen]; exact hk
          rw [List.getElem?_eq_getElem hz] at q
          simpa [Addr.add] using World.cell?_spot q
        subst hs
        refine .inr ⟨b, o, rfl, fun j hj cc y hy2 => ?_⟩
        rw [getElem!_pos ks j hj] at hy2
        have hcc : cc < k := by
          rcases Nat.lt_or_ge cc k with h | h
          · exact h
          · rw [List.getElem?_eq_none (by rw [hlen]; exact h)] at hy2; cases hy2
        have q := (hp j hj).1 cc hcc
        rw [hy2] at q
        have e1 : (⟨b, o, none⟩ : Addr).add (j * k) = ⟨b, o + j * k, none⟩ := Addr.add_lit _ _ _
        have e2 : (⟨b, o + j * k, none⟩ : Addr).add cc = ⟨b, o + j * k + cc, none⟩ := Addr.add_lit _ _ _
        rw [e1, e2] at q
        exact q
    · have h1 := bulk_len (elems.map (·.1))
      rw [List.length_map, hle] at h1
      omega
    · obtain ⟨i, hi, rfl⟩ := List.getElem_of_mem hr
      exact (hp i hi).2
section
variable {H : Type} {enc : TypeId × Value → H} {W : World} {sp : Nat → Bool} {hh : Bool} {fuel : Nat} {cs : List Value} {x : DataW H × List MemPlace}
theorem text_of_cells (h : cs.length = 1) (hf : DataW.trod enc Try.prog W 0 sp hh fuel 9 cs = some x) : ∃ r : ByteArray, cs = encT r ∧ r.size ≤ Rows.uptoBulk x.1 := by
  obtain ⟨s, h1, h2, _⟩ := DataW.trod_string Try.underlying9 hf
  refine ⟨s, h1, ?_⟩
  rw [h2]
  simp only [Rows.uptoBulk, Array.length_toList]
  show s.data.size ≤ _
  omega
theorem lit_of_cells (h : cs.length = 1) (hf : DataW.trod enc Try.prog W 0 sp hh fuel 67 cs = some x) : ∃ r : Int, cs = encI r ∧ 0 ≤ Rows.uptoBulk x.1 := by
  obtain ⟨n, h1, _, _⟩ := DataW.trod_int Try.underlying67 hf
  exact ⟨n, h1, Nat.zero_le _⟩
theorem bool_of_cells (h : cs.length = 1) (hf : DataW.trod enc Try.prog W 0 sp hh fuel 4 cs = some x) : ∃ r : Bool, cs = encB r ∧ 0 ≤ Rows.uptoBulk x.1 := by
  obtain ⟨n, h1, _⟩ := DataW.trod_bool Try.underlying4 hf
  exact ⟨n, h1, Nat.zero_le _⟩
set_option maxRecDepth 100000 in
theorem node_of_cells (h : cs.length = 2) (hf : DataW.trod enc Try.prog W 0 sp hh fuel 137 cs = some x) : ∃ r : Int × Int, cs = encN r ∧ 0 ≤ Rows.uptoBulk x.1 := by
  have c3 : Try.prog.cellsOf 67 = 1 := by kernel_rfl
  obtain ⟨xs, n, _, hx, _, hlen, hg⟩ := DataW.trod_struct Try.underlying137 hf
  match cs, h, xs, hlen, hg with
  | [v0, v1], _, [y0, y1], _, hg =>
    have g0 := hg 0 _ rfl
    have g1 := hg 1 _ rfl
    simp [c3] at g0
    simp [c3] at g1
    obtain ⟨a0, e0, _, _⟩ := DataW.trod_int Try.underlying67 g0
    obtain ⟨a1, e1, _, _⟩ := DataW.trod_int Try.underlying67 g1
    simp at e0 e1
    subst e0 e1
    exact ⟨(a0, a1), rfl, Nat.zero_le _⟩
set_option maxRecDepth 100000 in
theorem reg_of_cells (h : cs.length = 3) (hf : DataW.trod enc Try.prog W 0 sp hh fuel 128 cs = some x) : ∃ r : Rg, cs = encR r ∧ r.nm.size ≤ Rows.uptoBulk x.1 := by
  have c3 : Try.prog.cellsOf 67 = 1 := by kernel_rfl
  have c9 : Try.prog.cellsOf 9 = 1 := by kernel_rfl
  have c4 : Try.prog.cellsOf 4 = 1 := by kernel_rfl
  obtain ⟨xs, n, _, hx, _, hlen, hg⟩ := DataW.trod_struct Try.underlying128 hf
  match cs, h, xs, hlen, hg, hx with
  | [v0, v1, v2], _, [y0, y1, y2], _, hg, hx =>
    have g0 := hg 0 _ rfl
    have g1 := hg 1 _ rfl
    have g2 := hg 2 _ rfl
    simp [c9] at g0
    simp [c3] at g1
    simp [c4] at g2
    have k0 := text_of_cells rfl g0
    obtain ⟨a1, e1, _, _⟩ := DataW.trod_int Try.underlying67 g1
    obtain ⟨a2, e2, _⟩ := DataW.trod_bool Try.underlying4 g2
    obtain ⟨s, e0, hs⟩ := k0
    simp at e0 e1 e2
    subst e0 e1 e2
    refine ⟨⟨s, a1, a2⟩, rfl, ?_⟩
    have : Rows.uptoBulk y0.1 ≤ Rows.uptoBulk x.1 := by
      rw [hx]
      simp only [List.map_cons, List.map_nil, Rows.uptoBulk, Rows.uptoBulkAll]
      omega
    exact Nat.le_trans hs this
set_option maxRecDepth 100000 in
/-- a graph that came in -/
theorem graph_of_trod {b0 : Nat} {v : Value} {d : DataW H} {p : List MemPlace} (hv : Value.okWide Try.prog W .any b0 31 v) (h : DataW.Trod enc Try.prog W 0 sp hh 31 v d p) (hb : Rows.uptoBulk d ≤ 1048576) :
    ∃ g : Gr, GO g v W ∧ Small g := by
  obtain ⟨cs, rfl, hsz5⟩ := okWide_struct Try.underlying31 hv
  have h5 : Try.prog.cellsOf 31 = 5 := by kernel_rfl
  have c1 : Try.prog.cellsOf 26 = 1 := by kernel_rfl
  have c2 : Try.prog.cellsOf 27 = 1 := by kernel_rfl
  have c3 : Try.prog.cellsOf 28 = 1 := by kernel_rfl
  have c4 : Try.prog.cellsOf 29 = 1 := by kernel_rfl
  rw [h5] at hsz5
  obtain ⟨fuel, hf⟩ := h
  obtain ⟨xs, n, _, hx, _, hlen, hg⟩ := DataW.trod_struct Try.underlying31 hf
  obtain ⟨l⟩ := cs
  match l, hsz5, xs, hlen, hg, hx with
  | [v0, v1, v2, v3, v4], _, [y0, y1, y2, y3, y4], _, hg, hx =>
    have g0 := hg 0 _ rfl
    have g1 := hg 1 _ rfl
    have g2 := hg 2 _ rfl
    have g3 := hg 3 _ rfl
    have g4 := hg 4 _ rfl
    simp [Value.cells, c1] at g0
    simp [Value.cells, c1] at g1
    simp [Value.cells, c2] at g2
    simp [Value.cells, c3] at g3
    simp [Value.cells, c4] at g4
    obtain ⟨l0, a0, p0, e0, q0, z0, r0, n0, s0⟩ := row_of_trod encT ByteArray.size (fun _ => rfl) Try.underlying26 (by kernel_rfl) (by decide) (fun _ _ _ h hf => text_of_cells h hf) g0
    obtain ⟨l1, a1, p1, e1, q1, z1, r1, n1, s1⟩ := row_of_trod encT ByteArray.size (fun _ => rfl) Try.underlying26 (by kernel_rfl) (by decide) (fun _ _ _ h hf => text_of_cells h hf) g1
    obtain ⟨l2, a2, p2, e2, q2, z2, r2, n2, s2⟩ := row_of_trod encR (fun r => r.nm.size) (fun _ => rfl) Try.underlying27 (by kernel_rfl) (by decide) (fun _ _ _ h hf => reg_of_cells h hf) g2
    obtain ⟨l3, a3, p3, e3, q3, z3, r3, n3, s3⟩ := row_of_trod encN (fun _ => 0) (fun _ => rfl) Try.underlying28 (by kernel_rfl) (by decide) (fun _ _ _ h hf => node_of_cells h hf) g3
    obtain ⟨l4, a4, p4, e4, q4, z4, r4, n4, s4⟩ := row_of_trod encI (fun _ => 0) (fun _ => rfl) Try.underlying29 (by kernel_rfl) (by decide) (fun _ _ _ h hf => lit_of_cells h hf) g4
    simp at e0 e1 e2 e3 e4
    subst e0 e1 e2 e3 e4
    have hd : d = .agg [y0.1, y1.1, y2.1, y3.1, y4.1] := by simp at hx; exact hx.1
    have hbb : Rows.uptoBulk y0.1 + Rows.uptoBulk y1.1 + Rows.uptoBulk y2.1 + Rows.uptoBulk y3.1 + Rows.uptoBulk y4.1 ≤ 1048576 := by
      rw [hd] at hb
      simp only [Rows.uptoBulk, Rows.uptoBulkAll] at hb
      omega
    refine ⟨⟨l0, l1, l2, l3, l4⟩, ⟨⟨a0, a1, a2, a3, a4, p0, p1, p2, p3, p4, rfl, ⟨q0, q1, q2, q3, q4, z0, z1, z2, z3, z4⟩, ⟨r0, r1, r2, r3, r4⟩⟩⟩, ⟨?_, ?_, ?_, ?_, ?_, ?_, ?_, ?_⟩⟩
    · show l0.length ≤ _; omega
    · show l1.length ≤ _; omega
    · show l2.length ≤ _; omega
    · show l3.length ≤ _; omega
    · show l4.length ≤ _; omega
    · intro x hx; have := s0 x hx; omega
    · intro x hx; have := s1 x hx; omega
    · intro x hx; have := s2 x hx; omega
end
end Go.Proofs.Ytcpifmhcebfglaa
