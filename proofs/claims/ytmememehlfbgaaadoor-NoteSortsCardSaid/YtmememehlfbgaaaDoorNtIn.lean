/- A slice of messages that came in: its elements. -/
import Derived.Test.YtmememehlfbgaaaDoorNRow
import Derived.Test.YtmememehlfbgaaaDoorNtRow
import Derived.Deep.Fields
import Derived.Deep.Slices
import Derived.SizedLaws
import Derived.ChangeMaps5
namespace Go.Proofs.YtmememehlfbgaaaDoor
open Go Go.ChangeShapes Go.WideShapes Go.ChangeAt Go.RowKit Go.ChangeMaps
set_option linter.unusedVariables false
set_option maxRecDepth 100000 in
/-- a message's cells in memory -/
theorem note_of_cells {H : Type} {enc : TypeId × Value → H} {W : World} {sp : Nat → Bool} {hh : Bool} {fuel : Nat} {cs : List Value} {x : DataW H × List MemPlace} (h5 : cs.length = 5) (hf : DataW.trod enc Tryd.prog W 0 sp hh fuel 35 cs = some x) :
    ∃ n : Nt, cs = encN n := by
  have c9 : Tryd.prog.cellsOf 9 = 1 := by kernel_rfl
  have c3 : Tryd.prog.cellsOf 3 = 1 := by kernel_rfl
  have c22 : Tryd.prog.cellsOf 26 = 1 := by kernel_rfl
  obtain ⟨xs, n, _, hx, _, hlen, hg⟩ := DataW.trod_struct Tryd.underlying35 hf
  match cs, h5, xs, hlen, hg with
  | [v0, v1, v2, v3, v4], _, [y0, y1, y2, y3, y4], _, hg =>
    have g0 := hg 0 _ rfl
    have g1 := hg 1 _ rfl
    have g2 := hg 2 _ rfl
    have g3 := hg 3 _ rfl
    have g4 := hg 4 _ rfl
    simp [c9] at g0
    simp [c3] at g1
    simp [c3] at g2
    simp [c22] at g3
    simp [c9] at g4
    obtain ⟨f, e0, _, s0⟩ := DataW.trod_string Tryd.underlying9 g0
    obtain ⟨a, e1, _, _⟩ := DataW.trod_int Tryd.underlying3 g1
    obtain ⟨b, e2, _, _⟩ := DataW.trod_int Tryd.underlying3 g2
    obtain ⟨c, e3, _, _⟩ := DataW.trod_int Tryd.underlying26 g3
    obtain ⟨t, e4, _, s4⟩ := DataW.trod_string Tryd.underlying9 g4
    simp at e0 e1 e2 e3 e4
    subst e0 e1 e2 e3 e4
    exact ⟨⟨f, a, b, c, t⟩, rfl⟩
set_option maxRecDepth 100000 in
theorem nts_of_trod {H : Type} {enc : TypeId × Value → H} {W : World} {a0 : Option Addr} {len0 cap0 : Nat} {d0 : DataW H} {p0 : List MemPlace} {hh : Bool} {ts : List TypeId} {ds : List (DataW H)}
    (h0 : DataW.Trod enc Tryd.prog W 0 (fun _ => true) hh 32 (.slice a0 len0 cap0) d0 p0) (hsz : (DataW.weightsEach Tryd.prog (32 :: ts) (d0 :: ds)).all (· ≤ reachBytes) = true) :
    len0 = 0 ∨ ∃ (bl off : Nat) (L : List Nt), a0 = some ⟨bl, off, none⟩ ∧ L.length = len0 ∧ 1 ≤ L.length ∧ L.length ≤ 4000000000000 ∧ L.length ≤ cap0 ∧ RR W bl off L := by
  obtain ⟨fuel, hf⟩ := h0
  rcases DataW.trod_slice Tryd.underlying32 hf with ⟨hcs, _⟩ | ⟨x, l, c, elems, rest, n, _, hcs, hx, _, hl, hm, hle, hel, _, _⟩
  · simp [Value.cells] at hcs
    obtain ⟨rfl, rfl, rfl⟩ := hcs
    exact .inl rfl
  · simp [Value.cells] at hcs
    obtain ⟨rfl, rfl, rfl⟩ := hcs
    simp only [Prod.mk.injEq] at hx
    obtain ⟨rfl, _⟩ := hx
    by_cases hz : len0 = 0
    · exact .inl hz
    have hw := sized_slice hsz (j := 0) (t := 32) (e := 35) rfl rfl Tryd.underlying32
    have h8 : Tryd.prog.bytesOf 35 = 56 := by kernel_rfl
    have h5 : Tryd.prog.cellsOf 35 = 5 := by kernel_rfl
    have hr := reachBytes_lt
    have e3 : (2 : Nat) ^ 47 = 140737488355328 := by decide
    rw [h8] at hw
    simp only [List.length_map] at hw
    rw [h5] at hel
    have each : ∀ i, i < len0 → ∃ r : Nt, ∀ c, c < 5 → W.cell? ((x.add (i * 5)).add c) = some (encN r)[c]! := by
      intro i hi
      have h1 := hel i hi
      rw [List.getElem?_eq_getElem (by omega), Option.bind_eq_some_iff] at h1
      obtain ⟨cs, hc, ht⟩ := h1
      obtain ⟨_, hcl, hat⟩ := World.cells?_some hc
      obtain ⟨r, rfl⟩ := note_of_cells hcl ht
      refine ⟨r, fun c hc5 => ?_⟩
      rw [hat c hc5, List.getElem?_eq_getElem (by rw [encN_len]; exact hc5), getElem!_pos (encN r) c (by rw [encN_len]; exact hc5)]
    let f : Nat → Nt := fun i => if h : i < len0 then Classical.choose (each i h) else default
    obtain ⟨bl, off, spot⟩ := x
    have hspot : spot = none := by
      obtain ⟨r0, q0⟩ := each 0 (by omega)
      simpa [Addr.add] using World.cell?_spot (q0 0 (by decide))
    subst hspot
    refine .inr ⟨bl, off, (List.range len0).map f, rfl, by simp, by simp; omega, by simp; omega, by simp; omega, fun j hj c hc => ?_⟩
    have hj' : j < len0 := by simpa using hj
    have e : ((List.range len0).map f)[j]! = Classical.choose (each j hj') := by
      rw [getElem!_pos _ j hj, List.getElem_map, List.getElem_range]
      exact dif_pos hj'
    rw [e, ← Classical.choose_spec (each j hj') c hc]
    have hadd : ∀ q, (⟨bl, off, none⟩ : Addr).add q = ⟨bl, off + q, none⟩ := fun q => Addr.add_lit _ _ _
    rw [hadd, Addr.add_lit]
end Go.Proofs.YtmememehlfbgaaaDoor
