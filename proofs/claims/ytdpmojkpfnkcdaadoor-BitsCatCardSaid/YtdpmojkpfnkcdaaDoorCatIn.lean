/- A slice of vectors that came in: its elements. -/
import Derived.Test.YtdpmojkpfnkcdaaDoorBitsIn
import Derived.Test.YtdpmojkpfnkcdaaDoorCats
import Derived.Deep.Slices
namespace Go.Proofs.YtdpmojkpfnkcdaaDoor
open Go Go.ChangeShapes Go.WideShapes Go.ChangeAt Go.RowKit Go.ChangeMaps
set_option linter.unusedVariables false
set_option maxRecDepth 100000 in
/-- a vector's cells in memory -/
theorem bits_of_cells {H : Type} {enc : TypeId × Value → H} {W : World} {sp : Nat → Bool} {hh : Bool} {fuel : Nat} {cs : List Value} {x : DataW H × List MemPlace} (h3 : cs.length = 3) (hf : DataW.trod enc Tryd.prog W 0 sp hh fuel 24 cs = some x) :
    ∃ r : Rb, cs = [.int .i64 r.W, .int .u64 (U r.v), .int .u64 (U r.x)] := by
  have c3 : Tryd.prog.cellsOf 3 = 1 := by kernel_rfl
  have c6 : Tryd.prog.cellsOf 22 = 1 := by kernel_rfl
  obtain ⟨xs, n, _, hx, _, hlen, hg⟩ := DataW.trod_struct Tryd.underlying24 hf
  match cs, h3, xs, hlen, hg with
  | [v0, v1, v2], _, [y0, y1, y2], _, hg =>
    have g0 := hg 0 _ rfl
    have g1 := hg 1 _ rfl
    have g2 := hg 2 _ rfl
    simp [c3] at g0
    simp [c6] at g1
    simp [c6] at g2
    obtain ⟨a, e0, _, s0⟩ := DataW.trod_int Tryd.underlying3 g0
    obtain ⟨b, e1, _, s1⟩ := DataW.trod_int Tryd.underlying22 g1
    obtain ⟨c, e2, _, s2⟩ := DataW.trod_int Tryd.underlying22 g2
    simp at e0 e1 e2
    subst e0 e1 e2
    obtain ⟨v, rfl⟩ := u64_word s1
    obtain ⟨x, rfl⟩ := u64_word s2
    exact ⟨⟨a, v, x⟩, rfl⟩
set_option maxRecDepth 100000 in
theorem vs_of_trod {H : Type} {enc : TypeId × Value → H} {W : World} {a0 : Option Addr} {len0 cap0 : Nat} {d0 : DataW H} {p0 : List MemPlace} {hh : Bool} {ts : List TypeId} {ds : List (DataW H)}
    (h0 : DataW.Trod enc Tryd.prog W 0 (fun _ => true) hh 50 (.slice a0 len0 cap0) d0 p0) (hsz : (DataW.weightsEach Tryd.prog (50 :: ts) (d0 :: ds)).all (· ≤ reachBytes) = true) : ∃ l : List Rb, l.length = len0 ∧ Vs a0 l W := by
  obtain ⟨fuel, hf⟩ := h0
  rcases DataW.trod_slice Tryd.underlying50 hf with ⟨hcs, _⟩ | ⟨x, l, c, elems, rest, n, _, hcs, hx, _, hl, hm, hle, hel, _, _⟩
  · simp [Value.cells] at hcs
    obtain ⟨rfl, rfl, rfl⟩ := hcs
    exact ⟨[], rfl, by show 0 ≤ 17592186044416; omega, fun j hj => by cases hj⟩
  · simp [Value.cells] at hcs
    obtain ⟨rfl, rfl, rfl⟩ := hcs
    simp only [Prod.mk.injEq] at hx
    obtain ⟨rfl, _⟩ := hx
    have hw := sized_slice hsz (j := 0) (t := 50) (e := 24) rfl rfl Tryd.underlying50
    have h8 : Tryd.prog.bytesOf 24 = 24 := by kernel_rfl
    have h5 : Tryd.prog.cellsOf 24 = 3 := by kernel_rfl
    have hr := reachBytes_lt
    have e3 : (2 : Nat) ^ 47 = 140737488355328 := by decide
    rw [h8] at hw
    simp only [List.length_map] at hw
    rw [h5] at hel
    have each : ∀ i, i < len0 → ∃ r : Rb, W.cell? (x.add (i * 3)) = some (.int .i64 r.W) ∧ W.cell? ((x.add (i * 3)).add 1) = some (.int .u64 (U r.v)) ∧ W.cell? ((x.add (i * 3)).add 2) = some (.int .u64 (U r.x)) := by
      intro i hi
      have h1 := hel i hi
      rw [List.getElem?_eq_getElem (by omega), Option.bind_eq_some_iff] at h1
      obtain ⟨cs, hc, ht⟩ := h1
      obtain ⟨_, hcl, hat⟩ := World.cells?_some hc
      obtain ⟨r, rfl⟩ := bits_of_cells hcl ht
      refine ⟨r, ?_, ?_, ?_⟩
      · have := hat 0 (by omega)
        simpa [Addr.add] using this
      · exact hat 1 (by omega)
      · exact hat 2 (by omega)
    let f : Nat → Rb := fun i => if h : i < len0 then Classical.choose (each i h) else ⟨0, 0#64, 0#64⟩
    refine ⟨(List.range len0).map f, by simp, by simp; omega, fun j hj => ?_⟩
    have hj' : j < len0 := by simpa using hj
    have e : ((List.range len0).map f).getD j ⟨0, 0#64, 0#64⟩ = Classical.choose (each j hj') := by
      rw [List.getD_eq_getElem?_getD, List.getElem?_map, List.getElem?_range hj']
      show f j = _
      exact dif_pos hj'
    rw [e]
    obtain ⟨k0, k1, k2⟩ := Classical.choose_spec (each j hj')
    generalize Classical.choose (each j hj') = r at k0 k1 k2
    obtain ⟨bl, off, spot⟩ := x
    have hspot : spot = none := by
      obtain ⟨r0, q0, _, _⟩ := each 0 (by omega)
      simpa [Addr.add] using World.cell?_spot q0
    subst hspot
    have hadd : (⟨bl, off, none⟩ : Addr).add (j * 3) = ⟨bl, off + j * 3, none⟩ := by unfold Addr.add; split <;> simp_all
    rw [hadd] at k0 k1 k2
    exact ⟨bl, off, rfl, k0, by simpa [Addr.add] using k1, by simpa [Addr.add] using k2⟩
end Go.Proofs.YtdpmojkpfnkcdaaDoor
