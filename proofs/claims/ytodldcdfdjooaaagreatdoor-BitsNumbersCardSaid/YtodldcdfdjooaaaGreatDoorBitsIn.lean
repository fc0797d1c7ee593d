/- A vector that came in: its fields. -/
import Derived.Test.YtodldcdfdjooaaaGreatDoorInts
import Derived.Test.YtodldcdfdjooaaaGreatDoorRaw
import Derived.Deep.Fields
import Derived.ChangeMaps5
namespace Go.Proofs.YtodldcdfdjooaaaGreatDoor
open Go Go.ChangeShapes Go.WideShapes Go.ChangeAt Go.RowKit Go.ChangeMaps
set_option linter.unusedVariables false
theorem u64_word {a : Int} (h : (Lit.int .u64 a).wf = true) : ∃ v : BitVec 64, a = U v := by
  have h2 : 0 ≤ a ∧ a ≤ 18446744073709551615 := by
    simp [Lit.wf, IntKind.min, IntKind.max, IntKind.signed, IntKind.bits] at h
    omega
  refine ⟨BitVec.ofNat 64 a.toNat, ?_⟩
  unfold U
  rw [BitVec.toNat_ofNat]
  have : a.toNat < 2 ^ 64 := by omega
  rw [Nat.mod_eq_of_lt this]; omega
theorem u8_byte {a : Int} (h : (Lit.int .u8 a).wf = true) : ∃ c : UInt8, a = (c.toNat : Int) := by
  have h2 : 0 ≤ a ∧ a ≤ 255 := by
    simp [Lit.wf, IntKind.min, IntKind.max, IntKind.signed, IntKind.bits] at h
    omega
  refine ⟨UInt8.ofNat a.toNat, ?_⟩
  simp <;> omega
set_option maxRecDepth 100000 in
theorem open_bits {H : Type} {enc : TypeId × Value → H} {W : World} {sp : Nat → Bool} {hh : Bool} {b0 : Nat} {v : Value} {d : DataW H} {p : List MemPlace} (hv : Value.okWide Tryz.prog W .any b0 24 v) (h : DataW.Trod enc Tryz.prog W 0 sp hh 24 v d p) :
    ∃ r : Rb, v = .agg #[.int .i64 r.W, .int .u64 (U r.v), .int .u64 (U r.x)] := by
  obtain ⟨cs, rfl, hsz⟩ := okWide_struct Tryz.underlying24 hv
  have h5 : Tryz.prog.cellsOf 24 = 3 := by kernel_rfl
  have c3 : Tryz.prog.cellsOf 3 = 1 := by kernel_rfl
  have c6 : Tryz.prog.cellsOf 22 = 1 := by kernel_rfl
  rw [h5] at hsz
  obtain ⟨fuel, hf⟩ := h
  obtain ⟨xs, n, _, hx, _, hlen, hg⟩ := DataW.trod_struct Tryz.underlying24 hf
  obtain ⟨l⟩ := cs
  match l, hsz, xs, hlen, hg with
  | [v0, v1, v2], _, [y0, y1, y2], _, hg =>
    have g0 := hg 0 _ rfl
    have g1 := hg 1 _ rfl
    have g2 := hg 2 _ rfl
    simp [Value.cells, c3] at g0
    simp [Value.cells, c6] at g1
    simp [Value.cells, c6] at g2
    obtain ⟨a, e0, _, s0⟩ := DataW.trod_int Tryz.underlying3 g0
    obtain ⟨b, e1, _, s1⟩ := DataW.trod_int Tryz.underlying22 g1
    obtain ⟨c, e2, _, s2⟩ := DataW.trod_int Tryz.underlying22 g2
    simp at e0 e1 e2
    subst e0 e1 e2
    obtain ⟨v, rfl⟩ := u64_word s1
    obtain ⟨x, rfl⟩ := u64_word s2
    exact ⟨⟨a, v, x⟩, rfl⟩
end Go.Proofs.YtodldcdfdjooaaaGreatDoor
