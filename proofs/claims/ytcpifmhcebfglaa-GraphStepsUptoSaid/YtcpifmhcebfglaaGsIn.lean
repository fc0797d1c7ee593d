/- Numbers that came in. -/
import Derived.Test.YtcpifmhcebfglaaMgGsA
import Derived.Test.YtcpifmhcebfglaaGrIn
namespace Go.Proofs.Ytcpifmhcebfglaa
open Go Go.ChangeShapes Go.WideShapes Go.ChangeAt Go.RowKit Go.ChangeMaps
set_option linter.unusedVariables false
set_option maxRecDepth 100000
section
variable {H : Type} {enc : TypeId × Value → H} {W : World} {sp : Nat → Bool} {hh : Bool} {fuel : Nat} {cs : List Value} {x : DataW H × List MemPlace}
theorem intS_of_cells (h : cs.length = 1) (hf : DataW.trod enc Try.prog W 0 sp hh fuel 3 cs = some x) : ∃ r : Int, cs = encI r ∧ 0 ≤ Rows.uptoBulk x.1 := by
  obtain ⟨n, h1, _, h2⟩ := DataW.trod_int Try.underlying3 hf
  exact ⟨n, h1, Nat.zero_le _⟩
theorem ints_open {b0 : Nat} {v : Value} {d : DataW H} {p : List MemPlace} (hv : Value.okWide Try.prog W .any b0 22 v) (h : DataW.Trod enc Try.prog W 0 sp hh 22 v d p) (hb : Rows.uptoBulk d ≤ 1048576) : ∃ (a : Option Addr) (len cap : Nat), v = .slice a len cap ∧ Sl a len W := by
  obtain ⟨a, len, cap, rfl⟩ := okWide_slice Try.underlying22 hv
  obtain ⟨fuel, hf⟩ := h
  obtain ⟨l, ad, cp, e, h1, h2, h3, h4, h5⟩ := row_of_trod encI (fun _ => 0) (fun _ => rfl) Try.underlying22 (by kernel_rfl) (by decide) (fun _ _ _ h hf => intS_of_cells h hf) hf
  simp [Value.cells] at e
  obtain ⟨rfl, rfl, rfl⟩ := e
  have h4b : l.length ≤ Rows.uptoBulk d := h4
  refine ⟨_, _, _, rfl, ⟨by omega, fun j hj => ?_⟩⟩
  rcases h3 with h0 | ⟨b, o, e, hc⟩
  · omega
  · have := hc j hj 0 _ rfl
    exact ⟨b, o, _, e, by simpa using this⟩
end
theorem i64_wfS {n : Int} (h : (Lit.int .i64 n).wf = true) : -9223372036854775808 ≤ n ∧ n ≤ 9223372036854775807 := by
  have h1 : (decide (IntKind.i64.min ≤ n) && decide (n ≤ IntKind.i64.max)) = true := h
  rw [Bool.and_eq_true, decide_eq_true_eq, decide_eq_true_eq] at h1
  have e1 : IntKind.i64.min = -9223372036854775808 := by decide
  have e2 : IntKind.i64.max = 9223372036854775807 := by decide
  rw [e1, e2] at h1
  omega
theorem u64_wfS {n : Int} (h : (Lit.int .u64 n).wf = true) : ∃ b : BitVec 64, n = U b := by
  have h1 : (decide (IntKind.u64.min ≤ n) && decide (n ≤ IntKind.u64.max)) = true := h
  rw [Bool.and_eq_true, decide_eq_true_eq, decide_eq_true_eq] at h1
  have e1 : IntKind.u64.min = 0 := by decide
  have e2 : IntKind.u64.max = 18446744073709551615 := by decide
  rw [e1, e2] at h1
  refine ⟨BitVec.ofNat 64 n.toNat, ?_⟩
  unfold U
  rw [BitVec.toNat_ofNat]
  omega
end Go.Proofs.Ytcpifmhcebfglaa
