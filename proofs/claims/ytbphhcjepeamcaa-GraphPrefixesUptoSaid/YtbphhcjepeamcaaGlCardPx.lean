/-
  Proved here: for any graph and text, maskwright/masklaw3.GraphPrefixes returns true, and each argument reads behind the call as it read before. Conditions: the row's own (no ring among the inputs; the arguments hold at most 1048576 values and letters).
-/
import Derived.Test.YtbphhcjepeamcaaGlPx
import Derived.Test.YtbphhcjepeamcaaGlFact
import Derived.Test.YtbphhcjepeamcaaGpPx
import Derived.Test.YtbphhcjepeamcaaGlIn
import Derived.Test.YtbphhcjepeamcaaRows
import Derived.ProofKit
import Derived.OpenShut
import Derived.JoinedCond
import Derived.ChangeMaps5
namespace Go.Proofs.Ytbphhcjepeamcaa
open Go.ChangeShapes Go.WideShapes Go.ChangeAt Go.RowKit Go.ChangeMaps
set_option linter.unusedVariables false
theorem ownPx : ownKnob Try.prog.godebug = none := by kernel_rfl
theorem laidOutPx : laidOutB Try.prog = true := by kernel_rfl
set_option maxRecDepth 100000 in
theorem graphPrefixes_lifted  (os : Os) (started : os.Started) (H : Type) (enc : TypeId × Value → H) (F : Stop.Interp) :
    ReturnsInHanded {} Try.checked os 11 .any ((Rows.OpenSpec.upto Rows.graphPrefixesSpec).pre6 enc Try.prog Try.f11 Rows.graphPrefixesUptoRow.domain false) (((Rows.OpenSpec.upto Rows.graphPrefixesSpec).at F).post enc Try.prog Try.f11 false true false false) := by
  refine returnsInHanded_of_cond (C := Try.checked) (s := Rows.OpenSpec.upto Rows.graphPrefixesSpec) (k := Rows.uptoSmall) rfl ownPx started (by kernel_rfl) Try.func11
    (OpenSpec.witness (enc := enc) (C := Try.checked) (s := Rows.OpenSpec.upto Rows.graphPrefixesSpec) (k := Rows.uptoSmall) rfl false ⟨#[], #[.agg #[.slice none 0 0, .slice none 0 0, .slice none 0 0, .slice none 0 0, .slice none 0 0], .string ⟨#[]⟩], []⟩ 8 (by kernel_rfl) (by kernel_rfl) (by kernel_rfl)
      (x := ([.agg [.nil, .nil, .nil, .nil, .nil], .lit (.string [])], [], [])) (by kernel_rfl) rfl (by kernel_rfl)) ?_
  intro W base args ds gs before hval0 hW _ hk _
  have hval : ∀ (j : Nat) t v, Try.f11.params[j]? = some t → args[j]? = some v → Value.okWide Try.prog W .any base t v := hval0
  have hW' := hW
  obtain ⟨p, q, hA0, hV, rfl, hfz, hnd⟩ := hW
  have hA : DataW.TrodAll enc Try.prog W 0 (fun _ => true) true Try.f11.params.toList args.toList ds p := hA0
  rw [Try.params11] at hA hval
  obtain ⟨v0, vs0, d0, ds0, p0, q0, hargs0, rfl, rfl, h0, r0_⟩ := trodAll_cons hA
  obtain ⟨v1, vs1, d1, ds1, p1, q1, rfl, rfl, rfl, h1, r1_⟩ := trodAll_cons r0_
  obtain ⟨rfl, rfl, rfl⟩ := trodAll_nil r1_
  obtain rfl : args = #[v0, v1] := by cases args; simp_all
  obtain ⟨rfl, rfl⟩ := trodVars_none hV
  have k0 := h0
  have lt0 : ∀ x ∈ p0, x.block < W.heap.size := by obtain ⟨m, hm⟩ := k0; exact DataW.trod_lt m _ _ _ hm
  have k1 := h1
  have lt1 : ∀ x ∈ p1, x.block < W.heap.size := by obtain ⟨m, hm⟩ := k1; exact DataW.trod_lt m _ _ _ hm
  have hk' : Rows.uptoBulk d0 + (Rows.uptoBulk d1 + 0) ≤ 1048576 := by
    have h := of_decide_eq_true hk
    simpa only [List.cons_append, List.nil_append, Rows.uptoBulkAll] using h
  obtain ⟨g0, hg0, sg0, tg0⟩ := graph_of_trod2 (hval 0 28 v0 rfl rfl) h0 (by omega)
  obtain ⟨t1, rfl, hd1, _, hw1⟩ := open_string Try.underlying9 (hval 1 9 v1 rfl rfl) h1
  have hs1 : t1.size ≤ Rows.uptoBulk d1 := by rw [hd1]; simp only [Rows.uptoBulk, Array.length_toList]; show t1.data.size ≤ _; omega
  clear hA0 hval0
  simp only [List.append_nil] at hW'
  refine (prefixes_law (fun w => graphs_ok w) (prefix_holds) g0 _ t1 sg0 (by omega) (fun x hx => by have := tg0.outT x hx; omega) (fun r hr => by have := tg0.regT r hr; omega) W hg0).mono fun e W' ⟨he, bel⟩ => ?_
  subst he
  exact ⟨_, rfl, _, _, _, [], _, [], hW', trodAll_mk1 (shut_bool Try.underlying4 _), (trodAll_cons_mk (Below.trod laidOutPx (by kernel_rfl) (of_decide_eq_true (by kernel_rfl)) k0 bel lt0) (trodAll_cons_mk (Below.trod laidOutPx (by kernel_rfl) (of_decide_eq_true (by kernel_rfl)) k1 bel lt1) trodAll_mk0)), rfl, bel.frame _, fun h => by cases h⟩
theorem graphPrefixes_said  : Rows.GraphPrefixesUptoSaid :=
  OpenClaim.holds_of_cond 11 Try.f11 rfl rfl rfl rfl rfl rfl rfl ⟨rfl, rfl, rfl, rfl, rfl⟩ rfl rfl rfl rfl rfl (by kernel_rfl) Try.func11 (by kernel_rfl)
    (of_decide_eq_true (by kernel_rfl)) (by unfold Func.isWrapper; first | (rw [if_pos (by decide +kernel)]; kernel_rfl) | (rw [if_neg (by decide +kernel)]; exact ⟨rfl, rfl⟩))
    (fun os started H enc _ F => graphPrefixes_lifted  os started H enc F)
end Go.Proofs.Ytbphhcjepeamcaa
