/- slices.Equal at []api.Note, and what the calls do of a list of none. No condition. -/
import Derived.Test.YtmememehlfbgaaaDoorNtRow
import Derived.Test.YtmememehlfbgaaaDoorNtSortC
import Derived.LoopTactic
namespace Go.Proofs.YtmememehlfbgaaaDoor
open Go Go.RowKit Go.Sort Go.Lib
set_option linter.unusedVariables false
def eqD (x y : Nt) : Bool := decide (x = y)
theorem neqN : NeqAt Tryd.prog 35 (fun x : Nt => .agg (encN x).toArray) eqD := by
  refine ⟨fun x y w => ?_, GuardAt.agg _ (by kernel_rfl)⟩
  show (binOp .neq _ (.agg #[.string x.f, .int .i64 x.l, .int .i64 x.c, .int .i64 x.e, .string x.t]) (.agg #[.string y.f, .int .i64 y.l, .int .i64 y.c, .int .i64 y.e, .string y.t])).run _ w = _
  rw [run_neq_struct, eqIn_N]
  rfl
theorem allEq_self : ∀ L : List Nt, Lib.allEq eqD L L = true
  | [] => rfl
  | x :: L => by
    have := allEq_self L
    simp [Lib.allEq, eqD, this]
theorem RR.enc {w : World} {bl off : Nat} {L : List Nt} (h : RR w bl off L) : ∀ j, j < L.length → ∀ i v, (encN L[j]!)[i]? = some v → w.cell? ⟨bl, off + j * 5 + i, none⟩ = some v := by
  intro j hj i v hv
  have hi : i < 5 := (List.getElem?_eq_some_iff.1 hv).1
  rw [h j hj i hi]
  congr 1
  rw [getElem!_def, hv]
theorem equal_ok (b1 o1 c b2 o2 d : Nat) (L : List Nt) (w : World) (hn : L.length ≤ 1000000000) (h1 : RR w b1 o1 L) (h2 : RR w b2 o2 L) :
    Calls Tryd.prog 15 #[.slice (some ⟨b1, o1, none⟩) L.length c, .slice (some ⟨b2, o2, none⟩) L.length d] w fun e w' => e = .returned (.bool true) ∧ Below w.heap.size w w' := by
  have hcon := AnyQ.slices_Equal Tryd.equalNote 5 Tryd.isAgg35 Tryd.sizeOf35 encN encN_len eqD neqN b1 o1 L.length c b2 o2 L.length d L L w (Nat.le_refl _) (Nat.le_refl _) (by omega) (by omega) h1.enc h2.enc
  refine Calls.mono hcon fun e w' ⟨he, q, hq⟩ => ⟨?_, ?_⟩
  · rw [he, List.take_length, allEq_self]
  · rw [hq]; exact below_drewN (Below.refl _ _) _
set_option maxHeartbeats 1000000 in
theorem equal_zero (p p' : Option Addr) (c d : Nat) (w : World) : Calls Tryd.prog 15 #[.slice p 0 c, .slice p' 0 d] w fun e w' => e = .returned (.bool true) ∧ w' = w := by
  go_enter Tryd.func15, Tryd.ntmps15
  go_wp2_with fail
  go_loopw [13] (fun s13 wr => s13 = .int .i64 0 ∧ wr = w) (fun _ _ => 0)
  case atStart => exact ⟨rfl, rfl⟩
  case round =>
    obtain ⟨rfl, rfl⟩ := hrel
    go_wp2_with fail
    exact bodyPost_ret (v := .bool true) (by simp [results, Tryd.results15, go_sem]) rfl ⟨rfl, rfl⟩
end Go.Proofs.YtmememehlfbgaaaDoor
