/- The reference's B of any list of states; what the walk of drawn regions keeps of slices of bytes. -/
import Derived.Test.YtgmgmkhcadimjaaDoorRefA
import Derived.Test.YtgmgmkhcadimjaaDoorRefValid
import Derived.Test.YtgmgmkhcadimjaaDoorRaw
import Derived.Test.YtgmgmkhcadimjaaDoorRelA
namespace Go.Proofs.YtgmgmkhcadimjaaDoor
open Go Go.RowKit Go.Sort
set_option linter.unusedVariables false
/-- the vector of a list of states -/
def Bl (l : List UInt8) : Rb := if 1 ≤ l.length ∧ l.length ≤ 64 then ⟨l.length, bvw l l.length, bxw l l.length⟩ else ⟨0, 0#64, 0#64⟩
abbrev Rb.agg (r : Rb) : Value := .agg #[.int .i64 r.W, .int .u64 (U r.v), .int .u64 (U r.x)]
set_option maxHeartbeats 400000 in
theorem refB_out (v : Value) (l : List UInt8) (hl : l.length ≤ 1000000) (h1 : ¬ (1 ≤ l.length ∧ l.length ≤ 64)) (w : World) (h : Row8 w v l) :
    Calls Tryd.prog 41 #[v] w fun e w' => e = .returned (.agg #[.int .i64 0, .int .u64 0, .int .u64 0]) ∧ Below w.heap.size w w' := by
  obtain ⟨a, cap, rfl, h0⟩ := h.sh
  clear h h0
  generalize hn : l.length = n at hl h1 ⊢
  clear hn
  by_cases hz : n < 1
  · obtain rfl : n = 0 := by omega
    go_enter Tryd.func41, Tryd.ntmps41
    go_wp2_with fail
    exact bodyPost_ret (v := .agg #[.int .i64 0, .int .u64 0, .int .u64 0]) (by simp [results, Tryd.results41, go_sem]) rfl ⟨rfl, (by (repeat (first | (with_reducible exact Below.refl _ _) | (with_reducible exact Nat.le_refl _) | (with_reducible refine Below.setCell ?_ ?_ _) | (with_reducible refine Below.alloc ?_ ?_ _) | (with_reducible refine Below.drew ?_))) <;> (first | omega | (simp <;> omega)))⟩
  · have h2 : (64 : Int) < (n : Int) := by omega
    have h3 : ¬ (n : Int) < 1 := by omega
    go_enter Tryd.func41, Tryd.ntmps41
    go_wp2_with fail
    exact bodyPost_ret (v := .agg #[.int .i64 0, .int .u64 0, .int .u64 0]) (by simp [results, Tryd.results41, go_sem]) rfl ⟨rfl, (by (repeat (first | (with_reducible exact Below.refl _ _) | (with_reducible exact Nat.le_refl _) | (with_reducible refine Below.setCell ?_ ?_ _) | (with_reducible refine Below.alloc ?_ ?_ _) | (with_reducible refine Below.drew ?_))) <;> (first | omega | (simp <;> omega)))⟩
theorem refB_is (v : Value) (l : List UInt8) (r : Rb) (hr : Bl l = r) (hl : l.length ≤ 1000000) (w : World) (h : Row8 w v l) :
    Calls Tryd.prog 41 #[v] w fun e w' => e = .returned (.agg #[.int .i64 r.W, .int .u64 (U r.v), .int .u64 (U r.x)]) ∧ Below w.heap.size w w' := by
  subst hr
  unfold Bl
  by_cases h1 : 1 ≤ l.length ∧ l.length ≤ 64
  · rw [if_pos h1]; exact refB_in v l h1.1 h1.2 w h
  · rw [if_neg h1]
    exact (refB_out v l hl h1 w h).mono fun _ _ ⟨he, hb⟩ => ⟨he.trans (by simp only [show U 0#64 = 0 from by decide]), hb⟩
/-- a valid vector's states make the vector again -/
theorem Bl_vl {n : Nat} {a : Vx} (ha : a.ok n) : Bl (vl a n) = ⟨n, a.v, a.x⟩ := by
  unfold Bl
  rw [if_pos (by rw [vl_len]; exact ⟨ha.lo, ha.hi⟩), vl_len, bvw_vl ha, bxw_vl ha]
theorem row8_sta (l : List UInt8) : Sta (fun v w => Row8 w v l) := fun _ _ _ h hb => h.below hb
/-- a list of states that are those of a vector -/
theorem Bl_map {n : Nat} {a : Vx} (ha : a.ok n) {l : List UInt8} (h : l = vl a n) : Bl l = ⟨n, a.v, a.x⟩ := by rw [h, Bl_vl ha]
end Go.Proofs.YtgmgmkhcadimjaaDoor
