/- Slices of a vector, and what its parts make together: what the program returns. -/
import Derived.Test.YtdpmojkpfnkcdaaDoorOps5
import Derived.Test.YtdpmojkpfnkcdaaDoorRep
import Derived.Test.YtdpmojkpfnkcdaaDoorParts2
namespace Go.Proofs.YtdpmojkpfnkcdaaDoor
open Go Go.RowKit
set_option linter.unusedVariables false
set_option maxRecDepth 100000 in
set_option maxHeartbeats 1000000 in
theorem slice_v0 (n at_ k : Nat) (a : Vx) (w : World) (ha : a.ok n) (h1 : 1 ≤ k) (h2 : at_ + k ≤ n) (hk : k ≤ 64) (hn : n ≤ 64) : Calls Tryd.prog 35 #[.agg #[.int .i64 n, .int .u64 (U a.v), .int .u64 (U a.x)], .int .i64 at_, .int .i64 k] w fun e w' => e = .returned (.agg #[.int .i64 k, .int .u64 (U (a.v >>> at_ &&& msk k)), .int .u64 (U (a.x >>> at_ &&& msk k))]) ∧ Below w.heap.size w w' := by
  go_enter Tryd.func35, Tryd.ntmps35
  go_wp2_with fail
  refine (valid_ok n a.v a.x _ ha).mono ?_
  rintro e w1 ⟨rfl, hb1⟩
  obtain ⟨hc1, hf1⟩ := bcell hb1
  have z1_0 : w.heap.size < w1.heap.size := bsize hb1 (by first | omega | (simp <;> omega))
  have z1_1 : w.heap.size + 1 < w1.heap.size := bsize hb1 (by first | omega | (simp <;> omega))
  go_wp2_with fail
  refine wp_region_still_tail 16 (by kernel_rfl) (by kernel_rfl) ?_
  simp only [List.take_succ_cons, List.take_zero, List.drop_succ_cons, List.drop_zero]
  repeat (first | still_step | still_call (mask_q k hk _))
  refine wpStill_nil ?_
  change wpList _ _ _ _ _ (World.drew _)
  go_wp2_with fail
  exact bodyPost_ret (v := .agg #[.int .i64 k, .int .u64 (U (a.v >>> at_ &&& msk k)), .int .u64 (U (a.x >>> at_ &&& msk k))]) (by simp [results, Tryd.results35, go_sem, hc1] <;> first | rfl | exact ⟨rfl, rfl⟩ | exact ⟨rfl, rfl, rfl⟩) rfl ⟨rfl, by (repeat (first | exact Below.refl _ _ | exact Nat.le_refl _ | refine below_drewN ?_ _ | refine Below.drew ?_ | refine Below.alloc ?_ ?_ _ | refine Below.setCell ?_ ?_ _ | refine below_step (by assumption) ?_ ?_)) <;> (first | omega | (simp <;> omega))⟩
theorem slice_v (n at_ k : Nat) (a : Vx) (w : World) (ha : a.ok n) (h1 : 1 ≤ k) (h2 : at_ + k ≤ n) : Calls Tryd.prog 35 #[.agg #[.int .i64 n, .int .u64 (U a.v), .int .u64 (U a.x)], .int .i64 at_, .int .i64 k] w fun e w' => e = .returned (.agg #[.int .i64 k, .int .u64 (U (vslice at_ k a).v), .int .u64 (U (vslice at_ k a).x)]) ∧ Below w.heap.size w w' :=
  slice_v0 n at_ k a w ha h1 h2 (by have := ha.hi; omega) ha.hi
theorem slice_low (n k : Nat) (a : Vx) (w : World) (ha : a.ok n) (h1 : 1 ≤ k) (h2 : k ≤ n) : Calls Tryd.prog 35 #[.agg #[.int .i64 n, .int .u64 (U a.v), .int .u64 (U a.x)], .int .i64 0, .int .i64 k] w fun e w' => e = .returned (.agg #[.int .i64 k, .int .u64 (U (vslice 0 k a).v), .int .u64 (U (vslice 0 k a).x)]) ∧ Below w.heap.size w w' :=
  slice_v n 0 k a w ha h1 (by omega)
theorem slice_found (n m k : Nat) (a b : Vx) (w : World) (ha : a.ok n) (hb : b.ok m) (h : k + m ≤ n) : Calls Tryd.prog 35 #[.agg #[.int .i64 n, .int .u64 (U (vput n m a k b).v), .int .u64 (U (vput n m a k b).x)], .int .i64 k, .int .i64 m] w fun e w' => e = .returned (.agg #[.int .i64 m, .int .u64 (U b.v), .int .u64 (U b.x)]) ∧ Below w.heap.size w w' := by
  have h' := slice_v n k m (vput n m a k b) w (vput_ok ha) hb.lo h
  rwa [found ha hb h] at h'
theorem put_again (n m k : Nat) (a b : Vx) (w : World) (ha : a.ok n) (hb : b.ok m) (h : k + m ≤ n) : Calls Tryd.prog 37 #[.agg #[.int .i64 n, .int .u64 (U (vput n m a k b).v), .int .u64 (U (vput n m a k b).x)], .int .i64 k, .agg #[.int .i64 m, .int .u64 (U (vslice k m a).v), .int .u64 (U (vslice k m a).x)]] w fun e w' => e = .returned (.agg #[.int .i64 n, .int .u64 (U a.v), .int .u64 (U a.x)]) ∧ Below w.heap.size w w' := by
  have hn := ha.hi
  have hm := hb.hi
  have h' := put_ok n m k (vput n m a k b) (vslice k m a) w (vput_ok ha) (vslice_ok hb.lo hb.hi _ _) hn hm (by omega)
  rwa [put_back ha hb h] at h'
theorem resize_self (n : Nat) (t : Bool) (a : Vx) (w : World) (ha : a.ok n) : Calls Tryd.prog 38 #[.agg #[.int .i64 n, .int .u64 (U a.v), .int .u64 (U a.x)], .int .i64 n, .bool t] w fun e w' => e = .returned (.agg #[.int .i64 n, .int .u64 (U a.v), .int .u64 (U a.x)]) ∧ Below w.heap.size w w' := by
  cases t
  · have h := resize_false n n a w ha ha.lo ha.hi ha.lo ha.hi
    rwa [whole_cut ha] at h
  · have h := resize_true n n a w ha ha.lo ha.hi ha.lo ha.hi
    rwa [whole_ext ha] at h
theorem resize_low (n k : Nat) (a : Vx) (w : World) (ha : a.ok n) (h1 : 1 ≤ k) (h2 : k ≤ n) : Calls Tryd.prog 38 #[.agg #[.int .i64 n, .int .u64 (U a.v), .int .u64 (U a.x)], .int .i64 k, .bool false] w fun e w' => e = .returned (.agg #[.int .i64 k, .int .u64 (U (vslice 0 k a).v), .int .u64 (U (vslice 0 k a).x)]) ∧ Below w.heap.size w w' := by
  have hn := ha.hi
  have h := resize_false n k a w ha ha.lo ha.hi h1 (by omega)
  rwa [whole_low] at h
theorem part_high (n k : Nat) (a c : Vx) (w : World) (ha : a.ok n) (hc : c.ok 7) (hx : c.x = 0#64) (hv : Hid (U c.v = (k : Int))) (h1 : 1 ≤ k) (h2 : k < n) : Calls Tryd.prog 36 #[.agg #[.int .i64 n, .int .u64 (U a.v), .int .u64 (U a.x)], .agg #[.int .i64 7, .int .u64 (U c.v), .int .u64 (U c.x)], .bool false, .int .i64 (n - k : Nat)] w fun e w' => e = .returned (.agg #[.int .i64 (n - k : Nat), .int .u64 (U (vslice k (n - k) a).v), .int .u64 (U (vslice k (n - k) a).x)]) ∧ Below w.heap.size w w' := by
  have hn := ha.hi
  have h := part_k n (n - k) k 7 a c w ha hc (by simpa using hx) hv h1 (by omega) (by omega) (by omega) hn
  rwa [whole_high ha h1 h2] at h
theorem vs_one {p : Nat} {n : Int} {a : Vx} {w : World} (c0 : w.cell? ⟨p, 0, none⟩ = some (.int .i64 n)) (c1 : w.cell? ⟨p, 1, none⟩ = some (.int .u64 (U a.v))) (c2 : w.cell? ⟨p, 2, none⟩ = some (.int .u64 (U a.x))) : Vs (some ⟨p, 0, none⟩) [⟨n, a.v, a.x⟩] w := by
  refine ⟨by show 1 ≤ 17592186044416; omega, fun j hj => ?_⟩
  obtain rfl : j = 0 := by simpa using hj
  exact ⟨p, 0, rfl, c0, c1, c2⟩
theorem vs_two {p : Nat} {n m : Int} {a b : Vx} {w : World} (c0 : w.cell? ⟨p, 0, none⟩ = some (.int .i64 n)) (c1 : w.cell? ⟨p, 1, none⟩ = some (.int .u64 (U a.v))) (c2 : w.cell? ⟨p, 2, none⟩ = some (.int .u64 (U a.x)))
    (c3 : w.cell? ⟨p, 3, none⟩ = some (.int .i64 m)) (c4 : w.cell? ⟨p, 4, none⟩ = some (.int .u64 (U b.v))) (c5 : w.cell? ⟨p, 5, none⟩ = some (.int .u64 (U b.x))) : Vs (some ⟨p, 0, none⟩) [⟨n, a.v, a.x⟩, ⟨m, b.v, b.x⟩] w := by
  refine ⟨by show 2 ≤ 17592186044416; omega, fun j hj => ?_⟩
  have hj2 : j < 2 := by simpa using hj
  rcases j with _ | _ | j
  · exact ⟨p, 0, rfl, c0, c1, c2⟩
  · exact ⟨p, 0, rfl, c3, c4, c5⟩
  · omega
theorem catV_two {n k : Nat} {a : Vx} (ha : a.ok n) (h1 : 1 ≤ k) (h2 : k < n) : catV [⟨((n - k : Nat) : Int), (vslice k (n - k) a).v, (vslice k (n - k) a).x⟩, ⟨(k : Int), (vslice 0 k a).v, (vslice 0 k a).x⟩] = ⟨(n : Int), a.v, a.x⟩ := by
  have hn := ha.hi
  have o1 : (⟨((n - k : Nat) : Int), (vslice k (n - k) a).v, (vslice k (n - k) a).x⟩ : Rb).okB = true := Rb.okB_of (vslice_ok (by omega) (by omega) k a)
  have o2 : (⟨(k : Int), (vslice 0 k a).v, (vslice 0 k a).x⟩ : Rb).okB = true := Rb.okB_of (vslice_ok h1 (by omega) 0 a)
  have hk : catOk [⟨((n - k : Nat) : Int), (vslice k (n - k) a).v, (vslice k (n - k) a).x⟩, ⟨(k : Int), (vslice 0 k a).v, (vslice 0 k a).x⟩] 2 = true := by
    show (((true && _ && decide ((0 : Int) + ((n - k : Nat) : Int) ≤ 64)) && _) && decide ((0 : Int) + ((n - k : Nat) : Int) + (k : Int) ≤ 64)) = true
    rw [show ([(⟨((n - k : Nat) : Int), (vslice k (n - k) a).v, (vslice k (n - k) a).x⟩ : Rb), ⟨(k : Int), (vslice 0 k a).v, (vslice 0 k a).x⟩].getD 0 ⟨0, 0#64, 0#64⟩).okB = true from o1, show ([(⟨((n - k : Nat) : Int), (vslice k (n - k) a).v, (vslice k (n - k) a).x⟩ : Rb), ⟨(k : Int), (vslice 0 k a).v, (vslice 0 k a).x⟩].getD 1 ⟨0, 0#64, 0#64⟩).okB = true from o2]
    simp only [Bool.true_and, Bool.and_true, Bool.and_eq_true, decide_eq_true_eq]
    omega
  refine (if_pos hk).trans ?_
  have hw := whole_two ha h1 h2
  have hv := congrArg Vx.v hw
  have hx := congrArg Vx.x hw
  simp only [vcat] at hv hx
  show (⟨0 + ((n - k : Nat) : Int) + (k : Int), (0#64 <<< ((n - k : Nat) : Int).toNat ||| (vslice k (n - k) a).v) <<< (k : Int).toNat ||| (vslice 0 k a).v, (0#64 <<< ((n - k : Nat) : Int).toNat ||| (vslice k (n - k) a).x) <<< (k : Int).toNat ||| (vslice 0 k a).x⟩ : Rb) = _
  rw [BitVec.zero_shiftLeft, BitVec.zero_or, BitVec.zero_or, Int.toNat_natCast, hv, hx]
  congr 1; omega
theorem cat_two (p : Option Addr) (cap n k : Nat) (a : Vx) (w : World) (ha : a.ok n) (h1 : 1 ≤ k) (h2 : k < n) (hl : Vs p [⟨((n - k : Nat) : Int), (vslice k (n - k) a).v, (vslice k (n - k) a).x⟩, ⟨(k : Int), (vslice 0 k a).v, (vslice 0 k a).x⟩] w) :
    Calls Tryd.prog 28 #[.slice p 2 cap] w fun e w' => e = .returned (.agg #[.int .i64 n, .int .u64 (U a.v), .int .u64 (U a.x)]) ∧ Below w.heap.size w w' := by
  have h := cat_any p cap _ w hl
  rw [catV_two ha h1 h2] at h
  exact h
end Go.Proofs.YtdpmojkpfnkcdaaDoor
