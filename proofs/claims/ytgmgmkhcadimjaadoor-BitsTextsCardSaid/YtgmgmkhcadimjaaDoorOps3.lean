/- Digits, and parts of vectors. -/
import Derived.Test.YtgmgmkhcadimjaaDoorRead
namespace Go.Proofs.YtgmgmkhcadimjaaDoor
open Go Go.RowKit
set_option linter.unusedVariables false
def excB (d : Vx) (room : Int) : Bool := if room ≤ 0 then (d.v ||| d.x) != 0#64 else (d.x == 0#64) && (d.v >>> room.toNat != 0#64)
set_option maxHeartbeats 400000 in
theorem exceeds_any (W : Int) (d : Vx) (room : Int) (hr : room ≤ 64) (w : World) : Calls Tryd.prog 39 #[.agg #[.int .i64 W, .int .u64 (U d.v), .int .u64 (U d.x)], .int .i64 room] w fun e w' => e = .returned (.bool (excB d room)) ∧ Below w.heap.size w w' := by
  by_cases h0 : room ≤ 0
  · go_enter Tryd.func39, Tryd.ntmps39
    go_wp2_with fail
    go_ret
    exact ⟨ret_bool (by unfold excB; rw [if_pos h0]), (Below.refl _ _).alloc (Nat.le_refl _) _⟩
  · obtain ⟨r, rfl⟩ : ∃ r : Nat, room = r := ⟨room.toNat, by omega⟩
    have hr1 : 1 ≤ r := by omega
    have hr2 : r ≤ 64 := by omega
    clear h0 hr
    by_cases hx : d.x = 0#64
    · have hx' : (d.x == 0#64) = true := by simpa using hx
      have HX := Lib.hid hx'
      clear hx
      go_enter Tryd.func39, Tryd.ntmps39
      go_wp2_with fail
      go_ret
      exact ⟨ret_bool (by unfold excB; rw [if_neg (by omega), HX.out, Int.toNat_natCast, Bool.true_and]), (Below.refl _ _).alloc (Nat.le_refl _) _⟩
    · have hx' : (d.x == 0#64) = false := by simpa using hx
      have HX := Lib.hid hx'
      clear hx
      go_enter Tryd.func39, Tryd.ntmps39
      go_wp2_with fail
      go_ret
      exact ⟨ret_bool (by unfold excB; rw [if_neg (by omega), HX.out, Bool.false_and]), (Below.refl _ _).alloc (Nat.le_refl _) _⟩
def dbits (size c : Nat) : Vx := if c = 120 then fl size 3 else if c = 122 then fl size 2 else kv size (BitVec.ofNat 64 (dv c))
theorem dv_U (c : Nat) : ((dv c : Nat) : Int) = U (BitVec.ofNat 64 (dv c)) := by
  have := dv_le c
  unfold U; rw [BitVec.toNat_ofNat, Nat.mod_eq_of_lt (by omega)]
set_option maxHeartbeats 400000 in
theorem digitBits_x (n : Nat) (h1 : 1 ≤ n) (h2 : n ≤ 4) (w : World) : Calls Tryd.prog 38 #[.int .i64 n, .int .u8 120] w fun e w' => e = .returned (.agg #[.int .i64 n, .int .u64 (U (fl n 3).v), .int .u64 (U (fl n 3).x)]) ∧ Below w.heap.size w w' := by
  go_enter Tryd.func38, Tryd.ntmps38
  go_wp2_with fail
  refine (all_x n _ h1 (by omega)).mono ?_
  rintro e w1 ⟨rfl, hb1⟩
  obtain ⟨hc1, hf1⟩ := bcell hb1
  have z1_0 : w.heap.size < w1.heap.size := bsize hb1 (by first | omega | (simp <;> omega))
  go_wp2_with fail
  exact bodyPost_ret (v := .agg #[.int .i64 n, .int .u64 (U (fl n 3).v), .int .u64 (U (fl n 3).x)]) (by simp [results, Tryd.results38, go_sem, hc1] <;> first | rfl | exact ⟨rfl, rfl⟩ | exact ⟨rfl, rfl, rfl⟩) rfl ⟨rfl, by (repeat (first | exact Below.refl _ _ | exact Nat.le_refl _ | refine below_drewN ?_ _ | refine Below.drew ?_ | refine Below.alloc ?_ ?_ _ | refine Below.setCell ?_ ?_ _ | refine below_step (by assumption) ?_ ?_)) <;> (first | omega | (simp <;> omega))⟩
set_option maxHeartbeats 400000 in
theorem digitBits_z (n : Nat) (h1 : 1 ≤ n) (h2 : n ≤ 4) (w : World) : Calls Tryd.prog 38 #[.int .i64 n, .int .u8 122] w fun e w' => e = .returned (.agg #[.int .i64 n, .int .u64 (U (fl n 2).v), .int .u64 (U (fl n 2).x)]) ∧ Below w.heap.size w w' := by
  go_enter Tryd.func38, Tryd.ntmps38
  go_wp2_with fail
  refine (all_z n _ h1 (by omega)).mono ?_
  rintro e w1 ⟨rfl, hb1⟩
  obtain ⟨hc1, hf1⟩ := bcell hb1
  have z1_0 : w.heap.size < w1.heap.size := bsize hb1 (by first | omega | (simp <;> omega))
  go_wp2_with fail
  exact bodyPost_ret (v := .agg #[.int .i64 n, .int .u64 (U (fl n 2).v), .int .u64 (U (fl n 2).x)]) (by simp [results, Tryd.results38, go_sem, hc1] <;> first | rfl | exact ⟨rfl, rfl⟩ | exact ⟨rfl, rfl, rfl⟩) rfl ⟨rfl, by (repeat (first | exact Below.refl _ _ | exact Nat.le_refl _ | refine below_drewN ?_ _ | refine Below.drew ?_ | refine Below.alloc ?_ ?_ _ | refine Below.setCell ?_ ?_ _ | refine below_step (by assumption) ?_ ?_)) <;> (first | omega | (simp <;> omega))⟩
set_option maxHeartbeats 400000 in
theorem digitBits_d (n c : Nat) (h1 : 1 ≤ n) (h2 : n ≤ 4) (hc : c ≤ 255) (w : World) (e1 : ((c : Int) == 120) = false) (e2 : ((c : Int) == 122) = false) : Calls Tryd.prog 38 #[.int .i64 n, .int .u8 c] w fun e w' => e = .returned (.agg #[.int .i64 n, .int .u64 (U (kv n (BitVec.ofNat 64 (dv c))).v), .int .u64 (U (kv n (BitVec.ofNat 64 (dv c))).x)]) ∧ Below w.heap.size w w' := by
  have hd := dv_le c
  go_enter Tryd.func38, Tryd.ntmps38
  go_wp2_with fail
  refine (digitValue_any c hc _).mono ?_
  rintro e w' ⟨rfl, rfl⟩
  go_wp2_with fail
  rw [dv_U]
  refine (of_ok n (BitVec.ofNat 64 (dv c)) _ h1 (by omega)).mono ?_
  rintro e w2 ⟨rfl, hb2⟩
  obtain ⟨hc2, hf2⟩ := bcell hb2
  have z2_0 : w.heap.size < w2.heap.size := bsize hb2 (by first | omega | (simp <;> omega))
  go_wp2_with fail
  exact bodyPost_ret (v := .agg #[.int .i64 n, .int .u64 (U (kv n (BitVec.ofNat 64 (dv c))).v), .int .u64 (U (kv n (BitVec.ofNat 64 (dv c))).x)]) (by simp [results, Tryd.results38, go_sem, hc2] <;> first | rfl | exact ⟨rfl, rfl⟩ | exact ⟨rfl, rfl, rfl⟩) rfl ⟨rfl, by (repeat (first | exact Below.refl _ _ | exact Nat.le_refl _ | refine below_drewN ?_ _ | refine Below.drew ?_ | refine Below.alloc ?_ ?_ _ | refine Below.setCell ?_ ?_ _ | refine below_step (by assumption) ?_ ?_)) <;> (first | omega | (simp <;> omega))⟩
theorem digitBits_any (n c : Nat) (h1 : 1 ≤ n) (h2 : n ≤ 4) (hc : c ≤ 255) (w : World) : Calls Tryd.prog 38 #[.int .i64 n, .int .u8 c] w fun e w' => e = .returned (.agg #[.int .i64 n, .int .u64 (U (dbits n c).v), .int .u64 (U (dbits n c).x)]) ∧ Below w.heap.size w w' := by
  unfold dbits
  by_cases h : c = 120
  · rw [if_pos h]; subst h; exact digitBits_x n h1 h2 w
  · rw [if_neg h]
    by_cases h' : c = 122
    · rw [if_pos h']; subst h'; exact digitBits_z n h1 h2 w
    · rw [if_neg h']; exact digitBits_d n c h1 h2 hc w (beq_eq_false_iff_ne.2 (by omega)) (beq_eq_false_iff_ne.2 (by omega))
theorem dbits_ok {n : Nat} (h1 : 1 ≤ n) (h2 : n ≤ 64) (c : Nat) : (dbits n c).ok n := by
  unfold dbits; split
  · exact fl_ok h1 h2 3
  · split
    · exact fl_ok h1 h2 2
    · exact kv_ok h1 h2 _
def plc (n m k : Nat) : BitVec 64 := msk m <<< k &&& msk n
def vput (n m : Nat) (a : Vx) (k : Nat) (p : Vx) : Vx := ⟨a.v &&& ~~~plc n m k ||| p.v <<< k &&& plc n m k, a.x &&& ~~~plc n m k ||| p.x <<< k &&& plc n m k⟩
theorem vput_ok {n m k : Nat} {a p : Vx} (h : a.ok n) : (vput n m a k p).ok n :=
  ok_mk h.lo h.hi (sub_or (sub_and h.subv) (sub_and' (sub_and' (sub_msk h.hi)))) (sub_or (sub_and h.subx) (sub_and' (sub_and' (sub_msk h.hi))))
theorem up_q (v : BitVec 64) (k : Nat) (w : World) (h : k ≤ 1000000) : Calls Tryd.prog 54 #[.int .u64 (U v), .int .i64 k] w fun e w' => e = .returned (.int .u64 (U (v <<< k))) ∧ w' = w := (up_ok v k w h).mono fun _ _ ⟨a, b⟩ => ⟨a, b.symm⟩
set_option maxRecDepth 100000 in
set_option maxHeartbeats 1000000 in
theorem put_ok (n m k : Nat) (a p : Vx) (w : World) (ha : a.ok n) (hp : p.ok m) (hn : n ≤ 64) (hm : m ≤ 64) (hk : k ≤ 1000000) : Calls Tryd.prog 40 #[.agg #[.int .i64 n, .int .u64 (U a.v), .int .u64 (U a.x)], .int .i64 k, .agg #[.int .i64 m, .int .u64 (U p.v), .int .u64 (U p.x)]] w fun e w' => e = .returned (.agg #[.int .i64 n, .int .u64 (U (vput n m a k p).v), .int .u64 (U (vput n m a k p).x)]) ∧ Below w.heap.size w w' := by
  go_enter Tryd.func40, Tryd.ntmps40
  go_wp2_with fail
  refine (valid_ok n a.v a.x _ ha).mono ?_
  rintro e w1 ⟨rfl, hb1⟩
  obtain ⟨hc1, hf1⟩ := bcell hb1
  have z1_0 : w.heap.size < w1.heap.size := bsize hb1 (by first | omega | (simp <;> omega))
  have z1_1 : w.heap.size + 1 < w1.heap.size := bsize hb1 (by first | omega | (simp <;> omega))
  have z1_2 : w.heap.size + 2 < w1.heap.size := bsize hb1 (by first | omega | (simp <;> omega))
  go_wp2_with fail
  refine (valid_ok m p.v p.x _ hp).mono ?_
  rintro e w2 ⟨rfl, hb2⟩
  obtain ⟨hc2, hf2⟩ := bcell hb2
  have z2_0 : w.heap.size < w2.heap.size := bsize hb2 (by first | omega | (simp <;> omega))
  have z2_1 : w.heap.size + 1 < w2.heap.size := bsize hb2 (by first | omega | (simp <;> omega))
  have z2_2 : w.heap.size + 2 < w2.heap.size := bsize hb2 (by first | omega | (simp <;> omega))
  go_wp2_with fail
  go_quiet (first | (go_at_call 36; exact Calls.quiet_of_same (mask_q _ (by omega) _)) | (go_at_call 54; exact Calls.quiet_of_same (up_q _ _ _ (by omega))))
  go_wp2_with fail
  have hb3 := below_drewN (Below.refl w2.heap.size w2) nq
  generalize w2.drewN nq = w3 at hb3 ⊢
  obtain ⟨hc3, hf3⟩ := bcell hb3
  have z3_0 : w.heap.size < w3.heap.size := bsize hb3 (by first | omega | (simp <;> omega))
  have z3_1 : w.heap.size + 1 < w3.heap.size := bsize hb3 (by first | omega | (simp <;> omega))
  have z3_2 : w.heap.size + 2 < w3.heap.size := bsize hb3 (by first | omega | (simp <;> omega))
  refine wp_region_still_tail 25 (by kernel_rfl) (by kernel_rfl) ?_
  simp only [List.take_succ_cons, List.take_zero, List.drop_succ_cons, List.drop_zero]
  repeat (first | still_step | still_call (up_q _ _ _ (by omega)))
  refine wpStill_nil ?_
  change wpList _ _ _ _ _ (World.drew _)
  go_wp2_with fail
  exact bodyPost_ret (v := .agg #[.int .i64 n, .int .u64 (U (vput n m a k p).v), .int .u64 (U (vput n m a k p).x)]) (by simp [results, Tryd.results40, go_sem, hc1, z1_2, hc2, z2_2, hc3] <;> first | rfl | exact ⟨rfl, rfl⟩ | exact ⟨rfl, rfl, rfl⟩) rfl ⟨rfl, by (repeat (first | exact Below.refl _ _ | exact Nat.le_refl _ | refine below_drewN ?_ _ | refine Below.drew ?_ | refine Below.alloc ?_ ?_ _ | refine Below.setCell ?_ ?_ _ | refine below_step (by assumption) ?_ ?_)) <;> (first | omega | (simp <;> omega))⟩
end Go.Proofs.YtgmgmkhcadimjaaDoor
