/- Single tokens: names, quoted names, signs; the program's functions.
   A name with a quotation: the program's scanQuoted.
   The line and the column of a byte of a text: plain facts.
   What a string's bytes are read as. No program here. -/
import Derived.Test.YtogmipbdnffegaaGreatDoorMgTok
import Derived.Test.YtogmipbdnffegaaGreatDoorMgRel
import Derived.Lib.Bytealg
import Derived.Lib.LastIndexByte
import Derived.Lib.Strings
namespace Go.Proofs.YtogmipbdnffegaaGreatDoor
open Go Go.RowKit
set_option linter.unusedVariables false
theorem fits_any (n m : Int) (w : World) : Calls Tryz.prog 78 #[.int .i64 n, .int .i64 m] w fun e w' => e = .returned (.int .i64 (if m < n then 3 else 0)) ∧ w = w' := by
  by_cases h : m < n
  · have HB : Hid ((if m < n then (3 : Int) else 0) = 3) := Lib.hid (if_pos h)
    go_enter Tryz.func78, Tryz.ntmps78
    go_wp2_with fail
    go_ret
    exact ⟨ret_int (by first | rfl | rw [HB.out] | simp [HB.out]), rfl⟩
  · have HB : Hid ((if m < n then (3 : Int) else 0) = 0) := Lib.hid (if_neg h)
    go_enter Tryz.func78, Tryz.ntmps78
    go_wp2_with fail
    go_ret
    exact ⟨ret_int (by first | rfl | rw [HB.out] | simp [HB.out]), rfl⟩
theorem fits_e (n m E : Int) (hE : Hid ((if m < n then (3 : Int) else 0) = E)) (w : World) : Calls Tryz.prog 78 #[.int .i64 n, .int .i64 m] w fun e w' => e = .returned (.int .i64 E) ∧ w = w' := by
  have h := fits_any n m w
  rwa [hE.out] at h
set_option maxRecDepth 100000 in
set_option maxHeartbeats 2000000 in
theorem scanName_any (s : ByteArray) (n : Nat) (hs : s.size ≤ 1000000) (hn : Hid (span inW s = n)) (hns : n ≤ s.size) (K E : Int) (HK : Hid ((if isKey (s.extract 0 n).data.toList then (2 : Int) else 1) = K)) (HE : Hid ((if (40 : Int) < (n : Int) then (3 : Int) else 0) = E)) (w : World) (hG : LG w) :
    Calls Tryz.prog 64 #[.string s] w fun e w' => e = .returned (.tuple #[.agg #[.int .i64 K, .int .i64 0, .int .i64 0, .string (s.extract 0 n), .bool false, .int .i64 0, .int .u64 0, .int .u64 0, .bool false], .int .i64 n, .int .i64 E]) ∧ Below w.heap.size w w' := by
  have HG := Lib.hid hG
  clear hG
  have hn0 : (0 : Int) ≤ (n : Int) := by omega
  have hn1 : (n : Int) ≤ (s.size : Int) := by omega
  go_enter Tryz.func64, Tryz.ntmps64
  go_wp2_with fail
  refine (span_W s hs _).mono ?_
  rintro e w1 ⟨rfl, rfl⟩
  rw [hn.out]
  have b0 : Below w.heap.size w (w.alloc (Obj.cells #[Value.int IntKind.i64 0, Value.int IntKind.i64 0, Value.int IntKind.i64 0, Value.string { data := #[] }, Value.bool false, Value.int IntKind.i64 0, Value.int IntKind.u64 0, Value.int IntKind.u64 0, Value.bool false] 42)) := (Below.refl _ _).alloc (Nat.le_refl _) _
  go_wp2_with fail
  refine (isWord_any (s.extract 0 n) _ (HG.out.below b0)).mono ?_
  rintro e w2 ⟨rfl, hb2⟩
  obtain ⟨hc2, hf2⟩ := bcell hb2
  have z2 : w.heap.size < w2.heap.size := bsize hb2 (by simp)
  have hbb : Below w.heap.size w w2 := b0.trans (hb2.mono (by simp))
  have T2 := (TB.new w 0 0 0 ⟨#[]⟩ false 0 0 0 false).below hb2
  cases hk : isKey (s.extract 0 n).data.toList
  · have HKK : Hid (K = 1) := Lib.hid (by rw [← HK.out, hk]; rfl)
    clear hk
    go_wp2_with fail
    go_region_with ((go_at_call 78; refine (fits_e n 40 E HE _).mono ?_; rintro e w3 ⟨rfl, rfl⟩))
    all_goals
      go_wp2_with fail
      obtain ⟨q0, q1, q2, q3, q4, q5, q6, q7, q8, -⟩ := (T2.set 1 0 0 (s.extract 0 n) false 0 0 0 false).below (Below.refl _ _).drew
      unfold setTk at q0 q1 q2 q3 q4 q5 q6 q7 q8
      exact bodyPost_ret (v := .tuple #[.agg #[.int .i64 1, .int .i64 0, .int .i64 0, .string (s.extract 0 n), .bool false, .int .i64 0, .int .u64 0, .int .u64 0, .bool false], .int .i64 n, .int .i64 E]) (by simp [results, Tryz.results64, go_sem, q0, q1, q2, q3, q4, q5, q6, q7, q8]) rfl ⟨by rw [HKK.out], (below_setTk hbb (Nat.le_refl _) _ _ _ _ _ _ _ _ _).drew⟩
  · have HKK : Hid (K = 2) := Lib.hid (by rw [← HK.out, hk]; rfl)
    clear hk
    go_wp2_with fail
    go_region_with ((go_at_call 78; refine (fits_e n 40 E HE _).mono ?_; rintro e w3 ⟨rfl, rfl⟩))
    all_goals
      go_wp2_with fail
      obtain ⟨q0, q1, q2, q3, q4, q5, q6, q7, q8, -⟩ := (T2.set 2 0 0 (s.extract 0 n) false 0 0 0 false).below (Below.refl _ _).drew
      unfold setTk at q0 q1 q2 q3 q4 q5 q6 q7 q8
      exact bodyPost_ret (v := .tuple #[.agg #[.int .i64 2, .int .i64 0, .int .i64 0, .string (s.extract 0 n), .bool false, .int .i64 0, .int .u64 0, .int .u64 0, .bool false], .int .i64 n, .int .i64 E]) (by simp [results, Tryz.results64, go_sem, q0, q1, q2, q3, q4, q5, q6, q7, q8]) rfl ⟨by rw [HKK.out], (below_setTk hbb (Nat.le_refl _) _ _ _ _ _ _ _ _ _).drew⟩
end Go.Proofs.YtogmipbdnffegaaGreatDoor
namespace Go.Proofs.YtogmipbdnffegaaGreatDoor
open Go Go.RowKit
set_option linter.unusedVariables false
set_option maxRecDepth 100000 in
set_option maxHeartbeats 2000000 in
theorem scanQuoted_no (s : ByteArray) (m : Nat) (hs : s.size ≤ 1000000) (hs1 : 1 ≤ s.size) (hm : Hid (span inQ (s.extract 1 s.size) = m)) (hm0 : m = 0) (w : World) :
    Calls Tryz.prog 67 #[.string s] w fun e w' => e = .returned (.tuple #[.agg #[.int .i64 0, .int .i64 0, .int .i64 0, .string ⟨#[]⟩, .bool false, .int .i64 0, .int .u64 0, .int .u64 0, .bool false], .int .i64 0, .int .i64 10]) ∧ Below w.heap.size w w' := by
  subst hm0
  have hs1i : (1 : Int) ≤ (s.size : Int) := by omega
  have hsz : (s.extract 1 s.size).size ≤ 1000000 := by simp; omega
  go_enter Tryz.func67, Tryz.ntmps67
  go_upto_region 1 with fail
  obtain ⟨W1, hW1⟩ : ∃ W, W = w.alloc (Obj.cells #[Value.int IntKind.i64 0, Value.int IntKind.i64 0, Value.int IntKind.i64 0, Value.string { data := #[] }, Value.bool false, Value.int IntKind.i64 0, Value.int IntKind.u64 0, Value.int IntKind.u64 0, Value.bool false] 42) := ⟨_, rfl⟩
  have b0 : Below w.heap.size w W1 := by rw [hW1]; exact (Below.refl _ _).alloc (Nat.le_refl _) _
  have T0 : TB W1 w.heap.size 0 0 0 ⟨#[]⟩ false 0 0 0 false := by rw [hW1]; exact TB.new w 0 0 0 ⟨#[]⟩ false 0 0 0 false
  rw [← hW1]
  clear hW1
  have hlt := T0.lt
  go_wp2_with fail
  refine (span_Q _ hsz _).mono ?_
  rintro e w1 ⟨rfl, rfl⟩
  rw [hm.out]
  obtain ⟨u0, u1, u2, u3, u4, u5, u6, u7, u8, uf⟩ := id T0
  go_wp2_with fail
  obtain ⟨q0, q1, q2, q3, q4, q5, q6, q7, q8, -⟩ := T0.set 0 0 0 ⟨#[]⟩ false 0 0 0 false
  unfold setTk at q0 q1 q2 q3 q4 q5 q6 q7 q8
  exact bodyPost_ret (v := .tuple #[.agg #[.int .i64 0, .int .i64 0, .int .i64 0, .string ⟨#[]⟩, .bool false, .int .i64 0, .int .u64 0, .int .u64 0, .bool false], .int .i64 0, .int .i64 10]) (by simp [results, Tryz.results67, go_sem, q0, q1, q2, q3, q4, q5, q6, q7, q8]) rfl ⟨rfl, (below_setTk b0 (Nat.le_refl _) _ _ _ _ _ _ _ _ _)⟩
set_option maxRecDepth 100000 in
set_option maxHeartbeats 2000000 in
theorem scanQuoted_ill (s : ByteArray) (m : Nat) (hs : s.size ≤ 1000000) (hs1 : 1 ≤ s.size) (hm : Hid (span inQ (s.extract 1 s.size) = m)) (hm0 : 1 ≤ m) (hl : 1 + m < s.size) (hb : Hid (isB s[1 + m].toNat = false)) (w : World) :
    Calls Tryz.prog 67 #[.string s] w fun e w' => e = .returned (.tuple #[.agg #[.int .i64 0, .int .i64 0, .int .i64 0, .string ⟨#[]⟩, .bool false, .int .i64 0, .int .u64 0, .int .u64 0, .bool false], .int .i64 0, .int .i64 10]) ∧ Below w.heap.size w w' := by
  have hm1 : ((1 : Int) + (m : Int) == 1) = false := beq_eq_false_iff_ne.2 (by omega)
  have hm3 : (0 : Int) ≤ 1 + (m : Int) := by omega
  have hb255 : s[1 + m].toNat ≤ 255 := by have := s[1 + m].toNat_lt; omega
  have hm2 : (1 : Int) + (m : Int) < (s.size : Int) := by omega
  have hs1i : (1 : Int) ≤ (s.size : Int) := by omega
  have hsz : (s.extract 1 s.size).size ≤ 1000000 := by simp; omega
  go_enter Tryz.func67, Tryz.ntmps67
  go_upto_region 1 with fail
  obtain ⟨W1, hW1⟩ : ∃ W, W = w.alloc (Obj.cells #[Value.int IntKind.i64 0, Value.int IntKind.i64 0, Value.int IntKind.i64 0, Value.string { data := #[] }, Value.bool false, Value.int IntKind.i64 0, Value.int IntKind.u64 0, Value.int IntKind.u64 0, Value.bool false] 42) := ⟨_, rfl⟩
  have b0 : Below w.heap.size w W1 := by rw [hW1]; exact (Below.refl _ _).alloc (Nat.le_refl _) _
  have T0 : TB W1 w.heap.size 0 0 0 ⟨#[]⟩ false 0 0 0 false := by rw [hW1]; exact TB.new w 0 0 0 ⟨#[]⟩ false 0 0 0 false
  rw [← hW1]
  clear hW1
  have hlt := T0.lt
  go_wp2_with fail
  refine (span_Q _ hsz _).mono ?_
  rintro e w1 ⟨rfl, rfl⟩
  rw [hm.out]
  obtain ⟨u0, u1, u2, u3, u4, u5, u6, u7, u8, uf⟩ := id T0
  go_wp2_with fail
  refine (isB_p _ hb255 _).mono ?_
  rintro e w1 ⟨rfl, rfl⟩
  rw [hb.out]
  go_wp2_with fail
  obtain ⟨q0, q1, q2, q3, q4, q5, q6, q7, q8, -⟩ := T0.set 0 0 0 ⟨#[]⟩ false 0 0 0 false
  unfold setTk at q0 q1 q2 q3 q4 q5 q6 q7 q8
  exact bodyPost_ret (v := .tuple #[.agg #[.int .i64 0, .int .i64 0, .int .i64 0, .string ⟨#[]⟩, .bool false, .int .i64 0, .int .u64 0, .int .u64 0, .bool false], .int .i64 0, .int .i64 10]) (by simp [results, Tryz.results67, go_sem, q0, q1, q2, q3, q4, q5, q6, q7, q8]) rfl ⟨rfl, (below_setTk b0 (Nat.le_refl _) _ _ _ _ _ _ _ _ _)⟩
set_option maxRecDepth 100000 in
set_option maxHeartbeats 2000000 in
theorem scanQuoted_mid (s : ByteArray) (m : Nat) (hs : s.size ≤ 1000000) (hs1 : 1 ≤ s.size) (hm : Hid (span inQ (s.extract 1 s.size) = m)) (hm0 : 1 ≤ m) (hl : 1 + m < s.size) (hb : Hid (isB s[1 + m].toNat = true)) (E : Int) (HE : Hid ((if (40 : Int) < ((1 + m : Nat) : Int) - 1 then (3 : Int) else 0) = E)) (w : World) :
    Calls Tryz.prog 67 #[.string s] w fun e w' => e = .returned (.tuple #[.agg #[.int .i64 1, .int .i64 0, .int .i64 0, .string (s.extract 1 (1 + m)), .bool true, .int .i64 0, .int .u64 0, .int .u64 0, .bool false], .int .i64 (1 + m : Nat), .int .i64 E]) ∧ Below w.heap.size w w' := by
  have hm1 : ((1 : Int) + (m : Int) == 1) = false := beq_eq_false_iff_ne.2 (by omega)
  have hm3 : (0 : Int) ≤ 1 + (m : Int) := by omega
  have hb255 : s[1 + m].toNat ≤ 255 := by have := s[1 + m].toNat_lt; omega
  have hm2 : (1 : Int) + (m : Int) < (s.size : Int) := by omega
  have hs1i : (1 : Int) ≤ (s.size : Int) := by omega
  have hsz : (s.extract 1 s.size).size ≤ 1000000 := by simp; omega
  go_enter Tryz.func67, Tryz.ntmps67
  go_upto_region 1 with fail
  obtain ⟨W1, hW1⟩ : ∃ W, W = w.alloc (Obj.cells #[Value.int IntKind.i64 0, Value.int IntKind.i64 0, Value.int IntKind.i64 0, Value.string { data := #[] }, Value.bool false, Value.int IntKind.i64 0, Value.int IntKind.u64 0, Value.int IntKind.u64 0, Value.bool false] 42) := ⟨_, rfl⟩
  have b0 : Below w.heap.size w W1 := by rw [hW1]; exact (Below.refl _ _).alloc (Nat.le_refl _) _
  have T0 : TB W1 w.heap.size 0 0 0 ⟨#[]⟩ false 0 0 0 false := by rw [hW1]; exact TB.new w 0 0 0 ⟨#[]⟩ false 0 0 0 false
  rw [← hW1]
  clear hW1
  have hlt := T0.lt
  go_wp2_with fail
  refine (span_Q _ hsz _).mono ?_
  rintro e w1 ⟨rfl, rfl⟩
  rw [hm.out]
  obtain ⟨u0, u1, u2, u3, u4, u5, u6, u7, u8, uf⟩ := id T0
  go_upto_region 4 with (go_at_call 61; refine (isB_p _ hb255 _).mono ?_; rintro e w1 ⟨rfl, rfl⟩; rw [hb.out])
  generalize (s[1 + m]).toNat = bb
  simp only [show (1 : Int) + (m : Int) = ((1 + m : Nat) : Int) from by omega]
  have hq1 : (1 : Int) ≤ ((1 + m : Nat) : Int) := by omega
  have hq2 : ((1 + m : Nat) : Int) ≤ (s.size : Int) := by omega
  obtain ⟨n, hn⟩ : ∃ n, n = 1 + m := ⟨_, rfl⟩
  rw [← hn] at hq1 hq2 HE ⊢
  have HN := Lib.hid hn
  clear hn
  have hwr : IntKind.i64.wrap ((n : Int) - 1) = (n : Int) - 1 := by unfold IntKind.wrap; simp [IntKind.bits, IntKind.signed]; omega
  go_wp2_with fail
  go_region_with ((go_at_call 78; refine (fits_e ((n : Int) - 1) 40 E HE _).mono ?_; rintro e w3 ⟨rfl, rfl⟩))
  all_goals
    go_wp2_with fail
    obtain ⟨q0, q1, q2, q3, q4, q5, q6, q7, q8, -⟩ := (T0.set 1 0 0 (s.extract 1 n) true 0 0 0 false).below (Below.refl _ _).drew
    unfold setTk at q0 q1 q2 q3 q4 q5 q6 q7 q8
    exact bodyPost_ret (v := .tuple #[.agg #[.int .i64 1, .int .i64 0, .int .i64 0, .string (s.extract 1 n), .bool true, .int .i64 0, .int .u64 0, .int .u64 0, .bool false], .int .i64 n, .int .i64 E]) (by simp [results, Tryz.results67, go_sem, q0, q1, q2, q3, q4, q5, q6, q7, q8]) rfl ⟨by rw [HN.out], (below_setTk b0 (Nat.le_refl _) _ _ _ _ _ _ _ _ _).drew⟩
set_option maxRecDepth 100000 in
set_option maxHeartbeats 2000000 in
theorem scanQuoted_end (s : ByteArray) (m : Nat) (hs : s.size ≤ 1000000) (hs1 : 1 ≤ s.size) (hm : Hid (span inQ (s.extract 1 s.size) = m)) (hm0 : 1 ≤ m) (hl : 1 + m = s.size) (E : Int) (HE : Hid ((if (40 : Int) < ((1 + m : Nat) : Int) - 1 then (3 : Int) else 0) = E)) (w : World) :
    Calls Tryz.prog 67 #[.string s] w fun e w' => e = .returned (.tuple #[.agg #[.int .i64 1, .int .i64 0, .int .i64 0, .string (s.extract 1 (1 + m)), .bool true, .int .i64 0, .int .u64 0, .int .u64 0, .bool false], .int .i64 (1 + m : Nat), .int .i64 E]) ∧ Below w.heap.size w w' := by
  have hm1 : ((1 : Int) + (m : Int) == 1) = false := beq_eq_false_iff_ne.2 (by omega)
  have hm3 : (0 : Int) ≤ 1 + (m : Int) := by omega
  have hm2 : ¬ ((1 : Int) + (m : Int) < (s.size : Int)) := by omega
  have hs1i : (1 : Int) ≤ (s.size : Int) := by omega
  have hsz : (s.extract 1 s.size).size ≤ 1000000 := by simp; omega
  go_enter Tryz.func67, Tryz.ntmps67
  go_upto_region 1 with fail
  obtain ⟨W1, hW1⟩ : ∃ W, W = w.alloc (Obj.cells #[Value.int IntKind.i64 0, Value.int IntKind.i64 0, Value.int IntKind.i64 0, Value.string { data := #[] }, Value.bool false, Value.int IntKind.i64 0, Value.int IntKind.u64 0, Value.int IntKind.u64 0, Value.bool false] 42) := ⟨_, rfl⟩
  have b0 : Below w.heap.size w W1 := by rw [hW1]; exact (Below.refl _ _).alloc (Nat.le_refl _) _
  have T0 : TB W1 w.heap.size 0 0 0 ⟨#[]⟩ false 0 0 0 false := by rw [hW1]; exact TB.new w 0 0 0 ⟨#[]⟩ false 0 0 0 false
  rw [← hW1]
  clear hW1
  have hlt := T0.lt
  go_wp2_with fail
  refine (span_Q _ hsz _).mono ?_
  rintro e w1 ⟨rfl, rfl⟩
  rw [hm.out]
  obtain ⟨u0, u1, u2, u3, u4, u5, u6, u7, u8, uf⟩ := id T0
  go_upto_region 4 with fail
  simp only [show (1 : Int) + (m : Int) = ((1 + m : Nat) : Int) from by omega]
  have hq1 : (1 : Int) ≤ ((1 + m : Nat) : Int) := by omega
  have hq2 : ((1 + m : Nat) : Int) ≤ (s.size : Int) := by omega
  obtain ⟨n, hn⟩ : ∃ n, n = 1 + m := ⟨_, rfl⟩
  rw [← hn] at hq1 hq2 HE ⊢
  have HN := Lib.hid hn
  clear hn
  have hwr : IntKind.i64.wrap ((n : Int) - 1) = (n : Int) - 1 := by unfold IntKind.wrap; simp [IntKind.bits, IntKind.signed]; omega
  go_wp2_with fail
  go_region_with ((go_at_call 78; refine (fits_e ((n : Int) - 1) 40 E HE _).mono ?_; rintro e w3 ⟨rfl, rfl⟩))
  all_goals
    go_wp2_with fail
    obtain ⟨q0, q1, q2, q3, q4, q5, q6, q7, q8, -⟩ := (T0.set 1 0 0 (s.extract 1 n) true 0 0 0 false).below (Below.refl _ _).drew
    unfold setTk at q0 q1 q2 q3 q4 q5 q6 q7 q8
    exact bodyPost_ret (v := .tuple #[.agg #[.int .i64 1, .int .i64 0, .int .i64 0, .string (s.extract 1 n), .bool true, .int .i64 0, .int .u64 0, .int .u64 0, .bool false], .int .i64 n, .int .i64 E]) (by simp [results, Tryz.results67, go_sem, q0, q1, q2, q3, q4, q5, q6, q7, q8]) rfl ⟨by rw [HN.out], (below_setTk b0 (Nat.le_refl _) _ _ _ _ _ _ _ _ _).drew⟩
end Go.Proofs.YtogmipbdnffegaaGreatDoor
namespace Go.Proofs.YtogmipbdnffegaaGreatDoor
set_option linter.unusedVariables false
/-- line and column behind k bytes -/
def plcT (s : ByteArray) : Nat → Nat × Nat
  | 0 => (1, 1)
  | k + 1 => if ((s.data[k]!).toNat : Int) = 10 then ((plcT s k).1 + 1, 1) else ((plcT s k).1, (plcT s k).2 + 1)
theorem plc_le (s : ByteArray) (k : Nat) : 1 ≤ (plcT s k).1 ∧ (plcT s k).1 ≤ k + 1 ∧ 1 ≤ (plcT s k).2 ∧ (plcT s k).2 ≤ k + 1 := by
  induction k with
  | zero => simp [plcT]
  | succ k ih =>
    unfold plcT
    split
    · simp only; omega
    · simp only; omega
theorem plc_col (s : ByteArray) (k : Nat) : (k : Int) - Lib.lastIdx s 10 k = ((plcT s k).2 : Int) := by
  induction k with
  | zero => rfl
  | succ k ih =>
    unfold plcT Lib.lastIdx
    split
    · simp only; omega
    · simp only; omega
theorem get_of_lt (s : ByteArray) (k : Nat) (h : k < s.size) : s.data[k]! = s[k] := by
  rw [getElem!_pos s.data k h]; rfl
theorem extract_get (s : ByteArray) (k j : Nat) (hj : j < k) (hk : k ≤ s.size) : (s.extract 0 k).data[j]! = s.data[j]! := by
  have hd : (s.extract 0 k).data = s.data.extract 0 k := by simp [ByteArray.data_extract]
  have hs : s.data.size = s.size := rfl
  have h1 : j < (s.data.extract 0 k).size := by simp; omega
  rw [hd, getElem!_pos (s.data.extract 0 k) j h1, getElem!_pos s.data j (by omega)]
  simp
theorem lastIdx_extract (s : ByteArray) (c : Int) (k : Nat) (hk : k ≤ s.size) : ∀ j, j ≤ k → Lib.lastIdx (s.extract 0 k) c j = Lib.lastIdx s c j := by
  intro j
  induction j with
  | zero => intro _; rfl
  | succ j ih => intro h; unfold Lib.lastIdx; rw [extract_get s k j (by omega) hk, ih (by omega)]
theorem place_col (s : ByteArray) (k : Nat) (hk : k ≤ s.size) : (k : Int) - Lib.lastIndexByte (s.extract 0 k) 10 = ((plcT s k).2 : Int) := by
  have e : (s.extract 0 k).size = k := by simp; omega
  unfold Lib.lastIndexByte
  rw [e, lastIdx_extract s 10 k hk k (Nat.le_refl _)]
  exact plc_col s k
theorem take_snoc (s : ByteArray) (k : Nat) (h : k < s.size) : s.data.toList.take (k + 1) = s.data.toList.take k ++ [s.data[k]!] := by
  rw [List.take_succ_eq_append_getElem (by simpa using h), getElem!_pos s.data k h]; simp
theorem plc_line (s : ByteArray) (k : Nat) (hk : k ≤ s.size) : 1 + (s.data.toList.take k).count 10 = (plcT s k).1 := by
  induction k with
  | zero => rfl
  | succ k ih =>
    have ih := ih (by omega)
    rw [take_snoc s k (by omega), List.count_append]
    unfold plcT
    have e : ((s.data[k]!).toNat : Int) = 10 ↔ s.data[k]! = 10 := by
      constructor
      · intro h; apply UInt8.toNat_inj.1; show _ = 10; omega
      · intro h; rw [h]; rfl
    by_cases h : s.data[k]! = 10
    · rw [if_pos (e.2 h), h]; simp; omega
    · rw [if_neg (fun x => h (e.1 x))]; simp [h]; omega
theorem place_line (s : ByteArray) (k : Nat) (hk : k ≤ s.size) : (1 : Int) + (Lib.countByte (s.data.toList.take k) 10 : Nat) = ((plcT s k).1 : Int) := by
  unfold Lib.countByte
  rw [← plc_line s k hk]; omega
theorem plc_cut (s : ByteArray) (m : Nat) (hm : m ≤ s.size) : ∀ j, j ≤ m → plcT (s.extract 0 m) j = plcT s j := by
  intro j
  induction j with
  | zero => intro _; rfl
  | succ j ih => intro h; unfold plcT; rw [extract_get s m j (by omega) hm, ih (by omega)]
end Go.Proofs.YtogmipbdnffegaaGreatDoor
namespace Go.Proofs.YtogmipbdnffegaaGreatDoor
set_option linter.unusedVariables false
inductive So
  | ok (n : Nat) (l : List UInt8)
  | er (e : Int)
/-- byte n of a text, as a number -/
def gb (s : ByteArray) (n : Nat) : Nat := (s.data[n]!).toNat
theorem gb_le (s : ByteArray) (n : Nat) : gb s n ≤ 255 := by have := (s.data[n]!).toNat_lt; unfold gb; omega
theorem gb_at (s : ByteArray) (n : Nat) (h : n < s.size) : s[n].toNat = gb s n := by unfold gb; rw [get_of_lt s n h]
/-- from byte n on, with the content l so far: what comes of it -/
inductive Ss (s : ByteArray) : Nat → List UInt8 → So → Prop
  | nd {n : Nat} {l : List UInt8} (h : s.size ≤ n) : Ss s n l (.er 11)
  | nl {n : Nat} {l : List UInt8} (h : n < s.size) (c : gb s n = 10) : Ss s n l (.er 11)
  | qt {n : Nat} {l : List UInt8} (h : n < s.size) (c : gb s n = 34) : Ss s n l (.ok n l)
  | be {n : Nat} {l : List UInt8} (h : n < s.size) (c : gb s n = 92) (h1 : n + 1 = s.size) : Ss s n l (.er 11)
  | bx {n : Nat} {l : List UInt8} (h : n < s.size) (c : gb s n = 92) (h1 : n + 1 < s.size) (d : gb s (n + 1) ≠ 34) (e : gb s (n + 1) ≠ 92) : Ss s n l (.er 10)
  | bo {n : Nat} {l : List UInt8} {o : So} (h : n < s.size) (c : gb s n = 92) (h1 : n + 1 < s.size) (d : gb s (n + 1) = 34 ∨ gb s (n + 1) = 92) (r : Ss s (n + 2) (l ++ [s.data[n + 1]!]) o) : Ss s n l o
  | il {n : Nat} {l : List UInt8} (h : n < s.size) (c : gb s n ≠ 10) (d : gb s n ≠ 34) (e : gb s n ≠ 92) (f : gb s n < 32 ∨ 126 < gb s n) : Ss s n l (.er 10)
  | go {n : Nat} {l : List UInt8} {o : So} (h : n < s.size) (d : gb s n ≠ 34) (e : gb s n ≠ 92) (f : 32 ≤ gb s n ∧ gb s n ≤ 126) (r : Ss s (n + 1) (l ++ [s.data[n]!]) o) : Ss s n l o
theorem ss_total (s : ByteArray) : ∀ (f n : Nat) (l : List UInt8), s.size - n ≤ f → ∃ o, Ss s n l o := by
  intro f
  induction f with
  | zero => intro n l h; exact ⟨_, .nd (by omega)⟩
  | succ f ih =>
    intro n l h
    by_cases h0 : n < s.size
    · by_cases c1 : gb s n = 10
      · exact ⟨_, .nl h0 c1⟩
      · by_cases c2 : gb s n = 34
        · exact ⟨_, .qt h0 c2⟩
        · by_cases c3 : gb s n = 92
          · by_cases h1 : n + 1 < s.size
            · by_cases d : gb s (n + 1) = 34 ∨ gb s (n + 1) = 92
              · obtain ⟨o, r⟩ := ih (n + 2) (l ++ [s.data[n + 1]!]) (by omega)
                exact ⟨o, .bo h0 c3 h1 d r⟩
              · exact ⟨_, .bx h0 c3 h1 (fun x => d (.inl x)) (fun x => d (.inr x))⟩
            · exact ⟨_, .be h0 c3 (by omega)⟩
          · by_cases f1 : 32 ≤ gb s n ∧ gb s n ≤ 126
            · obtain ⟨o, r⟩ := ih (n + 1) (l ++ [s.data[n]!]) (by omega)
              exact ⟨o, .go h0 c2 c3 f1 r⟩
            · exact ⟨_, .il h0 c1 c2 c3 (by omega)⟩
    · exact ⟨_, .nd (by omega)⟩
end Go.Proofs.YtogmipbdnffegaaGreatDoor
