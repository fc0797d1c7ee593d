/- A number without a quotation mark: the program's scanNumber. -/
import Derived.Test.YtogmipbdnffegaaGreatDoorMgStr
import Derived.Test.YtogmipbdnffegaaGreatDoorVec
namespace Go.Proofs.YtogmipbdnffegaaGreatDoor
open Go Go.RowKit
set_option linter.unusedVariables false
theorem toL_ne {r : ByteArray} (h : 0 < r.size) : r.toList.isEmpty = false := by
  rw [ByteArray.toList_eq]
  cases hh : r.data.toList with
  | nil => have := len_list r; rw [hh] at this; simp at this; omega
  | cons c l => rfl
set_option maxRecDepth 100000 in
set_option maxHeartbeats 2000000 in
theorem scanNumber_let (s : ByteArray) (n : Nat) (hs : s.size ≤ 1000000) (h1 : 1 ≤ n) (hns : n ≤ s.size) (hn : Hid (span isD s = n)) (hq : Hid (Lib.hasPrefix (s.extract n s.size).data.toList (ByteArray.mk #[39]).data.toList = false)) (hlt1 : n < s.size) (hl : Hid (isL (gb s n) = true)) (w : World) :
    Calls Tryz.prog 65 #[.string s] w fun e w' => e = .returned (.tuple #[.agg #[.int .i64 0, .int .i64 0, .int .i64 0, .string ⟨#[]⟩, .bool false, .int .i64 0, .int .u64 0, .int .u64 0, .bool false], .int .i64 0, .int .i64 10]) ∧ Below w.heap.size w w' := by
  have hn0 : (0 : Int) ≤ (n : Int) := by omega
  have hn1 : (n : Int) ≤ (s.size : Int) := by omega
  have hs0 : 0 < s.size := by omega
  have hs0i : (0 : Int) < (s.size : Int) := by omega
  go_enter Tryz.func65, Tryz.ntmps65
  go_upto_region 1 with fail
  obtain ⟨W1, hW1⟩ : ∃ W, W = w.alloc (Obj.cells #[Value.int IntKind.i64 0, Value.int IntKind.i64 0, Value.int IntKind.i64 0, Value.string { data := #[] }, Value.bool false, Value.int IntKind.i64 0, Value.int IntKind.u64 0, Value.int IntKind.u64 0, Value.bool false] 42) := ⟨_, rfl⟩
  have b0 : Below w.heap.size w W1 := by rw [hW1]; exact (Below.refl _ _).alloc (Nat.le_refl _) _
  have T0 : TB W1 w.heap.size 0 0 0 ⟨#[]⟩ false 0 0 0 false := by rw [hW1]; exact TB.new w 0 0 0 ⟨#[]⟩ false 0 0 0 false
  rw [← hW1]
  clear hW1
  have hlt := T0.lt
  go_wp2_with fail
  refine (span_D s hs _).mono ?_
  rintro e w1 ⟨rfl, rfl⟩
  rw [hn.out]
  obtain ⟨u0, u1, u2, u3, u4, u5, u6, u7, u8, uf⟩ := id T0
  go_wp2_with fail
  refine (Tryz.strings_HasPrefix _ _ _).mono ?_
  rintro e w1 ⟨rfl, rfl⟩
  rw [hq.out]
  go_upto_region 9 with fail
  obtain ⟨r, hr⟩ : ∃ r, s.extract n s.size = r := ⟨_, rfl⟩
  have hr0 : 0 < r.size := by rw [← hr]; simp; omega
  have hg : r[0].toNat = gb s n := by
    have h := gb_at r 0 hr0
    rw [h]
    unfold gb
    rw [← hr, extract_get_k s n s.size 0 (by omega) (Nat.le_refl _)]
    rfl
  have hr1 : (0 : Int) < (r.size : Int) := by omega
  rw [hr]
  have hne := toL_ne hr0
  have hb255 := gb_le s n
  generalize gb s n = c at hg hl hb255
  clear hr
  go_wp2_with fail
  refine (isL_p _ hb255 _).mono ?_
  rintro e w1 ⟨rfl, rfl⟩
  rw [hl.out]
  go_wp2_with fail
  obtain ⟨q0, q1, q2, q3, q4, q5, q6, q7, q8, -⟩ := T0.set 0 0 0 ⟨#[]⟩ false 0 0 0 false
  unfold setTk at q0 q1 q2 q3 q4 q5 q6 q7 q8
  exact bodyPost_ret (v := .tuple #[.agg #[.int .i64 0, .int .i64 0, .int .i64 0, .string ⟨#[]⟩, .bool false, .int .i64 0, .int .u64 0, .int .u64 0, .bool false], .int .i64 0, .int .i64 10]) (by simp [results, Tryz.results65, go_sem, q0, q1, q2, q3, q4, q5, q6, q7, q8]) rfl ⟨rfl, below_setTk b0 (Nat.le_refl _) _ _ _ _ _ _ _ _ _⟩
set_option maxRecDepth 100000 in
set_option maxHeartbeats 2000000 in
theorem scanNumber_nought (s : ByteArray) (n : Nat) (hs : s.size ≤ 1000000) (h1 : 1 ≤ n) (hns : n ≤ s.size) (hn : Hid (span isD s = n)) (hq : Hid (Lib.hasPrefix (s.extract n s.size).data.toList (ByteArray.mk #[39]).data.toList = false)) (h2 : 2 ≤ n) (hl : Hid (n < s.size → isL (gb s n) = false)) (h48 : gb s 0 = 48) (w : World) :
    Calls Tryz.prog 65 #[.string s] w fun e w' => e = .returned (.tuple #[.agg #[.int .i64 0, .int .i64 0, .int .i64 0, .string ⟨#[]⟩, .bool false, .int .i64 0, .int .u64 0, .int .u64 0, .bool false], .int .i64 0, .int .i64 10]) ∧ Below w.heap.size w w' := by
  have hn0 : (0 : Int) ≤ (n : Int) := by omega
  have hn1 : (n : Int) ≤ (s.size : Int) := by omega
  have hs0 : 0 < s.size := by omega
  have hs0i : (0 : Int) < (s.size : Int) := by omega
  go_enter Tryz.func65, Tryz.ntmps65
  go_upto_region 1 with fail
  obtain ⟨W1, hW1⟩ : ∃ W, W = w.alloc (Obj.cells #[Value.int IntKind.i64 0, Value.int IntKind.i64 0, Value.int IntKind.i64 0, Value.string { data := #[] }, Value.bool false, Value.int IntKind.i64 0, Value.int IntKind.u64 0, Value.int IntKind.u64 0, Value.bool false] 42) := ⟨_, rfl⟩
  have b0 : Below w.heap.size w W1 := by rw [hW1]; exact (Below.refl _ _).alloc (Nat.le_refl _) _
  have T0 : TB W1 w.heap.size 0 0 0 ⟨#[]⟩ false 0 0 0 false := by rw [hW1]; exact TB.new w 0 0 0 ⟨#[]⟩ false 0 0 0 false
  rw [← hW1]
  clear hW1
  have hlt := T0.lt
  go_wp2_with fail
  refine (span_D s hs _).mono ?_
  rintro e w1 ⟨rfl, rfl⟩
  rw [hn.out]
  obtain ⟨u0, u1, u2, u3, u4, u5, u6, u7, u8, uf⟩ := id T0
  go_wp2_with fail
  refine (Tryz.strings_HasPrefix _ _ _).mono ?_
  rintro e w1 ⟨rfl, rfl⟩
  rw [hq.out]
  have hat : s[0].toNat = 48 := (gb_at s 0 hs0).trans h48
  have h2i : (1 : Int) < (n : Int) := by omega
  go_upto_region 9 with fail
  obtain ⟨r, hr⟩ : ∃ r, s.extract n s.size = r := ⟨_, rfl⟩
  rw [hr]
  by_cases hlt1 : n < s.size
  · have hr0 : 0 < r.size := by rw [← hr]; simp; omega
    have hg : r[0].toNat = gb s n := by
      have h := gb_at r 0 hr0
      rw [h]
      unfold gb
      rw [← hr, extract_get_k s n s.size 0 (by omega) (Nat.le_refl _)]
      rfl
    have hr1 : (0 : Int) < (r.size : Int) := by omega
    have hne := toL_ne hr0
    have hb255 := gb_le s n
    have HL := Lib.hid (hl.out hlt1)
    generalize gb s n = c at hg HL hb255
    clear hr hl
    go_wp2_with fail
    refine (isL_p _ hb255 _).mono ?_
    rintro e w1 ⟨rfl, rfl⟩
    rw [HL.out]
    go_wp2_with fail
    obtain ⟨q0, q1, q2, q3, q4, q5, q6, q7, q8, -⟩ := T0.set 0 0 0 ⟨#[]⟩ false 0 0 0 false
    unfold setTk at q0 q1 q2 q3 q4 q5 q6 q7 q8
    exact bodyPost_ret (v := .tuple #[.agg #[.int .i64 0, .int .i64 0, .int .i64 0, .string ⟨#[]⟩, .bool false, .int .i64 0, .int .u64 0, .int .u64 0, .bool false], .int .i64 0, .int .i64 10]) (by simp [results, Tryz.results65, go_sem, q0, q1, q2, q3, q4, q5, q6, q7, q8]) rfl ⟨rfl, below_setTk b0 (Nat.le_refl _) _ _ _ _ _ _ _ _ _⟩
  · have hr0 : r = ⟨#[]⟩ := by
      have : r.size = 0 := by rw [← hr]; simp; omega
      cases r with
      | mk d => cases d with
        | mk l => cases l with
          | nil => rfl
          | cons c l => exact absurd this (by show (c :: l).length ≠ 0; simp)
    subst hr0
    clear hr hl
    go_wp2_with fail
    obtain ⟨q0, q1, q2, q3, q4, q5, q6, q7, q8, -⟩ := T0.set 0 0 0 ⟨#[]⟩ false 0 0 0 false
    unfold setTk at q0 q1 q2 q3 q4 q5 q6 q7 q8
    exact bodyPost_ret (v := .tuple #[.agg #[.int .i64 0, .int .i64 0, .int .i64 0, .string ⟨#[]⟩, .bool false, .int .i64 0, .int .u64 0, .int .u64 0, .bool false], .int .i64 0, .int .i64 10]) (by simp [results, Tryz.results65, go_sem, q0, q1, q2, q3, q4, q5, q6, q7, q8]) rfl ⟨rfl, below_setTk b0 (Nat.le_refl _) _ _ _ _ _ _ _ _ _⟩
theorem of32 (v : Nat) (hv : v ≤ 2147483647) (w : World) : Calls Tryz.prog 81 #[.int .i64 32, .int .u64 v] w fun e w' => e = .returned (.agg #[.int .i64 32, .int .u64 v, .int .u64 0]) ∧ Below w.heap.size w w' := by
  have h := of_ok 32 (BitVec.ofNat 64 v) w (by decide) (by decide)
  have e1 : U (BitVec.ofNat 64 v) = (v : Int) := by unfold U; rw [BitVec.toNat_ofNat, Nat.mod_eq_of_lt (by omega)]
  have e2 : U (kv 32 (BitVec.ofNat 64 v)).v = (v : Int) := by
    unfold U kv msk
    simp only [BitVec.toNat_and]
    rw [BitVec.toNat_ofNat, Nat.mod_eq_of_lt (show v < 2 ^ 64 by omega), show BitVec.toNat (1#64 <<< 32 - 1#64) = 2 ^ 32 - 1 from by decide, Nat.and_two_pow_sub_one_eq_mod, Nat.mod_eq_of_lt (by omega)]
  have e3 : U (kv 32 (BitVec.ofNat 64 v)).x = 0 := rfl
  rw [e1, e2, e3] at h
  exact h
theorem digs (s : ByteArray) (n : Nat) (hns : n ≤ s.size) (hn : span isD s = n) : ∀ k, k < (s.extract 0 n).size → 48 ≤ gb (s.extract 0 n) k ∧ gb (s.extract 0 n) k ≤ 57 := by
  intro k hk
  have hk' : k < n := by simp at hk; omega
  have h := span_yes (f := isD) (s := s) (q := k) (by omega) (by omega)
  rw [gb_at s k (by omega)] at h
  have e : gb (s.extract 0 n) k = gb s k := by
    unfold gb
    rw [extract_get s n k hk' hns]
  rw [e]
  unfold isD at h
  simpa using h
set_option maxRecDepth 100000 in
set_option maxHeartbeats 2000000 in
theorem scanNumber_ok (s : ByteArray) (n : Nat) (hs : s.size ≤ 1000000) (h1 : 1 ≤ n) (hns : n ≤ s.size) (hn : Hid (span isD s = n)) (hq : Hid (Lib.hasPrefix (s.extract n s.size).data.toList (ByteArray.mk #[39]).data.toList = false)) (hl : Hid (n < s.size → isL (gb s n) = false)) (h48 : gb s 0 = 48 → n = 1) (hv : dgv (s.extract 0 n) (s.extract 0 n).size ≤ 2147483647) (w : World) :
    Calls Tryz.prog 65 #[.string s] w fun e w' => e = .returned (.tuple #[.agg #[.int .i64 3, .int .i64 0, .int .i64 0, .string ⟨#[]⟩, .bool false, .int .i64 32, .int .u64 (dgv (s.extract 0 n) (s.extract 0 n).size : Nat), .int .u64 0, .bool true], .int .i64 n, .int .i64 0]) ∧ Below w.heap.size w w' := by
  have hn0 : (0 : Int) ≤ (n : Int) := by omega
  have hn1 : (n : Int) ≤ (s.size : Int) := by omega
  have hs0 : 0 < s.size := by omega
  have hs0i : (0 : Int) < (s.size : Int) := by omega
  have hsz : (s.extract 0 n).size ≤ 1000000 := by simp; omega
  have hs1' : 1 ≤ (s.extract 0 n).size := by simp; omega
  have HD := Lib.hid (digs s n hns hn.out)
  go_enter Tryz.func65, Tryz.ntmps65
  go_upto_region 1 with fail
  obtain ⟨W1, hW1⟩ : ∃ W, W = w.alloc (Obj.cells #[Value.int IntKind.i64 0, Value.int IntKind.i64 0, Value.int IntKind.i64 0, Value.string { data := #[] }, Value.bool false, Value.int IntKind.i64 0, Value.int IntKind.u64 0, Value.int IntKind.u64 0, Value.bool false] 42) := ⟨_, rfl⟩
  have b0 : Below w.heap.size w W1 := by rw [hW1]; exact (Below.refl _ _).alloc (Nat.le_refl _) _
  have T0 : TB W1 w.heap.size 0 0 0 ⟨#[]⟩ false 0 0 0 false := by rw [hW1]; exact TB.new w 0 0 0 ⟨#[]⟩ false 0 0 0 false
  rw [← hW1]
  clear hW1
  have hlt := T0.lt
  go_wp2_with fail
  refine (span_D s hs _).mono ?_
  rintro e w1 ⟨rfl, rfl⟩
  rw [hn.out]
  obtain ⟨u0, u1, u2, u3, u4, u5, u6, u7, u8, uf⟩ := id T0
  go_wp2_with fail
  refine (Tryz.strings_HasPrefix _ _ _).mono ?_
  rintro e w1 ⟨rfl, rfl⟩
  rw [hq.out]
  by_cases h0 : gb s 0 = 48
  · have hat : s[0].toNat = 48 := (gb_at s 0 hs0).trans h0
    have h2i : ¬ ((1 : Int) < (n : Int)) := by have := h48 h0; omega
    clear h48 h0
    go_upto_region 9 with fail
    obtain ⟨r, hr⟩ : ∃ r, s.extract n s.size = r := ⟨_, rfl⟩
    rw [hr]
    by_cases hlt1 : n < s.size
    · have hr0 : 0 < r.size := by rw [← hr]; simp; omega
      have hg : r[0].toNat = gb s n := by
        have h := gb_at r 0 hr0
        rw [h]
        unfold gb
        rw [← hr, extract_get_k s n s.size 0 (by omega) (Nat.le_refl _)]
        rfl
      have hr1 : (0 : Int) < (r.size : Int) := by omega
      have hne := toL_ne hr0
      have hb255 := gb_le s n
      have HL := Lib.hid (hl.out hlt1)
      generalize gb s n = c at hg HL hb255
      clear hr hl
      go_wp2_with fail
      refine (isL_p _ hb255 _).mono ?_
      rintro e w1 ⟨rfl, rfl⟩
      rw [HL.out]
      go_wp2_with fail
      obtain ⟨V, hV⟩ : ∃ V, dgv (s.extract 0 n) (s.extract 0 n).size = V := ⟨_, rfl⟩
      have hP := parse31_ok (s.extract 0 n) hsz hs1' HD hv w1
      rw [hV] at hP hv
      have HV := Lib.hid hV
      clear hV
      refine hP.mono ?_
      rintro e w2 ⟨rfl, hb2⟩
      have T2 := T0.below hb2
      have bb := b0.trans (hb2.mono (Nat.le_of_lt hlt))
      clear hP u0 u1 u2 u3 u4 u5 u6 u7 u8 uf
      go_wp2_with fail
      refine (of32 V hv _).mono ?_
      rintro e w3 ⟨rfl, hb3⟩
      have T3 := T2.below hb3
      have bc := bb.trans (hb3.mono bb.size)
      obtain ⟨u0, u1, u2, u3, u4, u5, u6, u7, u8, uf⟩ := id T3
      go_wp2_with fail
      obtain ⟨q0, q1, q2, q3, q4, q5, q6, q7, q8, -⟩ := T3.set 3 0 0 ⟨#[]⟩ false 32 V 0 true
      unfold setTk at q0 q1 q2 q3 q4 q5 q6 q7 q8
      exact bodyPost_ret (v := .tuple #[.agg #[.int .i64 3, .int .i64 0, .int .i64 0, .string ⟨#[]⟩, .bool false, .int .i64 32, .int .u64 V, .int .u64 0, .bool true], .int .i64 n, .int .i64 0]) (by simp [results, Tryz.results65, go_sem, q0, q1, q2, q3, q4, q5, q6, q7, q8]) rfl ⟨by rw [HV.out], below_setTk bc (Nat.le_refl _) _ _ _ _ _ _ _ _ _⟩
    · have hr0 : r = ⟨#[]⟩ := by
        have : r.size = 0 := by rw [← hr]; simp; omega
        cases r with
        | mk d => cases d with
          | mk l => cases l with
            | nil => rfl
            | cons c l => exact absurd this (by show (c :: l).length ≠ 0; simp)
      subst hr0
      clear hr hl
      go_wp2_with fail
      obtain ⟨V, hV⟩ : ∃ V, dgv (s.extract 0 n) (s.extract 0 n).size = V := ⟨_, rfl⟩
      have hP := parse31_ok (s.extract 0 n) hsz hs1' HD hv w1
      rw [hV] at hP hv
      have HV := Lib.hid hV
      clear hV
      refine hP.mono ?_
      rintro e w2 ⟨rfl, hb2⟩
      have T2 := T0.below hb2
      have bb := b0.trans (hb2.mono (Nat.le_of_lt hlt))
      clear hP u0 u1 u2 u3 u4 u5 u6 u7 u8 uf
      go_wp2_with fail
      refine (of32 V hv _).mono ?_
      rintro e w3 ⟨rfl, hb3⟩
      have T3 := T2.below hb3
      have bc := bb.trans (hb3.mono bb.size)
      obtain ⟨u0, u1, u2, u3, u4, u5, u6, u7, u8, uf⟩ := id T3
      go_wp2_with fail
      obtain ⟨q0, q1, q2, q3, q4, q5, q6, q7, q8, -⟩ := T3.set 3 0 0 ⟨#[]⟩ false 32 V 0 true
      unfold setTk at q0 q1 q2 q3 q4 q5 q6 q7 q8
      exact bodyPost_ret (v := .tuple #[.agg #[.int .i64 3, .int .i64 0, .int .i64 0, .string ⟨#[]⟩, .bool false, .int .i64 32, .int .u64 V, .int .u64 0, .bool true], .int .i64 n, .int .i64 0]) (by simp [results, Tryz.results65, go_sem, q0, q1, q2, q3, q4, q5, q6, q7, q8]) rfl ⟨by rw [HV.out], below_setTk bc (Nat.le_refl _) _ _ _ _ _ _ _ _ _⟩
  · have hat : s[0].toNat = gb s 0 := gb_at s 0 hs0
    have h0i : ((gb s 0 : Int) == 48) = false := beq_eq_false_iff_ne.2 (by omega)
    clear h48 h0
    generalize gb s 0 = c0 at hat h0i
    go_upto_region 9 with fail
    obtain ⟨r, hr⟩ : ∃ r, s.extract n s.size = r := ⟨_, rfl⟩
    rw [hr]
    by_cases hlt1 : n < s.size
    · have hr0 : 0 < r.size := by rw [← hr]; simp; omega
      have hg : r[0].toNat = gb s n := by
        have h := gb_at r 0 hr0
        rw [h]
        unfold gb
        rw [← hr, extract_get_k s n s.size 0 (by omega) (Nat.le_refl _)]
        rfl
      have hr1 : (0 : Int) < (r.size : Int) := by omega
      have hne := toL_ne hr0
      have hb255 := gb_le s n
      have HL := Lib.hid (hl.out hlt1)
      generalize gb s n = c at hg HL hb255
      clear hr hl
      go_wp2_with fail
      refine (isL_p _ hb255 _).mono ?_
      rintro e w1 ⟨rfl, rfl⟩
      rw [HL.out]
      go_wp2_with fail
      obtain ⟨V, hV⟩ : ∃ V, dgv (s.extract 0 n) (s.extract 0 n).size = V := ⟨_, rfl⟩
      have hP := parse31_ok (s.extract 0 n) hsz hs1' HD hv w1
      rw [hV] at hP hv
      have HV := Lib.hid hV
      clear hV
      refine hP.mono ?_
      rintro e w2 ⟨rfl, hb2⟩
      have T2 := T0.below hb2
      have bb := b0.trans (hb2.mono (Nat.le_of_lt hlt))
      clear hP u0 u1 u2 u3 u4 u5 u6 u7 u8 uf
      go_wp2_with fail
      refine (of32 V hv _).mono ?_
      rintro e w3 ⟨rfl, hb3⟩
      have T3 := T2.below hb3
      have bc := bb.trans (hb3.mono bb.size)
      obtain ⟨u0, u1, u2, u3, u4, u5, u6, u7, u8, uf⟩ := id T3
      go_wp2_with fail
      obtain ⟨q0, q1, q2, q3, q4, q5, q6, q7, q8, -⟩ := T3.set 3 0 0 ⟨#[]⟩ false 32 V 0 true
      unfold setTk at q0 q1 q2 q3 q4 q5 q6 q7 q8
      exact bodyPost_ret (v := .tuple #[.agg #[.int .i64 3, .int .i64 0, .int .i64 0, .string ⟨#[]⟩, .bool false, .int .i64 32, .int .u64 V, .int .u64 0, .bool true], .int .i64 n, .int .i64 0]) (by simp [results, Tryz.results65, go_sem, q0, q1, q2, q3, q4, q5, q6, q7, q8]) rfl ⟨by rw [HV.out], below_setTk bc (Nat.le_refl _) _ _ _ _ _ _ _ _ _⟩
    · have hr0 : r = ⟨#[]⟩ := by
        have : r.size = 0 := by rw [← hr]; simp; omega
        cases r with
        | mk d => cases d with
          | mk l => cases l with
            | nil => rfl
            | cons c l => exact absurd this (by show (c :: l).length ≠ 0; simp)
      subst hr0
      clear hr hl
      go_wp2_with fail
      obtain ⟨V, hV⟩ : ∃ V, dgv (s.extract 0 n) (s.extract 0 n).size = V := ⟨_, rfl⟩
      have hP := parse31_ok (s.extract 0 n) hsz hs1' HD hv w1
      rw [hV] at hP hv
      have HV := Lib.hid hV
      clear hV
      refine hP.mono ?_
      rintro e w2 ⟨rfl, hb2⟩
      have T2 := T0.below hb2
      have bb := b0.trans (hb2.mono (Nat.le_of_lt hlt))
      clear hP u0 u1 u2 u3 u4 u5 u6 u7 u8 uf
      go_wp2_with fail
      refine (of32 V hv _).mono ?_
      rintro e w3 ⟨rfl, hb3⟩
      have T3 := T2.below hb3
      have bc := bb.trans (hb3.mono bb.size)
      obtain ⟨u0, u1, u2, u3, u4, u5, u6, u7, u8, uf⟩ := id T3
      go_wp2_with fail
      obtain ⟨q0, q1, q2, q3, q4, q5, q6, q7, q8, -⟩ := T3.set 3 0 0 ⟨#[]⟩ false 32 V 0 true
      unfold setTk at q0 q1 q2 q3 q4 q5 q6 q7 q8
      exact bodyPost_ret (v := .tuple #[.agg #[.int .i64 3, .int .i64 0, .int .i64 0, .string ⟨#[]⟩, .bool false, .int .i64 32, .int .u64 V, .int .u64 0, .bool true], .int .i64 n, .int .i64 0]) (by simp [results, Tryz.results65, go_sem, q0, q1, q2, q3, q4, q5, q6, q7, q8]) rfl ⟨by rw [HV.out], below_setTk bc (Nat.le_refl _) _ _ _ _ _ _ _ _ _⟩
set_option maxRecDepth 100000 in
set_option maxHeartbeats 2000000 in
theorem scanNumber_big (s : ByteArray) (n : Nat) (hs : s.size ≤ 1000000) (h1 : 1 ≤ n) (hns : n ≤ s.size) (hn : Hid (span isD s = n)) (hq : Hid (Lib.hasPrefix (s.extract n s.size).data.toList (ByteArray.mk #[39]).data.toList = false)) (hl : Hid (n < s.size → isL (gb s n) = false)) (h48 : gb s 0 = 48 → n = 1) (hv : 2147483647 < dgv (s.extract 0 n) (s.extract 0 n).size) (ev : Value) (hev : ev = .nilIface ∨ ∃ te pe, ev = .iface te pe) (w : World) (hc : w.cell? ⟨4, 0, none⟩ = some ev) :
    Calls Tryz.prog 65 #[.string s] w fun e w' => e = .returned (.tuple #[.agg #[.int .i64 0, .int .i64 0, .int .i64 0, .string ⟨#[]⟩, .bool false, .int .i64 0, .int .u64 0, .int .u64 0, .bool false], .int .i64 0, .int .i64 3]) ∧ Below w.heap.size w w' := by
  have hn0 : (0 : Int) ≤ (n : Int) := by omega
  have hn1 : (n : Int) ≤ (s.size : Int) := by omega
  have hs0 : 0 < s.size := by omega
  have hs0i : (0 : Int) < (s.size : Int) := by omega
  have hsz : (s.extract 0 n).size ≤ 1000000 := by simp; omega
  have hs1' : 1 ≤ (s.extract 0 n).size := by simp; omega
  have HD := Lib.hid (digs s n hns hn.out)
  go_enter Tryz.func65, Tryz.ntmps65
  go_upto_region 1 with fail
  obtain ⟨W1, hW1⟩ : ∃ W, W = w.alloc (Obj.cells #[Value.int IntKind.i64 0, Value.int IntKind.i64 0, Value.int IntKind.i64 0, Value.string { data := #[] }, Value.bool false, Value.int IntKind.i64 0, Value.int IntKind.u64 0, Value.int IntKind.u64 0, Value.bool false] 42) := ⟨_, rfl⟩
  have b0 : Below w.heap.size w W1 := by rw [hW1]; exact (Below.refl _ _).alloc (Nat.le_refl _) _
  have T0 : TB W1 w.heap.size 0 0 0 ⟨#[]⟩ false 0 0 0 false := by rw [hW1]; exact TB.new w 0 0 0 ⟨#[]⟩ false 0 0 0 false
  rw [← hW1]
  clear hW1
  have hlt := T0.lt
  go_wp2_with fail
  refine (span_D s hs _).mono ?_
  rintro e w1 ⟨rfl, rfl⟩
  rw [hn.out]
  obtain ⟨u0, u1, u2, u3, u4, u5, u6, u7, u8, uf⟩ := id T0
  go_wp2_with fail
  refine (Tryz.strings_HasPrefix _ _ _).mono ?_
  rintro e w1 ⟨rfl, rfl⟩
  rw [hq.out]
  by_cases h0 : gb s 0 = 48
  · have hat : s[0].toNat = 48 := (gb_at s 0 hs0).trans h0
    have h2i : ¬ ((1 : Int) < (n : Int)) := by have := h48 h0; omega
    clear h48 h0
    go_upto_region 9 with fail
    obtain ⟨r, hr⟩ : ∃ r, s.extract n s.size = r := ⟨_, rfl⟩
    rw [hr]
    by_cases hlt1 : n < s.size
    · have hr0 : 0 < r.size := by rw [← hr]; simp; omega
      have hg : r[0].toNat = gb s n := by
        have h := gb_at r 0 hr0
        rw [h]
        unfold gb
        rw [← hr, extract_get_k s n s.size 0 (by omega) (Nat.le_refl _)]
        rfl
      have hr1 : (0 : Int) < (r.size : Int) := by omega
      have hne := toL_ne hr0
      have hb255 := gb_le s n
      have HL := Lib.hid (hl.out hlt1)
      generalize gb s n = c at hg HL hb255
      clear hr hl
      go_wp2_with fail
      refine (isL_p _ hb255 _).mono ?_
      rintro e w1 ⟨rfl, rfl⟩
      rw [HL.out]
      go_wp2_with fail
      refine (parse31_big (s.extract 0 n) hsz hs1' HD hv ev _ ((b0.cell (p := ⟨4, 0, none⟩) (World.block_lt_of_cell? w _ hc)).trans hc) hev).mono ?_
      rintro e w2 ⟨N, rfl, hb2⟩
      have T2 := T0.below hb2
      have bb := b0.trans (hb2.mono (Nat.le_of_lt hlt))
      clear u0 u1 u2 u3 u4 u5 u6 u7 u8 uf
      obtain ⟨u0, u1, u2, u3, u4, u5, u6, u7, u8, uf⟩ := id T2
      go_wp2_with fail
      obtain ⟨q0, q1, q2, q3, q4, q5, q6, q7, q8, -⟩ := T2.set 0 0 0 ⟨#[]⟩ false 0 0 0 false
      unfold setTk at q0 q1 q2 q3 q4 q5 q6 q7 q8
      exact bodyPost_ret (v := .tuple #[.agg #[.int .i64 0, .int .i64 0, .int .i64 0, .string ⟨#[]⟩, .bool false, .int .i64 0, .int .u64 0, .int .u64 0, .bool false], .int .i64 0, .int .i64 3]) (by simp [results, Tryz.results65, go_sem, q0, q1, q2, q3, q4, q5, q6, q7, q8]) rfl ⟨rfl, below_setTk bb (Nat.le_refl _) _ _ _ _ _ _ _ _ _⟩
    · have hr0 : r = ⟨#[]⟩ := by
        have : r.size = 0 := by rw [← hr]; simp; omega
        cases r with
        | mk d => cases d with
          | mk l => cases l with
            | nil => rfl
            | cons c l => exact absurd this (by show (c :: l).length ≠ 0; simp)
      subst hr0
      clear hr hl
      go_wp2_with fail
      refine (parse31_big (s.extract 0 n) hsz hs1' HD hv ev _ ((b0.cell (p := ⟨4, 0, none⟩) (World.block_lt_of_cell? w _ hc)).trans hc) hev).mono ?_
      rintro e w2 ⟨N, rfl, hb2⟩
      have T2 := T0.below hb2
      have bb := b0.trans (hb2.mono (Nat.le_of_lt hlt))
      clear u0 u1 u2 u3 u4 u5 u6 u7 u8 uf
      obtain ⟨u0, u1, u2, u3, u4, u5, u6, u7, u8, uf⟩ := id T2
      go_wp2_with fail
      obtain ⟨q0, q1, q2, q3, q4, q5, q6, q7, q8, -⟩ := T2.set 0 0 0 ⟨#[]⟩ false 0 0 0 false
      unfold setTk at q0 q1 q2 q3 q4 q5 q6 q7 q8
      exact bodyPost_ret (v := .tuple #[.agg #[.int .i64 0, .int .i64 0, .int .i64 0, .string ⟨#[]⟩, .bool false, .int .i64 0, .int .u64 0, .int .u64 0, .bool false], .int .i64 0, .int .i64 3]) (by simp [results, Tryz.results65, go_sem, q0, q1, q2, q3, q4, q5, q6, q7, q8]) rfl ⟨rfl, below_setTk bb (Nat.le_refl _) _ _ _ _ _ _ _ _ _⟩
  · have hat : s[0].toNat = gb s 0 := gb_at s 0 hs0
    have h0i : ((gb s 0 : Int) == 48) = false := beq_eq_false_iff_ne.2 (by omega)
    clear h48 h0
    generalize gb s 0 = c0 at hat h0i
    go_upto_region 9 with fail
    obtain ⟨r, hr⟩ : ∃ r, s.extract n s.size = r := ⟨_, rfl⟩
    rw [hr]
    by_cases hlt1 : n < s.size
    · have hr0 : 0 < r.size := by rw [← hr]; simp; omega
      have hg : r[0].toNat = gb s n := by
        have h := gb_at r 0 hr0
        rw [h]
        unfold gb
        rw [← hr, extract_get_k s n s.size 0 (by omega) (Nat.le_refl _)]
        rfl
      have hr1 : (0 : Int) < (r.size : Int) := by omega
      have hne := toL_ne hr0
      have hb255 := gb_le s n
      have HL := Lib.hid (hl.out hlt1)
      generalize gb s n = c at hg HL hb255
      clear hr hl
      go_wp2_with fail
      refine (isL_p _ hb255 _).mono ?_
      rintro e w1 ⟨rfl, rfl⟩
      rw [HL.out]
      go_wp2_with fail
      refine (parse31_big (s.extract 0 n) hsz hs1' HD hv ev _ ((b0.cell (p := ⟨4, 0, none⟩) (World.block_lt_of_cell? w _ hc)).trans hc) hev).mono ?_
      rintro e w2 ⟨N, rfl, hb2⟩
      have T2 := T0.below hb2
      have bb := b0.trans (hb2.mono (Nat.le_of_lt hlt))
      clear u0 u1 u2 u3 u4 u5 u6 u7 u8 uf
      obtain ⟨u0, u1, u2, u3, u4, u5, u6, u7, u8, uf⟩ := id T2
      go_wp2_with fail
      obtain ⟨q0, q1, q2, q3, q4, q5, q6, q7, q8, -⟩ := T2.set 0 0 0 ⟨#[]⟩ false 0 0 0 false
      unfold setTk at q0 q1 q2 q3 q4 q5 q6 q7 q8
      exact bodyPost_ret (v := .tuple #[.agg #[.int .i64 0, .int .i64 0, .int .i64 0, .string ⟨#[]⟩, .bool false, .int .i64 0, .int .u64 0, .int .u64 0, .bool false], .int .i64 0, .int .i64 3]) (by simp [results, Tryz.results65, go_sem, q0, q1, q2, q3, q4, q5, q6, q7, q8]) rfl ⟨rfl, below_setTk bb (Nat.le_refl _) _ _ _ _ _ _ _ _ _⟩
    · have hr0 : r = ⟨#[]⟩ := by
        have : r.size = 0 := by rw [← hr]; simp; omega
        cases r with
        | mk d => cases d with
          | mk l => cases l with
            | nil => rfl
            | cons c l => exact absurd this (by show (c :: l).length ≠ 0; simp)
      subst hr0
      clear hr hl
      go_wp2_with fail
      refine (parse31_big (s.extract 0 n) hsz hs1' HD hv ev _ ((b0.cell (p := ⟨4, 0, none⟩) (World.block_lt_of_cell? w _ hc)).trans hc) hev).mono ?_
      rintro e w2 ⟨N, rfl, hb2⟩
      have T2 := T0.below hb2
      have bb := b0.trans (hb2.mono (Nat.le_of_lt hlt))
      clear u0 u1 u2 u3 u4 u5 u6 u7 u8 uf
      obtain ⟨u0, u1, u2, u3, u4, u5, u6, u7, u8, uf⟩ := id T2
      go_wp2_with fail
      obtain ⟨q0, q1, q2, q3, q4, q5, q6, q7, q8, -⟩ := T2.set 0 0 0 ⟨#[]⟩ false 0 0 0 false
      unfold setTk at q0 q1 q2 q3 q4 q5 q6 q7 q8
      exact bodyPost_ret (v := .tuple #[.agg #[.int .i64 0, .int .i64 0, .int .i64 0, .string ⟨#[]⟩, .bool false, .int .i64 0, .int .u64 0, .int .u64 0, .bool false], .int .i64 0, .int .i64 3]) (by simp [results, Tryz.results65, go_sem, q0, q1, q2, q3, q4, q5, q6, q7, q8]) rfl ⟨rfl, below_setTk bb (Nat.le_refl _) _ _ _ _ _ _ _ _ _⟩
end Go.Proofs.YtogmipbdnffegaaGreatDoor
