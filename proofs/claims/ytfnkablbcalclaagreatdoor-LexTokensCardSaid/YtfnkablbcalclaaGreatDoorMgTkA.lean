/- The reference's token: a name or a word.
   A string: the reference's stringToken.
   The reference's token: long names, quoted names, strings and numbers. -/
import Derived.Test.YtfnkablbcalclaaGreatDoorMgRun
import Derived.Test.YtfnkablbcalclaaGreatDoorMgStr
import Derived.Test.YtfnkablbcalclaaGreatDoorMgRt
namespace Go.Proofs.YtfnkablbcalclaaGreatDoor
open Go Go.RowKit
set_option linter.unusedVariables false
theorem inW_32 : inW 32 = false := by decide
theorem name_plain (s : ByteArray) (n : Nat) (hn : span inW s = n) (hns : n ≤ s.size) : ∀ c ∈ (s.extract 0 n).data.toList, c ≠ 32 := by
  intro c hc e
  obtain ⟨i, hi, rfl⟩ := List.getElem_of_mem hc
  have hl := len_list (s.extract 0 n)
  have hs2 : (s.extract 0 n).size = n := by simp; omega
  have hi2 : i < n := by omega
  have h := span_yes (f := inW) (s := s) (q := i) (by omega) (by omega)
  have e2 : (s.extract 0 n).data.toList[i] = s[i] := by
    have : (s.extract 0 n).data.toList[i] = (s.extract 0 n)[i]'(by omega) := rfl
    rw [this, ByteArray.getElem_extract]
    simp
  rw [← e2, e] at h
  exact absurd h (by decide)
theorem key_concat (a : ByteArray) (h : ∀ c ∈ a.data.toList, c ≠ 32) : decide (0 ≤ Lib.index wordsT.data.toList (ByteArray.mk #[32] ++ a ++ ByteArray.mk #[32]).data.toList) = isKey a.data.toList := by
  have e : (ByteArray.mk #[32] ++ a ++ ByteArray.mk #[32]).data.toList = 32 :: (a.data.toList ++ [32]) := by
    simp [ByteArray.data_append]
  rw [e]
  exact has_key _ h
set_option maxRecDepth 100000 in
set_option maxHeartbeats 4000000 in
theorem token_name (s : ByteArray) (n : Nat) (hs : s.size ≤ 100000) (hs1 : 1 ≤ s.size) (HL : Hid (isL (gb s 0) = true)) (hn : Hid (span inW s = n)) (hns : n ≤ s.size) (h40 : n ≤ 40) (K : Bool) (HK : Hid (isKey (s.extract 0 n).data.toList = K)) (w : World) :
    Calls Tryz.prog 10 #[.string s] w fun e w' => e = .returned (.tuple #[.agg #[.int .i64 (if K then 2 else 1), .int .i64 0, .int .i64 0, .string (s.extract 0 n), .bool false, .int .i64 0, .int .u64 0, .int .u64 0, .bool false], .int .i64 n, .int .i64 0]) ∧ Below w.heap.size w w' := by
  have hn0 : (0 : Int) ≤ (n : Int) := by omega
  have hn1 : (n : Int) ≤ (s.size : Int) := by omega
  have hn40 : ¬ (40 : Int) < (n : Int) := by omega
  have hs0 : 0 < s.size := by omega
  have hb : s[0].toNat = gb s 0 := gb_at s 0 hs0
  have hg := gb_le s 0
  have hR := fun w1 => run_W s (by omega) w1
  rw [hn.out] at hR
  have hI := fun w1 => isL_r (gb s 0) hg w1
  rw [HL.out] at hI
  have hz : (s.extract 0 n).size = n := by simp; omega
  have z32 : (ByteArray.mk #[32]).size = 1 := rfl
  have zc : (ByteArray.mk #[32] ++ s.extract 0 n ++ ByteArray.mk #[32]).size = n + 2 := by rw [ByteArray.size_append, ByteArray.size_append, hz, z32]; omega
  have hC := fun w1 => contains_any wordsT (ByteArray.mk #[32] ++ s.extract 0 n ++ ByteArray.mk #[32]) (by show wordsT.data.size ≤ _; decide +kernel) (by omega) (by omega) w1
  rw [key_concat _ (name_plain s n hn.out hns), HK.out] at hC
  unfold wordsT at hC
  have HR := Lib.hid hR
  have HI := Lib.hid hI
  have HC := Lib.hid hC
  clear hR hI hC hn HK
  generalize gb s 0 = c0 at *
  go_enter Tryz.func10, Tryz.ntmps10
  go_upto_region 1 with fail
  obtain ⟨W1, hW1⟩ : ∃ W, W = w.alloc (Obj.cells #[Value.int IntKind.i64 0, Value.int IntKind.i64 0, Value.int IntKind.i64 0, Value.string { data := #[] }, Value.bool false, Value.int IntKind.i64 0, Value.int IntKind.u64 0, Value.int IntKind.u64 0, Value.bool false] 32) := ⟨_, rfl⟩
  have b0 : Below w.heap.size w W1 := by rw [hW1]; exact (Below.refl _ _).alloc (Nat.le_refl _) _
  have T0 : TB W1 w.heap.size 0 0 0 ⟨#[]⟩ false 0 0 0 false := by rw [hW1]; exact TB.new w 0 0 0 ⟨#[]⟩ false 0 0 0 false
  rw [← hW1]
  clear hW1
  have hlt := T0.lt
  go_upto_region 4 with (first | (go_at_call 15; refine (HR.out _).mono ?_; rintro e w1 ⟨rfl, rfl⟩) | (go_at_call 17; refine (HI.out _).mono ?_; rintro e w1 ⟨rfl, rfl⟩))
  obtain ⟨W2, hW2⟩ : ∃ W, W = W1.alloc (Obj.cells #[Value.int IntKind.i64 1, Value.int IntKind.i64 0, Value.int IntKind.i64 0, Value.string (s.extract 0 n), Value.bool false, Value.int IntKind.i64 0, Value.int IntKind.u64 0, Value.int IntKind.u64 0, Value.bool false] 32) := ⟨_, rfl⟩
  have b1 : Below W1.heap.size W1 W2 := by rw [hW2]; exact (Below.refl _ _).alloc (Nat.le_refl _) _
  have T6 : TB W2 W1.heap.size 1 0 0 (s.extract 0 n) false 0 0 0 false := by rw [hW2]; exact TB.new W1 1 0 0 (s.extract 0 n) false 0 0 0 false
  have T2 := T0.below b1
  rw [← hW2]
  clear hW2 T0
  have b2 : Below w.heap.size w W2 := b0.trans (b1.mono b0.size)
  obtain ⟨u0, u1, u2, u3, u4, u5, u6, u7, u8, uf⟩ := id T6
  obtain ⟨x0, x1, x2, x3, x4, x5, x6, x7, x8, xf⟩ := id T2
  have hne : W1.heap.size ≠ w.heap.size := by omega
  have z1 : ¬ 9223372036854775807 < 1 + n := by omega
  have z2 : ¬ 9223372036854775807 < 1 + n + 1 := by omega
  cases K
  · go_upto_region 6 with (go_at_call 18; refine (HC.out _).mono ?_; rintro e w1 ⟨rfl, rfl⟩)
    have T3 := T2
    have T7 := T6
    have b3 := b2
    clear x0 x1 x2 x3 x4 x5 x6 x7 x8 xf u0 u1 u2 u3 u4 u5 u6 u7 u8 uf
    obtain ⟨x0, x1, x2, x3, x4, x5, x6, x7, x8, xf⟩ := id T3
    obtain ⟨u0, u1, u2, u3, u4, u5, u6, u7, u8, uf⟩ := id T7
    go_wp2_with fail
    obtain ⟨q0, q1, q2, q3, q4, q5, q6, q7, q8, -⟩ := T3.set 1 0 0 (s.extract 0 n) false 0 0 0 false
    unfold setTk at q0 q1 q2 q3 q4 q5 q6 q7 q8
    exact bodyPost_ret (v := .tuple #[.agg #[.int .i64 1, .int .i64 0, .int .i64 0, .string (s.extract 0 n), .bool false, .int .i64 0, .int .u64 0, .int .u64 0, .bool false], .int .i64 n, .int .i64 0]) (by simp [results, Tryz.results10, go_sem, q0, q1, q2, q3, q4, q5, q6, q7, q8]) rfl ⟨rfl, below_setTk b3 (Nat.le_refl _) _ _ _ _ _ _ _ _ _⟩
  · go_upto_region 6 with (go_at_call 18; refine (HC.out _).mono ?_; rintro e w1 ⟨rfl, rfl⟩)
    obtain ⟨W3, hW3⟩ : ∃ W, W = W2.setCell ⟨W1.heap.size, 0, none⟩ (.int .i64 2) := ⟨_, rfl⟩
    have b3 : Below w.heap.size w W3 := by rw [hW3]; exact b2.setCell (p := ⟨W1.heap.size, 0, none⟩) (Nat.le_of_lt hlt) _
    have T7 : TB W3 W1.heap.size 2 0 0 (s.extract 0 n) false 0 0 0 false := by
      rw [hW3]
      exact ⟨cell_set_eq u0 (uf 0), (cell_set_ne (by decide)).trans u1, (cell_set_ne (by decide)).trans u2, (cell_set_ne (by decide)).trans u3, (cell_set_ne (by decide)).trans u4, (cell_set_ne (by decide)).trans u5, (cell_set_ne (by decide)).trans u6, (cell_set_ne (by decide)).trans u7, (cell_set_ne (by decide)).trans u8, fun o => frozen_set.trans (uf o)⟩
    have T3 : TB W3 w.heap.size 0 0 0 ⟨#[]⟩ false 0 0 0 false := by
      rw [hW3]
      exact ⟨(cell_set_at hne).trans x0, (cell_set_at hne).trans x1, (cell_set_at hne).trans x2, (cell_set_at hne).trans x3, (cell_set_at hne).trans x4, (cell_set_at hne).trans x5, (cell_set_at hne).trans x6, (cell_set_at hne).trans x7, (cell_set_at hne).trans x8, fun o => frozen_set_at.trans (xf o)⟩
    rw [← hW3]
    clear hW3 x0 x1 x2 x3 x4 x5 x6 x7 x8 xf u0 u1 u2 u3 u4 u5 u6 u7 u8 uf
    obtain ⟨x0, x1, x2, x3, x4, x5, x6, x7, x8, xf⟩ := id T3
    obtain ⟨u0, u1, u2, u3, u4, u5, u6, u7, u8, uf⟩ := id T7
    go_wp2_with fail
    obtain ⟨q0, q1, q2, q3, q4, q5, q6, q7, q8, -⟩ := T3.set 2 0 0 (s.extract 0 n) false 0 0 0 false
    unfold setTk at q0 q1 q2 q3 q4 q5 q6 q7 q8
    exact bodyPost_ret (v := .tuple #[.agg #[.int .i64 2, .int .i64 0, .int .i64 0, .string (s.extract 0 n), .bool false, .int .i64 0, .int .u64 0, .int .u64 0, .bool false], .int .i64 n, .int .i64 0]) (by simp [results, Tryz.results10, go_sem, q0, q1, q2, q3, q4, q5, q6, q7, q8]) rfl ⟨rfl, below_setTk b3 (Nat.le_refl _) _ _ _ _ _ _ _ _ _⟩
end Go.Proofs.YtfnkablbcalclaaGreatDoor
namespace Go.Proofs.YtfnkablbcalclaaGreatDoor
open Go Go.RowKit
set_option linter.unusedVariables false
def soR : So → Value
  | .ok n l => if 200 < l.length then .tuple #[.agg #[.int .i64 0, .int .i64 0, .int .i64 0, .string ⟨#[]⟩, .bool false, .int .i64 0, .int .u64 0, .int .u64 0, .bool false], .int .i64 0, .int .i64 3] else .tuple #[.agg #[.int .i64 4, .int .i64 0, .int .i64 0, .string ⟨l.toArray⟩, .bool false, .int .i64 0, .int .u64 0, .int .u64 0, .bool false], .int .i64 (n + 1 : Nat), .int .i64 0]
  | .er e => .tuple #[.agg #[.int .i64 0, .int .i64 0, .int .i64 0, .string ⟨#[]⟩, .bool false, .int .i64 0, .int .u64 0, .int .u64 0, .bool false], .int .i64 0, .int .i64 e]
set_option maxRecDepth 100000 in
set_option maxHeartbeats 3000000 in
theorem stringToken_any (s : ByteArray) (hs : s.size ≤ 1000000) (hs1 : 1 ≤ s.size) (o : So) (ho : Ss s 1 [] o) (v : Value) (HV : Hid (v = soR o)) (w : World) :
    Calls Tryz.prog 20 #[.string s] w fun e w' => e = .returned v ∧ Below w.heap.size w w' := by
  obtain ⟨i0, hi, hz0, hz1, hz2⟩ := infoB_parts
  have HO := Lib.hid ho
  clear ho
  go_enter Tryz.func20, Tryz.ntmps20
  go_upto_region 1 with fail
  obtain ⟨W1, hW1⟩ : ∃ W, W = w.alloc (Obj.cells #[Value.int IntKind.i64 0, Value.int IntKind.i64 0, Value.int IntKind.i64 0, Value.string { data := #[] }, Value.bool false, Value.int IntKind.i64 0, Value.int IntKind.u64 0, Value.int IntKind.u64 0, Value.bool false] 32) := ⟨_, rfl⟩
  have b0 : Below w.heap.size w W1 := by rw [hW1]; exact (Below.refl _ _).alloc (Nat.le_refl _) _
  have T0 : TB W1 w.heap.size 0 0 0 ⟨#[]⟩ false 0 0 0 false := by rw [hW1]; exact TB.new w 0 0 0 ⟨#[]⟩ false 0 0 0 false
  rw [← hW1]
  clear hW1
  have hlt := T0.lt
  go_wp2_with fail
  go_loopw [5, 6] (fun u i wr => ∃ (k : Nat) (l : List UInt8), k ≤ s.size ∧ i = .int .i64 (k : Int) ∧ Hid (OB W1.heap.size wr u l) ∧ l.length ≤ k ∧ Below W1.heap.size W1 wr ∧ Hid (Ss s k l o)) (fun _ i _ => s.size - (intOf i).toNat)
  case atStart => exact ⟨1, [], hs1, rfl, Lib.hid (World.ownsRow_nil _ _ _ _), Nat.zero_le _, Below.refl _ _, HO⟩
  case round =>
    obtain ⟨k, l, hk, rfl, hown, hll, hlo, hd⟩ := hrel
    clear HO
    rename World => WR
    have hk0 : (0 : Int) ≤ (k : Int) := by omega
    cases hd.out with
    | nd h =>
      obtain rfl : k = s.size := by omega
      clear hd
      have TR := T0.below hlo
      obtain ⟨u0, u1, u2, u3, u4, u5, u6, u7, u8, uf⟩ := id TR
      go_wp2_with fail
      obtain ⟨q0, q1, q2, q3, q4, q5, q6, q7, q8, -⟩ := TR.set 0 0 0 ⟨#[]⟩ false 0 0 0 false
      unfold setTk at q0 q1 q2 q3 q4 q5 q6 q7 q8
      exact bodyPost_ret (v := .tuple #[.agg #[.int .i64 0, .int .i64 0, .int .i64 0, .string ⟨#[]⟩, .bool false, .int .i64 0, .int .u64 0, .int .u64 0, .bool false], .int .i64 0, .int .i64 11]) (by simp [results, Tryz.results20, go_sem, q0, q1, q2, q3, q4, q5, q6, q7, q8]) rfl ⟨by rw [HV.out]; rfl, below_setTk (b0.trans (hlo.mono (Nat.le_of_lt hlt))) (Nat.le_refl _) _ _ _ _ _ _ _ _ _⟩
    | nl h c =>
      have hki : (k : Int) < (s.size : Int) := by omega
      have hat : s[k].toNat = 10 := (gb_at s k h).trans c
      clear hd
      have TR := T0.below hlo
      obtain ⟨u0, u1, u2, u3, u4, u5, u6, u7, u8, uf⟩ := id TR
      go_wp2_with fail
      obtain ⟨q0, q1, q2, q3, q4, q5, q6, q7, q8, -⟩ := TR.set 0 0 0 ⟨#[]⟩ false 0 0 0 false
      unfold setTk at q0 q1 q2 q3 q4 q5 q6 q7 q8
      exact bodyPost_ret (v := .tuple #[.agg #[.int .i64 0, .int .i64 0, .int .i64 0, .string ⟨#[]⟩, .bool false, .int .i64 0, .int .u64 0, .int .u64 0, .bool false], .int .i64 0, .int .i64 11]) (by simp [results, Tryz.results20, go_sem, q0, q1, q2, q3, q4, q5, q6, q7, q8]) rfl ⟨by rw [HV.out]; rfl, below_setTk (b0.trans (hlo.mono (Nat.le_of_lt hlt))) (Nat.le_refl _) _ _ _ _ _ _ _ _ _⟩
    | qt h c =>
      have hki : (k : Int) < (s.size : Int) := by omega
      have hat : s[k].toNat = 34 := (gb_at s k h).trans c
      clear hd
      obtain ⟨a, cap, rfl⟩ := hown.out.form
      have hcv : (convert 53 9 (.slice a l.length cap)).run Tryz.prog WR = .ok (.string ⟨l.toArray⟩) WR := hown.out.conv
      have hlm : l.length ≤ 1000000 := by omega
      clear hown
      have TR := T0.below hlo
      obtain ⟨u0, u1, u2, u3, u4, u5, u6, u7, u8, uf⟩ := id TR
      have hwk : IntKind.i64.wrap ((k : Int) + 1) = (k : Int) + 1 := by
        unfold IntKind.wrap
        simp [IntKind.bits, IntKind.signed]
        omega
      have bw := b0.trans (hlo.mono (Nat.le_of_lt hlt))
      by_cases h200 : 200 < l.length
      · have HV2 : Hid (v = .tuple #[.agg #[.int .i64 0, .int .i64 0, .int .i64 0, .string ⟨#[]⟩, .bool false, .int .i64 0, .int .u64 0, .int .u64 0, .bool false], .int .i64 0, .int .i64 3]) := Lib.hid (by rw [HV.out]; simp only [soR]; rw [if_pos h200])
        clear HV
        generalize l.length = L at *
        have h200' : (200 : Int) < (L : Int) := by omega
        go_wp2_with fail
        obtain ⟨q0, q1, q2, q3, q4, q5, q6, q7, q8, -⟩ := TR.set 0 0 0 ⟨#[]⟩ false 0 0 0 false
        unfold setTk at q0 q1 q2 q3 q4 q5 q6 q7 q8
        exact bodyPost_ret (v := .tuple #[.agg #[.int .i64 0, .int .i64 0, .int .i64 0, .string ⟨#[]⟩, .bool false, .int .i64 0, .int .u64 0, .int .u64 0, .bool false], .int .i64 0, .int .i64 3]) (by simp [results, Tryz.results20, go_sem, q0, q1, q2, q3, q4, q5, q6, q7, q8]) rfl ⟨by rw [HV2.out], below_setTk bw (Nat.le_refl _) _ _ _ _ _ _ _ _ _⟩
      · have HV2 : Hid (v = .tuple #[.agg #[.int .i64 4, .int .i64 0, .int .i64 0, .string ⟨l.toArray⟩, .bool false, .int .i64 0, .int .u64 0, .int .u64 0, .bool false], .int .i64 (k + 1 : Nat), .int .i64 0]) := Lib.hid (by rw [HV.out]; simp only [soR]; rw [if_neg h200])
        clear HV
        generalize (ByteArray.mk l.toArray) = TT at hcv HV2
        generalize l.length = L at *
        have h200' : ¬ (200 : Int) < (L : Int) := by omega
        go_wp2_with fail
        obtain ⟨q0, q1, q2, q3, q4, q5, q6, q7, q8, -⟩ := TR.set 4 0 0 TT false 0 0 0 false
        unfold setTk at q0 q1 q2 q3 q4 q5 q6 q7 q8
        exact bodyPost_ret (v := .tuple #[.agg #[.int .i64 4, .int .i64 0, .int .i64 0, .string TT, .bool false, .int .i64 0, .int .u64 0, .int .u64 0, .bool false], .int .i64 ((k : Int) + 1), .int .i64 0]) (by simp [results, Tryz.results20, go_sem, q0, q1, q2, q3, q4, q5, q6, q7, q8]) rfl ⟨by rw [HV2.out]; rfl, below_setTk bw (Nat.le_refl _) _ _ _ _ _ _ _ _ _⟩
    | be h c h1 =>
      have hki : (k : Int) < (s.size : Int) := by omega
      have hat : s[k].toNat = 92 := (gb_at s k h).trans c
      clear hd
      have h1i : (k : Int) + 1 = (s.size : Int) := by omega
      have TR := T0.below hlo
      obtain ⟨u0, u1, u2, u3, u4, u5, u6, u7, u8, uf⟩ := id TR
      go_wp2_with fail
      obtain ⟨q0, q1, q2, q3, q4, q5, q6, q7, q8, -⟩ := TR.set 0 0 0 ⟨#[]⟩ false 0 0 0 false
      unfold setTk at q0 q1 q2 q3 q4 q5 q6 q7 q8
      exact bodyPost_ret (v := .tuple #[.agg #[.int .i64 0, .int .i64 0, .int .i64 0, .string ⟨#[]⟩, .bool false, .int .i64 0, .int .u64 0, .int .u64 0, .bool false], .int .i64 0, .int .i64 11]) (by simp [results, Tryz.results20, go_sem, q0, q1, q2, q3, q4, q5, q6, q7, q8]) rfl ⟨by rw [HV.out]; rfl, below_setTk (b0.trans (hlo.mono (Nat.le_of_lt hlt))) (Nat.le_refl _) _ _ _ _ _ _ _ _ _⟩
    | bx h c h1 d e =>
      have hki : (k : Int) < (s.size : Int) := by omega
      have hat : s[k].toNat = 92 := (gb_at s k h).trans c
      clear hd
      have hk1 : (k : Int) + 1 < (s.size : Int) := by omega
      have hk2 : ((k : Int) + 1 == (s.size : Int)) = false := beq_eq_false_iff_ne.2 (by omega)
      have hk3 : (0 : Int) ≤ (k : Int) + 1 := by omega
      have hat1 : s[k + 1].toNat = gb s (k + 1) := gb_at s (k + 1) h1
      have hg := gb_le s (k + 1)
      generalize gb s (k + 1) = c1 at hat1 d e hg
      have k34 : ((c1 : Int) == 34) = false := beq_eq_false_iff_ne.2 (by omega)
      have k92 : ((c1 : Int) == 92) = false := beq_eq_false_iff_ne.2 (by omega)
      have n34 : ((c1 : Int) != 34) = true := by rw [bne, k34]; rfl
      have n92 : ((c1 : Int) != 92) = true := by rw [bne, k92]; rfl
      have TR := T0.below hlo
      obtain ⟨u0, u1, u2, u3, u4, u5, u6, u7, u8, uf⟩ := id TR
      go_wp2_with fail
      obtain ⟨q0, q1, q2, q3, q4, q5, q6, q7, q8, -⟩ := TR.set 0 0 0 ⟨#[]⟩ false 0 0 0 false
      unfold setTk at q0 q1 q2 q3 q4 q5 q6 q7 q8
      exact bodyPost_ret (v := .tuple #[.agg #[.int .i64 0, .int .i64 0, .int .i64 0, .string ⟨#[]⟩, .bool false, .int .i64 0, .int .u64 0, .int .u64 0, .bool false], .int .i64 0, .int .i64 10]) (by simp [results, Tryz.results20, go_sem, q0, q1, q2, q3, q4, q5, q6, q7, q8]) rfl ⟨by rw [HV.out]; rfl, below_setTk (b0.trans (hlo.mono (Nat.le_of_lt hlt))) (Nat.le_refl _) _ _ _ _ _ _ _ _ _⟩
    | bo h c h1 d r =>
      have hki : (k : Int) < (s.size : Int) := by omega
      have hat : s[k].toNat = 92 := (gb_at s k h).trans c
      clear hd
      have hk1 : (k : Int) + 1 < (s.size : Int) := by omega
      have hk2 : ((k : Int) + 1 == (s.size : Int)) = false := beq_eq_false_iff_ne.2 (by omega)
      have hk3 : (0 : Int) ≤ (k : Int) + 1 := by omega
      have hat1 : s[k + 1].toNat = gb s (k + 1) := gb_at s (k + 1) h1
      rcases d with d | d
      · rw [d] at hat1
        have hcc := d
        have HCC : Hid (Lib.byteCells (l ++ [s.data[k + 1]!]) = Lib.byteCells l ++ [Value.int .u8 (34 : Int)] ∧ (l ++ [s.data[k + 1]!]).length = l.length + 1) := Lib.hid (by
          unfold gb at hcc
          constructor
          · unfold Lib.byteCells
            simp [hcc]
          · simp)
        have HR := Lib.hid r
        clear r
        generalize l ++ [s.data[k + 1]!] = l2 at HCC HR
        clear hcc
        go_upto_region 17 with fail
        go_wp2_with (at_builtin; refine wpList_append_own _ rfl _ _ 53 rfl W1.heap.size 5 i0 (.int .u8 0) 1 1 Tryz.underlying53 hi hz0 hz1 hz2 rfl (by decide) _ _ _ rfl (World.ownsRow.alloc (show WR.ownsRow W1.heap.size 5 1 _ l.length (Lib.byteCells l) from hown.out) _) ⟨WR.heap.size, 0, none⟩ 1 1 [.int .u8 (34 : Int)] rfl rfl ?d1 ?d2 ?d3 ?d4 ?d5 ?_)
        try case d1 =>
          intro q u hq
          match q, hq with
          | 0, hq => simp at hq; subst hq; simp [Addr.add]
        case d2 => first | (intro u hu; simp at hu; subst hu; rfl) | rfl
        case d3 => unfold maxLen; omega
        case d4 => omega
        case d5 => have := hlo.size; simp; omega
        intro v5 w5 hown5 hgr5 _
        have hown6 : OB W1.heap.size w5 v5 l2 := by
          unfold OB
          rw [HCC.out.1, HCC.out.2]
          exact hown5
        have hlo6 : Below W1.heap.size W1 w5 := (hlo.alloc hlo.size _).grown hgr5 (by have := hlo.size; simp; omega) (fun q hq => ((show WR.ownsRow W1.heap.size 5 1 _ l.length (Lib.byteCells l) from hown.out).lt q hq).1)
        have hl2 : l2.length ≤ k + 2 := by rw [HCC.out.2]; omega
        clear hown5 hgr5 hown
        go_wp2_with fail
        go_roundw
        case rel => exact ⟨k + 2, l2, by omega, by go_num, Lib.hid hown6, hl2, hlo6, HR⟩
        case measure => simp [intOf] <;> omega
      · rw [d] at hat1
        have hcc := d
        have HCC : Hid (Lib.byteCells (l ++ [s.data[k + 1]!]) = Lib.byteCells l ++ [Value.int .u8 (92 : Int)] ∧ (l ++ [s.data[k + 1]!]).length = l.length + 1) := Lib.hid (by
          unfold gb at hcc
          constructor
          · unfold Lib.byteCells
            simp [hcc]
          · simp)
        have HR := Lib.hid r
        clear r
        generalize l ++ [s.data[k + 1]!] = l2 at HCC HR
        clear hcc
        go_upto_region 17 with fail
        go_wp2_with (at_builtin; refine wpList_append_own _ rfl _ _ 53 rfl W1.heap.size 5 i0 (.int .u8 0) 1 1 Tryz.underlying53 hi hz0 hz1 hz2 rfl (by decide) _ _ _ rfl (World.ownsRow.alloc (show WR.ownsRow W1.heap.size 5 1 _ l.length (Lib.byteCells l) from hown.out) _) ⟨WR.heap.size, 0, none⟩ 1 1 [.int .u8 (92 : Int)] rfl rfl ?d1 ?d2 ?d3 ?d4 ?d5 ?_)
        try case d1 =>
          intro q u hq
          match q, hq with
          | 0, hq => simp at hq; subst hq; simp [Addr.add]
        case d2 => first | (intro u hu; simp at hu; subst hu; rfl) | rfl
        case d3 => unfold maxLen; omega
        case d4 => omega
        case d5 => have := hlo.size; simp; omega
        intro v5 w5 hown5 hgr5 _
        have hown6 : OB W1.heap.size w5 v5 l2 := by
          unfold OB
          rw [HCC.out.1, HCC.out.2]
          exact hown5
        have hlo6 : Below W1.heap.size W1 w5 := (hlo.alloc hlo.size _).grown hgr5 (by have := hlo.size; simp; omega) (fun q hq => ((show WR.ownsRow W1.heap.size 5 1 _ l.length (Lib.byteCells l) from hown.out).lt q hq).1)
        have hl2 : l2.length ≤ k + 2 := by rw [HCC.out.2]; omega
        clear hown5 hgr5 hown
        go_wp2_with fail
        go_roundw
        case rel => exact ⟨k + 2, l2, by omega, by go_num, Lib.hid hown6, hl2, hlo6, HR⟩
        case measure => simp [intOf] <;> omega
    | il h c d e f =>
      have hki : (k : Int) < (s.size : Int) := by omega
      have hat : s[k].toNat = gb s k := (gb_at s k h).trans rfl
      clear hd
      have hg := gb_le s k
      generalize gb s k = c1 at hat c d e f hg
      have k10 : ((c1 : Int) == 10) = false := beq_eq_false_iff_ne.2 (by omega)
      have k34 : ((c1 : Int) == 34) = false := beq_eq_false_iff_ne.2 (by omega)
      have k92 : ((c1 : Int) == 92) = false := beq_eq_false_iff_ne.2 (by omega)
      have n34 : ((c1 : Int) != 34) = true := by rw [bne, k34]; rfl
      have n92 : ((c1 : Int) != 92) = true := by rw [bne, k92]; rfl
      rcases f with f | f
      · have f1 : (c1 : Int) < 32 := by omega
        have TR := T0.below hlo
        obtain ⟨u0, u1, u2, u3, u4, u5, u6, u7, u8, uf⟩ := id TR
        go_wp2_with fail
        obtain ⟨q0, q1, q2, q3, q4, q5, q6, q7, q8, -⟩ := TR.set 0 0 0 ⟨#[]⟩ false 0 0 0 false
        unfold setTk at q0 q1 q2 q3 q4 q5 q6 q7 q8
        exact bodyPost_ret (v := .tuple #[.agg #[.int .i64 0, .int .i64 0, .int .i64 0, .string ⟨#[]⟩, .bool false, .int .i64 0, .int .u64 0, .int .u64 0, .bool false], .int .i64 0, .int .i64 10]) (by simp [results, Tryz.results20, go_sem, q0, q1, q2, q3, q4, q5, q6, q7, q8]) rfl ⟨by rw [HV.out]; rfl, below_setTk (b0.trans (hlo.mono (Nat.le_of_lt hlt))) (Nat.le_refl _) _ _ _ _ _ _ _ _ _⟩
      · have f0 : ¬ ((c1 : Int) < 32) := by omega
        have f1 : (126 : Int) < (c1 : Int) := by omega
        have TR := T0.below hlo
        obtain ⟨u0, u1, u2, u3, u4, u5, u6, u7, u8, uf⟩ := id TR
        go_wp2_with fail
        obtain ⟨q0, q1, q2, q3, q4, q5, q6, q7, q8, -⟩ := TR.set 0 0 0 ⟨#[]⟩ false 0 0 0 false
        unfold setTk at q0 q1 q2 q3 q4 q5 q6 q7 q8
        exact bodyPost_ret (v := .tuple #[.agg #[.int .i64 0, .int .i64 0, .int .i64 0, .string ⟨#[]⟩, .bool false, .int .i64 0, .int .u64 0, .int .u64 0, .bool false], .int .i64 0, .int .i64 10]) (by simp [results, Tryz.results20, go_sem, q0, q1, q2, q3, q4, q5, q6, q7, q8]) rfl ⟨by rw [HV.out]; rfl, below_setTk (b0.trans (hlo.mono (Nat.le_of_lt hlt))) (Nat.le_refl _) _ _ _ _ _ _ _ _ _⟩
    | go h d e f r =>
      have hki : (k : Int) < (s.size : Int) := by omega
      have hat : s[k].toNat = gb s k := (gb_at s k h).trans rfl
      clear hd
      have hg := gb_le s k
      obtain ⟨c1, hcc⟩ : ∃ c1, gb s k = c1 := ⟨_, rfl⟩
      rw [hcc] at hat d e f hg
      have k10 : ((c1 : Int) == 10) = false := beq_eq_false_iff_ne.2 (by omega)
      have k34 : ((c1 : Int) == 34) = false := beq_eq_false_iff_ne.2 (by omega)
      have k92 : ((c1 : Int) == 92) = false := beq_eq_false_iff_ne.2 (by omega)
      have f0 : ¬ ((c1 : Int) < 32) := by omega
      have f1 : ¬ ((126 : Int) < (c1 : Int)) := by omega
      have HCC : Hid (Lib.byteCells (l ++ [s.data[k]!]) = Lib.byteCells l ++ [Value.int .u8 (c1 : Int)] ∧ (l ++ [s.data[k]!]).length = l.length + 1) := Lib.hid (by
        unfold gb at hcc
        constructor
        · unfold Lib.byteCells
          simp [hcc]
        · simp)
      have HR := Lib.hid r
      clear r
      generalize l ++ [s.data[k]!] = l2 at HCC HR
      clear hcc
      go_upto_region 6 with fail
      go_wp2_with (at_builtin; refine wpList_append_own _ rfl _ _ 53 rfl W1.heap.size 5 i0 (.int .u8 0) 1 1 Tryz.underlying53 hi hz0 hz1 hz2 rfl (by decide) _ _ _ rfl (World.ownsRow.alloc (show WR.ownsRow W1.heap.size 5 1 _ l.length (Lib.byteCells l) from hown.out) _) ⟨WR.heap.size, 0, none⟩ 1 1 [.int .u8 (c1 : Int)] rfl rfl ?d1 ?d2 ?d3 ?d4 ?d5 ?_)
      try case d1 =>
        intro q u hq
        match q, hq with
        | 0, hq => simp at hq; subst hq; simp [Addr.add]
      case d2 => first | (intro u hu; simp at hu; subst hu; rfl) | rfl
      case d3 => unfold maxLen; omega
      case d4 => omega
      case d5 => have := hlo.size; simp; omega
      intro v5 w5 hown5 hgr5 _
      have hown6 : OB W1.heap.size w5 v5 l2 := by
        unfold OB
        rw [HCC.out.1, HCC.out.2]
        exact hown5
      have hlo6 : Below W1.heap.size W1 w5 := (hlo.alloc hlo.size _).grown hgr5 (by have := hlo.size; simp; omega) (fun q hq => ((show WR.ownsRow W1.heap.size 5 1 _ l.length (Lib.byteCells l) from hown.out).lt q hq).1)
      have hl2 : l2.length ≤ k + 1 := by rw [HCC.out.2]; omega
      clear hown5 hgr5 hown
      go_wp2_with fail
      go_roundw
      case rel => exact ⟨k + 1, l2, by omega, by go_num, Lib.hid hown6, hl2, hlo6, HR⟩
      case measure => simp [intOf] <;> omega
end Go.Proofs.YtfnkablbcalclaaGreatDoor
namespace Go.Proofs.YtfnkablbcalclaaGreatDoor
open Go Go.RowKit
set_option linter.unusedVariables false
set_option maxRecDepth 100000 in
set_option maxHeartbeats 4000000 in
theorem token_long (s : ByteArray) (n : Nat) (hs : s.size ≤ 100000) (hs1 : 1 ≤ s.size) (HL : Hid (isL (gb s 0) = true)) (hn : Hid (span inW s = n)) (hns : n ≤ s.size) (h40 : 40 < n) (w : World) :
    Calls Tryz.prog 10 #[.string s] w fun e w' => e = .returned (.tuple #[.agg #[.int .i64 0, .int .i64 0, .int .i64 0, .string ⟨#[]⟩, .bool false, .int .i64 0, .int .u64 0, .int .u64 0, .bool false], .int .i64 0, .int .i64 3]) ∧ Below w.heap.size w w' := by
  have hs0 : 0 < s.size := by omega
  have hs1i : (1 : Int) ≤ (s.size : Int) := by omega
  have hb : s[0].toNat = gb s 0 := gb_at s 0 hs0
  have hg := gb_le s 0
  obtain ⟨NW, hNW⟩ : ∃ NW, span inW s = NW := ⟨_, rfl⟩
  have hNs : NW ≤ s.size := by rw [← hNW]; exact span_le _ _
  have hR := fun w1 => run_W s (by omega) w1
  rw [hNW] at hR
  have hI := fun w1 => isL_r (gb s 0) hg w1
  rw [HL.out] at hI
  rw [hn.out] at hNW
  subst hNW
  have hn0 : (0 : Int) ≤ (n : Int) := by omega
  have hn1 : (n : Int) ≤ (s.size : Int) := by omega
  have hn40 : (40 : Int) < (n : Int) := by omega
  have hz : (s.extract 0 n).size = n := by simp; omega
  have z32 : (ByteArray.mk #[32]).size = 1 := rfl
  have zc : (ByteArray.mk #[32] ++ s.extract 0 n ++ ByteArray.mk #[32]).size = n + 2 := by rw [ByteArray.size_append, ByteArray.size_append, hz, z32]; omega
  have hC := fun w1 => contains_any wordsT (ByteArray.mk #[32] ++ s.extract 0 n ++ ByteArray.mk #[32]) (by show wordsT.data.size ≤ _; decide +kernel) (by omega) (by omega) w1
  generalize decide (0 ≤ Lib.index wordsT.data.toList (ByteArray.mk #[32] ++ s.extract 0 n ++ ByteArray.mk #[32]).data.toList) = K at hC
  unfold wordsT at hC
  have HC := Lib.hid hC
  clear hC hn
  have HR := Lib.hid hR
  have HI := Lib.hid hI
  clear hR hI HL
  go_enter Tryz.func10, Tryz.ntmps10
  go_upto_region 1 with fail
  obtain ⟨W1, hW1⟩ : ∃ W, W = w.alloc (Obj.cells #[Value.int IntKind.i64 0, Value.int IntKind.i64 0, Value.int IntKind.i64 0, Value.string { data := #[] }, Value.bool false, Value.int IntKind.i64 0, Value.int IntKind.u64 0, Value.int IntKind.u64 0, Value.bool false] 32) := ⟨_, rfl⟩
  have b0 : Below w.heap.size w W1 := by rw [hW1]; exact (Below.refl _ _).alloc (Nat.le_refl _) _
  have T0 : TB W1 w.heap.size 0 0 0 ⟨#[]⟩ false 0 0 0 false := by rw [hW1]; exact TB.new w 0 0 0 ⟨#[]⟩ false 0 0 0 false
  rw [← hW1]
  clear hW1
  have hlt := T0.lt
  go_upto_region 4 with (first | (go_at_call 15; refine (HR.out _).mono ?_; rintro e w1 ⟨rfl, rfl⟩) | (go_at_call 17; refine (HI.out _).mono ?_; rintro e w1 ⟨rfl, rfl⟩))
  obtain ⟨W2, hW2⟩ : ∃ W, W = W1.alloc (Obj.cells #[Value.int IntKind.i64 1, Value.int IntKind.i64 0, Value.int IntKind.i64 0, Value.string (s.extract 0 n), Value.bool false, Value.int IntKind.i64 0, Value.int IntKind.u64 0, Value.int IntKind.u64 0, Value.bool false] 32) := ⟨_, rfl⟩
  have b1 : Below W1.heap.size W1 W2 := by rw [hW2]; exact (Below.refl _ _).alloc (Nat.le_refl _) _
  have T6 : TB W2 W1.heap.size 1 0 0 (s.extract 0 n) false 0 0 0 false := by rw [hW2]; exact TB.new W1 1 0 0 (s.extract 0 n) false 0 0 0 false
  have T2 := T0.below b1
  rw [← hW2]
  clear hW2 T0
  have b2 : Below w.heap.size w W2 := b0.trans (b1.mono b0.size)
  obtain ⟨u0, u1, u2, u3, u4, u5, u6, u7, u8, uf⟩ := id T6
  obtain ⟨x0, x1, x2, x3, x4, x5, x6, x7, x8, xf⟩ := id T2
  have hne : W1.heap.size ≠ w.heap.size := by omega
  have z1 : ¬ 9223372036854775807 < 1 + n := by omega
  have z2 : ¬ 9223372036854775807 < 1 + n + 1 := by omega
  cases K
  · go_upto_region 6 with (go_at_call 18; refine (HC.out _).mono ?_; rintro e w1 ⟨rfl, rfl⟩)
    go_wp2_with fail
    obtain ⟨q0, q1, q2, q3, q4, q5, q6, q7, q8, -⟩ := T2.set 0 0 0 ⟨#[]⟩ false 0 0 0 false
    unfold setTk at q0 q1 q2 q3 q4 q5 q6 q7 q8
    exact bodyPost_ret (v := .tuple #[.agg #[.int .i64 0, .int .i64 0, .int .i64 0, .string ⟨#[]⟩, .bool false, .int .i64 0, .int .u64 0, .int .u64 0, .bool false], .int .i64 0, .int .i64 3]) (by simp [results, Tryz.results10, go_sem, q0, q1, q2, q3, q4, q5, q6, q7, q8]) rfl ⟨rfl, below_setTk b2 (Nat.le_refl _) _ _ _ _ _ _ _ _ _⟩
  · go_upto_region 6 with (go_at_call 18; refine (HC.out _).mono ?_; rintro e w1 ⟨rfl, rfl⟩)
    obtain ⟨W3, hW3⟩ : ∃ W, W = W2.setCell ⟨W1.heap.size, 0, none⟩ (.int .i64 2) := ⟨_, rfl⟩
    have b3 : Below w.heap.size w W3 := by rw [hW3]; exact b2.setCell (p := ⟨W1.heap.size, 0, none⟩) (Nat.le_of_lt hlt) _
    have T3 : TB W3 w.heap.size 0 0 0 ⟨#[]⟩ false 0 0 0 false := by
      rw [hW3]
      exact ⟨(cell_set_at hne).trans x0, (cell_set_at hne).trans x1, (cell_set_at hne).trans x2, (cell_set_at hne).trans x3, (cell_set_at hne).trans x4, (cell_set_at hne).trans x5, (cell_set_at hne).trans x6, (cell_set_at hne).trans x7, (cell_set_at hne).trans x8, fun o => frozen_set_at.trans (xf o)⟩
    rw [← hW3]
    clear hW3 x0 x1 x2 x3 x4 x5 x6 x7 x8 xf u0 u1 u2 u3 u4 u5 u6 u7 u8 uf
    obtain ⟨x0, x1, x2, x3, x4, x5, x6, x7, x8, xf⟩ := id T3
    go_wp2_with fail
    obtain ⟨q0, q1, q2, q3, q4, q5, q6, q7, q8, -⟩ := T3.set 0 0 0 ⟨#[]⟩ false 0 0 0 false
    unfold setTk at q0 q1 q2 q3 q4 q5 q6 q7 q8
    exact bodyPost_ret (v := .tuple #[.agg #[.int .i64 0, .int .i64 0, .int .i64 0, .string ⟨#[]⟩, .bool false, .int .i64 0, .int .u64 0, .int .u64 0, .bool false], .int .i64 0, .int .i64 3]) (by simp [results, Tryz.results10, go_sem, q0, q1, q2, q3, q4, q5, q6, q7, q8]) rfl ⟨rfl, below_setTk b3 (Nat.le_refl _) _ _ _ _ _ _ _ _ _⟩
end Go.Proofs.YtfnkablbcalclaaGreatDoor
