/- The reference's numberToken: a number without a quotation mark. -/
import Derived.Test.YtfnkablbcalclaaGreatDoorMgTkA
import Derived.Test.YtfnkablbcalclaaGreatDoorMgRefs
import Derived.Test.YtfnkablbcalclaaGreatDoorMgStr
import Derived.Deep.RegionLaw
namespace Go.Proofs.YtfnkablbcalclaaGreatDoor
open Go Go.RowKit
set_option linter.unusedVariables false
set_option maxRecDepth 100000 in
set_option maxHeartbeats 4000000 in
theorem numTok_ok_in_one (s : ByteArray) (n : Nat) (hs : s.size ≤ 100000) (hns : n ≤ s.size) (h1 : 1 ≤ n) (hs00 : 0 < s.size) (hn : Hid (span isD s = n)) (hl : n < s.size) (h39 : s[n].toNat ≠ 39) (ho : n = 1) (W : Nat) (hw : Hid (span inW s = W)) (hW : W ≤ n) (V : Nat) (hV : Hid (dgv s n = V)) (hVm : V ≤ 2147483647) (w : World) :
    Calls Tryz.prog 21 #[.string s] w fun e w' => e = .returned (.tuple #[.agg #[.int .i64 3, .int .i64 0, .int .i64 0, .string ⟨#[]⟩, .bool false, .int .i64 32, .int .u64 V, .int .u64 0, .bool true], .int .i64 n, .int .i64 0]) ∧ Below w.heap.size w w' := by
  obtain ⟨i0, hi, hz0, hz1, hz2⟩ := infoB_parts
  have hdig : ∀ k (h : k < s.size), k < n → 48 ≤ s[k].toNat ∧ s[k].toNat ≤ 57 := fun k h hk => by
    have h2 := span_yes (f := isD) (s := s) (q := k) h (by rw [hn.out]; exact hk)
    simp only [isD, Bool.and_eq_true, decide_eq_true_eq] at h2
    exact h2
  have HDG := Lib.hid hdig
  clear hdig
  have hn0 : (0 : Int) ≤ (n : Int) := by omega
  have hn1 : (n : Int) ≤ (s.size : Int) := by omega
  have hs0 : 0 < s.size := by omega
  have hs0i : (0 : Int) < (s.size : Int) := by omega
  have hD := fun w1 => run_D s (by omega) w1
  rw [hn.out] at hD
  have HD := Lib.hid hD
  clear hD hn
  have hlt1 : (n : Int) < (s.size : Int) := by omega
  have k39 : ((s[n].toNat : Int) == 39) = false := beq_eq_false_iff_ne.2 (by omega)
  have h2i : ¬ (1 : Int) < (n : Int) := by omega
  clear ho
  have hR := fun w1 => run_W s (by omega) w1
  rw [hw.out] at hR
  have HR := Lib.hid hR
  clear hR hw
  have hWi : ¬ (n : Int) < (W : Int) := by omega
  go_enter Tryz.func21, Tryz.ntmps21
  go_upto_region 1 with fail
  obtain ⟨W1, hW1⟩ : ∃ W, W = w.alloc (Obj.cells #[Value.int IntKind.i64 0, Value.int IntKind.i64 0, Value.int IntKind.i64 0, Value.string { data := #[] }, Value.bool false, Value.int IntKind.i64 0, Value.int IntKind.u64 0, Value.int IntKind.u64 0, Value.bool false] 32) := ⟨_, rfl⟩
  have b0 : Below w.heap.size w W1 := by rw [hW1]; exact (Below.refl _ _).alloc (Nat.le_refl _) _
  have T0 : TB W1 w.heap.size 0 0 0 ⟨#[]⟩ false 0 0 0 false := by rw [hW1]; exact TB.new w 0 0 0 ⟨#[]⟩ false 0 0 0 false
  rw [← hW1]
  clear hW1
  have hlt := T0.lt
  go_upto_region 2 with (go_at_call 15; refine (HD.out _).mono ?_; rintro e w1 ⟨rfl, rfl⟩)
  clear HD
  go_upto_region 8 with (go_at_call 15; refine (HR.out _).mono ?_; rintro e w1 ⟨rfl, rfl⟩)
  clear HR
  go_wp2_with fail
  go_loop [9, 10, 71] (fun v o u => ∃ k : Nat, k ≤ n ∧ v = .int .i64 (dgv s k : Nat) ∧ o = .bool true ∧ u = .int .i64 k ∧ dgv s k ≤ 2147483647) (fun _ _ u => n - (intOf u).toNat)
  case atStart => exact ⟨0, Nat.zero_le _, rfl, rfl, rfl, by show 0 ≤ _; omega⟩
  case round =>
    obtain ⟨k, hk, rfl, rfl, rfl, hvm⟩ := hrel
    have hk0 : (0 : Int) ≤ (k : Int) := by omega
    by_cases hkn : k < n
    · have hks : k < s.size := by omega
      have hksi : (k : Int) < (s.size : Int) := by omega
      have hkni : (k : Int) < (n : Int) := by omega
      obtain ⟨d1, d2⟩ := HDG.out k hks hkn
      have hsuc : dgv s (k + 1) = 10 * dgv s k + (s[k].toNat - 48) := by rw [gb_at s k hks]; rfl
      have hle : dgv s (k + 1) ≤ dgv s n := by
        have := dgv_mono s (k + 1) (n - (k + 1))
        rwa [show k + 1 + (n - (k + 1)) = n by omega] at this
      have hsub : IntKind.u8.wrap ((s[k].toNat : Int) - 48) = (s[k].toNat : Int) - 48 := by
        unfold IntKind.wrap; simp [IntKind.bits, IntKind.signed]; omega
      by_cases hbig : 2147483647 < dgv s (k + 1)
      · exfalso
        rw [hV.out] at hle
        omega
      · have HSU := Lib.hid hsuc
        have hnb : ¬ (2147483647 : Int) < 10 * ((dgv s k : Nat) : Int) + ((s[k].toNat : Int) - 48) := by omega
        have hsi : ((dgv s (k + 1) : Nat) : Int) = 10 * ((dgv s k : Nat) : Int) + ((s[k].toNat : Int) - 48) := by omega
        have HSI := Lib.hid hsi
        have hb2 : dgv s (k + 1) ≤ 2147483647 := by omega
        have HB2 := Lib.hid hb2
        clear hsuc hle hsi hbig hb2
        clear HSI HB2
        generalize dgv s k = D at *
        obtain ⟨E, hE⟩ : ∃ E, dgv s (k + 1) = E := ⟨_, rfl⟩
        have HE := Lib.hid hE
        rw [hE] at HSU
        have HSI : Hid ((E : Int) = 10 * (D : Int) + ((s[k].toNat : Int) - 48) ∧ E ≤ 2147483647) := Lib.hid (by have := HSU.out; omega)
        clear hE HSU
        go_wp2_with fail
        go_round
        case rel => exact ⟨k + 1, by omega, by rw [HE.out, HSI.out.1], rfl, by go_num, by rw [HE.out]; exact HSI.out.2⟩
        case measure => simp [intOf] <;> omega
    · obtain rfl : n = k := by omega
      rw [hV.out] at hvm ⊢
      have hVi : (0 : Int) ≤ (V : Int) := by omega
      go_wp2_with fail
      go_loopw [12, 88] (fun u i wr => ∃ k : Nat, k ≤ 32 ∧ i = .int .i64 (k : Int) ∧ Hid (OB W1.heap.size wr u (stL V k)) ∧ Below W1.heap.size W1 wr) (fun _ i _ => 32 - (intOf i).toNat)
      case atStart => exact ⟨0, by omega, rfl, Lib.hid (World.ownsRow_nil _ _ _ _), Below.refl _ _⟩
      case round =>
        obtain ⟨j, hj, rfl, hown, hlo⟩ := hrel
        rename World => WR
        have hj0 : (0 : Int) ≤ (j : Int) := by omega
        by_cases hj32 : j < 32
        · have hji : (j : Int) < 32 := by omega
          have hbt := bit_at V j hVm
          have HCC : Hid (Lib.byteCells (stL V (j + 1)) = Lib.byteCells (stL V j) ++ [Value.int .u8 ((48 + V / 2 ^ j % 2 : Nat) : Int)] ∧ (stL V (j + 1)).length = (stL V j).length + 1) := Lib.hid (by
            have h2 : V / 2 ^ j % 2 < 2 := Nat.mod_lt _ (by decide)
            rw [stL_succ]
            exact ⟨byteCells_snoc _ _ (by omega), by simp⟩)
          have hll := stL_len V j
          have HO := Lib.hid hown.out
          clear hown
          generalize ((48 + V / 2 ^ j % 2 : Nat) : Int) = bq at hbt HCC
          obtain ⟨l2, hl2⟩ : ∃ l2, stL V (j + 1) = l2 := ⟨_, rfl⟩
          have HL2 := Lib.hid hl2
          rw [hl2] at HCC
          clear hl2
          generalize stL V j = l1 at *
          go_upto_region 22 with fail
          go_wp2_with (rw [hbt]; at_builtin; refine wpList_append_own _ rfl _ _ 53 rfl W1.heap.size 5 i0 (.int .u8 0) 1 1 Tryz.underlying53 hi hz0 hz1 hz2 rfl (by decide) _ _ _ rfl (World.ownsRow.alloc (show WR.ownsRow W1.heap.size 5 1 _ l1.length (Lib.byteCells l1) from HO.out) _) ⟨WR.heap.size, 0, none⟩ 1 1 [.int .u8 bq] rfl rfl ?d1 ?d2 ?d3 ?d4 ?d5 ?_)
          try case d1 =>
            intro q u hq
            match q, hq with
            | 0, hq => simp at hq; subst hq; simp [Addr.add]
          case d2 => first | (intro u hu; simp at hu; subst hu; rfl) | rfl
          case d3 => unfold maxLen; omega
          case d4 => omega
          case d5 => have := hlo.size; simp; omega
          intro v5 w5 hown5 hgr5 _
          have hown6 : OB W1.heap.size w5 v5 l2 := by
            unfold OB
            rw [HCC.out.1, HCC.out.2, hll]
            exact hown5
          have hlo6 : Below W1.heap.size W1 w5 := (hlo.alloc hlo.size _).grown hgr5 (by have := hlo.size; simp; omega) (fun q hq => ((show WR.ownsRow W1.heap.size 5 1 _ l1.length (Lib.byteCells l1) from HO.out).lt q hq).1)
          clear hown5 hgr5 HO
          have HO6 := Lib.hid hown6
          clear hown6 HCC hbt
          go_wp2_with fail
          go_roundw
          case rel => exact ⟨j + 1, by omega, by go_num, by rw [HL2.out]; exact HO6, hlo6⟩
          case measure => simp [intOf] <;> omega
        · obtain rfl : j = 32 := by omega
          have HB := Lib.hid (fun (W9 : World) (hb : Below WR.heap.size WR W9) => numB V hVm _ W9 (OB.below hown.out hb))
          have TR := T0.below hlo
          have b2 : Below w.heap.size w WR := b0.trans (hlo.mono (Nat.le_of_lt hlt))
          clear hown
          go_wp2_with (go_at_call 41; refine (HB.out _ (Below.refl _ _)).mono ?_; rintro e w6 ⟨rfl, hb6⟩; replace TR := TR.below hb6; replace b2 := b2.trans (hb6.mono b2.size); obtain ⟨x0, x1, x2, x3, x4, x5, x6, x7, x8, xf⟩ := id TR)
          obtain ⟨q0, q1, q2, q3, q4, q5, q6, q7, q8, -⟩ := TR.set 3 0 0 ⟨#[]⟩ false 32 V 0 true
          unfold setTk at q0 q1 q2 q3 q4 q5 q6 q7 q8
          exact bodyPost_ret (v := .tuple #[.agg #[.int .i64 3, .int .i64 0, .int .i64 0, .string ⟨#[]⟩, .bool false, .int .i64 32, .int .u64 V, .int .u64 0, .bool true], .int .i64 n, .int .i64 0]) (by simp [results, Tryz.results21, go_sem, q0, q1, q2, q3, q4, q5, q6, q7, q8]) rfl ⟨rfl, below_setTk b2 (Nat.le_refl _) _ _ _ _ _ _ _ _ _⟩

set_option maxRecDepth 100000 in
set_option maxHeartbeats 4000000 in
theorem numTok_ok_in_many (s : ByteArray) (n : Nat) (hs : s.size ≤ 100000) (hns : n ≤ s.size) (h1 : 1 ≤ n) (hs00 : 0 < s.size) (hn : Hid (span isD s = n)) (hl : n < s.size) (h39 : s[n].toNat ≠ 39) (ho : 2 ≤ n) (h48 : s[0].toNat ≠ 48) (W : Nat) (hw : Hid (span inW s = W)) (hW : W ≤ n) (V : Nat) (hV : Hid (dgv s n = V)) (hVm : V ≤ 2147483647) (w : World) :
    Calls Tryz.prog 21 #[.string s] w fun e w' => e = .returned (.tuple #[.agg #[.int .i64 3, .int .i64 0, .int .i64 0, .string ⟨#[]⟩, .bool false, .int .i64 32, .int .u64 V, .int .u64 0, .bool true], .int .i64 n, .int .i64 0]) ∧ Below w.heap.size w w' := by
  obtain ⟨i0, hi, hz0, hz1, hz2⟩ := infoB_parts
  have hdig : ∀ k (h : k < s.size), k < n → 48 ≤ s[k].toNat ∧ s[k].toNat ≤ 57 := fun k h hk => by
    have h2 := span_yes (f := isD) (s := s) (q := k) h (by rw [hn.out]; exact hk)
    simp only [isD, Bool.and_eq_true, decide_eq_true_eq] at h2
    exact h2
  have HDG := Lib.hid hdig
  clear hdig
  have hn0 : (0 : Int) ≤ (n : Int) := by omega
  have hn1 : (n : Int) ≤ (s.size : Int) := by omega
  have hs0 : 0 < s.size := by omega
  have hs0i : (0 : Int) < (s.size : Int) := by omega
  have hD := fun w1 => run_D s (by omega) w1
  rw [hn.out] at hD
  have HD := Lib.hid hD
  clear hD hn
  have hlt1 : (n : Int) < (s.size : Int) := by omega
  have k39 : ((s[n].toNat : Int) == 39) = false := beq_eq_false_iff_ne.2 (by omega)
  have h2i : (1 : Int) < (n : Int) := by omega
  have k48 : ((s[0].toNat : Int) == 48) = false := beq_eq_false_iff_ne.2 (by omega)
  have hR := fun w1 => run_W s (by omega) w1
  rw [hw.out] at hR
  have HR := Lib.hid hR
  clear hR hw
  have hWi : ¬ (n : Int) < (W : Int) := by omega
  go_enter Tryz.func21, Tryz.ntmps21
  go_upto_region 1 with fail
  obtain ⟨W1, hW1⟩ : ∃ W, W = w.alloc (Obj.cells #[Value.int IntKind.i64 0, Value.int IntKind.i64 0, Value.int IntKind.i64 0, Value.string { data := #[] }, Value.bool false, Value.int IntKind.i64 0, Value.int IntKind.u64 0, Value.int IntKind.u64 0, Value.bool false] 32) := ⟨_, rfl⟩
  have b0 : Below w.heap.size w W1 := by rw [hW1]; exact (Below.refl _ _).alloc (Nat.le_refl _) _
  have T0 : TB W1 w.heap.size 0 0 0 ⟨#[]⟩ false 0 0 0 false := by rw [hW1]; exact TB.new w 0 0 0 ⟨#[]⟩ false 0 0 0 false
  rw [← hW1]
  clear hW1
  have hlt := T0.lt
  go_upto_region 2 with (go_at_call 15; refine (HD.out _).mono ?_; rintro e w1 ⟨rfl, rfl⟩)
  clear HD
  go_upto_region 8 with (go_at_call 15; refine (HR.out _).mono ?_; rintro e w1 ⟨rfl, rfl⟩)
  clear HR
  go_wp2_with fail
  go_loop [9, 10, 71] (fun v o u => ∃ k : Nat, k ≤ n ∧ v = .int .i64 (dgv s k : Nat) ∧ o = .bool true ∧ u = .int .i64 k ∧ dgv s k ≤ 2147483647) (fun _ _ u => n - (intOf u).toNat)
  case atStart => exact ⟨0, Nat.zero_le _, rfl, rfl, rfl, by show 0 ≤ _; omega⟩
  case round =>
    obtain ⟨k, hk, rfl, rfl, rfl, hvm⟩ := hrel
    have hk0 : (0 : Int) ≤ (k : Int) := by omega
    by_cases hkn : k < n
    · have hks : k < s.size := by omega
      have hksi : (k : Int) < (s.size : Int) := by omega
      have hkni : (k : Int) < (n : Int) := by omega
      obtain ⟨d1, d2⟩ := HDG.out k hks hkn
      have hsuc : dgv s (k + 1) = 10 * dgv s k + (s[k].toNat - 48) := by rw [gb_at s k hks]; rfl
      have hle : dgv s (k + 1) ≤ dgv s n := by
        have := dgv_mono s (k + 1) (n - (k + 1))
        rwa [show k + 1 + (n - (k + 1)) = n by omega] at this
      have hsub : IntKind.u8.wrap ((s[k].toNat : Int) - 48) = (s[k].toNat : Int) - 48 := by
        unfold IntKind.wrap; simp [IntKind.bits, IntKind.signed]; omega
      by_cases hbig : 2147483647 < dgv s (k + 1)
      · exfalso
        rw [hV.out] at hle
        omega
      · have HSU := Lib.hid hsuc
        have hnb : ¬ (2147483647 : Int) < 10 * ((dgv s k : Nat) : Int) + ((s[k].toNat : Int) - 48) := by omega
        have hsi : ((dgv s (k + 1) : Nat) : Int) = 10 * ((dgv s k : Nat) : Int) + ((s[k].toNat : Int) - 48) := by omega
        have HSI := Lib.hid hsi
        have hb2 : dgv s (k + 1) ≤ 2147483647 := by omega
        have HB2 := Lib.hid hb2
        clear hsuc hle hsi hbig hb2
        clear HSI HB2
        generalize dgv s k = D at *
        obtain ⟨E, hE⟩ : ∃ E, dgv s (k + 1) = E := ⟨_, rfl⟩
        have HE := Lib.hid hE
        rw [hE] at HSU
        have HSI : Hid ((E : Int) = 10 * (D : Int) + ((s[k].toNat : Int) - 48) ∧ E ≤ 2147483647) := Lib.hid (by have := HSU.out; omega)
        clear hE HSU
        go_wp2_with fail
        go_round
        case rel => exact ⟨k + 1, by omega, by rw [HE.out, HSI.out.1], rfl, by go_num, by rw [HE.out]; exact HSI.out.2⟩
        case measure => simp [intOf] <;> omega
    · obtain rfl : n = k := by omega
      rw [hV.out] at hvm ⊢
      have hVi : (0 : Int) ≤ (V : Int) := by omega
      go_wp2_with fail
      go_loopw [12, 88] (fun u i wr => ∃ k : Nat, k ≤ 32 ∧ i = .int .i64 (k : Int) ∧ Hid (OB W1.heap.size wr u (stL V k)) ∧ Below W1.heap.size W1 wr) (fun _ i _ => 32 - (intOf i).toNat)
      case atStart => exact ⟨0, by omega, rfl, Lib.hid (World.ownsRow_nil _ _ _ _), Below.refl _ _⟩
      case round =>
        obtain ⟨j, hj, rfl, hown, hlo⟩ := hrel
        rename World => WR
        have hj0 : (0 : Int) ≤ (j : Int) := by omega
        by_cases hj32 : j < 32
        · have hji : (j : Int) < 32 := by omega
          have hbt := bit_at V j hVm
          have HCC : Hid (Lib.byteCells (stL V (j + 1)) = Lib.byteCells (stL V j) ++ [Value.int .u8 ((48 + V / 2 ^ j % 2 : Nat) : Int)] ∧ (stL V (j + 1)).length = (stL V j).length + 1) := Lib.hid (by
            have h2 : V / 2 ^ j % 2 < 2 := Nat.mod_lt _ (by decide)
            rw [stL_succ]
            exact ⟨byteCells_snoc _ _ (by omega), by simp⟩)
          have hll := stL_len V j
          have HO := Lib.hid hown.out
          clear hown
          generalize ((48 + V / 2 ^ j % 2 : Nat) : Int) = bq at hbt HCC
          obtain ⟨l2, hl2⟩ : ∃ l2, stL V (j + 1) = l2 := ⟨_, rfl⟩
          have HL2 := Lib.hid hl2
          rw [hl2] at HCC
          clear hl2
          generalize stL V j = l1 at *
          go_upto_region 22 with fail
          go_wp2_with (rw [hbt]; at_builtin; refine wpList_append_own _ rfl _ _ 53 rfl W1.heap.size 5 i0 (.int .u8 0) 1 1 Tryz.underlying53 hi hz0 hz1 hz2 rfl (by decide) _ _ _ rfl (World.ownsRow.alloc (show WR.ownsRow W1.heap.size 5 1 _ l1.length (Lib.byteCells l1) from HO.out) _) ⟨WR.heap.size, 0, none⟩ 1 1 [.int .u8 bq] rfl rfl ?d1 ?d2 ?d3 ?d4 ?d5 ?_)
          try case d1 =>
            intro q u hq
            match q, hq with
            | 0, hq => simp at hq; subst hq; simp [Addr.add]
          case d2 => first | (intro u hu; simp at hu; subst hu; rfl) | rfl
          case d3 => unfold maxLen; omega
          case d4 => omega
          case d5 => have := hlo.size; simp; omega
          intro v5 w5 hown5 hgr5 _
          have hown6 : OB W1.heap.size w5 v5 l2 := by
            unfold OB
            rw [HCC.out.1, HCC.out.2, hll]
            exact hown5
          have hlo6 : Below W1.heap.size W1 w5 := (hlo.alloc hlo.size _).grown hgr5 (by have := hlo.size; simp; omega) (fun q hq => ((show WR.ownsRow W1.heap.size 5 1 _ l1.length (Lib.byteCells l1) from HO.out).lt q hq).1)
          clear hown5 hgr5 HO
          have HO6 := Lib.hid hown6
          clear hown6 HCC hbt
          go_wp2_with fail
          go_roundw
          case rel => exact ⟨j + 1, by omega, by go_num, by rw [HL2.out]; exact HO6, hlo6⟩
          case measure => simp [intOf] <;> omega
        · obtain rfl : j = 32 := by omega
          have HB := Lib.hid (fun (W9 : World) (hb : Below WR.heap.size WR W9) => numB V hVm _ W9 (OB.below hown.out hb))
          have TR := T0.below hlo
          have b2 : Below w.heap.size w WR := b0.trans (hlo.mono (Nat.le_of_lt hlt))
          clear hown
          go_wp2_with (go_at_call 41; refine (HB.out _ (Below.refl _ _)).mono ?_; rintro e w6 ⟨rfl, hb6⟩; replace TR := TR.below hb6; replace b2 := b2.trans (hb6.mono b2.size); obtain ⟨x0, x1, x2, x3, x4, x5, x6, x7, x8, xf⟩ := id TR)
          obtain ⟨q0, q1, q2, q3, q4, q5, q6, q7, q8, -⟩ := TR.set 3 0 0 ⟨#[]⟩ false 32 V 0 true
          unfold setTk at q0 q1 q2 q3 q4 q5 q6 q7 q8
          exact bodyPost_ret (v := .tuple #[.agg #[.int .i64 3, .int .i64 0, .int .i64 0, .string ⟨#[]⟩, .bool false, .int .i64 32, .int .u64 V, .int .u64 0, .bool true], .int .i64 n, .int .i64 0]) (by simp [results, Tryz.results21, go_sem, q0, q1, q2, q3, q4, q5, q6, q7, q8]) rfl ⟨rfl, below_setTk b2 (Nat.le_refl _) _ _ _ _ _ _ _ _ _⟩

set_option maxRecDepth 100000 in
set_option maxHeartbeats 4000000 in
theorem numTok_ok_at_one (s : ByteArray) (n : Nat) (hs : s.size ≤ 100000) (hns : n ≤ s.size) (h1 : 1 ≤ n) (hs00 : 0 < s.size) (hn : Hid (span isD s = n)) (hl : n = s.size) (ho : n = 1) (W : Nat) (hw : Hid (span inW s = W)) (hW : W ≤ n) (V : Nat) (hV : Hid (dgv s n = V)) (hVm : V ≤ 2147483647) (w : World) :
    Calls Tryz.prog 21 #[.string s] w fun e w' => e = .returned (.tuple #[.agg #[.int .i64 3, .int .i64 0, .int .i64 0, .string ⟨#[]⟩, .bool false, .int .i64 32, .int .u64 V, .int .u64 0, .bool true], .int .i64 n, .int .i64 0]) ∧ Below w.heap.size w w' := by
  obtain ⟨i0, hi, hz0, hz1, hz2⟩ := infoB_parts
  have hdig : ∀ k (h : k < s.size), k < n → 48 ≤ s[k].toNat ∧ s[k].toNat ≤ 57 := fun k h hk => by
    have h2 := span_yes (f := isD) (s := s) (q := k) h (by rw [hn.out]; exact hk)
    simp only [isD, Bool.and_eq_true, decide_eq_true_eq] at h2
    exact h2
  have HDG := Lib.hid hdig
  clear hdig
  have hn0 : (0 : Int) ≤ (n : Int) := by omega
  have hn1 : (n : Int) ≤ (s.size : Int) := by omega
  have hs0 : 0 < s.size := by omega
  have hs0i : (0 : Int) < (s.size : Int) := by omega
  have hD := fun w1 => run_D s (by omega) w1
  rw [hn.out] at hD
  have HD := Lib.hid hD
  clear hD hn
  have hlt1 : ¬ (n : Int) < (s.size : Int) := by omega
  clear hl
  have h2i : ¬ (1 : Int) < (n : Int) := by omega
  clear ho
  have hR := fun w1 => run_W s (by omega) w1
  rw [hw.out] at hR
  have HR := Lib.hid hR
  clear hR hw
  have hWi : ¬ (n : Int) < (W : Int) := by omega
  go_enter Tryz.func21, Tryz.ntmps21
  go_upto_region 1 with fail
  obtain ⟨W1, hW1⟩ : ∃ W, W = w.alloc (Obj.cells #[Value.int IntKind.i64 0, Value.int IntKind.i64 0, Value.int IntKind.i64 0, Value.string { data := #[] }, Value.bool false, Value.int IntKind.i64 0, Value.int IntKind.u64 0, Value.int IntKind.u64 0, Value.bool false] 32) := ⟨_, rfl⟩
  have b0 : Below w.heap.size w W1 := by rw [hW1]; exact (Below.refl _ _).alloc (Nat.le_refl _) _
  have T0 : TB W1 w.heap.size 0 0 0 ⟨#[]⟩ false 0 0 0 false := by rw [hW1]; exact TB.new w 0 0 0 ⟨#[]⟩ false 0 0 0 false
  rw [← hW1]
  clear hW1
  have hlt := T0.lt
  go_upto_region 2 with (go_at_call 15; refine (HD.out _).mono ?_; rintro e w1 ⟨rfl, rfl⟩)
  clear HD
  go_upto_region 8 with (go_at_call 15; refine (HR.out _).mono ?_; rintro e w1 ⟨rfl, rfl⟩)
  clear HR
  go_wp2_with fail
  go_loop [9, 10, 71] (fun v o u => ∃ k : Nat, k ≤ n ∧ v = .int .i64 (dgv s k : Nat) ∧ o = .bool true ∧ u = .int .i64 k ∧ dgv s k ≤ 2147483647) (fun _ _ u => n - (intOf u).toNat)
  case atStart => exact ⟨0, Nat.zero_le _, rfl, rfl, rfl, by show 0 ≤ _; omega⟩
  case round =>
    obtain ⟨k, hk, rfl, rfl, rfl, hvm⟩ := hrel
    have hk0 : (0 : Int) ≤ (k : Int) := by omega
    by_cases hkn : k < n
    · have hks : k < s.size := by omega
      have hksi : (k : Int) < (s.size : Int) := by omega
      have hkni : (k : Int) < (n : Int) := by omega
      obtain ⟨d1, d2⟩ := HDG.out k hks hkn
      have hsuc : dgv s (k + 1) = 10 * dgv s k + (s[k].toNat - 48) := by rw [gb_at s k hks]; rfl
      have hle : dgv s (k + 1) ≤ dgv s n := by
        have := dgv_mono s (k + 1) (n - (k + 1))
        rwa [show k + 1 + (n - (k + 1)) = n by omega] at this
      have hsub : IntKind.u8.wrap ((s[k].toNat : Int) - 48) = (s[k].toNat : Int) - 48 := by
        unfold IntKind.wrap; simp [IntKind.bits, IntKind.signed]; omega
      by_cases hbig : 2147483647 < dgv s (k + 1)
      · exfalso
        rw [hV.out] at hle
        omega
      · have HSU := Lib.hid hsuc
        have hnb : ¬ (2147483647 : Int) < 10 * ((dgv s k : Nat) : Int) + ((s[k].toNat : Int) - 48) := by omega
        have hsi : ((dgv s (k + 1) : Nat) : Int) = 10 * ((dgv s k : Nat) : Int) + ((s[k].toNat : Int) - 48) := by omega
        have HSI := Lib.hid hsi
        have hb2 : dgv s (k + 1) ≤ 2147483647 := by omega
        have HB2 := Lib.hid hb2
        clear hsuc hle hsi hbig hb2
        clear HSI HB2
        generalize dgv s k = D at *
        obtain ⟨E, hE⟩ : ∃ E, dgv s (k + 1) = E := ⟨_, rfl⟩
        have HE := Lib.hid hE
        rw [hE] at HSU
        have HSI : Hid ((E : Int) = 10 * (D : Int) + ((s[k].toNat : Int) - 48) ∧ E ≤ 2147483647) := Lib.hid (by have := HSU.out; omega)
        clear hE HSU
        go_wp2_with fail
        go_round
        case rel => exact ⟨k + 1, by omega, by rw [HE.out, HSI.out.1], rfl, by go_num, by rw [HE.out]; exact HSI.out.2⟩
        case measure => simp [intOf] <;> omega
    · obtain rfl : n = k := by omega
      rw [hV.out] at hvm ⊢
      have hVi : (0 : Int) ≤ (V : Int) := by omega
      go_wp2_with fail
      go_loopw [12, 88] (fun u i wr => ∃ k : Nat, k ≤ 32 ∧ i = .int .i64 (k : Int) ∧ Hid (OB W1.heap.size wr u (stL V k)) ∧ Below W1.heap.size W1 wr) (fun _ i _ => 32 - (intOf i).toNat)
      case atStart => exact ⟨0, by omega, rfl, Lib.hid (World.ownsRow_nil _ _ _ _), Below.refl _ _⟩
      case round =>
        obtain ⟨j, hj, rfl, hown, hlo⟩ := hrel
        rename World => WR
        have hj0 : (0 : Int) ≤ (j : Int) := by omega
        by_cases hj32 : j < 32
        · have hji : (j : Int) < 32 := by omega
          have hbt := bit_at V j hVm
          have HCC : Hid (Lib.byteCells (stL V (j + 1)) = Lib.byteCells (stL V j) ++ [Value.int .u8 ((48 + V / 2 ^ j % 2 : Nat) : Int)] ∧ (stL V (j + 1)).length = (stL V j).length + 1) := Lib.hid (by
            have h2 : V / 2 ^ j % 2 < 2 := Nat.mod_lt _ (by decide)
            rw [stL_succ]
            exact ⟨byteCells_snoc _ _ (by omega), by simp⟩)
          have hll := stL_len V j
          have HO := Lib.hid hown.out
          clear hown
          generalize ((48 + V / 2 ^ j % 2 : Nat) : Int) = bq at hbt HCC
          obtain ⟨l2, hl2⟩ : ∃ l2, stL V (j + 1) = l2 := ⟨_, rfl⟩
          have HL2 := Lib.hid hl2
          rw [hl2] at HCC
          clear hl2
          generalize stL V j = l1 at *
          go_upto_region 22 with fail
          go_wp2_with (rw [hbt]; at_builtin; refine wpList_append_own _ rfl _ _ 53 rfl W1.heap.size 5 i0 (.int .u8 0) 1 1 Tryz.underlying53 hi hz0 hz1 hz2 rfl (by decide) _ _ _ rfl (World.ownsRow.alloc (show WR.ownsRow W1.heap.size 5 1 _ l1.length (Lib.byteCells l1) from HO.out) _) ⟨WR.heap.size, 0, none⟩ 1 1 [.int .u8 bq] rfl rfl ?d1 ?d2 ?d3 ?d4 ?d5 ?_)
          try case d1 =>
            intro q u hq
            match q, hq with
            | 0, hq => simp at hq; subst hq; simp [Addr.add]
          case d2 => first | (intro u hu; simp at hu; subst hu; rfl) | rfl
          case d3 => unfold maxLen; omega
          case d4 => omega
          case d5 => have := hlo.size; simp; omega
          intro v5 w5 hown5 hgr5 _
          have hown6 : OB W1.heap.size w5 v5 l2 := by
            unfold OB
            rw [HCC.out.1, HCC.out.2, hll]
            exact hown5
          have hlo6 : Below W1.heap.size W1 w5 := (hlo.alloc hlo.size _).grown hgr5 (by have := hlo.size; simp; omega) (fun q hq => ((show WR.ownsRow W1.heap.size 5 1 _ l1.length (Lib.byteCells l1) from HO.out).lt q hq).1)
          clear hown5 hgr5 HO
          have HO6 := Lib.hid hown6
          clear hown6 HCC hbt
          go_wp2_with fail
          go_roundw
          case rel => exact ⟨j + 1, by omega, by go_num, by rw [HL2.out]; exact HO6, hlo6⟩
          case measure => simp [intOf] <;> omega
        · obtain rfl : j = 32 := by omega
          have HB := Lib.hid (fun (W9 : World) (hb : Below WR.heap.size WR W9) => numB V hVm _ W9 (OB.below hown.out hb))
          have TR := T0.below hlo
          have b2 : Below w.heap.size w WR := b0.trans (hlo.mono (Nat.le_of_lt hlt))
          clear hown
          go_wp2_with (go_at_call 41; refine (HB.out _ (Below.refl _ _)).mono ?_; rintro e w6 ⟨rfl, hb6⟩; replace TR := TR.below hb6; replace b2 := b2.trans (hb6.mono b2.size); obtain ⟨x0, x1, x2, x3, x4, x5, x6, x7, x8, xf⟩ := id TR)
          obtain ⟨q0, q1, q2, q3, q4, q5, q6, q7, q8, -⟩ := TR.set 3 0 0 ⟨#[]⟩ false 32 V 0 true
          unfold setTk at q0 q1 q2 q3 q4 q5 q6 q7 q8
          exact bodyPost_ret (v := .tuple #[.agg #[.int .i64 3, .int .i64 0, .int .i64 0, .string ⟨#[]⟩, .bool false, .int .i64 32, .int .u64 V, .int .u64 0, .bool true], .int .i64 n, .int .i64 0]) (by simp [results, Tryz.results21, go_sem, q0, q1, q2, q3, q4, q5, q6, q7, q8]) rfl ⟨rfl, below_setTk b2 (Nat.le_refl _) _ _ _ _ _ _ _ _ _⟩

set_option maxRecDepth 100000 in
set_option maxHeartbeats 4000000 in
theorem numTok_ok_at_many (s : ByteArray) (n : Nat) (hs : s.size ≤ 100000) (hns : n ≤ s.size) (h1 : 1 ≤ n) (hs00 : 0 < s.size) (hn : Hid (span isD s = n)) (hl : n = s.size) (ho : 2 ≤ n) (h48 : s[0].toNat ≠ 48) (W : Nat) (hw : Hid (span inW s = W)) (hW : W ≤ n) (V : Nat) (hV : Hid (dgv s n = V)) (hVm : V ≤ 2147483647) (w : World) :
    Calls Tryz.prog 21 #[.string s] w fun e w' => e = .returned (.tuple #[.agg #[.int .i64 3, .int .i64 0, .int .i64 0, .string ⟨#[]⟩, .bool false, .int .i64 32, .int .u64 V, .int .u64 0, .bool true], .int .i64 n, .int .i64 0]) ∧ Below w.heap.size w w' := by
  obtain ⟨i0, hi, hz0, hz1, hz2⟩ := infoB_parts
  have hdig : ∀ k (h : k < s.size), k < n → 48 ≤ s[k].toNat ∧ s[k].toNat ≤ 57 := fun k h hk => by
    have h2 := span_yes (f := isD) (s := s) (q := k) h (by rw [hn.out]; exact hk)
    simp only [isD, Bool.and_eq_true, decide_eq_true_eq] at h2
    exact h2
  have HDG := Lib.hid hdig
  clear hdig
  have hn0 : (0 : Int) ≤ (n : Int) := by omega
  have hn1 : (n : Int) ≤ (s.size : Int) := by omega
  have hs0 : 0 < s.size := by omega
  have hs0i : (0 : Int) < (s.size : Int) := by omega
  have hD := fun w1 => run_D s (by omega) w1
  rw [hn.out] at hD
  have HD := Lib.hid hD
  clear hD hn
  have hlt1 : ¬ (n : Int) < (s.size : Int) := by omega
  clear hl
  have h2i : (1 : Int) < (n : Int) := by omega
  have k48 : ((s[0].toNat : Int) == 48) = false := beq_eq_false_iff_ne.2 (by omega)
  have hR := fun w1 => run_W s (by omega) w1
  rw [hw.out] at hR
  have HR := Lib.hid hR
  clear hR hw
  have hWi : ¬ (n : Int) < (W : Int) := by omega
  go_enter Tryz.func21, Tryz.ntmps21
  go_upto_region 1 with fail
  obtain ⟨W1, hW1⟩ : ∃ W, W = w.alloc (Obj.cells #[Value.int IntKind.i64 0, Value.int IntKind.i64 0, Value.int IntKind.i64 0, Value.string { data := #[] }, Value.bool false, Value.int IntKind.i64 0, Value.int IntKind.u64 0, Value.int IntKind.u64 0, Value.bool false] 32) := ⟨_, rfl⟩
  have b0 : Below w.heap.size w W1 := by rw [hW1]; exact (Below.refl _ _).alloc (Nat.le_refl _) _
  have T0 : TB W1 w.heap.size 0 0 0 ⟨#[]⟩ false 0 0 0 false := by rw [hW1]; exact TB.new w 0 0 0 ⟨#[]⟩ false 0 0 0 false
  rw [← hW1]
  clear hW1
  have hlt := T0.lt
  go_upto_region 2 with (go_at_call 15; refine (HD.out _).mono ?_; rintro e w1 ⟨rfl, rfl⟩)
  clear HD
  go_upto_region 8 with (go_at_call 15; refine (HR.out _).mono ?_; rintro e w1 ⟨rfl, rfl⟩)
  clear HR
  go_wp2_with fail
  go_loop [9, 10, 71] (fun v o u => ∃ k : Nat, k ≤ n ∧ v = .int .i64 (dgv s k : Nat) ∧ o = .bool true ∧ u = .int .i64 k ∧ dgv s k ≤ 2147483647) (fun _ _ u => n - (intOf u).toNat)
  case atStart => exact ⟨0, Nat.zero_le _, rfl, rfl, rfl, by show 0 ≤ _; omega⟩
  case round =>
    obtain ⟨k, hk, rfl, rfl, rfl, hvm⟩ := hrel
    have hk0 : (0 : Int) ≤ (k : Int) := by omega
    by_cases hkn : k < n
    · have hks : k < s.size := by omega
      have hksi : (k : Int) < (s.size : Int) := by omega
      have hkni : (k : Int) < (n : Int) := by omega
      obtain ⟨d1, d2⟩ := HDG.out k hks hkn
      have hsuc : dgv s (k + 1) = 10 * dgv s k + (s[k].toNat - 48) := by rw [gb_at s k hks]; rfl
      have hle : dgv s (k + 1) ≤ dgv s n := by
        have := dgv_mono s (k + 1) (n - (k + 1))
        rwa [show k + 1 + (n - (k + 1)) = n by omega] at this
      have hsub : IntKind.u8.wrap ((s[k].toNat : Int) - 48) = (s[k].toNat : Int) - 48 := by
        unfold IntKind.wrap; simp [IntKind.bits, IntKind.signed]; omega
      by_cases hbig : 2147483647 < dgv s (k + 1)
      · exfalso
        rw [hV.out] at hle
        omega
      · have HSU := Lib.hid hsuc
        have hnb : ¬ (2147483647 : Int) < 10 * ((dgv s k : Nat) : Int) + ((s[k].toNat : Int) - 48) := by omega
        have hsi : ((dgv s (k + 1) : Nat) : Int) = 10 * ((dgv s k : Nat) : Int) + ((s[k].toNat : Int) - 48) := by omega
        have HSI := Lib.hid hsi
        have hb2 : dgv s (k + 1) ≤ 2147483647 := by omega
        have HB2 := Lib.hid hb2
        clear hsuc hle hsi hbig hb2
        clear HSI HB2
        generalize dgv s k = D at *
        obtain ⟨E, hE⟩ : ∃ E, dgv s (k + 1) = E := ⟨_, rfl⟩
        have HE := Lib.hid hE
        rw [hE] at HSU
        have HSI : Hid ((E : Int) = 10 * (D : Int) + ((s[k].toNat : Int) - 48) ∧ E ≤ 2147483647) := Lib.hid (by have := HSU.out; omega)
        clear hE HSU
        go_wp2_with fail
        go_round
        case rel => exact ⟨k + 1, by omega, by rw [HE.out, HSI.out.1], rfl, by go_num, by rw [HE.out]; exact HSI.out.2⟩
        case measure => simp [intOf] <;> omega
    · obtain rfl : n = k := by omega
      rw [hV.out] at hvm ⊢
      have hVi : (0 : Int) ≤ (V : Int) := by omega
      go_wp2_with fail
      go_loopw [12, 88] (fun u i wr => ∃ k : Nat, k ≤ 32 ∧ i = .int .i64 (k : Int) ∧ Hid (OB W1.heap.size wr u (stL V k)) ∧ Below W1.heap.size W1 wr) (fun _ i _ => 32 - (intOf i).toNat)
      case atStart => exact ⟨0, by omega, rfl, Lib.hid (World.ownsRow_nil _ _ _ _), Below.refl _ _⟩
      case round =>
        obtain ⟨j, hj, rfl, hown, hlo⟩ := hrel
        rename World => WR
        have hj0 : (0 : Int) ≤ (j : Int) := by omega
        by_cases hj32 : j < 32
        · have hji : (j : Int) < 32 := by omega
          have hbt := bit_at V j hVm
          have HCC : Hid (Lib.byteCells (stL V (j + 1)) = Lib.byteCells (stL V j) ++ [Value.int .u8 ((48 + V / 2 ^ j % 2 : Nat) : Int)] ∧ (stL V (j + 1)).length = (stL V j).length + 1) := Lib.hid (by
            have h2 : V / 2 ^ j % 2 < 2 := Nat.mod_lt _ (by decide)
            rw [stL_succ]
            exact ⟨byteCells_snoc _ _ (by omega), by simp⟩)
          have hll := stL_len V j
          have HO := Lib.hid hown.out
          clear hown
          generalize ((48 + V / 2 ^ j % 2 : Nat) : Int) = bq at hbt HCC
          obtain ⟨l2, hl2⟩ : ∃ l2, stL V (j + 1) = l2 := ⟨_, rfl⟩
          have HL2 := Lib.hid hl2
          rw [hl2] at HCC
          clear hl2
          generalize stL V j = l1 at *
          go_upto_region 22 with fail
          go_wp2_with (rw [hbt]; at_builtin; refine wpList_append_own _ rfl _ _ 53 rfl W1.heap.size 5 i0 (.int .u8 0) 1 1 Tryz.underlying53 hi hz0 hz1 hz2 rfl (by decide) _ _ _ rfl (World.ownsRow.alloc (show WR.ownsRow W1.heap.size 5 1 _ l1.length (Lib.byteCells l1) from HO.out) _) ⟨WR.heap.size, 0, none⟩ 1 1 [.int .u8 bq] rfl rfl ?d1 ?d2 ?d3 ?d4 ?d5 ?_)
          try case d1 =>
            intro q u hq
            match q, hq with
            | 0, hq => simp at hq; subst hq; simp [Addr.add]
          case d2 => first | (intro u hu; simp at hu; subst hu; rfl) | rfl
          case d3 => unfold maxLen; omega
          case d4 => omega
          case d5 => have := hlo.size; simp; omega
          intro v5 w5 hown5 hgr5 _
          have hown6 : OB W1.heap.size w5 v5 l2 := by
            unfold OB
            rw [HCC.out.1, HCC.out.2, hll]
            exact hown5
          have hlo6 : Below W1.heap.size W1 w5 := (hlo.alloc hlo.size _).grown hgr5 (by have := hlo.size; simp; omega) (fun q hq => ((show WR.ownsRow W1.heap.size 5 1 _ l1.length (Lib.byteCells l1) from HO.out).lt q hq).1)
          clear hown5 hgr5 HO
          have HO6 := Lib.hid hown6
          clear hown6 HCC hbt
          go_wp2_with fail
          go_roundw
          case rel => exact ⟨j + 1, by omega, by go_num, by rw [HL2.out]; exact HO6, hlo6⟩
          case measure => simp [intOf] <;> omega
        · obtain rfl : j = 32 := by omega
          have HB := Lib.hid (fun (W9 : World) (hb : Below WR.heap.size WR W9) => numB V hVm _ W9 (OB.below hown.out hb))
          have TR := T0.below hlo
          have b2 : Below w.heap.size w WR := b0.trans (hlo.mono (Nat.le_of_lt hlt))
          clear hown
          go_wp2_with (go_at_call 41; refine (HB.out _ (Below.refl _ _)).mono ?_; rintro e w6 ⟨rfl, hb6⟩; replace TR := TR.below hb6; replace b2 := b2.trans (hb6.mono b2.size); obtain ⟨x0, x1, x2, x3, x4, x5, x6, x7, x8, xf⟩ := id TR)
          obtain ⟨q0, q1, q2, q3, q4, q5, q6, q7, q8, -⟩ := TR.set 3 0 0 ⟨#[]⟩ false 32 V 0 true
          unfold setTk at q0 q1 q2 q3 q4 q5 q6 q7 q8
          exact bodyPost_ret (v := .tuple #[.agg #[.int .i64 3, .int .i64 0, .int .i64 0, .string ⟨#[]⟩, .bool false, .int .i64 32, .int .u64 V, .int .u64 0, .bool true], .int .i64 n, .int .i64 0]) (by simp [results, Tryz.results21, go_sem, q0, q1, q2, q3, q4, q5, q6, q7, q8]) rfl ⟨rfl, below_setTk b2 (Nat.le_refl _) _ _ _ _ _ _ _ _ _⟩

set_option maxRecDepth 100000 in
set_option maxHeartbeats 4000000 in
theorem numTok_big_in_one (s : ByteArray) (n : Nat) (hs : s.size ≤ 100000) (hns : n ≤ s.size) (h1 : 1 ≤ n) (hs00 : 0 < s.size) (hn : Hid (span isD s = n)) (hl : n < s.size) (h39 : s[n].toNat ≠ 39) (ho : n = 1) (W : Nat) (hw : Hid (span inW s = W)) (hW : W ≤ n) (V : Nat) (hV : Hid (dgv s n = V)) (hVm : 2147483647 < V) (w : World) :
    Calls Tryz.prog 21 #[.string s] w fun e w' => e = .returned (.tuple #[.agg #[.int .i64 0, .int .i64 0, .int .i64 0, .string ⟨#[]⟩, .bool false, .int .i64 0, .int .u64 0, .int .u64 0, .bool false], .int .i64 0, .int .i64 3]) ∧ Below w.heap.size w w' := by
  obtain ⟨i0, hi, hz0, hz1, hz2⟩ := infoB_parts
  have hdig : ∀ k (h : k < s.size), k < n → 48 ≤ s[k].toNat ∧ s[k].toNat ≤ 57 := fun k h hk => by
    have h2 := span_yes (f := isD) (s := s) (q := k) h (by rw [hn.out]; exact hk)
    simp only [isD, Bool.and_eq_true, decide_eq_true_eq] at h2
    exact h2
  have HDG := Lib.hid hdig
  clear hdig
  have hn0 : (0 : Int) ≤ (n : Int) := by omega
  have hn1 : (n : Int) ≤ (s.size : Int) := by omega
  have hs0 : 0 < s.size := by omega
  have hs0i : (0 : Int) < (s.size : Int) := by omega
  have hD := fun w1 => run_D s (by omega) w1
  rw [hn.out] at hD
  have HD := Lib.hid hD
  clear hD hn
  have hlt1 : (n : Int) < (s.size : Int) := by omega
  have k39 : ((s[n].toNat : Int) == 39) = false := beq_eq_false_iff_ne.2 (by omega)
  have h2i : ¬ (1 : Int) < (n : Int) := by omega
  clear ho
  have hR := fun w1 => run_W s (by omega) w1
  rw [hw.out] at hR
  have HR := Lib.hid hR
  clear hR hw
  have hWi : ¬ (n : Int) < (W : Int) := by omega
  go_enter Tryz.func21, Tryz.ntmps21
  go_upto_region 1 with fail
  obtain ⟨W1, hW1⟩ : ∃ W, W = w.alloc (Obj.cells #[Value.int IntKind.i64 0, Value.int IntKind.i64 0, Value.int IntKind.i64 0, Value.string { data := #[] }, Value.bool false, Value.int IntKind.i64 0, Value.int IntKind.u64 0, Value.int IntKind.u64 0, Value.bool false] 32) := ⟨_, rfl⟩
  have b0 : Below w.heap.size w W1 := by rw [hW1]; exact (Below.refl _ _).alloc (Nat.le_refl _) _
  have T0 : TB W1 w.heap.size 0 0 0 ⟨#[]⟩ false 0 0 0 false := by rw [hW1]; exact TB.new w 0 0 0 ⟨#[]⟩ false 0 0 0 false
  rw [← hW1]
  clear hW1
  have hlt := T0.lt
  go_upto_region 2 with (go_at_call 15; refine (HD.out _).mono ?_; rintro e w1 ⟨rfl, rfl⟩)
  clear HD
  go_upto_region 8 with (go_at_call 15; refine (HR.out _).mono ?_; rintro e w1 ⟨rfl, rfl⟩)
  clear HR
  go_wp2_with fail
  go_loop [9, 10, 71] (fun v o u => ∃ k : Nat, k ≤ n ∧ v = .int .i64 (dgv s k : Nat) ∧ o = .bool true ∧ u = .int .i64 k ∧ dgv s k ≤ 2147483647) (fun _ _ u => n - (intOf u).toNat)
  case atStart => exact ⟨0, Nat.zero_le _, rfl, rfl, rfl, by show 0 ≤ _; omega⟩
  case round =>
    obtain ⟨k, hk, rfl, rfl, rfl, hvm⟩ := hrel
    have hk0 : (0 : Int) ≤ (k : Int) := by omega
    by_cases hkn : k < n
    · have hks : k < s.size := by omega
      have hksi : (k : Int) < (s.size : Int) := by omega
      have hkni : (k : Int) < (n : Int) := by omega
      obtain ⟨d1, d2⟩ := HDG.out k hks hkn
      have hsuc : dgv s (k + 1) = 10 * dgv s k + (s[k].toNat - 48) := by rw [gb_at s k hks]; rfl
      have hle : dgv s (k + 1) ≤ dgv s n := by
        have := dgv_mono s (k + 1) (n - (k + 1))
        rwa [show k + 1 + (n - (k + 1)) = n by omega] at this
      have hsub : IntKind.u8.wrap ((s[k].toNat : Int) - 48) = (s[k].toNat : Int) - 48 := by
        unfold IntKind.wrap; simp [IntKind.bits, IntKind.signed]; omega
      by_cases hbig : 2147483647 < dgv s (k + 1)
      · have hbi : (2147483647 : Int) < 10 * ((dgv s k : Nat) : Int) + ((s[k].toNat : Int) - 48) := by omega
        clear hsuc hle hbig
        generalize dgv s k = D at *
        obtain ⟨x0, x1, x2, x3, x4, x5, x6, x7, x8, xf⟩ := id T0
        go_wp2_with fail
        obtain ⟨q0, q1, q2, q3, q4, q5, q6, q7, q8, -⟩ := T0.set 0 0 0 ⟨#[]⟩ false 0 0 0 false
        unfold setTk at q0 q1 q2 q3 q4 q5 q6 q7 q8
        exact bodyPost_ret (v := .tuple #[.agg #[.int .i64 0, .int .i64 0, .int .i64 0, .string ⟨#[]⟩, .bool false, .int .i64 0, .int .u64 0, .int .u64 0, .bool false], .int .i64 0, .int .i64 3]) (by simp [results, Tryz.results21, go_sem, q0, q1, q2, q3, q4, q5, q6, q7, q8]) rfl ⟨rfl, below_setTk b0 (Nat.le_refl _) _ _ _ _ _ _ _ _ _⟩

      · have HSU := Lib.hid hsuc
        have hnb : ¬ (2147483647 : Int) < 10 * ((dgv s k : Nat) : Int) + ((s[k].toNat : Int) - 48) := by omega
        have hsi : ((dgv s (k + 1) : Nat) : Int) = 10 * ((dgv s k : Nat) : Int) + ((s[k].toNat : Int) - 48) := by omega
        have HSI := Lib.hid hsi
        have hb2 : dgv s (k + 1) ≤ 2147483647 := by omega
        have HB2 := Lib.hid hb2
        clear hsuc hle hsi hbig hb2
        clear HSI HB2
        generalize dgv s k = D at *
        obtain ⟨E, hE⟩ : ∃ E, dgv s (k + 1) = E := ⟨_, rfl⟩
        have HE := Lib.hid hE
        rw [hE] at HSU
        have HSI : Hid ((E : Int) = 10 * (D : Int) + ((s[k].toNat : Int) - 48) ∧ E ≤ 2147483647) := Lib.hid (by have := HSU.out; omega)
        clear hE HSU
        go_wp2_with fail
        go_round
        case rel => exact ⟨k + 1, by omega, by rw [HE.out, HSI.out.1], rfl, by go_num, by rw [HE.out]; exact HSI.out.2⟩
        case measure => simp [intOf] <;> omega
    · obtain rfl : n = k := by omega
      exfalso
      rw [hV.out] at hvm
      omega
set_option maxRecDepth 100000 in
set_option maxHeartbeats 4000000 in
theorem numTok_big_in_many (s : ByteArray) (n : Nat) (hs : s.size ≤ 100000) (hns : n ≤ s.size) (h1 : 1 ≤ n) (hs00 : 0 < s.size) (hn : Hid (span isD s = n)) (hl : n < s.size) (h39 : s[n].toNat ≠ 39) (ho : 2 ≤ n) (h48 : s[0].toNat ≠ 48) (W : Nat) (hw : Hid (span inW s = W)) (hW : W ≤ n) (V : Nat) (hV : Hid (dgv s n = V)) (hVm : 2147483647 < V) (w : World) :
    Calls Tryz.prog 21 #[.string s] w fun e w' => e = .returned (.tuple #[.agg #[.int .i64 0, .int .i64 0, .int .i64 0, .string ⟨#[]⟩, .bool false, .int .i64 0, .int .u64 0, .int .u64 0, .bool false], .int .i64 0, .int .i64 3]) ∧ Below w.heap.size w w' := by
  obtain ⟨i0, hi, hz0, hz1, hz2⟩ := infoB_parts
  have hdig : ∀ k (h : k < s.size), k < n → 48 ≤ s[k].toNat ∧ s[k].toNat ≤ 57 := fun k h hk => by
    have h2 := span_yes (f := isD) (s := s) (q := k) h (by rw [hn.out]; exact hk)
    simp only [isD, Bool.and_eq_true, decide_eq_true_eq] at h2
    exact h2
  have HDG := Lib.hid hdig
  clear hdig
  have hn0 : (0 : Int) ≤ (n : Int) := by omega
  have hn1 : (n : Int) ≤ (s.size : Int) := by omega
  have hs0 : 0 < s.size := by omega
  have hs0i : (0 : Int) < (s.size : Int) := by omega
  have hD := fun w1 => run_D s (by omega) w1
  rw [hn.out] at hD
  have HD := Lib.hid hD
  clear hD hn
  have hlt1 : (n : Int) < (s.size : Int) := by omega
  have k39 : ((s[n].toNat : Int) == 39) = false := beq_eq_false_iff_ne.2 (by omega)
  have h2i : (1 : Int) < (n : Int) := by omega
  have k48 : ((s[0].toNat : Int) == 48) = false := beq_eq_false_iff_ne.2 (by omega)
  have hR := fun w1 => run_W s (by omega) w1
  rw [hw.out] at hR
  have HR := Lib.hid hR
  clear hR hw
  have hWi : ¬ (n : Int) < (W : Int) := by omega
  go_enter Tryz.func21, Tryz.ntmps21
  go_upto_region 1 with fail
  obtain ⟨W1, hW1⟩ : ∃ W, W = w.alloc (Obj.cells #[Value.int IntKind.i64 0, Value.int IntKind.i64 0, Value.int IntKind.i64 0, Value.string { data := #[] }, Value.bool false, Value.int IntKind.i64 0, Value.int IntKind.u64 0, Value.int IntKind.u64 0, Value.bool false] 32) := ⟨_, rfl⟩
  have b0 : Below w.heap.size w W1 := by rw [hW1]; exact (Below.refl _ _).alloc (Nat.le_refl _) _
  have T0 : TB W1 w.heap.size 0 0 0 ⟨#[]⟩ false 0 0 0 false := by rw [hW1]; exact TB.new w 0 0 0 ⟨#[]⟩ false 0 0 0 false
  rw [← hW1]
  clear hW1
  have hlt := T0.lt
  go_upto_region 2 with (go_at_call 15; refine (HD.out _).mono ?_; rintro e w1 ⟨rfl, rfl⟩)
  clear HD
  go_upto_region 8 with (go_at_call 15; refine (HR.out _).mono ?_; rintro e w1 ⟨rfl, rfl⟩)
  clear HR
  go_wp2_with fail
  go_loop [9, 10, 71] (fun v o u => ∃ k : Nat, k ≤ n ∧ v = .int .i64 (dgv s k : Nat) ∧ o = .bool true ∧ u = .int .i64 k ∧ dgv s k ≤ 2147483647) (fun _ _ u => n - (intOf u).toNat)
  case atStart => exact ⟨0, Nat.zero_le _, rfl, rfl, rfl, by show 0 ≤ _; omega⟩
  case round =>
    obtain ⟨k, hk, rfl, rfl, rfl, hvm⟩ := hrel
    have hk0 : (0 : Int) ≤ (k : Int) := by omega
    by_cases hkn : k < n
    · have hks : k < s.size := by omega
      have hksi : (k : Int) < (s.size : Int) := by omega
      have hkni : (k : Int) < (n : Int) := by omega
      obtain ⟨d1, d2⟩ := HDG.out k hks hkn
      have hsuc : dgv s (k + 1) = 10 * dgv s k + (s[k].toNat - 48) := by rw [gb_at s k hks]; rfl
      have hle : dgv s (k + 1) ≤ dgv s n := by
        have := dgv_mono s (k + 1) (n - (k + 1))
        rwa [show k + 1 + (n - (k + 1)) = n by omega] at this
      have hsub : IntKind.u8.wrap ((s[k].toNat : Int) - 48) = (s[k].toNat : Int) - 48 := by
        unfold IntKind.wrap; simp [IntKind.bits, IntKind.signed]; omega
      by_cases hbig : 2147483647 < dgv s (k + 1)
      · have hbi : (2147483647 : Int) < 10 * ((dgv s k : Nat) : Int) + ((s[k].toNat : Int) - 48) := by omega
        clear hsuc hle hbig
        generalize dgv s k = D at *
        obtain ⟨x0, x1, x2, x3, x4, x5, x6, x7, x8, xf⟩ := id T0
        go_wp2_with fail
        obtain ⟨q0, q1, q2, q3, q4, q5, q6, q7, q8, -⟩ := T0.set 0 0 0 ⟨#[]⟩ false 0 0 0 false
        unfold setTk at q0 q1 q2 q3 q4 q5 q6 q7 q8
        exact bodyPost_ret (v := .tuple #[.agg #[.int .i64 0, .int .i64 0, .int .i64 0, .string ⟨#[]⟩, .bool false, .int .i64 0, .int .u64 0, .int .u64 0, .bool false], .int .i64 0, .int .i64 3]) (by simp [results, Tryz.results21, go_sem, q0, q1, q2, q3, q4, q5, q6, q7, q8]) rfl ⟨rfl, below_setTk b0 (Nat.le_refl _) _ _ _ _ _ _ _ _ _⟩

      · have HSU := Lib.hid hsuc
        have hnb : ¬ (2147483647 : Int) < 10 * ((dgv s k : Nat) : Int) + ((s[k].toNat : Int) - 48) := by omega
        have hsi : ((dgv s (k + 1) : Nat) : Int) = 10 * ((dgv s k : Nat) : Int) + ((s[k].toNat : Int) - 48) := by omega
        have HSI := Lib.hid hsi
        have hb2 : dgv s (k + 1) ≤ 2147483647 := by omega
        have HB2 := Lib.hid hb2
        clear hsuc hle hsi hbig hb2
        clear HSI HB2
        generalize dgv s k = D at *
        obtain ⟨E, hE⟩ : ∃ E, dgv s (k + 1) = E := ⟨_, rfl⟩
        have HE := Lib.hid hE
        rw [hE] at HSU
        have HSI : Hid ((E : Int) = 10 * (D : Int) + ((s[k].toNat : Int) - 48) ∧ E ≤ 2147483647) := Lib.hid (by have := HSU.out; omega)
        clear hE HSU
        go_wp2_with fail
        go_round
        case rel => exact ⟨k + 1, by omega, by rw [HE.out, HSI.out.1], rfl, by go_num, by rw [HE.out]; exact HSI.out.2⟩
        case measure => simp [intOf] <;> omega
    · obtain rfl : n = k := by omega
      exfalso
      rw [hV.out] at hvm
      omega
set_option maxRecDepth 100000 in
set_option maxHeartbeats 4000000 in
theorem numTok_big_at_one (s : ByteArray) (n : Nat) (hs : s.size ≤ 100000) (hns : n ≤ s.size) (h1 : 1 ≤ n) (hs00 : 0 < s.size) (hn : Hid (span isD s = n)) (hl : n = s.size) (ho : n = 1) (W : Nat) (hw : Hid (span inW s = W)) (hW : W ≤ n) (V : Nat) (hV : Hid (dgv s n = V)) (hVm : 2147483647 < V) (w : World) :
    Calls Tryz.prog 21 #[.string s] w fun e w' => e = .returned (.tuple #[.agg #[.int .i64 0, .int .i64 0, .int .i64 0, .string ⟨#[]⟩, .bool false, .int .i64 0, .int .u64 0, .int .u64 0, .bool false], .int .i64 0, .int .i64 3]) ∧ Below w.heap.size w w' := by
  obtain ⟨i0, hi, hz0, hz1, hz2⟩ := infoB_parts
  have hdig : ∀ k (h : k < s.size), k < n → 48 ≤ s[k].toNat ∧ s[k].toNat ≤ 57 := fun k h hk => by
    have h2 := span_yes (f := isD) (s := s) (q := k) h (by rw [hn.out]; exact hk)
    simp only [isD, Bool.and_eq_true, decide_eq_true_eq] at h2
    exact h2
  have HDG := Lib.hid hdig
  clear hdig
  have hn0 : (0 : Int) ≤ (n : Int) := by omega
  have hn1 : (n : Int) ≤ (s.size : Int) := by omega
  have hs0 : 0 < s.size := by omega
  have hs0i : (0 : Int) < (s.size : Int) := by omega
  have hD := fun w1 => run_D s (by omega) w1
  rw [hn.out] at hD
  have HD := Lib.hid hD
  clear hD hn
  have hlt1 : ¬ (n : Int) < (s.size : Int) := by omega
  clear hl
  have h2i : ¬ (1 : Int) < (n : Int) := by omega
  clear ho
  have hR := fun w1 => run_W s (by omega) w1
  rw [hw.out] at hR
  have HR := Lib.hid hR
  clear hR hw
  have hWi : ¬ (n : Int) < (W : Int) := by omega
  go_enter Tryz.func21, Tryz.ntmps21
  go_upto_region 1 with fail
  obtain ⟨W1, hW1⟩ : ∃ W, W = w.alloc (Obj.cells #[Value.int IntKind.i64 0, Value.int IntKind.i64 0, Value.int IntKind.i64 0, Value.string { data := #[] }, Value.bool false, Value.int IntKind.i64 0, Value.int IntKind.u64 0, Value.int IntKind.u64 0, Value.bool false] 32) := ⟨_, rfl⟩
  have b0 : Below w.heap.size w W1 := by rw [hW1]; exact (Below.refl _ _).alloc (Nat.le_refl _) _
  have T0 : TB W1 w.heap.size 0 0 0 ⟨#[]⟩ false 0 0 0 false := by rw [hW1]; exact TB.new w 0 0 0 ⟨#[]⟩ false 0 0 0 false
  rw [← hW1]
  clear hW1
  have hlt := T0.lt
  go_upto_region 2 with (go_at_call 15; refine (HD.out _).mono ?_; rintro e w1 ⟨rfl, rfl⟩)
  clear HD
  go_upto_region 8 with (go_at_call 15; refine (HR.out _).mono ?_; rintro e w1 ⟨rfl, rfl⟩)
  clear HR
  go_wp2_with fail
  go_loop [9, 10, 71] (fun v o u => ∃ k : Nat, k ≤ n ∧ v = .int .i64 (dgv s k : Nat) ∧ o = .bool true ∧ u = .int .i64 k ∧ dgv s k ≤ 2147483647) (fun _ _ u => n - (intOf u).toNat)
  case atStart => exact ⟨0, Nat.zero_le _, rfl, rfl, rfl, by show 0 ≤ _; omega⟩
  case round =>
    obtain ⟨k, hk, rfl, rfl, rfl, hvm⟩ := hrel
    have hk0 : (0 : Int) ≤ (k : Int) := by omega
    by_cases hkn : k < n
    · have hks : k < s.size := by omega
      have hksi : (k : Int) < (s.size : Int) := by omega
      have hkni : (k : Int) < (n : Int) := by omega
      obtain ⟨d1, d2⟩ := HDG.out k hks hkn
      have hsuc : dgv s (k + 1) = 10 * dgv s k + (s[k].toNat - 48) := by rw [gb_at s k hks]; rfl
      have hle : dgv s (k + 1) ≤ dgv s n := by
        have := dgv_mono s (k + 1) (n - (k + 1))
        rwa [show k + 1 + (n - (k + 1)) = n by omega] at this
      have hsub : IntKind.u8.wrap ((s[k].toNat : Int) - 48) = (s[k].toNat : Int) - 48 := by
        unfold IntKind.wrap; simp [IntKind.bits, IntKind.signed]; omega
      by_cases hbig : 2147483647 < dgv s (k + 1)
      · have hbi : (2147483647 : Int) < 10 * ((dgv s k : Nat) : Int) + ((s[k].toNat : Int) - 48) := by omega
        clear hsuc hle hbig
        generalize dgv s k = D at *
        obtain ⟨x0, x1, x2, x3, x4, x5, x6, x7, x8, xf⟩ := id T0
        go_wp2_with fail
        obtain ⟨q0, q1, q2, q3, q4, q5, q6, q7, q8, -⟩ := T0.set 0 0 0 ⟨#[]⟩ false 0 0 0 false
        unfold setTk at q0 q1 q2 q3 q4 q5 q6 q7 q8
        exact bodyPost_ret (v := .tuple #[.agg #[.int .i64 0, .int .i64 0, .int .i64 0, .string ⟨#[]⟩, .bool false, .int .i64 0, .int .u64 0, .int .u64 0, .bool false], .int .i64 0, .int .i64 3]) (by simp [results, Tryz.results21, go_sem, q0, q1, q2, q3, q4, q5, q6, q7, q8]) rfl ⟨rfl, below_setTk b0 (Nat.le_refl _) _ _ _ _ _ _ _ _ _⟩

      · have HSU := Lib.hid hsuc
        have hnb : ¬ (2147483647 : Int) < 10 * ((dgv s k : Nat) : Int) + ((s[k].toNat : Int) - 48) := by omega
        have hsi : ((dgv s (k + 1) : Nat) : Int) = 10 * ((dgv s k : Nat) : Int) + ((s[k].toNat : Int) - 48) := by omega
        have HSI := Lib.hid hsi
        have hb2 : dgv s (k + 1) ≤ 2147483647 := by omega
        have HB2 := Lib.hid hb2
        clear hsuc hle hsi hbig hb2
        clear HSI HB2
        generalize dgv s k = D at *
        obtain ⟨E, hE⟩ : ∃ E, dgv s (k + 1) = E := ⟨_, rfl⟩
        have HE := Lib.hid hE
        rw [hE] at HSU
        have HSI : Hid ((E : Int) = 10 * (D : Int) + ((s[k].toNat : Int) - 48) ∧ E ≤ 2147483647) := Lib.hid (by have := HSU.out; omega)
        clear hE HSU
        go_wp2_with fail
        go_round
        case rel => exact ⟨k + 1, by omega, by rw [HE.out, HSI.out.1], rfl, by go_num, by rw [HE.out]; exact HSI.out.2⟩
        case measure => simp [intOf] <;> omega
    · obtain rfl : n = k := by omega
      exfalso
      rw [hV.out] at hvm
      omega
set_option maxRecDepth 100000 in
set_option maxHeartbeats 4000000 in
theorem numTok_big_at_many (s : ByteArray) (n : Nat) (hs : s.size ≤ 100000) (hns : n ≤ s.size) (h1 : 1 ≤ n) (hs00 : 0 < s.size) (hn : Hid (span isD s = n)) (hl : n = s.size) (ho : 2 ≤ n) (h48 : s[0].toNat ≠ 48) (W : Nat) (hw : Hid (span inW s = W)) (hW : W ≤ n) (V : Nat) (hV : Hid (dgv s n = V)) (hVm : 2147483647 < V) (w : World) :
    Calls Tryz.prog 21 #[.string s] w fun e w' => e = .returned (.tuple #[.agg #[.int .i64 0, .int .i64 0, .int .i64 0, .string ⟨#[]⟩, .bool false, .int .i64 0, .int .u64 0, .int .u64 0, .bool false], .int .i64 0, .int .i64 3]) ∧ Below w.heap.size w w' := by
  obtain ⟨i0, hi, hz0, hz1, hz2⟩ := infoB_parts
  have hdig : ∀ k (h : k < s.size), k < n → 48 ≤ s[k].toNat ∧ s[k].toNat ≤ 57 := fun k h hk => by
    have h2 := span_yes (f := isD) (s := s) (q := k) h (by rw [hn.out]; exact hk)
    simp only [isD, Bool.and_eq_true, decide_eq_true_eq] at h2
    exact h2
  have HDG := Lib.hid hdig
  clear hdig
  have hn0 : (0 : Int) ≤ (n : Int) := by omega
  have hn1 : (n : Int) ≤ (s.size : Int) := by omega
  have hs0 : 0 < s.size := by omega
  have hs0i : (0 : Int) < (s.size : Int) := by omega
  have hD := fun w1 => run_D s (by omega) w1
  rw [hn.out] at hD
  have HD := Lib.hid hD
  clear hD hn
  have hlt1 : ¬ (n : Int) < (s.size : Int) := by omega
  clear hl
  have h2i : (1 : Int) < (n : Int) := by omega
  have k48 : ((s[0].toNat : Int) == 48) = false := beq_eq_false_iff_ne.2 (by omega)
  have hR := fun w1 => run_W s (by omega) w1
  rw [hw.out] at hR
  have HR := Lib.hid hR
  clear hR hw
  have hWi : ¬ (n : Int) < (W : Int) := by omega
  go_enter Tryz.func21, Tryz.ntmps21
  go_upto_region 1 with fail
  obtain ⟨W1, hW1⟩ : ∃ W, W = w.alloc (Obj.cells #[Value.int IntKind.i64 0, Value.int IntKind.i64 0, Value.int IntKind.i64 0, Value.string { data := #[] }, Value.bool false, Value.int IntKind.i64 0, Value.int IntKind.u64 0, Value.int IntKind.u64 0, Value.bool false] 32) := ⟨_, rfl⟩
  have b0 : Below w.heap.size w W1 := by rw [hW1]; exact (Below.refl _ _).alloc (Nat.le_refl _) _
  have T0 : TB W1 w.heap.size 0 0 0 ⟨#[]⟩ false 0 0 0 false := by rw [hW1]; exact TB.new w 0 0 0 ⟨#[]⟩ false 0 0 0 false
  rw [← hW1]
  clear hW1
  have hlt := T0.lt
  go_upto_region 2 with (go_at_call 15; refine (HD.out _).mono ?_; rintro e w1 ⟨rfl, rfl⟩)
  clear HD
  go_upto_region 8 with (go_at_call 15; refine (HR.out _).mono ?_; rintro e w1 ⟨rfl, rfl⟩)
  clear HR
  go_wp2_with fail
  go_loop [9, 10, 71] (fun v o u => ∃ k : Nat, k ≤ n ∧ v = .int .i64 (dgv s k : Nat) ∧ o = .bool true ∧ u = .int .i64 k ∧ dgv s k ≤ 2147483647) (fun _ _ u => n - (intOf u).toNat)
  case atStart => exact ⟨0, Nat.zero_le _, rfl, rfl, rfl, by show 0 ≤ _; omega⟩
  case round =>
    obtain ⟨k, hk, rfl, rfl, rfl, hvm⟩ := hrel
    have hk0 : (0 : Int) ≤ (k : Int) := by omega
    by_cases hkn : k < n
    · have hks : k < s.size := by omega
      have hksi : (k : Int) < (s.size : Int) := by omega
      have hkni : (k : Int) < (n : Int) := by omega
      obtain ⟨d1, d2⟩ := HDG.out k hks hkn
      have hsuc : dgv s (k + 1) = 10 * dgv s k + (s[k].toNat - 48) := by rw [gb_at s k hks]; rfl
      have hle : dgv s (k + 1) ≤ dgv s n := by
        have := dgv_mono s (k + 1) (n - (k + 1))
        rwa [show k + 1 + (n - (k + 1)) = n by omega] at this
      have hsub : IntKind.u8.wrap ((s[k].toNat : Int) - 48) = (s[k].toNat : Int) - 48 := by
        unfold IntKind.wrap; simp [IntKind.bits, IntKind.signed]; omega
      by_cases hbig : 2147483647 < dgv s (k + 1)
      · have hbi : (2147483647 : Int) < 10 * ((dgv s k : Nat) : Int) + ((s[k].toNat : Int) - 48) := by omega
        clear hsuc hle hbig
        generalize dgv s k = D at *
        obtain ⟨x0, x1, x2, x3, x4, x5, x6, x7, x8, xf⟩ := id T0
        go_wp2_with fail
        obtain ⟨q0, q1, q2, q3, q4, q5, q6, q7, q8, -⟩ := T0.set 0 0 0 ⟨#[]⟩ false 0 0 0 false
        unfold setTk at q0 q1 q2 q3 q4 q5 q6 q7 q8
        exact bodyPost_ret (v := .tuple #[.agg #[.int .i64 0, .int .i64 0, .int .i64 0, .string ⟨#[]⟩, .bool false, .int .i64 0, .int .u64 0, .int .u64 0, .bool false], .int .i64 0, .int .i64 3]) (by simp [results, Tryz.results21, go_sem, q0, q1, q2, q3, q4, q5, q6, q7, q8]) rfl ⟨rfl, below_setTk b0 (Nat.le_refl _) _ _ _ _ _ _ _ _ _⟩

      · have HSU := Lib.hid hsuc
        have hnb : ¬ (2147483647 : Int) < 10 * ((dgv s k : Nat) : Int) + ((s[k].toNat : Int) - 48) := by omega
        have hsi : ((dgv s (k + 1) : Nat) : Int) = 10 * ((dgv s k : Nat) : Int) + ((s[k].toNat : Int) - 48) := by omega
        have HSI := Lib.hid hsi
        have hb2 : dgv s (k + 1) ≤ 2147483647 := by omega
        have HB2 := Lib.hid hb2
        clear hsuc hle hsi hbig hb2
        clear HSI HB2
        generalize dgv s k = D at *
        obtain ⟨E, hE⟩ : ∃ E, dgv s (k + 1) = E := ⟨_, rfl⟩
        have HE := Lib.hid hE
        rw [hE] at HSU
        have HSI : Hid ((E : Int) = 10 * (D : Int) + ((s[k].toNat : Int) - 48) ∧ E ≤ 2147483647) := Lib.hid (by have := HSU.out; omega)
        clear hE HSU
        go_wp2_with fail
        go_round
        case rel => exact ⟨k + 1, by omega, by rw [HE.out, HSI.out.1], rfl, by go_num, by rw [HE.out]; exact HSI.out.2⟩
        case measure => simp [intOf] <;> omega
    · obtain rfl : n = k := by omega
      exfalso
      rw [hV.out] at hvm
      omega
end Go.Proofs.YtfnkablbcalclaaGreatDoor
