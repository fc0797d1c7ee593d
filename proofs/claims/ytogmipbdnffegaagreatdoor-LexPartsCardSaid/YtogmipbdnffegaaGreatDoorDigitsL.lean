/- readDigits where a digit exceeds its room. -/
import Derived.Test.YtogmipbdnffegaaGreatDoorDigits
import Derived.Deep.DeepCutAuto
namespace Go.Proofs.YtogmipbdnffegaaGreatDoor
open Go Go.RowKit
set_option linter.unusedVariables false
set_option maxRecDepth 100000 in
set_option maxHeartbeats 1000000 in
theorem readDigits_xl (n size : Nat) (s : ByteArray) (h1 : 1 ≤ n) (h2 : n ≤ 64) (z1 : 1 ≤ size) (z2 : size ≤ 4) (hs : 0 < s.size) (hs2 : s.size ≤ 2000) (w : World) (hE : Hid (∃ k, k < s.size ∧ rdE n size s k = true)) (c0 : (s[0].toNat : Int) = 120) (hI : Hid (rdI n s = fl n 3)) :
    Calls Tryz.prog 93 #[.int .i64 n, .int .i64 size, .string s] w fun e w' => e = .returned (.tuple #[.agg #[.int .i64 0, .int .u64 0, .int .u64 0], .int .i64 3]) ∧ Below w.heap.size w w' := by
  go_enter Tryz.func93, Tryz.ntmps93
  go_wp2_with fail
  refine (of_ok n 0#64 _ h1 h2).mono ?_
  rintro e w1 ⟨rfl, hb1⟩
  obtain ⟨hc1, hf1⟩ := bcell hb1
  have z1_0 : w.heap.size < w1.heap.size := bsize hb1 (by first | omega | (simp <;> omega))
  go_wp2_with fail
  refine (all_x n _ h1 h2).mono ?_
  rintro e w2 ⟨rfl, hb2⟩
  obtain ⟨hc2, hf2⟩ := bcell hb2
  have z2_0 : w.heap.size < w2.heap.size := bsize hb2 (by first | omega | (simp <;> omega))
  have z2_1 : w1.heap.size < w2.heap.size := bsize hb2 (by first | omega | (simp <;> omega))
  go_wp2_with fail
  go_loopw [27] (fun i wr => ∃ k : Nat, k ≤ s.size ∧ i = .int .i64 k ∧ Hid (∀ i, i < k → rdE n size s i = false) ∧ RD w w.heap.size w1.heap.size n size s k wr) (fun i _ => s.size - (intOf i).toNat)
  case atStart => exact ⟨0, Nat.zero_le _, rfl, Lib.hid (fun i hi => absurd hi (Nat.not_lt_zero i)), ⟨by show Box _ _ _ (U (rdI n s).v) (U (rdI n s).x); rw [hI.out]; exact ((Box.new w1 _ _ _).below hb2).set _ _ _, ((((Box.new w _ _ _).below hb1).below ((Below.refl _ _).alloc (Nat.le_refl _) _)).below hb2).other (by omega) _ _ _, by (repeat (first | exact Below.refl _ _ | exact Nat.le_refl _ | refine below_drewN ?_ _ | refine Below.drew ?_ | refine Below.alloc ?_ ?_ _ | refine Below.setCell ?_ ?_ _ | refine below_step (by assumption) ?_ ?_)) <;> (first | omega | (simp <;> omega))⟩⟩
  case round =>
    obtain ⟨k, hk, rfl, hN, ⟨Bb, Br, hlo⟩⟩ := hrel
    have BB := Bb
    have BR := Br
    have lb := Bb.lt
    have lr := Br.lt
    obtain ⟨b0, b1, b2, bf⟩ := Bb
    obtain ⟨r0, r1, r2, rf⟩ := Br
    by_cases hlt : k < s.size
    · have hx : s.size - 1 - k < s.size := by omega
      have hd := dgt_at s k hx
      have hby : (s[s.size - 1 - k]'hx).toNat ≤ 255 := by have := (s[s.size - 1 - k]'hx).toNat_lt; omega
      have hks : (k : Int) * (size : Int) ≤ 8000 ∧ 0 ≤ (k : Int) * (size : Int) := by
        have h4 : k * size ≤ 2000 * 4 := Nat.mul_le_mul (by omega) z2
        have e4 : (k : Int) * (size : Int) = ((k * size : Nat) : Int) := by simp
        rw [e4]; omega
      obtain ⟨hks1, hks2⟩ := hks
      have HD := Lib.hid hd
      clear hd
      go_wp2_with fail
      rw [← HD.out] at hby ⊢
      refine (digitBits_any size _ z1 z2 hby _).mono ?_
      rintro e wa ⟨rfl, ha⟩
      obtain ⟨ac, af⟩ := bcell ha
      have ab : w1.heap.size < wa.heap.size := bsize ha lb
      have ar : w.heap.size < wa.heap.size := bsize ha lr
      go_wp2_with fail
      rcases Bool.eq_false_or_eq_true (excB (dbits size (dgt s k)) ((n : Int) - (k : Int) * (size : Int))) with he | he
      · refine (exceeds_any _ (dbits size (dgt s k)) ((n : Int) - (k : Int) * (size : Int)) (by omega) _).mono ?_
        rintro e wb ⟨rfl, hbb⟩
        obtain ⟨bc, bff⟩ := bcell hbb
        have br : w.heap.size < wb.heap.size := bsize hbb (by first | omega | (simp <;> omega))
        go_wp2_with fail
        obtain ⟨q0, q1, q2, _⟩ := (((BR.below ha).below ((Below.refl _ _).alloc (Nat.le_refl _) _)).below hbb).set 0 0 0
        exact bodyPost_ret (v := .tuple #[.agg #[.int .i64 0, .int .u64 0, .int .u64 0], .int .i64 3]) (by simp [results, Tryz.results93, go_sem, q0, q1, q2]) rfl ⟨rfl, by (repeat (first | exact Below.refl _ _ | exact Nat.le_refl _ | refine below_drewN ?_ _ | refine Below.drew ?_ | refine Below.alloc ?_ ?_ _ | refine Below.setCell ?_ ?_ _ | refine below_step (by assumption) ?_ ?_)) <;> (first | omega | (simp <;> omega))⟩
      have HNN : Hid (∀ i, i < k + 1 → rdE n size s i = false) := Lib.hid (fun i hi => by
        by_cases hik : i < k
        · exact hN.out i hik
        · obtain rfl : i = k := by omega
          exact he)
      refine (exceeds_any _ (dbits size (dgt s k)) ((n : Int) - (k : Int) * (size : Int)) (by omega) _).mono ?_
      rintro e wb ⟨rfl, hbb⟩
      obtain ⟨bc, bff⟩ := bcell hbb
      have bb : w1.heap.size < wb.heap.size := bsize hbb (by first | omega | (simp <;> omega))
      have br : w.heap.size < wb.heap.size := bsize hbb (by first | omega | (simp <;> omega))
      have bd : wa.heap.size < wb.heap.size := bsize hbb (by first | omega | (simp <;> omega))
      go_wp2_with fail
      clear he
      rw [show (k : Int) * (size : Int) = ((k * size : Nat) : Int) from by simp]
      refine (put_ok n size (k * size) (rdB n size s k) (dbits size (dgt s k)) _ (rdB_ok h1 h2 size s k) (dbits_ok z1 (by omega) _) h2 (by omega) (Nat.le_trans (Nat.mul_le_mul (show k ≤ 2000 by omega) z2) (by decide))).mono ?_
      rintro e wc ⟨rfl, hbc⟩
      obtain ⟨cc, cf⟩ := bcell hbc
      have cb : w1.heap.size < wc.heap.size := bsize hbc bb
      have cr : w.heap.size < wc.heap.size := bsize hbc br
      go_wp2_with fail
      have BC := (((BB.below ha).below ((Below.refl _ _).alloc (Nat.le_refl _) _)).below hbb).below hbc
      have RC := (((BR.below ha).below ((Below.refl _ _).alloc (Nat.le_refl _) _)).below hbb).below hbc
      go_roundw
      case rel => exact ⟨k + 1, by omega, by go_num, HNN, ⟨BC.set _ _ _, RC.other (by omega) _ _ _, by (repeat (first | exact Below.refl _ _ | exact Nat.le_refl _ | refine below_drewN ?_ _ | refine Below.drew ?_ | refine Below.alloc ?_ ?_ _ | refine Below.setCell ?_ ?_ _ | refine below_step (by assumption) ?_ ?_)) <;> (first | omega | (simp <;> omega))⟩⟩
      case measure => simp [intOf]; omega
    · exfalso
      obtain ⟨k0, hk0, hk1⟩ := hE.out
      have := hN.out k0 (by omega)
      rw [hk1] at this
      cases this
set_option maxRecDepth 100000 in
set_option maxHeartbeats 1000000 in
theorem readDigits_zl (n size : Nat) (s : ByteArray) (h1 : 1 ≤ n) (h2 : n ≤ 64) (z1 : 1 ≤ size) (z2 : size ≤ 4) (hs : 0 < s.size) (hs2 : s.size ≤ 2000) (w : World) (hE : Hid (∃ k, k < s.size ∧ rdE n size s k = true)) (c0 : (s[0].toNat : Int) = 122) (hI : Hid (rdI n s = fl n 2)) :
    Calls Tryz.prog 93 #[.int .i64 n, .int .i64 size, .string s] w fun e w' => e = .returned (.tuple #[.agg #[.int .i64 0, .int .u64 0, .int .u64 0], .int .i64 3]) ∧ Below w.heap.size w w' := by
  go_enter Tryz.func93, Tryz.ntmps93
  go_wp2_with fail
  refine (of_ok n 0#64 _ h1 h2).mono ?_
  rintro e w1 ⟨rfl, hb1⟩
  obtain ⟨hc1, hf1⟩ := bcell hb1
  have z1_0 : w.heap.size < w1.heap.size := bsize hb1 (by first | omega | (simp <;> omega))
  go_wp2_with fail
  refine (all_z n _ h1 h2).mono ?_
  rintro e w2 ⟨rfl, hb2⟩
  obtain ⟨hc2, hf2⟩ := bcell hb2
  have z2_0 : w.heap.size < w2.heap.size := bsize hb2 (by first | omega | (simp <;> omega))
  have z2_1 : w1.heap.size < w2.heap.size := bsize hb2 (by first | omega | (simp <;> omega))
  go_wp2_with fail
  go_loopw [27] (fun i wr => ∃ k : Nat, k ≤ s.size ∧ i = .int .i64 k ∧ Hid (∀ i, i < k → rdE n size s i = false) ∧ RD w w.heap.size w1.heap.size n size s k wr) (fun i _ => s.size - (intOf i).toNat)
  case atStart => exact ⟨0, Nat.zero_le _, rfl, Lib.hid (fun i hi => absurd hi (Nat.not_lt_zero i)), ⟨by show Box _ _ _ (U (rdI n s).v) (U (rdI n s).x); rw [hI.out]; exact ((Box.new w1 _ _ _).below hb2).set _ _ _, ((((Box.new w _ _ _).below hb1).below ((Below.refl _ _).alloc (Nat.le_refl _) _)).below hb2).other (by omega) _ _ _, by (repeat (first | exact Below.refl _ _ | exact Nat.le_refl _ | refine below_drewN ?_ _ | refine Below.drew ?_ | refine Below.alloc ?_ ?_ _ | refine Below.setCell ?_ ?_ _ | refine below_step (by assumption) ?_ ?_)) <;> (first | omega | (simp <;> omega))⟩⟩
  case round =>
    obtain ⟨k, hk, rfl, hN, ⟨Bb, Br, hlo⟩⟩ := hrel
    have BB := Bb
    have BR := Br
    have lb := Bb.lt
    have lr := Br.lt
    obtain ⟨b0, b1, b2, bf⟩ := Bb
    obtain ⟨r0, r1, r2, rf⟩ := Br
    by_cases hlt : k < s.size
    · have hx : s.size - 1 - k < s.size := by omega
      have hd := dgt_at s k hx
      have hby : (s[s.size - 1 - k]'hx).toNat ≤ 255 := by have := (s[s.size - 1 - k]'hx).toNat_lt; omega
      have hks : (k : Int) * (size : Int) ≤ 8000 ∧ 0 ≤ (k : Int) * (size : Int) := by
        have h4 : k * size ≤ 2000 * 4 := Nat.mul_le_mul (by omega) z2
        have e4 : (k : Int) * (size : Int) = ((k * size : Nat) : Int) := by simp
        rw [e4]; omega
      obtain ⟨hks1, hks2⟩ := hks
      have HD := Lib.hid hd
      clear hd
      go_wp2_with fail
      rw [← HD.out] at hby ⊢
      refine (digitBits_any size _ z1 z2 hby _).mono ?_
      rintro e wa ⟨rfl, ha⟩
      obtain ⟨ac, af⟩ := bcell ha
      have ab : w1.heap.size < wa.heap.size := bsize ha lb
      have ar : w.heap.size < wa.heap.size := bsize ha lr
      go_wp2_with fail
      rcases Bool.eq_false_or_eq_true (excB (dbits size (dgt s k)) ((n : Int) - (k : Int) * (size : Int))) with he | he
      · refine (exceeds_any _ (dbits size (dgt s k)) ((n : Int) - (k : Int) * (size : Int)) (by omega) _).mono ?_
        rintro e wb ⟨rfl, hbb⟩
        obtain ⟨bc, bff⟩ := bcell hbb
        have br : w.heap.size < wb.heap.size := bsize hbb (by first | omega | (simp <;> omega))
        go_wp2_with fail
        obtain ⟨q0, q1, q2, _⟩ := (((BR.below ha).below ((Below.refl _ _).alloc (Nat.le_refl _) _)).below hbb).set 0 0 0
        exact bodyPost_ret (v := .tuple #[.agg #[.int .i64 0, .int .u64 0, .int .u64 0], .int .i64 3]) (by simp [results, Tryz.results93, go_sem, q0, q1, q2]) rfl ⟨rfl, by (repeat (first | exact Below.refl _ _ | exact Nat.le_refl _ | refine below_drewN ?_ _ | refine Below.drew ?_ | refine Below.alloc ?_ ?_ _ | refine Below.setCell ?_ ?_ _ | refine below_step (by assumption) ?_ ?_)) <;> (first | omega | (simp <;> omega))⟩
      have HNN : Hid (∀ i, i < k + 1 → rdE n size s i = false) := Lib.hid (fun i hi => by
        by_cases hik : i < k
        · exact hN.out i hik
        · obtain rfl : i = k := by omega
          exact he)
      refine (exceeds_any _ (dbits size (dgt s k)) ((n : Int) - (k : Int) * (size : Int)) (by omega) _).mono ?_
      rintro e wb ⟨rfl, hbb⟩
      obtain ⟨bc, bff⟩ := bcell hbb
      have bb : w1.heap.size < wb.heap.size := bsize hbb (by first | omega | (simp <;> omega))
      have br : w.heap.size < wb.heap.size := bsize hbb (by first | omega | (simp <;> omega))
      have bd : wa.heap.size < wb.heap.size := bsize hbb (by first | omega | (simp <;> omega))
      go_wp2_with fail
      clear he
      rw [show (k : Int) * (size : Int) = ((k * size : Nat) : Int) from by simp]
      refine (put_ok n size (k * size) (rdB n size s k) (dbits size (dgt s k)) _ (rdB_ok h1 h2 size s k) (dbits_ok z1 (by omega) _) h2 (by omega) (Nat.le_trans (Nat.mul_le_mul (show k ≤ 2000 by omega) z2) (by decide))).mono ?_
      rintro e wc ⟨rfl, hbc⟩
      obtain ⟨cc, cf⟩ := bcell hbc
      have cb : w1.heap.size < wc.heap.size := bsize hbc bb
      have cr : w.heap.size < wc.heap.size := bsize hbc br
      go_wp2_with fail
      have BC := (((BB.below ha).below ((Below.refl _ _).alloc (Nat.le_refl _) _)).below hbb).below hbc
      have RC := (((BR.below ha).below ((Below.refl _ _).alloc (Nat.le_refl _) _)).below hbb).below hbc
      go_roundw
      case rel => exact ⟨k + 1, by omega, by go_num, HNN, ⟨BC.set _ _ _, RC.other (by omega) _ _ _, by (repeat (first | exact Below.refl _ _ | exact Nat.le_refl _ | refine below_drewN ?_ _ | refine Below.drew ?_ | refine Below.alloc ?_ ?_ _ | refine Below.setCell ?_ ?_ _ | refine below_step (by assumption) ?_ ?_)) <;> (first | omega | (simp <;> omega))⟩⟩
      case measure => simp [intOf]; omega
    · exfalso
      obtain ⟨k0, hk0, hk1⟩ := hE.out
      have := hN.out k0 (by omega)
      rw [hk1] at this
      cases this
set_option maxRecDepth 100000 in
set_option maxHeartbeats 1000000 in
theorem readDigits_dl (n size : Nat) (s : ByteArray) (h1 : 1 ≤ n) (h2 : n ≤ 64) (z1 : 1 ≤ size) (z2 : size ≤ 4) (hs : 0 < s.size) (hs2 : s.size ≤ 2000) (w : World) (hE : Hid (∃ k, k < s.size ∧ rdE n size s k = true)) (c0 : ((s[0].toNat : Int) == 120) = false) (c1 : ((s[0].toNat : Int) == 122) = false) (hI : Hid (rdI n s = kv n 0#64)) :
    Calls Tryz.prog 93 #[.int .i64 n, .int .i64 size, .string s] w fun e w' => e = .returned (.tuple #[.agg #[.int .i64 0, .int .u64 0, .int .u64 0], .int .i64 3]) ∧ Below w.heap.size w w' := by
  go_enter Tryz.func93, Tryz.ntmps93
  go_wp2_with fail
  refine (of_ok n 0#64 _ h1 h2).mono ?_
  rintro e w1 ⟨rfl, hb1⟩
  obtain ⟨hc1, hf1⟩ := bcell hb1
  have z1_0 : w.heap.size < w1.heap.size := bsize hb1 (by first | omega | (simp <;> omega))
  go_wp2_with fail
  go_loopw [27] (fun i wr => ∃ k : Nat, k ≤ s.size ∧ i = .int .i64 k ∧ Hid (∀ i, i < k → rdE n size s i = false) ∧ RD w w.heap.size w1.heap.size n size s k wr) (fun i _ => s.size - (intOf i).toNat)
  case atStart => exact ⟨0, Nat.zero_le _, rfl, Lib.hid (fun i hi => absurd hi (Nat.not_lt_zero i)), ⟨by show Box _ _ _ (U (rdI n s).v) (U (rdI n s).x); rw [hI.out]; exact Box.new w1 _ _ _, (((Box.new w _ _ _).below hb1).below ((Below.refl _ _).alloc (Nat.le_refl _) _)), by (repeat (first | exact Below.refl _ _ | exact Nat.le_refl _ | refine below_drewN ?_ _ | refine Below.drew ?_ | refine Below.alloc ?_ ?_ _ | refine Below.setCell ?_ ?_ _ | refine below_step (by assumption) ?_ ?_)) <;> (first | omega | (simp <;> omega))⟩⟩
  case round =>
    obtain ⟨k, hk, rfl, hN, ⟨Bb, Br, hlo⟩⟩ := hrel
    have BB := Bb
    have BR := Br
    have lb := Bb.lt
    have lr := Br.lt
    obtain ⟨b0, b1, b2, bf⟩ := Bb
    obtain ⟨r0, r1, r2, rf⟩ := Br
    by_cases hlt : k < s.size
    · have hx : s.size - 1 - k < s.size := by omega
      have hd := dgt_at s k hx
      have hby : (s[s.size - 1 - k]'hx).toNat ≤ 255 := by have := (s[s.size - 1 - k]'hx).toNat_lt; omega
      have hks : (k : Int) * (size : Int) ≤ 8000 ∧ 0 ≤ (k : Int) * (size : Int) := by
        have h4 : k * size ≤ 2000 * 4 := Nat.mul_le_mul (by omega) z2
        have e4 : (k : Int) * (size : Int) = ((k * size : Nat) : Int) := by simp
        rw [e4]; omega
      obtain ⟨hks1, hks2⟩ := hks
      have HD := Lib.hid hd
      clear hd
      go_wp2_with fail
      rw [← HD.out] at hby ⊢
      refine (digitBits_any size _ z1 z2 hby _).mono ?_
      rintro e wa ⟨rfl, ha⟩
      obtain ⟨ac, af⟩ := bcell ha
      have ab : w1.heap.size < wa.heap.size := bsize ha lb
      have ar : w.heap.size < wa.heap.size := bsize ha lr
      go_wp2_with fail
      rcases Bool.eq_false_or_eq_true (excB (dbits size (dgt s k)) ((n : Int) - (k : Int) * (size : Int))) with he | he
      · refine (exceeds_any _ (dbits size (dgt s k)) ((n : Int) - (k : Int) * (size : Int)) (by omega) _).mono ?_
        rintro e wb ⟨rfl, hbb⟩
        obtain ⟨bc, bff⟩ := bcell hbb
        have br : w.heap.size < wb.heap.size := bsize hbb (by first | omega | (simp <;> omega))
        go_wp2_with fail
        obtain ⟨q0, q1, q2, _⟩ := (((BR.below ha).below ((Below.refl _ _).alloc (Nat.le_refl _) _)).below hbb).set 0 0 0
        exact bodyPost_ret (v := .tuple #[.agg #[.int .i64 0, .int .u64 0, .int .u64 0], .int .i64 3]) (by simp [results, Tryz.results93, go_sem, q0, q1, q2]) rfl ⟨rfl, by (repeat (first | exact Below.refl _ _ | exact Nat.le_refl _ | refine below_drewN ?_ _ | refine Below.drew ?_ | refine Below.alloc ?_ ?_ _ | refine Below.setCell ?_ ?_ _ | refine below_step (by assumption) ?_ ?_)) <;> (first | omega | (simp <;> omega))⟩
      have HNN : Hid (∀ i, i < k + 1 → rdE n size s i = false) := Lib.hid (fun i hi => by
        by_cases hik : i < k
        · exact hN.out i hik
        · obtain rfl : i = k := by omega
          exact he)
      refine (exceeds_any _ (dbits size (dgt s k)) ((n : Int) - (k : Int) * (size : Int)) (by omega) _).mono ?_
      rintro e wb ⟨rfl, hbb⟩
      obtain ⟨bc, bff⟩ := bcell hbb
      have bb : w1.heap.size < wb.heap.size := bsize hbb (by first | omega | (simp <;> omega))
      have br : w.heap.size < wb.heap.size := bsize hbb (by first | omega | (simp <;> omega))
      have bd : wa.heap.size < wb.heap.size := bsize hbb (by first | omega | (simp <;> omega))
      go_wp2_with fail
      clear he
      rw [show (k : Int) * (size : Int) = ((k * size : Nat) : Int) from by simp]
      refine (put_ok n size (k * size) (rdB n size s k) (dbits size (dgt s k)) _ (rdB_ok h1 h2 size s k) (dbits_ok z1 (by omega) _) h2 (by omega) (Nat.le_trans (Nat.mul_le_mul (show k ≤ 2000 by omega) z2) (by decide))).mono ?_
      rintro e wc ⟨rfl, hbc⟩
      obtain ⟨cc, cf⟩ := bcell hbc
      have cb : w1.heap.size < wc.heap.size := bsize hbc bb
      have cr : w.heap.size < wc.heap.size := bsize hbc br
      go_wp2_with fail
      have BC := (((BB.below ha).below ((Below.refl _ _).alloc (Nat.le_refl _) _)).below hbb).below hbc
      have RC := (((BR.below ha).below ((Below.refl _ _).alloc (Nat.le_refl _) _)).below hbb).below hbc
      go_roundw
      case rel => exact ⟨k + 1, by omega, by go_num, HNN, ⟨BC.set _ _ _, RC.other (by omega) _ _ _, by (repeat (first | exact Below.refl _ _ | exact Nat.le_refl _ | refine below_drewN ?_ _ | refine Below.drew ?_ | refine Below.alloc ?_ ?_ _ | refine Below.setCell ?_ ?_ _ | refine below_step (by assumption) ?_ ?_)) <;> (first | omega | (simp <;> omega))⟩⟩
      case measure => simp [intOf]; omega
    · exfalso
      obtain ⟨k0, hk0, hk1⟩ := hE.out
      have := hN.out k0 (by omega)
      rw [hk1] at this
      cases this

theorem readDigits_large (n size : Nat) (s : ByteArray) (h1 : 1 ≤ n) (h2 : n ≤ 64) (z1 : 1 ≤ size) (z2 : size ≤ 4) (hs : 0 < s.size) (hs2 : s.size ≤ 2000) (w : World) (hE : ∃ k, k < s.size ∧ rdE n size s k = true) :
    Calls Tryz.prog 93 #[.int .i64 n, .int .i64 size, .string s] w fun e w' => e = .returned (.tuple #[.agg #[.int .i64 0, .int .u64 0, .int .u64 0], .int .i64 3]) ∧ Below w.heap.size w w' := by
  have hf := dgt_first s hs
  by_cases a : s[0].toNat = 120
  · exact readDigits_xl n size s h1 h2 z1 z2 hs hs2 w (Lib.hid hE) (by omega) (Lib.hid (by unfold rdI; rw [hf, if_pos a]))
  · by_cases b : s[0].toNat = 122
    · exact readDigits_zl n size s h1 h2 z1 z2 hs hs2 w (Lib.hid hE) (by omega) (Lib.hid (by unfold rdI; rw [hf, if_neg a, if_pos b]))
    · exact readDigits_dl n size s h1 h2 z1 z2 hs hs2 w (Lib.hid hE) (beq_eq_false_iff_ne.2 (by omega)) (beq_eq_false_iff_ne.2 (by omega)) (Lib.hid (by unfold rdI; rw [hf, if_neg a, if_neg b]))
end Go.Proofs.YtogmipbdnffegaaGreatDoor
