/- readDecimal of any digits: x, z, a number that fits, one that doesn't.
   The number that decimal digits spell, and what the parse of it says. -/
import Derived.Test.YtgmgmkhcadimjaaDoorApart
import Derived.Test.YtgmgmkhcadimjaaDoorShelf
import Derived.Lib.SmallJoins
import Derived.Deep.DeepCutAuto
import Derived.Lib.ParseIntB
namespace Go.Proofs.YtgmgmkhcadimjaaDoor
open Go Go.RowKit
set_option linter.unusedVariables false
theorem ne_bytes_ {s t : ByteArray} (h : s ≠ t) : (s.toList == t.toList) = false := by
  rw [ByteArray.toList_eq, ByteArray.toList_eq, beq_eq_false_iff_ne]; exact fun e => h (ByteArray.ext (Array.toList_inj.1 e))
set_option maxRecDepth 100000 in
set_option maxHeartbeats 1000000 in
theorem decP_x (n : Nat) (h1 : 1 ≤ n) (h2 : n ≤ 64) (w : World) :
    Calls Tryd.prog 13 #[.int .i64 n, .string ⟨#[120]⟩] w fun e w' => e = .returned (.tuple #[.agg #[.int .i64 n, .int .u64 (U (fl n 3).v), .int .u64 (U (fl n 3).x)], .int .i64 0]) ∧ Below w.heap.size w w' := by
  go_enter Tryd.func13, Tryd.ntmps13
  go_wp2_with fail
  refine (all_x n _ h1 h2).mono ?_
  rintro e w1 ⟨rfl, hb1⟩
  obtain ⟨hc1, hf1⟩ := bcell hb1
  have z1 : w.heap.size < w1.heap.size := bsize hb1 (by simp)
  have b2 : Below w.heap.size w w1 := ((Below.refl _ _).alloc (Nat.le_refl _) _).trans (hb1.mono (by simp))
  go_wp2_with fail
  exact bodyPost_ret (v := .tuple #[.agg #[.int .i64 n, .int .u64 (U (fl n 3).v), .int .u64 (U (fl n 3).x)], .int .i64 0]) (by simp [results, Tryd.results13, go_sem, hc1]) rfl ⟨rfl, by (repeat (first | (with_reducible exact b2) | (with_reducible exact Nat.le_refl _) | (with_reducible refine Below.setCell ?_ ?_ _) | (with_reducible refine Below.alloc ?_ ?_ _))) <;> (first | omega | (simp <;> omega))⟩
set_option maxRecDepth 100000 in
set_option maxHeartbeats 1000000 in
theorem decP_z (n : Nat) (h1 : 1 ≤ n) (h2 : n ≤ 64) (w : World) :
    Calls Tryd.prog 13 #[.int .i64 n, .string ⟨#[122]⟩] w fun e w' => e = .returned (.tuple #[.agg #[.int .i64 n, .int .u64 (U (fl n 2).v), .int .u64 (U (fl n 2).x)], .int .i64 0]) ∧ Below w.heap.size w w' := by
  go_enter Tryd.func13, Tryd.ntmps13
  go_wp2_with fail
  refine (all_z n _ h1 h2).mono ?_
  rintro e w1 ⟨rfl, hb1⟩
  obtain ⟨hc1, hf1⟩ := bcell hb1
  have z1 : w.heap.size < w1.heap.size := bsize hb1 (by simp)
  have b2 : Below w.heap.size w w1 := ((Below.refl _ _).alloc (Nat.le_refl _) _).trans (hb1.mono (by simp))
  go_wp2_with fail
  exact bodyPost_ret (v := .tuple #[.agg #[.int .i64 n, .int .u64 (U (fl n 2).v), .int .u64 (U (fl n 2).x)], .int .i64 0]) (by simp [results, Tryd.results13, go_sem, hc1]) rfl ⟨rfl, by (repeat (first | (with_reducible exact b2) | (with_reducible exact Nat.le_refl _) | (with_reducible refine Below.setCell ?_ ?_ _) | (with_reducible refine Below.alloc ?_ ?_ _))) <;> (first | omega | (simp <;> omega))⟩
set_option maxRecDepth 100000 in
set_option maxHeartbeats 1000000 in
theorem decP_fits (n u : Nat) (s : ByteArray) (h1 : 1 ≤ n) (h2 : n ≤ 64) (hs : s.size ≤ 1000) (hx : s ≠ ⟨#[120]⟩) (hz : s ≠ ⟨#[122]⟩) (hu : Lib.parseUintB 64 s.data.toList = .ok u) (hu64 : u < 2 ^ 64) (hg : (BitVec.ofNat 64 u &&& ~~~msk n != 0#64) = false) (w : World) :
    Calls Tryd.prog 13 #[.int .i64 n, .string s] w fun e w' => e = .returned (.tuple #[.agg #[.int .i64 n, .int .u64 (U (kv n (BitVec.ofNat 64 u)).v), .int .u64 (U (kv n (BitVec.ofNat 64 u)).x)], .int .i64 0]) ∧ Below w.heap.size w w' := by
  have hx1 := ne_bytes_ hx
  have hz1 := ne_bytes_ hz
  rw [show (⟨#[120]⟩ : ByteArray).toList = [120] from by rw [ByteArray.toList_eq]] at hx1
  rw [show (⟨#[122]⟩ : ByteArray).toList = [122] from by rw [ByteArray.toList_eq]] at hz1
  have hx2 : ¬ s.toList = [120] := beq_eq_false_iff_ne.1 hx1
  have hz2 : ¬ s.toList = [122] := beq_eq_false_iff_ne.1 hz1
  go_enter Tryd.func13, Tryd.ntmps13
  go_wp2_with fail
  refine (Tryd.strconv_ParseUint_10_at64_ok _ (by omega) u hu _).mono ?_
  rintro e w1 ⟨rfl, hw1⟩
  have hb1 : Below (w.alloc (Obj.cells #[Value.int IntKind.i64 0, Value.int IntKind.u64 0, Value.int IntKind.u64 0] 24)).heap.size (w.alloc (Obj.cells #[Value.int IntKind.i64 0, Value.int IntKind.u64 0, Value.int IntKind.u64 0] 24)) w1 := by
    rcases hw1 with rfl | rfl
    · exact Below.refl _ _
    · exact Go.Joins.below_bytesWorld _ _ _ _ (Nat.le_refl _)
  clear hw1
  obtain ⟨hc1, hf1⟩ := bcell hb1
  have z1 : w.heap.size < w1.heap.size := bsize hb1 (by simp)
  have b1 : Below w.heap.size w w1 := ((Below.refl _ _).alloc (Nat.le_refl _) _).trans (hb1.mono (by simp))
  have hub : (u : Int) = U (BitVec.ofNat 64 u) := by unfold U; rw [BitVec.toNat_ofNat, Nat.mod_eq_of_lt hu64]
  rw [hub]
  clear hub hb1
  generalize hB : BitVec.ofNat 64 u = b at hg ⊢
  go_wp2_with fail
  refine (mask_any n h2 _).mono ?_
  rintro e w' ⟨rfl, rfl⟩
  go_wp2_with fail
  refine (of_ok n b _ h1 h2).mono ?_
  rintro e w2 ⟨rfl, hb2⟩
  obtain ⟨hc2, hf2⟩ := bcell hb2
  have z2 : w.heap.size < w2.heap.size := bsize hb2 z1
  have b2 : Below w.heap.size w w2 := b1.trans (hb2.mono b1.size)
  go_wp2_with fail
  exact bodyPost_ret (v := .tuple #[.agg #[.int .i64 n, .int .u64 (U (kv n b).v), .int .u64 (U (kv n b).x)], .int .i64 0]) (by simp [results, Tryd.results13, go_sem, hc2, hc1, z1]) rfl ⟨by rw [hB], by (repeat (first | (with_reducible exact b2) | (with_reducible exact Nat.le_refl _) | (with_reducible refine Below.setCell ?_ ?_ _) | (with_reducible refine Below.alloc ?_ ?_ _))) <;> (first | omega | (simp <;> omega))⟩
set_option maxRecDepth 100000 in
set_option maxHeartbeats 1000000 in
theorem decP_large (n u : Nat) (s : ByteArray) (h1 : 1 ≤ n) (h2 : n ≤ 64) (hs : s.size ≤ 1000) (hx : s ≠ ⟨#[120]⟩) (hz : s ≠ ⟨#[122]⟩) (hu : Lib.parseUintB 64 s.data.toList = .ok u) (hu64 : u < 2 ^ 64) (hg : (BitVec.ofNat 64 u &&& ~~~msk n != 0#64) = true) (w : World) :
    Calls Tryd.prog 13 #[.int .i64 n, .string s] w fun e w' => e = .returned (.tuple #[.agg #[.int .i64 0, .int .u64 0, .int .u64 0], .int .i64 3]) ∧ Below w.heap.size w w' := by
  have hx1 := ne_bytes_ hx
  have hz1 := ne_bytes_ hz
  rw [show (⟨#[120]⟩ : ByteArray).toList = [120] from by rw [ByteArray.toList_eq]] at hx1
  rw [show (⟨#[122]⟩ : ByteArray).toList = [122] from by rw [ByteArray.toList_eq]] at hz1
  have hx2 : ¬ s.toList = [120] := beq_eq_false_iff_ne.1 hx1
  have hz2 : ¬ s.toList = [122] := beq_eq_false_iff_ne.1 hz1
  go_enter Tryd.func13, Tryd.ntmps13
  go_wp2_with fail
  refine (Tryd.strconv_ParseUint_10_at64_ok _ (by omega) u hu _).mono ?_
  rintro e w1 ⟨rfl, hw1⟩
  have hb1 : Below (w.alloc (Obj.cells #[Value.int IntKind.i64 0, Value.int IntKind.u64 0, Value.int IntKind.u64 0] 24)).heap.size (w.alloc (Obj.cells #[Value.int IntKind.i64 0, Value.int IntKind.u64 0, Value.int IntKind.u64 0] 24)) w1 := by
    rcases hw1 with rfl | rfl
    · exact Below.refl _ _
    · exact Go.Joins.below_bytesWorld _ _ _ _ (Nat.le_refl _)
  clear hw1
  obtain ⟨hc1, hf1⟩ := bcell hb1
  have z1 : w.heap.size < w1.heap.size := bsize hb1 (by simp)
  have b1 : Below w.heap.size w w1 := ((Below.refl _ _).alloc (Nat.le_refl _) _).trans (hb1.mono (by simp))
  have hub : (u : Int) = U (BitVec.ofNat 64 u) := by unfold U; rw [BitVec.toNat_ofNat, Nat.mod_eq_of_lt hu64]
  rw [hub]
  clear hub hb1
  generalize hB : BitVec.ofNat 64 u = b at hg ⊢
  go_wp2_with fail
  refine (mask_any n h2 _).mono ?_
  rintro e w' ⟨rfl, rfl⟩
  go_wp2_with fail
  have b2 := b1
  exact bodyPost_ret (v := .tuple #[.agg #[.int .i64 0, .int .u64 0, .int .u64 0], .int .i64 3]) (by simp [results, Tryd.results13, go_sem, hc1]) rfl ⟨rfl, by (repeat (first | (with_reducible exact b2) | (with_reducible exact Nat.le_refl _) | (with_reducible refine Below.setCell ?_ ?_ _) | (with_reducible refine Below.alloc ?_ ?_ _))) <;> (first | omega | (simp <;> omega))⟩
set_option maxRecDepth 100000 in
set_option maxHeartbeats 1000000 in
theorem decP_range (n : Nat) (s : ByteArray) (hs : s.size ≤ 1000) (hx : s ≠ ⟨#[120]⟩) (hz : s ≠ ⟨#[122]⟩) (hu : Lib.parseUintB 64 s.data.toList = .range) (ev : Value) (w : World) (hv : w.cell? ⟨2, 0, none⟩ = some ev) (hev : ev = .nilIface ∨ ∃ te pe, ev = .iface te pe) :
    Calls Tryd.prog 13 #[.int .i64 n, .string s] w fun e w' => e = .returned (.tuple #[.agg #[.int .i64 0, .int .u64 0, .int .u64 0], .int .i64 3]) ∧ Below w.heap.size w w' := by
  have hx1 := ne_bytes_ hx
  have hz1 := ne_bytes_ hz
  rw [show (⟨#[120]⟩ : ByteArray).toList = [120] from by rw [ByteArray.toList_eq]] at hx1
  rw [show (⟨#[122]⟩ : ByteArray).toList = [122] from by rw [ByteArray.toList_eq]] at hz1
  have hx2 : ¬ s.toList = [120] := beq_eq_false_iff_ne.1 hx1
  have hz2 : ¬ s.toList = [122] := beq_eq_false_iff_ne.1 hz1
  go_enter Tryd.func13, Tryd.ntmps13
  go_wp2_with fail
  refine (Tryd.strconv_ParseUint_10_at64_range _ (by omega) hu ev _ ((((Below.refl w.heap.size w).alloc (Nat.le_refl _) _).cell (p := ⟨2, 0, none⟩) (World.block_lt_of_cell? w _ hv)).trans hv) hev).mono ?_
  rintro e w1 ⟨N, rfl, -, -, hb1⟩
  obtain ⟨hc1, hf1⟩ := bcell hb1
  have z1 : w.heap.size < w1.heap.size := bsize hb1 (by simp)
  have b2 : Below w.heap.size w w1 := ((Below.refl _ _).alloc (Nat.le_refl _) _).trans (hb1.mono (by simp))
  clear hv hev
  go_wp2_with fail
  exact bodyPost_ret (v := .tuple #[.agg #[.int .i64 0, .int .u64 0, .int .u64 0], .int .i64 3]) (by simp [results, Tryd.results13, go_sem, hc1]) rfl ⟨rfl, by (repeat (first | (with_reducible exact b2) | (with_reducible exact Nat.le_refl _) | (with_reducible refine Below.setCell ?_ ?_ _) | (with_reducible refine Below.alloc ?_ ?_ _))) <;> (first | omega | (simp <;> omega))⟩
end Go.Proofs.YtgmgmkhcadimjaaDoor
namespace Go.Proofs.YtgmgmkhcadimjaaDoor
open Go Go.RowKit
set_option linter.unusedVariables false
/-- the number of digits after a number -/
def dval : Nat → List UInt8 → Nat
  | a, [] => a
  | a, c :: r => dval (a * 10 + (c.toNat - 48)) r
theorem dval_ge : ∀ (l : List UInt8) (a : Nat), a ≤ dval a l := by
  intro l
  induction l with
  | nil => intro a; exact Nat.le_refl _
  | cons c r ih => intro a; exact Nat.le_trans (by omega) (ih (a * 10 + (c.toNat - 48)))
theorem parseM_dec (M : Nat) (hM : M ≤ 18446744073709551615) : ∀ (l : List UInt8) (a : Nat), a ≤ M → (∀ c ∈ l, 48 ≤ c.toNat ∧ c.toNat ≤ 57) →
    Lib.parseUintM M a l = if dval a l ≤ M then .ok (dval a l) else .range := by
  intro l
  induction l with
  | nil => intro a ha _; show Lib.NumEnd.ok a = if a ≤ M then Lib.NumEnd.ok a else Lib.NumEnd.range; rw [if_pos ha]
  | cons c r ih =>
    intro a ha hc
    have h0 := hc c (by simp)
    show (if 48 ≤ c.toNat ∧ c.toNat ≤ 57 then (if 1844674407370955162 ≤ a then Lib.NumEnd.range else if M < a * 10 + (c.toNat - 48) then Lib.NumEnd.range else Lib.parseUintM M (a * 10 + (c.toNat - 48)) r) else Lib.NumEnd.syntax) = if dval (a * 10 + (c.toNat - 48)) r ≤ M then Lib.NumEnd.ok (dval (a * 10 + (c.toNat - 48)) r) else Lib.NumEnd.range
    rw [if_pos h0]
    have hge := dval_ge r (a * 10 + (c.toNat - 48))
    by_cases h1 : 1844674407370955162 ≤ a
    · rw [if_pos h1, if_neg (by omega)]
    · rw [if_neg h1]
      by_cases h2 : M < a * 10 + (c.toNat - 48)
      · rw [if_pos h2, if_neg (by omega)]
      · rw [if_neg h2]
        exact ih _ (by omega) (fun d hd => hc d (by simp [hd]))
theorem parse_dec {l : List UInt8} (hl : l ≠ []) (hc : ∀ c ∈ l, 48 ≤ c.toNat ∧ c.toNat ≤ 57) :
    Lib.parseUintB 64 l = if dval 0 l < 2 ^ 64 then .ok (dval 0 l) else .range := by
  unfold Lib.parseUintB
  rw [if_neg hl, parseM_dec _ (by decide) l 0 (by omega) hc]
  by_cases h : dval 0 l < 2 ^ 64
  · rw [if_pos h, if_pos (by omega)]
  · rw [if_neg h, if_neg (by omega)]
/-- a number has a bit above the width: it isn't below two to the width -/
theorem over_iff {n u : Nat} (h2 : n ≤ 64) (hu : u < 2 ^ 64) : (BitVec.ofNat 64 u &&& ~~~msk n != 0#64) = decide (2 ^ n ≤ u) := by
  rw [Bool.eq_iff_iff, bne_iff_ne, decide_eq_true_eq]
  have hs := sub_iff h2 (BitVec.ofNat 64 u)
  rw [ne_eq, ← hs]
  constructor
  · intro h
    rcases Nat.lt_or_ge u (2 ^ n) with h' | h'
    · exfalso
      apply h
      intro i hi
      rw [← BitVec.testBit_toNat, BitVec.toNat_ofNat, Nat.mod_eq_of_lt hu]
      exact Nat.testBit_lt_two_pow (Nat.lt_of_lt_of_le h' (Nat.pow_le_pow_right (by decide) hi))
    · exact h'
  · intro h hsub
    obtain ⟨i, hi, hb⟩ := Nat.exists_ge_and_testBit_of_ge_two_pow h
    have := hsub i hi
    rw [← BitVec.testBit_toNat, BitVec.toNat_ofNat, Nat.mod_eq_of_lt hu, hb] at this
    cases this
set_option maxRecDepth 100000 in
/-- readDecimal of decimal digits, whatever they spell -/
theorem decP_any (n : Nat) (s : ByteArray) (h1 : 1 ≤ n) (h2 : n ≤ 64) (h0 : s.data.toList ≠ []) (hs : s.size ≤ 1000) (hc : ∀ c ∈ s.data.toList, 48 ≤ c.toNat ∧ c.toNat ≤ 57) (ev : Value) (w : World) (hv : w.cell? ⟨2, 0, none⟩ = some ev) (hev : ev = .nilIface ∨ ∃ te pe, ev = .iface te pe) :
    Calls Tryd.prog 13 #[.int .i64 n, .string s] w fun e w' => e = (if dval 0 s.data.toList < 2 ^ n then .returned (.tuple #[.agg #[.int .i64 n, .int .u64 (U (kv n (BitVec.ofNat 64 (dval 0 s.data.toList))).v), .int .u64 (U (kv n (BitVec.ofNat 64 (dval 0 s.data.toList))).x)], .int .i64 0]) else .returned (.tuple #[.agg #[.int .i64 0, .int .u64 0, .int .u64 0], .int .i64 3])) ∧ Below w.heap.size w w' := by
  have hx : s ≠ ⟨#[120]⟩ := by rintro rfl; have := hc 120 (by simp); simp at this
  have hz : s ≠ ⟨#[122]⟩ := by rintro rfl; have := hc 122 (by simp); simp at this
  have hp := parse_dec h0 hc
  have hpow : 2 ^ n ≤ 2 ^ 64 := Nat.pow_le_pow_right (by decide) h2
  generalize hu : dval 0 s.data.toList = u at hp ⊢
  by_cases h64 : u < 2 ^ 64
  · rw [if_pos h64] at hp
    have ho := over_iff h2 h64
    by_cases h : u < 2 ^ n
    · rw [if_pos h]
      exact decP_fits n u s h1 h2 hs hx hz hp h64 (by rw [ho, decide_eq_false_iff_not]; omega) w
    · rw [if_neg h]
      exact decP_large n u s h1 h2 hs hx hz hp h64 (by rw [ho, decide_eq_true_eq]; omega) w
  · rw [if_neg h64] at hp
    rw [if_neg (by omega)]
    exact decP_range n s hs hx hz hp ev w hv hev
end Go.Proofs.YtgmgmkhcadimjaaDoor
