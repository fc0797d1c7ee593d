/- readDecimal of any digits: x, z, a number that fits, one that doesn't.
   The number that decimal digits spell, and what the parse of it says.
   A text that is read as a vector: its parts, and the answer. No program here. -/
import Derived.Test.YtogmipbdnffegaaGreatDoorApart
import Derived.Test.YtogmipbdnffegaaGreatDoorShelf
import Derived.Lib.SmallJoins
import Derived.Deep.DeepCutAuto
import Derived.Lib.ParseIntB
import Derived.Test.YtogmipbdnffegaaGreatDoorMgTxt
import Derived.Lib.Strings
import Derived.Lib.IndexBytes
import Derived.Lib.IndexLaws
namespace Go.Proofs.YtogmipbdnffegaaGreatDoor
open Go Go.RowKit
set_option linter.unusedVariables false
theorem ne_bytes_ {s t : ByteArray} (h : s ≠ t) : (s.toList == t.toList) = false := by
  rw [ByteArray.toList_eq, ByteArray.toList_eq, beq_eq_false_iff_ne]; exact fun e => h (ByteArray.ext (Array.toList_inj.1 e))
set_option maxRecDepth 100000 in
set_option maxHeartbeats 1000000 in
theorem decP_x (n : Nat) (h1 : 1 ≤ n) (h2 : n ≤ 64) (w : World) :
    Calls Tryz.prog 92 #[.int .i64 n, .string ⟨#[120]⟩] w fun e w' => e = .returned (.tuple #[.agg #[.int .i64 n, .int .u64 (U (fl n 3).v), .int .u64 (U (fl n 3).x)], .int .i64 0]) ∧ Below w.heap.size w w' := by
  go_enter Tryz.func92, Tryz.ntmps92
  go_wp2_with fail
  refine (all_x n _ h1 h2).mono ?_
  rintro e w1 ⟨rfl, hb1⟩
  obtain ⟨hc1, hf1⟩ := bcell hb1
  have z1 : w.heap.size < w1.heap.size := bsize hb1 (by simp)
  have b2 : Below w.heap.size w w1 := ((Below.refl _ _).alloc (Nat.le_refl _) _).trans (hb1.mono (by simp))
  go_wp2_with fail
  exact bodyPost_ret (v := .tuple #[.agg #[.int .i64 n, .int .u64 (U (fl n 3).v), .int .u64 (U (fl n 3).x)], .int .i64 0]) (by simp [results, Tryz.results92, go_sem, hc1, z1]) rfl ⟨rfl, by (repeat (first | (with_reducible exact b2) | (with_reducible exact Nat.le_refl _) | (with_reducible refine Below.setCell ?_ ?_ _) | (with_reducible refine Below.alloc ?_ ?_ _))) <;> (first | omega | (simp <;> omega))⟩
set_option maxRecDepth 100000 in
set_option maxHeartbeats 1000000 in
theorem decP_z (n : Nat) (h1 : 1 ≤ n) (h2 : n ≤ 64) (w : World) :
    Calls Tryz.prog 92 #[.int .i64 n, .string ⟨#[122]⟩] w fun e w' => e = .returned (.tuple #[.agg #[.int .i64 n, .int .u64 (U (fl n 2).v), .int .u64 (U (fl n 2).x)], .int .i64 0]) ∧ Below w.heap.size w w' := by
  go_enter Tryz.func92, Tryz.ntmps92
  go_wp2_with fail
  refine (all_z n _ h1 h2).mono ?_
  rintro e w1 ⟨rfl, hb1⟩
  obtain ⟨hc1, hf1⟩ := bcell hb1
  have z1 : w.heap.size < w1.heap.size := bsize hb1 (by simp)
  have b2 : Below w.heap.size w w1 := ((Below.refl _ _).alloc (Nat.le_refl _) _).trans (hb1.mono (by simp))
  go_wp2_with fail
  exact bodyPost_ret (v := .tuple #[.agg #[.int .i64 n, .int .u64 (U (fl n 2).v), .int .u64 (U (fl n 2).x)], .int .i64 0]) (by simp [results, Tryz.results92, go_sem, hc1, z1]) rfl ⟨rfl, by (repeat (first | (with_reducible exact b2) | (with_reducible exact Nat.le_refl _) | (with_reducible refine Below.setCell ?_ ?_ _) | (with_reducible refine Below.alloc ?_ ?_ _))) <;> (first | omega | (simp <;> omega))⟩
set_option maxRecDepth 100000 in
set_option maxHeartbeats 1000000 in
theorem decP_fits (n u : Nat) (s : ByteArray) (h1 : 1 ≤ n) (h2 : n ≤ 64) (hs : s.size ≤ 2000) (hx : s ≠ ⟨#[120]⟩) (hz : s ≠ ⟨#[122]⟩) (hu : Lib.parseUintB 64 s.data.toList = .ok u) (hu64 : u < 2 ^ 64) (hg : (BitVec.ofNat 64 u &&& ~~~msk n != 0#64) = false) (w : World) :
    Calls Tryz.prog 92 #[.int .i64 n, .string s] w fun e w' => e = .returned (.tuple #[.agg #[.int .i64 n, .int .u64 (U (kv n (BitVec.ofNat 64 u)).v), .int .u64 (U (kv n (BitVec.ofNat 64 u)).x)], .int .i64 0]) ∧ Below w.heap.size w w' := by
  have hx1 := ne_bytes_ hx
  have hz1 := ne_bytes_ hz
  rw [show (⟨#[120]⟩ : ByteArray).toList = [120] from by rw [ByteArray.toList_eq]] at hx1
  rw [show (⟨#[122]⟩ : ByteArray).toList = [122] from by rw [ByteArray.toList_eq]] at hz1
  have hx2 : ¬ s.toList = [120] := beq_eq_false_iff_ne.1 hx1
  have hz2 : ¬ s.toList = [122] := beq_eq_false_iff_ne.1 hz1
  go_enter Tryz.func92, Tryz.ntmps92
  go_wp2_with fail
  refine (Tryz.strconv_ParseUint_10_at64_ok _ (by omega) u hu _).mono ?_
  rintro e w1 ⟨rfl, hw1⟩
  have hb1 : Below (w.alloc (Obj.cells #[Value.int IntKind.i64 0, Value.int IntKind.u64 0, Value.int IntKind.u64 0] 40)).heap.size (w.alloc (Obj.cells #[Value.int IntKind.i64 0, Value.int IntKind.u64 0, Value.int IntKind.u64 0] 40)) w1 := by
    rcases hw1 with rfl | rfl
    · exact Below.refl _ _
    · exact Go.Joins.below_bytesWorld _ _ _ _ (Nat.le_refl _)
  clear hw1
  obtain ⟨hc1, hf1⟩ := bcell hb1
  have z1 : w.heap.size < w1.heap.size := bsize hb1 (by simp)
  have b1 : Below w.heap.size w w1 := ((Below.refl _ _).alloc (Nat.le_refl _) _).trans (hb1.mono (by simp))
  have hub : (u : Int) = U (BitVec.ofNat 64 u) := by unfold U; rw [BitVec.toNat_ofNat, Nat.mod_eq_of_lt hu64]
  rw [hub]
  clear hub hb1
  generalize hB : BitVec.ofNat 64 u = b at hg ⊢
  go_wp2_with fail
  refine (mask_any n h2 _).mono ?_
  rintro e w' ⟨rfl, rfl⟩
  go_wp2_with fail
  refine (of_ok n b _ h1 h2).mono ?_
  rintro e w2 ⟨rfl, hb2⟩
  obtain ⟨hc2, hf2⟩ := bcell hb2
  have z2 : w.heap.size < w2.heap.size := bsize hb2 z1
  have b2 : Below w.heap.size w w2 := b1.trans (hb2.mono b1.size)
  go_wp2_with fail
  exact bodyPost_ret (v := .tuple #[.agg #[.int .i64 n, .int .u64 (U (kv n b).v), .int .u64 (U (kv n b).x)], .int .i64 0]) (by simp [results, Tryz.results92, go_sem, hc2, hc1, z1, z2]) rfl ⟨by rw [hB], by (repeat (first | (with_reducible exact b2) | (with_reducible exact Nat.le_refl _) | (with_reducible refine Below.setCell ?_ ?_ _) | (with_reducible refine Below.alloc ?_ ?_ _))) <;> (first | omega | (simp <;> omega))⟩
set_option maxRecDepth 100000 in
set_option maxHeartbeats 1000000 in
theorem decP_large (n u : Nat) (s : ByteArray) (h1 : 1 ≤ n) (h2 : n ≤ 64) (hs : s.size ≤ 2000) (hx : s ≠ ⟨#[120]⟩) (hz : s ≠ ⟨#[122]⟩) (hu : Lib.parseUintB 64 s.data.toList = .ok u) (hu64 : u < 2 ^ 64) (hg : (BitVec.ofNat 64 u &&& ~~~msk n != 0#64) = true) (w : World) :
    Calls Tryz.prog 92 #[.int .i64 n, .string s] w fun e w' => e = .returned (.tuple #[.agg #[.int .i64 0, .int .u64 0, .int .u64 0], .int .i64 3]) ∧ Below w.heap.size w w' := by
  have hx1 := ne_bytes_ hx
  have hz1 := ne_bytes_ hz
  rw [show (⟨#[120]⟩ : ByteArray).toList = [120] from by rw [ByteArray.toList_eq]] at hx1
  rw [show (⟨#[122]⟩ : ByteArray).toList = [122] from by rw [ByteArray.toList_eq]] at hz1
  have hx2 : ¬ s.toList = [120] := beq_eq_false_iff_ne.1 hx1
  have hz2 : ¬ s.toList = [122] := beq_eq_false_iff_ne.1 hz1
  go_enter Tryz.func92, Tryz.ntmps92
  go_wp2_with fail
  refine (Tryz.strconv_ParseUint_10_at64_ok _ (by omega) u hu _).mono ?_
  rintro e w1 ⟨rfl, hw1⟩
  have hb1 : Below (w.alloc (Obj.cells #[Value.int IntKind.i64 0, Value.int IntKind.u64 0, Value.int IntKind.u64 0] 40)).heap.size (w.alloc (Obj.cells #[Value.int IntKind.i64 0, Value.int IntKind.u64 0, Value.int IntKind.u64 0] 40)) w1 := by
    rcases hw1 with rfl | rfl
    · exact Below.refl _ _
    · exact Go.Joins.below_bytesWorld _ _ _ _ (Nat.le_refl _)
  clear hw1
  obtain ⟨hc1, hf1⟩ := bcell hb1
  have z1 : w.heap.size < w1.heap.size := bsize hb1 (by simp)
  have b1 : Below w.heap.size w w1 := ((Below.refl _ _).alloc (Nat.le_refl _) _).trans (hb1.mono (by simp))
  have hub : (u : Int) = U (BitVec.ofNat 64 u) := by unfold U; rw [BitVec.toNat_ofNat, Nat.mod_eq_of_lt hu64]
  rw [hub]
  clear hub hb1
  generalize hB : BitVec.ofNat 64 u = b at hg ⊢
  go_wp2_with fail
  refine (mask_any n h2 _).mono ?_
  rintro e w' ⟨rfl, rfl⟩
  go_wp2_with fail
  have b2 := b1
  exact bodyPost_ret (v := .tuple #[.agg #[.int .i64 0, .int .u64 0, .int .u64 0], .int .i64 3]) (by simp [results, Tryz.results92, go_sem, hc1, z1]) rfl ⟨rfl, by (repeat (first | (with_reducible exact b2) | (with_reducible exact Nat.le_refl _) | (with_reducible refine Below.setCell ?_ ?_ _) | (with_reducible refine Below.alloc ?_ ?_ _))) <;> (first | omega | (simp <;> omega))⟩
set_option maxRecDepth 100000 in
set_option maxHeartbeats 1000000 in
theorem decP_range (n : Nat) (s : ByteArray) (hs : s.size ≤ 2000) (hx : s ≠ ⟨#[120]⟩) (hz : s ≠ ⟨#[122]⟩) (hu : Lib.parseUintB 64 s.data.toList = .range) (ev : Value) (w : World) (hv : w.cell? ⟨4, 0, none⟩ = some ev) (hev : ev = .nilIface ∨ ∃ te pe, ev = .iface te pe) :
    Calls Tryz.prog 92 #[.int .i64 n, .string s] w fun e w' => e = .returned (.tuple #[.agg #[.int .i64 0, .int .u64 0, .int .u64 0], .int .i64 3]) ∧ Below w.heap.size w w' := by
  have hx1 := ne_bytes_ hx
  have hz1 := ne_bytes_ hz
  rw [show (⟨#[120]⟩ : ByteArray).toList = [120] from by rw [ByteArray.toList_eq]] at hx1
  rw [show (⟨#[122]⟩ : ByteArray).toList = [122] from by rw [ByteArray.toList_eq]] at hz1
  have hx2 : ¬ s.toList = [120] := beq_eq_false_iff_ne.1 hx1
  have hz2 : ¬ s.toList = [122] := beq_eq_false_iff_ne.1 hz1
  go_enter Tryz.func92, Tryz.ntmps92
  go_wp2_with fail
  refine (Tryz.strconv_ParseUint_10_at64_range _ (by omega) hu ev _ ((((Below.refl w.heap.size w).alloc (Nat.le_refl _) _).cell (p := ⟨4, 0, none⟩) (World.block_lt_of_cell? w _ hv)).trans hv) hev).mono ?_
  rintro e w1 ⟨N, rfl, -, -, hb1⟩
  obtain ⟨hc1, hf1⟩ := bcell hb1
  have z1 : w.heap.size < w1.heap.size := bsize hb1 (by simp)
  have b2 : Below w.heap.size w w1 := ((Below.refl _ _).alloc (Nat.le_refl _) _).trans (hb1.mono (by simp))
  clear hv hev
  go_wp2_with fail
  exact bodyPost_ret (v := .tuple #[.agg #[.int .i64 0, .int .u64 0, .int .u64 0], .int .i64 3]) (by simp [results, Tryz.results92, go_sem, hc1, z1]) rfl ⟨rfl, by (repeat (first | (with_reducible exact b2) | (with_reducible exact Nat.le_refl _) | (with_reducible refine Below.setCell ?_ ?_ _) | (with_reducible refine Below.alloc ?_ ?_ _))) <;> (first | omega | (simp <;> omega))⟩
end Go.Proofs.YtogmipbdnffegaaGreatDoor
namespace Go.Proofs.YtogmipbdnffegaaGreatDoor
open Go Go.RowKit
set_option linter.unusedVariables false
/-- the number of digits after a number -/
def dval : Nat → List UInt8 → Nat
  | a, [] => a
  | a, c :: r => dval (a * 10 + (c.toNat - 48)) r
theorem dval_ge : ∀ (l : List UInt8) (a : Nat), a ≤ dval a l := by
  intro l
  induction l with
  | nil => intro a; exact Nat.le_refl _
  | cons c r ih => intro a; exact Nat.le_trans (by omega) (ih (a * 10 + (c.toNat - 48)))
theorem parseM_dec (M : Nat) (hM : M ≤ 18446744073709551615) : ∀ (l : List UInt8) (a : Nat), a ≤ M → (∀ c ∈ l, 48 ≤ c.toNat ∧ c.toNat ≤ 57) →
    Lib.parseUintM M a l = if dval a l ≤ M then .ok (dval a l) else .range := by
  intro l
  induction l with
  | nil => intro a ha _; show Lib.NumEnd.ok a = if a ≤ M then Lib.NumEnd.ok a else Lib.NumEnd.range; rw [if_pos ha]
  | cons c r ih =>
    intro a ha hc
    have h0 := hc c (by simp)
    show (if 48 ≤ c.toNat ∧ c.toNat ≤ 57 then (if 1844674407370955162 ≤ a then Lib.NumEnd.range else if M < a * 10 + (c.toNat - 48) then Lib.NumEnd.range else Lib.parseUintM M (a * 10 + (c.toNat - 48)) r) else Lib.NumEnd.syntax) = if dval (a * 10 + (c.toNat - 48)) r ≤ M then Lib.NumEnd.ok (dval (a * 10 + (c.toNat - 48)) r) else Lib.NumEnd.range
    rw [if_pos h0]
    have hge := dval_ge r (a * 10 + (c.toNat - 48))
    by_cases h1 : 1844674407370955162 ≤ a
    · rw [if_pos h1, if_neg (by omega)]
    · rw [if_neg h1]
      by_cases h2 : M < a * 10 + (c.toNat - 48)
      · rw [if_pos h2, if_neg (by omega)]
      · rw [if_neg h2]
        exact ih _ (by omega) (fun d hd => hc d (by simp [hd]))
theorem parse_dec {l : List UInt8} (hl : l ≠ []) (hc : ∀ c ∈ l, 48 ≤ c.toNat ∧ c.toNat ≤ 57) :
    Lib.parseUintB 64 l = if dval 0 l < 2 ^ 64 then .ok (dval 0 l) else .range := by
  unfold Lib.parseUintB
  rw [if_neg hl, parseM_dec _ (by decide) l 0 (by omega) hc]
  by_cases h : dval 0 l < 2 ^ 64
  · rw [if_pos h, if_pos (by omega)]
  · rw [if_neg h, if_neg (by omega)]
/-- a number has a bit above the width: it isn't below two to the width -/
theorem over_iff {n u : Nat} (h2 : n ≤ 64) (hu : u < 2 ^ 64) : (BitVec.ofNat 64 u &&& ~~~msk n != 0#64) = decide (2 ^ n ≤ u) := by
  rw [Bool.eq_iff_iff, bne_iff_ne, decide_eq_true_eq]
  have hs := sub_iff h2 (BitVec.ofNat 64 u)
  rw [ne_eq, ← hs]
  constructor
  · intro h
    rcases Nat.lt_or_ge u (2 ^ n) with h' | h'
    · exfalso
      apply h
      intro i hi
      rw [← BitVec.testBit_toNat, BitVec.toNat_ofNat, Nat.mod_eq_of_lt hu]
      exact Nat.testBit_lt_two_pow (Nat.lt_of_lt_of_le h' (Nat.pow_le_pow_right (by decide) hi))
    · exact h'
  · intro h hsub
    obtain ⟨i, hi, hb⟩ := Nat.exists_ge_and_testBit_of_ge_two_pow h
    have := hsub i hi
    rw [← BitVec.testBit_toNat, BitVec.toNat_ofNat, Nat.mod_eq_of_lt hu, hb] at this
    cases this
set_option maxRecDepth 100000 in
/-- readDecimal of decimal digits, whatever they spell -/
theorem decP_any (n : Nat) (s : ByteArray) (h1 : 1 ≤ n) (h2 : n ≤ 64) (h0 : s.data.toList ≠ []) (hs : s.size ≤ 2000) (hc : ∀ c ∈ s.data.toList, 48 ≤ c.toNat ∧ c.toNat ≤ 57) (ev : Value) (w : World) (hv : w.cell? ⟨4, 0, none⟩ = some ev) (hev : ev = .nilIface ∨ ∃ te pe, ev = .iface te pe) :
    Calls Tryz.prog 92 #[.int .i64 n, .string s] w fun e w' => e = (if dval 0 s.data.toList < 2 ^ n then .returned (.tuple #[.agg #[.int .i64 n, .int .u64 (U (kv n (BitVec.ofNat 64 (dval 0 s.data.toList))).v), .int .u64 (U (kv n (BitVec.ofNat 64 (dval 0 s.data.toList))).x)], .int .i64 0]) else .returned (.tuple #[.agg #[.int .i64 0, .int .u64 0, .int .u64 0], .int .i64 3])) ∧ Below w.heap.size w w' := by
  have hx : s ≠ ⟨#[120]⟩ := by rintro rfl; have := hc 120 (by simp); simp at this
  have hz : s ≠ ⟨#[122]⟩ := by rintro rfl; have := hc 122 (by simp); simp at this
  have hp := parse_dec h0 hc
  have hpow : 2 ^ n ≤ 2 ^ 64 := Nat.pow_le_pow_right (by decide) h2
  generalize hu : dval 0 s.data.toList = u at hp ⊢
  by_cases h64 : u < 2 ^ 64
  · rw [if_pos h64] at hp
    have ho := over_iff h2 h64
    by_cases h : u < 2 ^ n
    · rw [if_pos h]
      exact decP_fits n u s h1 h2 hs hx hz hp h64 (by rw [ho, decide_eq_false_iff_not]; omega) w
    · rw [if_neg h]
      exact decP_large n u s h1 h2 hs hx hz hp h64 (by rw [ho, decide_eq_true_eq]; omega) w
  · rw [if_neg h64] at hp
    rw [if_neg (by omega)]
    exact decP_range n s hs hx hz hp ev w hv hev
end Go.Proofs.YtogmipbdnffegaaGreatDoor
namespace Go.Proofs.YtogmipbdnffegaaGreatDoor
open Go Go.RowKit
set_option linter.unusedVariables false
def bad (e : Int) : Value := .tuple #[.agg #[.int .i64 0, .int .u64 0, .int .u64 0], .int .i64 e]
def good (n : Nat) (a : Vx) : Value := .tuple #[.agg #[.int .i64 n, .int .u64 (U a.v), .int .u64 (U a.x)], .int .i64 0]
theorem first39 : ∀ l : List UInt8, (∀ c ∈ l, c ≠ 39) ∨ ∃ p q, l = p ++ 39 :: q ∧ ∀ c ∈ p, c ≠ 39
  | [] => .inl (by simp)
  | c :: l => by
    by_cases h : c = 39
    · exact .inr ⟨[], l, by rw [h]; rfl, by simp⟩
    · rcases first39 l with h1 | ⟨p, q, h1, h2⟩
      · refine .inl fun d hd => ?_
        rcases List.mem_cons.1 hd with rfl | hd
        · exact h
        · exact h1 d hd
      · refine .inr ⟨c :: p, q, by rw [h1]; rfl, fun d hd => ?_⟩
        rcases List.mem_cons.1 hd with rfl | hd
        · exact h
        · exact h2 d hd
theorem index_39 (q : List UInt8) : ∀ p : List UInt8, (∀ c ∈ p, c ≠ 39) → Lib.index (p ++ 39 :: q) [39] = p.length
  | [], _ => by simp [Lib.index]
  | c :: p, h => by
    have hc : c ≠ 39 := h c (by simp)
    have ih := index_39 q p (fun d hd => h d (by simp [hd]))
    have h1 : ¬ (39 : UInt8) = c := fun e => hc e.symm
    rw [List.cons_append, Lib.index, ih]
    simp [h1]
theorem cut_39 (p q : List UInt8) (h : ∀ c ∈ p, c ≠ 39) : Lib.cut (p ++ 39 :: q) [39] = (p, q, true) := by
  unfold Lib.cut
  rw [index_39 q p h, if_pos (by omega)]
  simp
theorem index_no39 : ∀ p : List UInt8, (∀ c ∈ p, c ≠ 39) → Lib.index p [39] = -1
  | [], _ => by simp [Lib.index]
  | c :: p, h => by
    have hc : c ≠ 39 := h c (by simp)
    have ih := index_no39 p (fun d hd => h d (by simp [hd]))
    have h1 : ¬ (39 : UInt8) = c := fun e => hc e.symm
    rw [Lib.index, ih]
    simp [h1]
theorem cut_no39 (p : List UInt8) (h : ∀ c ∈ p, c ≠ 39) : Lib.cut p [39] = (p, [], false) := by
  unfold Lib.cut
  rw [index_no39 p h, if_neg (by omega)]
/-- a text's width, its rest behind the quote, and what stands behind the sign -/
structure Cutt (s wd r0 rs : ByteArray) : Prop where
  w0 : 0 < wd.size
  lt : wd.size < s.size
  ew : wd = s.extract 0 wd.size
  dg : ∀ i (h : i < s.size), i < wd.size → 48 ≤ s[i].toNat ∧ s[i].toNat ≤ 57
  nz : ∀ h : 0 < s.size, s[0].toNat ≠ 48
  q : ∀ h : wd.size < s.size, s[wd.size].toNat = 39
  er : r0 = s.extract (wd.size + 1) s.size
  es : (∃ h : 0 < r0.size, r0[0].toNat = 115 ∧ rs = r0.extract 1 r0.size) ∨ ((∀ h : 0 < r0.size, r0[0].toNat ≠ 115) ∧ rs = r0)
theorem ext_list (s : ByteArray) (a b : Nat) : (s.extract a b).data.toList = (s.data.toList.take b).drop a := by
  rw [Lib.extract_eq, List.drop_take]
theorem size_list (s : ByteArray) : s.data.toList.length = s.size := (Lib.size_eq s).symm
theorem at_list (s : ByteArray) (i : Nat) (h : i < s.size) : s.data.toList[i]'(by rw [size_list]; exact h) = s[i] := rfl
theorem Cutt.list {s wd r0 rs : ByteArray} (h : Cutt s wd r0 rs) : s.data.toList = wd.data.toList ++ 39 :: r0.data.toList := by
  have hl := size_list s
  have h1 : wd.data.toList = s.data.toList.take wd.size := by
    have := congrArg (fun b : ByteArray => b.data.toList) h.ew
    simp only [ext_list, List.drop_zero] at this
    exact this
  have h2 : r0.data.toList = s.data.toList.drop (wd.size + 1) := by
    rw [h.er, ext_list, List.take_of_length_le (by omega)]
  have hlt := h.lt
  have h3 : s.data.toList.drop wd.size = 39 :: s.data.toList.drop (wd.size + 1) := by
    rw [List.drop_eq_getElem_cons (by omega)]
    congr 1
    apply UInt8.toNat_inj.1
    rw [at_list s _ h.lt]
    exact h.q h.lt
  rw [h2, ← h3, h1, List.take_append_drop]
theorem Cutt.digs {s wd r0 rs : ByteArray} (h : Cutt s wd r0 rs) : ∀ c ∈ wd.data.toList, 48 ≤ c.toNat ∧ c.toNat ≤ 57 := by
  intro c hc
  obtain ⟨i, hi, rfl⟩ := List.getElem_of_mem hc
  have hi2 : i < wd.size := by rw [← size_list]; exact hi
  have e : wd.data.toList[i] = s.data.toList[i]'(by rw [size_list]; have := h.lt; omega) := by
    have := h.list
    simp only [this]
    rw [List.getElem_append_left hi]
  rw [e, at_list]
  exact h.dg i (by have := h.lt; omega) hi2
theorem Cutt.cut {s wd r0 rs : ByteArray} (h : Cutt s wd r0 rs) : Hid (Lib.cut s.data.toList (⟨#[39]⟩ : ByteArray).data.toList = (wd.data.toList, r0.data.toList, true)) := by
  refine Lib.hid ?_
  show Lib.cut s.data.toList [39] = _
  rw [h.list]
  refine cut_39 _ _ fun c hc e => ?_
  have := h.digs c hc
  rw [e] at this
  exact absurd this.1 (by decide)
theorem trim_of {r0 rs : ByteArray} (h : (∃ h : 0 < r0.size, r0[0].toNat = 115 ∧ rs = r0.extract 1 r0.size) ∨ ((∀ h : 0 < r0.size, r0[0].toNat ≠ 115) ∧ rs = r0)) : Hid (Lib.trimPrefix r0.data.toList (⟨#[115]⟩ : ByteArray).data.toList = rs.data.toList) := by
  refine Lib.hid ?_
  show Lib.trimPrefix r0.data.toList [115] = _
  unfold Lib.trimPrefix Lib.hasPrefix
  cases hl : r0.data.toList with
  | nil =>
    rcases h with ⟨h0, _⟩ | ⟨_, rfl⟩
    · rw [← size_list, hl] at h0; cases h0
    · simp [hl]
  | cons c l =>
    have h0 : 0 < r0.size := by rw [← size_list, hl]; simp
    have e0 : r0[0] = c := by
      rw [← at_list r0 0 h0]; simp [hl]
    rcases h with ⟨_, h1, rfl⟩ | ⟨h1, rfl⟩
    · have : c = 115 := by rw [← e0]; exact UInt8.toNat_inj.1 h1
      rw [this, ext_list, List.take_of_length_le (by rw [size_list]; omega), hl]
      simp
    · have : ¬ 115 = c := by
        intro e
        exact h1 h0 (by rw [e0, ← e]; rfl)
      simp [this, hl]
theorem trim_some (r0 : ByteArray) : ∃ rs : ByteArray, (∃ h : 0 < r0.size, r0[0].toNat = 115 ∧ rs = r0.extract 1 r0.size) ∨ ((∀ h : 0 < r0.size, r0[0].toNat ≠ 115) ∧ rs = r0) := by
  by_cases h : ∃ h : 0 < r0.size, r0[0].toNat = 115
  · exact ⟨_, .inl ⟨h.1, h.2, rfl⟩⟩
  · exact ⟨r0, .inr ⟨fun h0 h1 => h ⟨h0, h1⟩, rfl⟩⟩
/-- the width that the program reads -/
def wid (wd : ByteArray) : Nat := rwd wd wd.size
/-- how a text is read -/
inductive Rdg (s : ByteArray) : Value → Prop
  | noForm (h : ∀ wd r0 rs, ¬ Cutt s wd r0 rs) : Rdg s (bad 10)
  | short {wd r0 rs : ByteArray} (h : Cutt s wd r0 rs) (hr : rs.size < 2) : Rdg s (bad 10)
  | noBase {wd r0 rs : ByteArray} (h : Cutt s wd r0 rs) (hr : 2 ≤ rs.size) (hb : rs[0].toNat ≠ 100) (hd : dw rs[0].toNat = 0) : Rdg s (bad 10)
  | decBad {wd r0 rs : ByteArray} (h : Cutt s wd r0 rs) (hr : 2 ≤ rs.size) (hb : rs[0].toNat = 100) (hx : rs.extract 1 rs.size ≠ ⟨#[120]⟩) (hz : rs.extract 1 rs.size ≠ ⟨#[122]⟩) (hd : allB (fun c => isDig c.toNat) (rs.extract 1 rs.size) = false) : Rdg s (bad 10)
  | decWide {wd r0 rs : ByteArray} (h : Cutt s wd r0 rs) (hr : 2 ≤ rs.size) (hb : rs[0].toNat = 100) (hd : rs.extract 1 rs.size = ⟨#[120]⟩ ∨ rs.extract 1 rs.size = ⟨#[122]⟩ ∨ (rs.extract 1 rs.size ≠ ⟨#[120]⟩ ∧ rs.extract 1 rs.size ≠ ⟨#[122]⟩ ∧ allB (fun c => isDig c.toNat) (rs.extract 1 rs.size) = true)) (hw : 64 < wid wd) : Rdg s (bad 2)
  | decX {wd r0 rs : ByteArray} (h : Cutt s wd r0 rs) (hr : 2 ≤ rs.size) (hb : rs[0].toNat = 100) (hx : rs.extract 1 rs.size = ⟨#[120]⟩) (hw : wid wd ≤ 64) : Rdg s (good (wid wd) (fl (wid wd) 3))
  | decZ {wd r0 rs : ByteArray} (h : Cutt s wd r0 rs) (hr : 2 ≤ rs.size) (hb : rs[0].toNat = 100) (hx : rs.extract 1 rs.size = ⟨#[122]⟩) (hw : wid wd ≤ 64) : Rdg s (good (wid wd) (fl (wid wd) 2))
  | decOk {wd r0 rs : ByteArray} (h : Cutt s wd r0 rs) (hr : 2 ≤ rs.size) (hb : rs[0].toNat = 100) (hx : rs.extract 1 rs.size ≠ ⟨#[120]⟩) (hz : rs.extract 1 rs.size ≠ ⟨#[122]⟩) (hd : allB (fun c => isDig c.toNat) (rs.extract 1 rs.size) = true) (hw : wid wd ≤ 64) (hv : dval 0 (rs.extract 1 rs.size).data.toList < 2 ^ wid wd) : Rdg s (good (wid wd) (kv (wid wd) (BitVec.ofNat 64 (dval 0 (rs.extract 1 rs.size).data.toList))))
  | decLarge {wd r0 rs : ByteArray} (h : Cutt s wd r0 rs) (hr : 2 ≤ rs.size) (hb : rs[0].toNat = 100) (hx : rs.extract 1 rs.size ≠ ⟨#[120]⟩) (hz : rs.extract 1 rs.size ≠ ⟨#[122]⟩) (hd : allB (fun c => isDig c.toNat) (rs.extract 1 rs.size) = true) (hw : wid wd ≤ 64) (hv : ¬ dval 0 (rs.extract 1 rs.size).data.toList < 2 ^ wid wd) : Rdg s (bad 3)
  | digBad {wd r0 rs : ByteArray} (h : Cutt s wd r0 rs) (hr : 2 ≤ rs.size) (hb : rs[0].toNat ≠ 100) (hb2 : dw rs[0].toNat ≠ 0) (hd : allB (fun c => digOk (dw rs[0].toNat) c.toNat) (rs.extract 1 rs.size) = false) : Rdg s (bad 10)
  | digWide {wd r0 rs : ByteArray} (h : Cutt s wd r0 rs) (hr : 2 ≤ rs.size) (hb : rs[0].toNat ≠ 100) (hb2 : dw rs[0].toNat ≠ 0) (hd : allB (fun c => digOk (dw rs[0].toNat) c.toNat) (rs.extract 1 rs.size) = true) (hw : 64 < wid wd) : Rdg s (bad 2)
  | digLarge {wd r0 rs : ByteArray} (h : Cutt s wd r0 rs) (hr : 2 ≤ rs.size) (hb : rs[0].toNat ≠ 100) (hb2 : dw rs[0].toNat ≠ 0) (hd : allB (fun c => digOk (dw rs[0].toNat) c.toNat) (rs.extract 1 rs.size) = true) (hw : wid wd ≤ 64) (hE : ∃ k, k < (rs.extract 1 rs.size).size ∧ rdE (wid wd) (dw rs[0].toNat) (rs.extract 1 rs.size) k = true) : Rdg s (bad 3)
  | digOk {wd r0 rs : ByteArray} (h : Cutt s wd r0 rs) (hr : 2 ≤ rs.size) (hb : rs[0].toNat ≠ 100) (hb2 : dw rs[0].toNat ≠ 0) (hd : allB (fun c => digOk (dw rs[0].toNat) c.toNat) (rs.extract 1 rs.size) = true) (hw : wid wd ≤ 64) (hE : ∀ k, k < (rs.extract 1 rs.size).size → rdE (wid wd) (dw rs[0].toNat) (rs.extract 1 rs.size) k = false) : Rdg s (good (wid wd) (rdB (wid wd) (dw rs[0].toNat) (rs.extract 1 rs.size) (rs.extract 1 rs.size).size))
theorem rdg_total (s : ByteArray) : ∃ v, Rdg s v := by
  by_cases h0 : ∃ wd r0 rs, Cutt s wd r0 rs
  · obtain ⟨wd, r0, rs, h⟩ := h0
    by_cases hr : rs.size < 2
    · exact ⟨_, .short h hr⟩
    · have hr2 : 2 ≤ rs.size := by omega
      by_cases hb : rs[0].toNat = 100
      · by_cases hx : rs.extract 1 rs.size = ⟨#[120]⟩
        · by_cases hw : wid wd ≤ 64
          · exact ⟨_, .decX h hr2 hb hx hw⟩
          · exact ⟨_, .decWide h hr2 hb (.inl hx) (by omega)⟩
        · by_cases hz : rs.extract 1 rs.size = ⟨#[122]⟩
          · by_cases hw : wid wd ≤ 64
            · exact ⟨_, .decZ h hr2 hb hz hw⟩
            · exact ⟨_, .decWide h hr2 hb (.inr (.inl hz)) (by omega)⟩
          · by_cases hd : allB (fun c => isDig c.toNat) (rs.extract 1 rs.size) = true
            · by_cases hw : wid wd ≤ 64
              · by_cases hv : dval 0 (rs.extract 1 rs.size).data.toList < 2 ^ wid wd
                · exact ⟨_, .decOk h hr2 hb hx hz hd hw hv⟩
                · exact ⟨_, .decLarge h hr2 hb hx hz hd hw hv⟩
              · exact ⟨_, .decWide h hr2 hb (.inr (.inr ⟨hx, hz, hd⟩)) (by omega)⟩
            · exact ⟨_, .decBad h hr2 hb hx hz (by simpa using hd)⟩
      · by_cases hb2 : dw rs[0].toNat = 0
        · exact ⟨_, .noBase h hr2 hb hb2⟩
        · by_cases hd : allB (fun c => digOk (dw rs[0].toNat) c.toNat) (rs.extract 1 rs.size) = true
          · by_cases hw : wid wd ≤ 64
            · by_cases hE : ∃ k, k < (rs.extract 1 rs.size).size ∧ rdE (wid wd) (dw rs[0].toNat) (rs.extract 1 rs.size) k = true
              · exact ⟨_, .digLarge h hr2 hb hb2 hd hw hE⟩
              · exact ⟨_, .digOk h hr2 hb hb2 hd hw fun k hk => by
                  cases e : rdE (wid wd) (dw rs[0].toNat) (rs.extract 1 rs.size) k
                  · rfl
                  · exact absurd ⟨k, hk, e⟩ hE⟩
            · exact ⟨_, .digWide h hr2 hb hb2 hd (by omega)⟩
          · exact ⟨_, .digBad h hr2 hb hb2 (by simpa using hd)⟩
  · exact ⟨_, .noForm fun wd r0 rs h => h0 ⟨wd, r0, rs, h⟩⟩
end Go.Proofs.YtogmipbdnffegaaGreatDoor
