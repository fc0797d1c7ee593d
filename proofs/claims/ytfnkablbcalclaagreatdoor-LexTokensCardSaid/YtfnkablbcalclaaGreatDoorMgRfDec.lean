/- What the reference's readDecimal reckons with. No program here.
   The reference's readDecimal.
   The reference's readDecimal. -/
import Derived.Test.YtfnkablbcalclaaGreatDoorRfNum
import Derived.Deep.CutBlock
import Derived.Deep.DeepCutAuto
import Derived.LoopTactic
namespace Go.Proofs.YtfnkablbcalclaaGreatDoor
open Go Go.RowKit
set_option linter.unusedVariables false
def ovf (d : Nat) : Bool := decide (2 ^ 64 ≤ d)
def cur (d : Nat) : Nat := if ovf d then 0 else d
/-- the number of the first k digits -/
def dv0 (s : ByteArray) (k : Nat) : Nat := dval 0 (s.data.toList.take k)
theorem dval_snoc (c : UInt8) : ∀ (l : List UInt8) (a : Nat), dval a (l ++ [c]) = dval a l * 10 + (c.toNat - 48)
  | [], a => rfl
  | d :: l, a => dval_snoc c l _
theorem dv0_zero (s : ByteArray) : dv0 s 0 = 0 := rfl
theorem dv0_succ (s : ByteArray) (k : Nat) (h : k < s.size) : dv0 s (k + 1) = dv0 s k * 10 + (s[k].toNat - 48) := by
  unfold dv0
  rw [List.take_succ_eq_append_getElem (by rw [size_list]; exact h), dval_snoc]
  rfl
theorem dv0_all (s : ByteArray) : dv0 s s.size = dval 0 s.data.toList := by unfold dv0; rw [List.take_of_length_le (by rw [size_list]; exact Nat.le_refl _)]
theorem ovf_mono {d c : Nat} (h : ovf d = true) : ovf (d * 10 + c) = true := by
  unfold ovf at h ⊢
  have := of_decide_eq_true h
  exact decide_eq_true (by omega)
theorem ovf_no {d : Nat} (h : ovf d = false) : d < 2 ^ 64 := by
  unfold ovf at h
  have := of_decide_eq_false h
  omega
theorem cur_yes {d : Nat} (h : ovf d = true) : cur d = 0 := by unfold cur; rw [h]; rfl
theorem cur_no {d : Nat} (h : ovf d = false) : cur d = d := by unfold cur; rw [h]; rfl
theorem cur_lt (d : Nat) : cur d < 2 ^ 64 := by
  unfold cur
  cases h : ovf d
  · exact ovf_no h
  · exact Nat.two_pow_pos 64
theorem ten_step {d c : Nat} (hd : d < 2 ^ 64) (hc : c < 16) : ((2 ^ 1 * (d % 2 ^ (70 - 1)) + 2 ^ 3 * (d % 2 ^ (70 - 3))) % 2 ^ 70 + c) % 2 ^ 70 = d * 10 + c := by omega
/-- a digit's list, with its first m bits -/
def dgL (d m : Nat) : List UInt8 := (List.range 70).map fun i => if i < m ∧ d / 2 ^ i % 2 = 1 then 49 else 48
theorem dgL_len (d m : Nat) : (dgL d m).length = 70 := by unfold dgL; simp
theorem dgL_zero (d : Nat) : dgL d 0 = List.replicate 70 48 := by
  unfold dgL
  apply List.ext_getElem (by simp)
  intro i h1 h2
  rw [List.getElem_map, List.getElem_replicate, if_neg (by omega)]
theorem dgL_set : ∀ d : Fin 10, ∀ m : Fin 4, (dgL d.1 m.1).set m.1 (UInt8.ofNat (48 + d.1 / 2 ^ m.1 % 2)) = dgL d.1 (m.1 + 1) := by decide +kernel
theorem bit_val8 : ∀ d : Fin 10, ∀ m : Fin 4, (48 + bits BinOp.and IntKind.u8 ((48 + (d.1 : Int) - 48) / 2 ^ m.1) 1) % 256 = (((UInt8.ofNat (48 + d.1 / 2 ^ m.1 % 2)).toNat : Nat) : Int) := by decide +kernel
theorem dgL_num : ∀ d : Fin 10, num (dgL d.1 4) 70 = d.1 := by decide +kernel
theorem dgL_kn (d m : Nat) : Kn (dgL d m) := by
  intro i hi
  have hi2 : i < 70 := by rw [dgL_len] at hi; exact hi
  rw [List.getD_eq_getElem?_getD]
  unfold dgL
  rw [List.getElem?_map, List.getElem?_range hi2]
  show (if _ then (49 : UInt8) else 48) = 48 ∨ (if _ then (49 : UInt8) else 48) = 49
  split
  · exact .inr rfl
  · exact .inl rfl
theorem kn_drop {l : List UInt8} (h : Kn l) (k : Nat) : Kn (l.drop k) := by
  intro i hi
  rw [List.length_drop] at hi
  rw [List.getD_eq_getElem?_getD, List.getElem?_drop, ← List.getD_eq_getElem?_getD]
  exact h (k + i) (by omega)
theorem kn_take {l : List UInt8} (h : Kn l) (k : Nat) : Kn (l.take k) := by
  intro i hi
  rw [List.length_take] at hi
  rw [List.getD_eq_getElem?_getD, List.getElem?_take_of_lt (by omega), ← List.getD_eq_getElem?_getD]
  exact h i (by omega)
theorem num_split {l : List UInt8} {n k : Nat} (hl : l.length = n) (hk : k ≤ n) : num l n = num l k + 2 ^ k * num (l.drop k) (n - k) := by
  have h := num_app (l.take k) (l.drop k) (n - k)
  have e : (l.take k).length = k := by rw [List.length_take]; omega
  rw [e, List.take_append_drop, num_take, show k + (n - k) = n by omega] at h
  exact h
theorem cnt_hi {l : List UInt8} {y : Nat} (hl : l.length = 70) (hn : num l 70 = y) : decide ((0 : Int) < ((cntD (l.drop 64) 9 (l.drop 64).length : Nat) : Int)) = ovf y := by
  have h1 := num_split hl (show 64 ≤ 70 by omega)
  have h2 := num_lt l 64
  have h3 := cnt_num (l.drop 64) 9
  rw [h3, show (l.drop 64).length = 70 - 64 by rw [List.length_drop, hl]]
  unfold ovf
  generalize num (l.drop 64) (70 - 64) = q at h1 ⊢
  rw [decide_eq_decide]
  have h4 : (2 : Nat) ^ 64 = 18446744073709551616 := rfl
  rw [h4] at *
  omega
theorem no49 : ∀ (l : List UInt8), Kn l → (l.contains 49 = true ↔ 0 < num l l.length) := by
  intro l hk
  constructor
  · intro h
    have hm : (49 : UInt8) ∈ l := by simpa using h
    obtain ⟨i, hi, e⟩ := List.getElem_of_mem hm
    have hs := num_split (l := l) (n := l.length) rfl (show i + 1 ≤ l.length by omega)
    have hs2 := num_step l i
    rw [getD_at hi, e] at hs2
    have : bit1 49 = 1 := rfl
    rw [this] at hs2
    have := Nat.two_pow_pos i
    omega
  · intro h
    by_cases hc : l.contains 49 = true
    · exact hc
    · exfalso
      have : num l l.length = num (List.replicate l.length 48) l.length := num_same _ fun i hi => by
        rw [getD_at hi, getD_at (by rw [List.length_replicate]; exact hi), List.getElem_replicate]
        have h2 := hk i hi
        rw [getD_at hi] at h2
        rcases h2 with h2 | h2
        · exact h2
        · exact absurd (by simpa using (h2 ▸ List.getElem_mem hi : (49 : UInt8) ∈ l)) hc
      rw [this, num_zero] at h
      omega
theorem tru_hi {l : List UInt8} {x n : Nat} (hl : l.length = 70) (hk : Kn l) (hn : num l 70 = x) (h2 : n ≤ 64) : (((truthL (l.drop n) : Nat) : Int) == 116) = decide (2 ^ n ≤ x) := by
  have h1 := num_split hl (show n ≤ 70 by omega)
  have h3 := num_lt l n
  have h4 := no49 (l.drop n) (kn_drop hk n)
  rw [show (l.drop n).length = 70 - n by rw [List.length_drop, hl]] at h4
  have e : decide (2 ^ n ≤ x) = (l.drop n).contains 49 := by
    rw [Bool.eq_iff_iff, decide_eq_true_iff, h4]
    rw [hn] at h1
    constructor
    · intro h
      rcases Nat.eq_zero_or_pos (num (l.drop n) (70 - n)) with h5 | h5
      · rw [h5] at h1; omega
      · exact h5
    · intro h
      have : 2 ^ n * 1 ≤ 2 ^ n * num (l.drop n) (70 - n) := Nat.mul_le_mul (Nat.le_refl _) h
      omega
  rw [e]
  unfold truthL
  cases (l.drop n).contains 49
  · simp only [Bool.false_eq_true, if_false]
    split <;> rfl
  · rfl
theorem dec_B {l : List UInt8} {x n : Nat} (hl : l.length = 70) (hk : Kn l) (hn : num l 70 = x) (h1 : 1 ≤ n) (h2 : n ≤ 64) (hx : x < 2 ^ n) : Bl (l.take n) = ⟨n, (kv n (BitVec.ofNat 64 x)).v, (kv n (BitVec.ofNat 64 x)).x⟩ := by
  refine Bl_num h1 h2 (by rw [List.length_take]; omega) (kn_take hk n) ?_
  have hp : 2 ^ n ≤ 2 ^ 64 := Nat.pow_le_pow_right (by omega) h2
  rw [num_take, num_mod l 70 n (by omega), hn, BitVec.toNat_ofNat, Nat.mod_eq_of_lt (show x < 2 ^ 64 by omega)]
theorem fill_B {n : Nat} (h1 : 1 ≤ n) (h2 : n ≤ 64) {c : UInt8} {q : Nat} (h : (c = 120 ∧ q = 3) ∨ (c = 122 ∧ q = 2)) : Bl (List.replicate n c) = ⟨n, (fl n q).v, (fl n q).x⟩ := by
  refine Bl_map (fl_ok h1 h2 q) ?_
  unfold vl
  apply List.ext_getElem (by simp)
  intro i h3 h4
  have hi : i < n := by simpa using h3
  rw [List.getElem_replicate, List.getElem_map, List.getElem_range]
  rcases h with ⟨rfl, rfl⟩ | ⟨rfl, rfl⟩ <;> simp [st, fl, msk_bit h2, hi]
end Go.Proofs.YtfnkablbcalclaaGreatDoor
namespace Go.Proofs.YtfnkablbcalclaaGreatDoor
open Go Go.RowKit
set_option linter.unusedVariables false
set_option maxRecDepth 100000 in
set_option maxHeartbeats 1600000 in
theorem rfDec_x (n : Nat) (w : World) (hn : n ≤ 100000) (h1 : 1 ≤ n) (hw : n ≤ 64) :
    Calls Tryz.prog 55 #[.string ⟨#[120]⟩, .int .i64 n] w fun e w' => e = .returned (good n (fl n 3)) ∧ Below w.heap.size w w' := by
  go_enter Tryz.func55, Tryz.ntmps55
  go_upto_region 1 with fail
  obtain ⟨W1, hW1⟩ : ∃ W, W = w.alloc (Obj.cells #[Value.int IntKind.i64 0, Value.int IntKind.u64 0, Value.int IntKind.u64 0] 30) := ⟨_, rfl⟩
  have X : Box W1 w.heap.size 0 0 0 ∧ W1.heap.size = w.heap.size + 1 ∧ Below w.heap.size w W1 := by
    rw [hW1]
    exact ⟨Box.new _ _ _ _, by simp, (Below.refl _ _).alloc (Nat.le_refl _) _⟩
  rw [← hW1]
  clear hW1
  have HX := Lib.hid X
  clear X
  have hwi : ¬ ((64 : Int) < (n : Int)) := by omega
  go_wp2_with fail
  refine (refFill_own n 120 (by omega) _).mono ?_
  rintro e w2 ⟨r2', rfl, hr2, hb2⟩
  go_wp2_with fail
  refine (refB_is _ (List.replicate n 120) _ (fill_B h1 hw (.inl ⟨rfl, rfl⟩)) (by rw [List.length_replicate]; omega) _ hr2.row).mono ?_
  rintro e w3 ⟨rfl, hb3⟩
  have hlo : Below W1.heap.size W1 w3 := hb2.trans (hb3.mono hb2.size)
  generalize hR : fl n 3 = R
  have HR := Lib.hid hR
  clear hR
  have hbb : Below w.heap.size w w3 := HX.out.2.2.trans (hlo.mono (by have := HX.out.2.1; omega))
  obtain ⟨r0, r1, r2, rf⟩ := HX.out.1.below hlo
  have rz := World.block_lt_of_cell? w3 _ r0
  go_wp2_with fail
  exact bodyPost_ret (v := good n R) (by simp [good, results, Tryz.results55, go_sem, r0, r1, r2, rf, rz]) rfl ⟨by rw [HR.out], by (repeat (first | exact hbb | exact Nat.le_refl _ | refine Below.setCell ?_ ?_ _)) <;> (first | omega | (simp <;> omega))⟩
set_option maxRecDepth 100000 in
set_option maxHeartbeats 1600000 in
theorem rfDec_xw (n : Nat) (w : World) (hn : n ≤ 100000) (hw : 64 < n) :
    Calls Tryz.prog 55 #[.string ⟨#[120]⟩, .int .i64 n] w fun e w' => e = .returned (bad 2) ∧ Below w.heap.size w w' := by
  go_enter Tryz.func55, Tryz.ntmps55
  go_upto_region 1 with fail
  obtain ⟨W1, hW1⟩ : ∃ W, W = w.alloc (Obj.cells #[Value.int IntKind.i64 0, Value.int IntKind.u64 0, Value.int IntKind.u64 0] 30) := ⟨_, rfl⟩
  have X : Box W1 w.heap.size 0 0 0 ∧ W1.heap.size = w.heap.size + 1 ∧ Below w.heap.size w W1 := by
    rw [hW1]
    exact ⟨Box.new _ _ _ _, by simp, (Below.refl _ _).alloc (Nat.le_refl _) _⟩
  rw [← hW1]
  clear hW1
  have HX := Lib.hid X
  clear X
  have hwi : (64 : Int) < (n : Int) := by omega
  have hlo := Below.refl W1.heap.size W1
  have hbb : Below w.heap.size w W1 := HX.out.2.2.trans (hlo.mono (by have := HX.out.2.1; omega))
  obtain ⟨r0, r1, r2, rf⟩ := HX.out.1.below hlo
  have rz := World.block_lt_of_cell? W1 _ r0
  go_wp2_with fail
  exact bodyPost_ret (v := bad 2) (by simp [bad, results, Tryz.results55, go_sem, r0, r1, r2, rf, rz]) rfl ⟨rfl, by (repeat (first | exact hbb | exact Nat.le_refl _ | refine Below.setCell ?_ ?_ _)) <;> (first | omega | (simp <;> omega))⟩
set_option maxRecDepth 100000 in
set_option maxHeartbeats 1600000 in
theorem rfDec_z (n : Nat) (w : World) (hn : n ≤ 100000) (h1 : 1 ≤ n) (hw : n ≤ 64) :
    Calls Tryz.prog 55 #[.string ⟨#[122]⟩, .int .i64 n] w fun e w' => e = .returned (good n (fl n 2)) ∧ Below w.heap.size w w' := by
  go_enter Tryz.func55, Tryz.ntmps55
  go_upto_region 1 with fail
  obtain ⟨W1, hW1⟩ : ∃ W, W = w.alloc (Obj.cells #[Value.int IntKind.i64 0, Value.int IntKind.u64 0, Value.int IntKind.u64 0] 30) := ⟨_, rfl⟩
  have X : Box W1 w.heap.size 0 0 0 ∧ W1.heap.size = w.heap.size + 1 ∧ Below w.heap.size w W1 := by
    rw [hW1]
    exact ⟨Box.new _ _ _ _, by simp, (Below.refl _ _).alloc (Nat.le_refl _) _⟩
  rw [← hW1]
  clear hW1
  have HX := Lib.hid X
  clear X
  have hwi : ¬ ((64 : Int) < (n : Int)) := by omega
  go_wp2_with fail
  refine (refFill_own n 122 (by omega) _).mono ?_
  rintro e w2 ⟨r2', rfl, hr2, hb2⟩
  go_wp2_with fail
  refine (refB_is _ (List.replicate n 122) _ (fill_B h1 hw (.inr ⟨rfl, rfl⟩)) (by rw [List.length_replicate]; omega) _ hr2.row).mono ?_
  rintro e w3 ⟨rfl, hb3⟩
  have hlo : Below W1.heap.size W1 w3 := hb2.trans (hb3.mono hb2.size)
  generalize hR : fl n 2 = R
  have HR := Lib.hid hR
  clear hR
  have hbb : Below w.heap.size w w3 := HX.out.2.2.trans (hlo.mono (by have := HX.out.2.1; omega))
  obtain ⟨r0, r1, r2, rf⟩ := HX.out.1.below hlo
  have rz := World.block_lt_of_cell? w3 _ r0
  go_wp2_with fail
  exact bodyPost_ret (v := good n R) (by simp [good, results, Tryz.results55, go_sem, r0, r1, r2, rf, rz]) rfl ⟨by rw [HR.out], by (repeat (first | exact hbb | exact Nat.le_refl _ | refine Below.setCell ?_ ?_ _)) <;> (first | omega | (simp <;> omega))⟩
set_option maxRecDepth 100000 in
set_option maxHeartbeats 1600000 in
theorem rfDec_zw (n : Nat) (w : World) (hn : n ≤ 100000) (hw : 64 < n) :
    Calls Tryz.prog 55 #[.string ⟨#[122]⟩, .int .i64 n] w fun e w' => e = .returned (bad 2) ∧ Below w.heap.size w w' := by
  go_enter Tryz.func55, Tryz.ntmps55
  go_upto_region 1 with fail
  obtain ⟨W1, hW1⟩ : ∃ W, W = w.alloc (Obj.cells #[Value.int IntKind.i64 0, Value.int IntKind.u64 0, Value.int IntKind.u64 0] 30) := ⟨_, rfl⟩
  have X : Box W1 w.heap.size 0 0 0 ∧ W1.heap.size = w.heap.size + 1 ∧ Below w.heap.size w W1 := by
    rw [hW1]
    exact ⟨Box.new _ _ _ _, by simp, (Below.refl _ _).alloc (Nat.le_refl _) _⟩
  rw [← hW1]
  clear hW1
  have HX := Lib.hid X
  clear X
  have hwi : (64 : Int) < (n : Int) := by omega
  have hlo := Below.refl W1.heap.size W1
  have hbb : Below w.heap.size w W1 := HX.out.2.2.trans (hlo.mono (by have := HX.out.2.1; omega))
  obtain ⟨r0, r1, r2, rf⟩ := HX.out.1.below hlo
  have rz := World.block_lt_of_cell? W1 _ r0
  go_wp2_with fail
  exact bodyPost_ret (v := bad 2) (by simp [bad, results, Tryz.results55, go_sem, r0, r1, r2, rf, rz]) rfl ⟨rfl, by (repeat (first | exact hbb | exact Nat.le_refl _ | refine Below.setCell ?_ ?_ _)) <;> (first | omega | (simp <;> omega))⟩
end Go.Proofs.YtfnkablbcalclaaGreatDoor
namespace Go.Proofs.YtfnkablbcalclaaGreatDoor
open Go Go.RowKit
set_option linter.unusedVariables false
theorem rn_sl {n x : Nat} {v : Value} {w : World} (h : RN n x v w) (hn : 0 < n) : ∃ bl off cap, v = .slice (some ⟨bl, off, none⟩) n cap ∧ n ≤ cap := by
  obtain ⟨l, hr, hl, -⟩ := h
  obtain ⟨a, cap, rfl, -⟩ := id hr.sh
  obtain ⟨bl, off, rfl, -, -⟩ := row_nth hr (k := 0) (by omega)
  exact ⟨bl, off, cap, by rw [hl], hl ▸ hr.cp _ _ _ rfl⟩
theorem own_sl {B n : Nat} {w : World} {v : Value} {l : List UInt8} (h : Own8 B w v l) (hl : l.length = n) (hn : 0 < n) : ∃ g cap, v = .slice (some ⟨g, 0, none⟩) n cap ∧ B ≤ g := by
  rcases id h.2 with ⟨_, h0⟩ | ⟨g, cap, cur, hv, hb, _⟩
  · omega
  · exact ⟨g, cap, by rw [hv, hl], hb⟩
set_option maxRecDepth 100000 in
set_option maxHeartbeats 6400000 in
theorem rfDec (n : Nat) (s : ByteArray) (v : Value) (hn : n ≤ 100000) (h1 : 1 ≤ n) (hx : s ≠ ⟨#[120]⟩) (hz : s ≠ ⟨#[122]⟩) (hs2 : s.size ≤ 2000)
    (H10 : Hid ((∃ k, ∃ h : k < s.size, ¬ (48 ≤ s[k].toNat ∧ s[k].toNat ≤ 57)) → v = bad 10))
    (H2 : Hid ((∀ k (h : k < s.size), 48 ≤ s[k].toNat ∧ s[k].toNat ≤ 57) → 64 < n → v = bad 2))
    (H3 : Hid (n ≤ 64 → (∀ k (h : k < s.size), 48 ≤ s[k].toNat ∧ s[k].toNat ≤ 57) → ¬ dval 0 s.data.toList < 2 ^ n → v = bad 3))
    (H0 : Hid (n ≤ 64 → (∀ k (h : k < s.size), 48 ≤ s[k].toNat ∧ s[k].toNat ≤ 57) → dval 0 s.data.toList < 2 ^ n → v = good n (kv n (BitVec.ofNat 64 (dval 0 s.data.toList)))))
    (w : World) :
    Calls Tryz.prog 55 #[.string s, .int .i64 n] w fun e w' => e = .returned v ∧ Below w.heap.size w w' := by
  obtain ⟨i0, hi, hz0, hz1, hz2⟩ := info_parts info5
  have cF := Lib.hid fun w => (show Calls Tryz.prog 71 #[.int .i64 70, .int .u8 48] w _ from refFill_own 70 48 (by omega) w)
  have hx1 := ne_bytes_ hx
  have hz1' := ne_bytes_ hz
  rw [show (⟨#[120]⟩ : ByteArray).toList = [120] from by rw [ByteArray.toList_eq]] at hx1
  rw [show (⟨#[122]⟩ : ByteArray).toList = [122] from by rw [ByteArray.toList_eq]] at hz1'
  have hx2 : ¬ s.toList = [120] := beq_eq_false_iff_ne.1 hx1
  have hz2' : ¬ s.toList = [122] := beq_eq_false_iff_ne.1 hz1'
  go_enter Tryz.func55, Tryz.ntmps55
  go_upto_region 1 with fail
  obtain ⟨W1, hW1⟩ : ∃ W, W = w.alloc (Obj.cells #[Value.int IntKind.i64 0, Value.int IntKind.u64 0, Value.int IntKind.u64 0] 30) := ⟨_, rfl⟩
  have X : Box W1 w.heap.size 0 0 0 ∧ W1.heap.size = w.heap.size + 1 ∧ Below w.heap.size w W1 := by
    rw [hW1]
    exact ⟨Box.new _ _ _ _, by simp, (Below.refl _ _).alloc (Nat.le_refl _) _⟩
  rw [← hW1]
  clear hW1
  have HX := Lib.hid X
  clear X
  go_wp2_with fail
  refine (cF.out _).mono ?_
  rintro e w2 ⟨u6, rfl, hr2, hb2⟩
  have hrn0 : Hid (RN 70 (cur (dv0 s 0)) u6 w2) := Lib.hid ⟨_, hr2.row, List.length_replicate, fun i hi => by rw [getD_at hi, List.getElem_replicate]; exact .inl rfl, num_zero 70 70⟩
  clear hr2 hx1 hz1'
  go_wp2_with fail
  go_loopw [6, 7, 30] (fun u f i wr => ∃ k : Nat, k ≤ s.size ∧ i = .int .i64 k ∧ f = .bool (ovf (dv0 s k)) ∧ Hid (RN 70 (cur (dv0 s k)) u wr) ∧ Below W1.heap.size W1 wr ∧ Hid (∀ q (h : q < s.size), q < k → 48 ≤ s[q].toNat ∧ s[q].toNat ≤ 57)) (fun _ _ i _ => s.size - (intOf i).toNat)
  case atStart => exact ⟨0, Nat.zero_le _, rfl, rfl, hrn0, hb2, Lib.hid (fun q h hq => absurd hq (Nat.not_lt_zero q))⟩
  case round =>
    obtain ⟨k, hk, rfl, rfl, hrn, hlo, hok⟩ := hrel
    rename World => WR
    by_cases hlt : k < s.size
    · have hk0 : (0 : Int) ≤ (k : Int) := by omega
      have hdv := dv0_succ s k hlt
      have HDV := Lib.hid hdv
      clear hdv
      obtain ⟨b, hb⟩ : ∃ b, s[k].toNat = b := ⟨_, rfl⟩
      by_cases hb1 : b < 48
      · have hbi : (s[k].toNat : Int) < 48 := by omega
        have HV : Hid (v = bad 10) := Lib.hid (H10.out ⟨k, hlt, by omega⟩)
        clear hb hb1
        have hbb : Below w.heap.size w WR := HX.out.2.2.trans (hlo.mono (by have := HX.out.2.1; omega))
        obtain ⟨r0, r1, r2, rf⟩ := HX.out.1.below hlo
        have rz := World.block_lt_of_cell? WR _ r0
        go_wp2_with fail
        exact bodyPost_ret (v := bad 10) (by simp [bad, results, Tryz.results55, go_sem, r0, r1, r2, rf, rz]) rfl ⟨by rw [HV.out], by (repeat (first | exact hbb | exact Nat.le_refl _ | refine Below.setCell ?_ ?_ _)) <;> (first | omega | (simp <;> omega))⟩
      · by_cases hb2 : 57 < b
        · have hbi : ¬ (s[k].toNat : Int) < 48 := by omega
          have hbj : (57 : Int) < (s[k].toNat : Int) := by omega
          have HV : Hid (v = bad 10) := Lib.hid (H10.out ⟨k, hlt, by omega⟩)
          clear hb hb1 hb2
          have hbb : Below w.heap.size w WR := HX.out.2.2.trans (hlo.mono (by have := HX.out.2.1; omega))
          obtain ⟨r0, r1, r2, rf⟩ := HX.out.1.below hlo
          have rz := World.block_lt_of_cell? WR _ r0
          go_wp2_with fail
          exact bodyPost_ret (v := bad 10) (by simp [bad, results, Tryz.results55, go_sem, r0, r1, r2, rf, rz]) rfl ⟨by rw [HV.out], by (repeat (first | exact hbb | exact Nat.le_refl _ | refine Below.setCell ?_ ?_ _)) <;> (first | omega | (simp <;> omega))⟩
        · obtain ⟨d, hd⟩ : ∃ d, b = 48 + d := ⟨b - 48, by omega⟩
          have hd9 : d < 10 := by omega
          have HOK : Hid (∀ q (h : q < s.size), q < k + 1 → 48 ≤ s[q].toNat ∧ s[q].toNat ≤ 57) := Lib.hid (fun q h hq => by
            by_cases hqk : q < k
            · exact hok.out q h hqk
            · obtain rfl : q = k := by omega
              omega)
          have hsd : (s[k].toNat : Int) = 48 + (d : Int) := by omega
          have HD1 : Hid (dv0 s (k + 1) = dv0 s k * 10 + d) := Lib.hid (by rw [HDV.out]; congr 1; omega)
          have hbi : ¬ (48 + (d : Int) < 48) := by omega
          have hbj : ¬ ((57 : Int) < 48 + (d : Int)) := by omega
          clear hb hb1 hb2 hd hok
          go_wp2_with fail
          refine (cF.out _).mono ?_
          rintro e w3 ⟨u9, rfl, hr3, hb3⟩
          obtain ⟨g, capg, rfl, hgB⟩ := own_sl hr3 List.length_replicate (by omega)
          have HO := Lib.hid (show w3.ownsRow WR.heap.size 5 1 (.slice (some ⟨g, 0, none⟩) 70 capg) 70 (Lib.byteCells (dgL d 0)) from own_k (by rw [dgL_zero]; exact hr3) (dgL_len d 0) (Nat.le_refl _))
          clear hr3
          go_wp2_with fail
          go_loopw [45] (fun m wx => ∃ m' : Nat, m' ≤ 4 ∧ m = .int .i64 m' ∧ Hid (wx.ownsRow WR.heap.size 5 1 (.slice (some ⟨g, 0, none⟩) 70 capg) 70 (Lib.byteCells (dgL d m'))) ∧ Below WR.heap.size WR wx) (fun m _ => 4 - (intOf m).toNat)
          case atStart => exact ⟨0, by omega, rfl, HO, hb3⟩
          case round =>
            obtain ⟨m, hm, rfl, hom, hlom⟩ := hrel
            clear HO
            by_cases hm4 : m < 4
            · have hm0 : (0 : Int) ≤ (m : Int) := by omega
              have hcell := (hom.out.cellAt m (by omega)).trans (bytes_at (dgL d m) (by rw [dgL_len]; omega))
              have hfr := hom.out.frozenAt m
              obtain ⟨ov, hov⟩ : ∃ ov, wr.cell? ⟨g, m, none⟩ = some ov := ⟨_, hcell⟩
              clear hcell
              obtain ⟨z, hzz⟩ : ∃ z, UInt8.ofNat (48 + d / 2 ^ m % 2) = z := ⟨_, rfl⟩
              have hbit : (48 + bits BinOp.and IntKind.u8 ((48 + (d : Int) - 48) / 2 ^ m) 1) % 256 = ((z.toNat : Nat) : Int) := by rw [← hzz]; exact bit_val8 ⟨d, hd9⟩ ⟨m, hm4⟩
              have hst := hom.out.stored m (.int .u8 (z.toNat : Int))
              rw [bytes_set, ← hzz, dgL_set ⟨d, hd9⟩ ⟨m, hm4⟩, hzz] at hst
              have HST := Lib.hid hst.1
              have hlo' : Below WR.heap.size WR (wr.setCell ⟨g, m, none⟩ (.int .u8 (z.toNat : Int))) := hlom.setCell hgB _
              clear hst hom hzz
              go_wp2_with fail
              go_roundw
              case rel => exact ⟨m + 1, by omega, by go_num, by first | exact HST | (rw [hbit]; exact HST), by first | exact hlo' | (rw [hbit]; exact hlo')⟩
              case measure => simp [intOf] <;> omega
            · obtain rfl : m = 4 := by omega
              obtain ⟨bl, off, cap, rfl, hcap⟩ := rn_sl hrn.out (by omega)
              have hrnw : Hid (RN 70 (cur (dv0 s k)) (.slice (some ⟨bl, off, none⟩) 70 cap) wr) := Lib.hid (hrn.out.below hlom)
              have hdig : Hid (RN 70 d (.slice (some ⟨g, 0, none⟩) 70 capg) wr) := Lib.hid ⟨dgL d 4, row8_own (B := WR.heap.size) (by rw [dgL_len]; exact hom.out), dgL_len d 4, dgL_kn d 4, dgL_num ⟨d, hd9⟩⟩
              have hlow := hlo.trans (hlom.mono hlo.size)
              have hcapi : (69 : Int) ≤ (cap : Int) ∧ (67 : Int) ≤ (cap : Int) := by omega
              obtain ⟨hci1, hci2⟩ := hcapi
              clear hom hrn
              obtain ⟨l, hrow, hll, hlk, hln⟩ := id hrnw.out
              obtain ⟨bl', off', hbo, -, hcs⟩ := row_nth hrow (k := 0) (by omega)
              injection hbo with hbo
              injection hbo with hb1 hb2
              subst hb1 hb2
              have HCS := Lib.hid hcs
              clear hcs hrow
              go_upto_region 18 with fail
              have hzA : wr.heap.size ≤ (wr.alloc (Obj.cells #[.int .u8 48] 5)).heap.size := by simp
              have hlitA : (wr.alloc (Obj.cells #[.int .u8 48] 5)).ownsRow wr.heap.size 5 1 (.slice (some ⟨wr.heap.size, 0, none⟩) 1 1) 1 (Lib.byteCells [48]) := World.ownsRow_lit wr #[.int .u8 48] 1 (Nat.le_refl _) (by decide) rfl
              go_upto_region 19 with (at_builtin; refine wpList_append_own _ rfl _ _ 53 rfl wr.heap.size 5 i0 (.int .u8 0) 1 1 Tryz.underlying53 hi hz0 hz1 hz2 rfl (by decide) _ 1 (Lib.byteCells [48]) rfl hlitA ⟨bl, off, none⟩ 69 cap (Lib.byteCells (l.take 69)) rfl (bytes_len hll (by omega)) (bytes_news (cells_to HCS.out ((Below.refl _ _).alloc (Nat.le_refl _) _))) (bytes_one _) (by unfold maxLen; omega) (by omega) hzA ?_; intro vA wA hownA hgrA _)
              obtain ⟨ga, gc, rfl⟩ : ∃ ga gc, vA = .slice (some ⟨ga, 0, none⟩) 70 gc := by
                rcases hownA.2 with ⟨_, h0⟩ | ⟨g', cap', cur', hv', _⟩
                · omega
                · exact ⟨g', cap', hv'⟩
              have hrnA : Hid (RN 70 (2 ^ 1 * (cur (dv0 s k) % 2 ^ (70 - 1))) (.slice (some ⟨ga, 0, none⟩) 70 gc) wA) := Lib.hid (times_row (Lf := [48]) (n := 70) (k := 1) (l := l) hownA rfl (by intro i hi; match i, hi with | 0, _ => exact .inl rfl) rfl hll hlk hln (by omega))
              have hloA : Below wr.heap.size wr wA := ((Below.refl _ _).alloc (Nat.le_refl _) _).grown hgrA hzA (fun q hq => (hlitA.lt q hq).1)
              clear hownA hgrA hlitA
              have hzB : wA.heap.size ≤ (wA.alloc (Obj.cells #[.int .u8 48, .int .u8 48, .int .u8 48] 5)).heap.size := by simp
              have hlitB : (wA.alloc (Obj.cells #[.int .u8 48, .int .u8 48, .int .u8 48] 5)).ownsRow wA.heap.size 5 1 (.slice (some ⟨wA.heap.size, 0, none⟩) 3 3) 3 (Lib.byteCells [48, 48, 48]) := World.ownsRow_lit wA #[.int .u8 48, .int .u8 48, .int .u8 48] 3 (Nat.le_refl _) (by decide) rfl
              go_upto_region 20 with (at_builtin; refine wpList_append_own _ rfl _ _ 53 rfl wA.heap.size 5 i0 (.int .u8 0) 1 1 Tryz.underlying53 hi hz0 hz1 hz2 rfl (by decide) _ 3 (Lib.byteCells [48, 48, 48]) rfl hlitB ⟨bl, off, none⟩ 67 cap (Lib.byteCells (l.take 67)) rfl (bytes_len hll (by omega)) (bytes_news (cells_to HCS.out (hloA.trans (((Below.refl _ _).alloc (Nat.le_refl _) _).mono hloA.size)))) (bytes_one _) (by unfold maxLen; omega) (by omega) hzB ?_; intro vB wB hownB hgrB _)
              obtain ⟨ga, gc, rfl⟩ : ∃ ga gc, vB = .slice (some ⟨ga, 0, none⟩) 70 gc := by
                rcases hownB.2 with ⟨_, h0⟩ | ⟨g', cap', cur', hv', _⟩
                · omega
                · exact ⟨g', cap', hv'⟩
              have hrnB : Hid (RN 70 (2 ^ 3 * (cur (dv0 s k) % 2 ^ (70 - 3))) (.slice (some ⟨ga, 0, none⟩) 70 gc) wB) := Lib.hid (times_row (Lf := [48, 48, 48]) (n := 70) (k := 3) (l := l) hownB rfl (by intro i hi; match i, hi with | 0, _ => exact .inl rfl | 1, _ => exact .inl rfl | 2, _ => exact .inl rfl) rfl hll hlk hln (by omega))
              have hloB : Below wA.heap.size wA wB := ((Below.refl _ _).alloc (Nat.le_refl _) _).grown hgrB hzB (fun q hq => (hlitB.lt q hq).1)
              clear hownB hgrB hlitB
              have hrnA2 : Hid (RN 70 (2 ^ 1 * (cur (dv0 s k) % 2 ^ (70 - 1))) _ wB) := Lib.hid (hrnA.out.below hloB)
              have hdigB : Hid (RN 70 d (.slice (some ⟨g, 0, none⟩) 70 capg) wB) := Lib.hid ((hdig.out.below hloA).below hloB)
              have hloAB : Hid (Below wr.heap.size wr wB) := Lib.hid (hloA.trans (hloB.mono hloA.size))
              clear hrnA hdig hloA hloB hrnw
              go_wp2_with fail
              refine (plusR _ _ 70 _ _ (by omega) _ hrnA2.out hrnB.out).mono ?_
              rintro e w13 ⟨r13, rfl, hr13, hb13⟩
              have hR13 := Lib.hid hr13.rn
              have hB13 := Lib.hid hb13
              clear hr13 hb13
              go_wp2_with fail
              refine (plusR _ _ 70 _ _ (by omega) _ hR13.out (hdigB.out.below hB13.out)).mono ?_
              rintro e w14 ⟨r14, rfl, hr14, hb14⟩
              have hR14 : Hid (RN 70 (cur (dv0 s k) * 10 + d) r14 w14) := Lib.hid (by have h := hr14.rn; rwa [ten_step (cur_lt _) (by omega)] at h)
              have hlo14 : Below W1.heap.size W1 w14 := hlow.trans ((hloAB.out.trans ((hB13.out.trans (hb14.mono hB13.out.size)).mono hloAB.out.size)).mono hlow.size)
              clear hr14 hb14 hR13 hB13 hloAB hdigB hrnA2 hrnB
              obtain ⟨bl4, off4, cap4, rfl, hcap4⟩ := rn_sl hR14.out (by omega)
              have hc64 : (64 : Int) ≤ (cap4 : Int) := by omega
              cases hov0 : ovf (dv0 s k)
              · have hR14b := hR14
                rw [cur_no hov0, ← HD1.out] at hR14b
                obtain ⟨l4, hrow4, hl4, hk4, hn4⟩ := id hR14b.out
                have hcnt := cnt_hi hl4 hn4
                obtain ⟨C, hC⟩ : ∃ C, cntD (l4.drop 64) 9 (l4.drop 64).length = C := ⟨_, rfl⟩
                rw [hC] at hcnt
                have HC := Lib.hid hC
                have HROW4 := Lib.hid (show Row8 w14 _ (l4.drop 64) from row8_drop hrow4 (by omega) (cap4 - 64) (by omega))
                have HL4 : Hid ((l4.drop 64).length ≤ 1000000) := Lib.hid (by rw [List.length_drop]; omega)
                clear hC hrow4 hl4 hk4 hn4 hR14
                cases hov1 : ovf (dv0 s (k + 1))
                · have HOV := Lib.hid hov1
                  rw [hov1] at hcnt
                  have hc0 : ¬ ((0 : Int) < (C : Int)) := of_decide_eq_false hcnt
                  have hrn16 : Hid (RN 70 (cur (dv0 s (k + 1))) (.slice (some ⟨bl4, off4, none⟩) 70 cap4) w14) := Lib.hid (by rw [cur_no hov1]; exact hR14b.out)
                  clear hov1 hcnt hov0 hR14b
                  go_upto_region 21 with fail
                  go_wp2_with fail
                  refine (count_any _ (l4.drop 64) 9 (by omega) (by omega) HL4.out _ HROW4.out).mono ?_
                  rintro e w15 ⟨rfl, rfl⟩
                  rw [HC.out]
                  go_wp2_with fail
                  go_roundw
                  case rel => exact ⟨k + 1, by omega, by go_num, congrArg Value.bool (by rw [HOV.out]; exact decide_eq_false (by omega)), hrn16, hlo14, HOK⟩
                  case measure => simp [intOf] <;> omega
                · have HOV := Lib.hid hov1
                  rw [hov1] at hcnt
                  have hc0 : (0 : Int) < (C : Int) := of_decide_eq_true hcnt
                  clear hov1 hcnt hov0 hR14b
                  go_upto_region 21 with fail
                  go_wp2_with fail
                  refine (count_any _ (l4.drop 64) 9 (by omega) (by omega) HL4.out _ HROW4.out).mono ?_
                  rintro e w15 ⟨rfl, rfl⟩
                  rw [HC.out]
                  go_wp2_with fail
                  refine (cF.out _).mono ?_
                  rintro e w16 ⟨u16, rfl, hr16, hb16⟩
                  have hrn16 : Hid (RN 70 (cur (dv0 s (k + 1))) u16 w16) := Lib.hid (by rw [cur_yes HOV.out]; exact ⟨_, hr16.row, List.length_replicate, fun i hi => by rw [getD_at hi, List.getElem_replicate]; exact .inl rfl, num_zero 70 70⟩)
                  have hlo16 := hlo14.trans (hb16.mono hlo14.size)
                  clear hr16 hb16
                  go_wp2_with fail
                  go_roundw
                  case rel => exact ⟨k + 1, by omega, by go_num, by rw [HOV.out], hrn16, hlo16, HOK⟩
                  case measure => simp [intOf] <;> omega
              · have HOV : Hid (ovf (dv0 s (k + 1)) = true) := Lib.hid (by rw [HD1.out]; exact ovf_mono hov0)
                clear hov0 hR14
                go_upto_region 21 with fail
                go_wp2_with fail
                refine (cF.out _).mono ?_
                rintro e w16 ⟨u16, rfl, hr16, hb16⟩
                have hrn16 : Hid (RN 70 (cur (dv0 s (k + 1))) u16 w16) := Lib.hid (by rw [cur_yes HOV.out]; exact ⟨_, hr16.row, List.length_replicate, fun i hi => by rw [getD_at hi, List.getElem_replicate]; exact .inl rfl, num_zero 70 70⟩)
                have hlo16 := hlo14.trans (hb16.mono hlo14.size)
                clear hr16 hb16
                go_wp2_with fail
                go_roundw
                case rel => exact ⟨k + 1, by omega, by go_num, by rw [HOV.out], hrn16, hlo16, HOK⟩
                case measure => simp [intOf] <;> omega
    · have hke : k = s.size := by omega
      subst hke
      have hok2 : Hid (∀ q (h : q < s.size), 48 ≤ s[q].toNat ∧ s[q].toNat ≤ 57) := Lib.hid (fun q h => hok.out q h h)
      have HDA := Lib.hid (dv0_all s)
      by_cases hw : 64 < n
      · have HV : Hid (v = bad 2) := Lib.hid (H2.out hok2.out hw)
        have hwi : (64 : Int) < (n : Int) := by omega
        clear hw
        have hbb : Below w.heap.size w WR := HX.out.2.2.trans (hlo.mono (by have := HX.out.2.1; omega))
        obtain ⟨r0, r1, r2, rf⟩ := HX.out.1.below hlo
        have rz := World.block_lt_of_cell? WR _ r0
        go_wp2_with fail
        exact bodyPost_ret (v := bad 2) (by simp [bad, results, Tryz.results55, go_sem, r0, r1, r2, rf, rz]) rfl ⟨by rw [HV.out], by (repeat (first | exact hbb | exact Nat.le_refl _ | refine Below.setCell ?_ ?_ _)) <;> (first | omega | (simp <;> omega))⟩
      · have hn64 : n ≤ 64 := by omega
        have hwi : ¬ ((64 : Int) < (n : Int)) := by omega
        obtain ⟨bl, off, cap, rfl, hcap⟩ := rn_sl hrn.out (by omega)
        have hcn : (n : Int) ≤ (cap : Int) := by omega
        have hcn0 : (0 : Int) ≤ (n : Int) := by omega
        have hn70 : (n : Int) ≤ 70 := by omega
        obtain ⟨l, hrow, hll, hlk, hln⟩ := id hrn.out
        have HROW := Lib.hid hrow
        have HLL := Lib.hid hll
        have HLK := Lib.hid hlk
        have HLN := Lib.hid hln
        clear hrow hll hlk hln hrn hw
        cases hov : ovf (dv0 s s.size)
        · have HOV := Lib.hid hov
          clear hov
          have ht := tru_hi HLL.out HLK.out (HLN.out.trans (cur_no HOV.out)) hn64
          have HROWD := Lib.hid (show Row8 WR _ (l.drop n) from row8_drop HROW.out (by omega) (cap - n) (by omega))
          have HLD : Hid ((l.drop n).length ≤ 1000000) := Lib.hid (by rw [List.length_drop, HLL.out]; omega)
          obtain ⟨T, hT⟩ : ∃ T, truthL (l.drop n) = T := ⟨_, rfl⟩
          rw [hT] at ht
          have HT := Lib.hid hT
          clear hT
          go_upto_region 27 with fail
          go_wp2_with fail
          refine (refTruth_any _ (l.drop n) HLD.out _ HROWD.out).mono ?_
          rintro e w15 ⟨rfl, rfl⟩
          rw [HT.out]
          by_cases hv : 2 ^ n ≤ dv0 s s.size
          · have HV : Hid (v = bad 3) := Lib.hid (H3.out hn64 hok2.out (by rw [← HDA.out]; omega))
            rw [decide_eq_true hv] at ht
            clear hv
            have hbb : Below w.heap.size w WR := HX.out.2.2.trans (hlo.mono (by have := HX.out.2.1; omega))
            obtain ⟨r0, r1, r2, rf⟩ := HX.out.1.below hlo
            have rz := World.block_lt_of_cell? WR _ r0
            go_wp2_with fail
            exact bodyPost_ret (v := bad 3) (by simp [bad, results, Tryz.results55, go_sem, r0, r1, r2, rf, rz]) rfl ⟨by rw [HV.out], by (repeat (first | exact hbb | exact Nat.le_refl _ | refine Below.setCell ?_ ?_ _)) <;> (first | omega | (simp <;> omega))⟩
          · have HV : Hid (v = good n (kv n (BitVec.ofNat 64 (dval 0 s.data.toList)))) := Lib.hid (H0.out hn64 hok2.out (by rw [← HDA.out]; omega))
            have hB := dec_B HLL.out HLK.out (HLN.out.trans (cur_no HOV.out)) h1 hn64 (by omega)
            rw [HDA.out] at hB
            rw [decide_eq_false hv] at ht
            clear hv
            generalize kv n (BitVec.ofNat 64 (dval 0 s.data.toList)) = R at HV hB
            go_wp2_with fail
            refine (refB_is _ (l.take n) _ hB (by rw [List.length_take, HLL.out]; omega) _ (row8_take HROW.out (by omega))).mono ?_
            rintro e w17 ⟨rfl, hb17⟩
            have hlo17 := hlo.trans (hb17.mono hlo.size)
            have hbb : Below w.heap.size w w17 := HX.out.2.2.trans (hlo17.mono (by have := HX.out.2.1; omega))
            obtain ⟨r0, r1, r2, rf⟩ := HX.out.1.below hlo17
            have rz := World.block_lt_of_cell? w17 _ r0
            go_wp2_with fail
            exact bodyPost_ret (v := good n R) (by simp [good, results, Tryz.results55, go_sem, r0, r1, r2, rf, rz]) rfl ⟨by rw [HV.out], by (repeat (first | exact hbb | exact Nat.le_refl _ | refine Below.setCell ?_ ?_ _)) <;> (first | omega | (simp <;> omega))⟩
        · have HV : Hid (v = bad 3) := Lib.hid (H3.out hn64 hok2.out (by
            rw [← HDA.out]
            unfold ovf at hov
            have h64 := of_decide_eq_true hov
            have hp : 2 ^ n ≤ 2 ^ 64 := Nat.pow_le_pow_right (by omega) hn64
            exact Nat.not_lt.2 (Nat.le_trans hp h64)))
          have hbb : Below w.heap.size w WR := HX.out.2.2.trans (hlo.mono (by have := HX.out.2.1; omega))
          obtain ⟨r0, r1, r2, rf⟩ := HX.out.1.below hlo
          have rz := World.block_lt_of_cell? WR _ r0
          go_wp2_with fail
          exact bodyPost_ret (v := bad 3) (by simp [bad, results, Tryz.results55, go_sem, r0, r1, r2, rf, rz]) rfl ⟨by rw [HV.out], by (repeat (first | exact hbb | exact Nat.le_refl _ | refine Below.setCell ?_ ?_ _)) <;> (first | omega | (simp <;> omega))⟩
end Go.Proofs.YtfnkablbcalclaaGreatDoor
