/- What the reference's readDecimal reckons with. No program here.
   The reference's readDecimal.
   The reference's readDecimal. -/
import Derived.Test.YtogmipbdnffegaaGreatDoorRfNum
import Derived.Deep.CutBlock
import Derived.Deep.DeepCutAuto
import Derived.LoopTactic
namespace Go.Proofs.YtogmipbdnffegaaGreatDoor
open Go Go.RowKit
set_option linter.unusedVariables false
def ovf (d : Nat) : Bool := decide (2 ^ 64 ≤ d)
def cur (d : Nat) : Nat := if ovf d then 0 else d
/-- the number of the first k digits -/
def dv0 (s : ByteArray) (k : Nat) : Nat := dval 0 (s.data.toList.take k)
theorem dval_snoc (c : UInt8) : ∀ (l : List UInt8) (a : Nat), dval a (l ++ [c]) = dval a l * 10 + (c.toNat - 48)
  | [], a => rfl
  | d :: l, a => dval_snoc c l _
theorem dv0_zero (s : ByteArray) : dv0 s 0 = 0 := rfl
theorem dv0_succ (s : ByteArray) (k : Nat) (h : k < s.size) : dv0 s (k + 1) = dv0 s k * 10 + (s[k].toNat - 48) := by
  unfold dv0
  rw [List.take_succ_eq_append_getElem (by rw [size_list]; exact h), dval_snoc]
  rfl
theorem dv0_all (s : ByteArray) : dv0 s s.size = dval 0 s.data.toList := by unfold dv0; rw [List.take_of_length_le (by rw [size_list]; exact Nat.le_refl _)]
theorem ovf_mono {d c : Nat} (h : ovf d = true) : ovf (d * 10 + c) = true := by
  unfold ovf at h ⊢
  have := of_decide_eq_true h
  exact decide_eq_true (by omega)
theorem ovf_no {d : Nat} (h : ovf d = false) : d < 2 ^ 64 := by
  unfold ovf at h
  have := of_decide_eq_false h
  omega
theorem cur_yes {d : Nat} (h : ovf d = true) : cur d = 0 := by unfold cur; rw [h]; rfl
theorem cur_no {d : Nat} (h : ovf d = false) : cur d = d := by unfold cur; rw [h]; rfl
theorem cur_lt (d : Nat) : cur d < 2 ^ 64 := by
  unfold cur
  cases h : ovf d
  · exact ovf_no h
  · exact Nat.two_pow_pos 64
theorem ten_step {d c : Nat} (hd : d < 2 ^ 64) (hc : c < 16) : ((2 ^ 1 * (d % 2 ^ (70 - 1)) + 2 ^ 3 * (d % 2 ^ (70 - 3))) % 2 ^ 70 + c) % 2 ^ 70 = d * 10 + c := by omega
/-- a digit's list, with its first m bits -/
def dgL (d m : Nat) : List UInt8 := (List.range 70).map fun i => if i < m ∧ d / 2 ^ i % 2 = 1 then 49 else 48
theorem dgL_len (d m : Nat) : (dgL d m).length = 70 := by unfold dgL; simp
theorem dgL_zero (d : Nat) : dgL d 0 = List.replicate 70 48 := by
  unfold dgL
  apply List.ext_getElem (by simp)
  intro i h1 h2
  rw [List.getElem_map, List.getElem_replicate, if_neg (by omega)]
theorem dgL_set : ∀ d : Fin 10, ∀ m : Fin 4, (dgL d.1 m.1).set m.1 (UInt8.ofNat (48 + d.1 / 2 ^ m.1 % 2)) = dgL d.1 (m.1 + 1) := by decide +kernel
theorem bit_val8 : ∀ d : Fin 10, ∀ m : Fin 4, (48 + bits BinOp.and IntKind.u8 ((48 + (d.1 : Int) - 48) / 2 ^ m.1) 1) % 256 = (((UInt8.ofNat (48 + d.1 / 2 ^ m.1 % 2)).toNat : Nat) : Int) := by decide +kernel
theorem dgL_num : ∀ d : Fin 10, num (dgL d.1 4) 70 = d.1 := by decide +kernel
theorem dgL_kn (d m : Nat) : Kn (dgL d m) := by
  intro i hi
  have hi2 : i < 70 := by rw [dgL_len] at hi; exact hi
  rw [List.getD_eq_getElem?_getD]
  unfold dgL
  rw [List.getElem?_map, List.getElem?_range hi2]
  show (if _ then (49 : UInt8) else 48) = 48 ∨ (if _ then (49 : UInt8) else 48) = 49
  split
  · exact .inr rfl
  · exact .inl rfl
theorem kn_drop {l : List UInt8} (h : Kn l) (k : Nat) : Kn (l.drop k) := by
  intro i hi
  rw [List.length_drop] at hi
  rw [List.getD_eq_getElem?_getD, List.getElem?_drop, ← List.getD_eq_getElem?_getD]
  exact h (k + i) (by omega)
theorem kn_take {l : List UInt8} (h : Kn l) (k : Nat) : Kn (l.take k) := by
  intro i hi
  rw [List.length_take] at hi
  rw [List.getD_eq_getElem?_getD, List.getElem?_take_of_lt (by omega), ← List.getD_eq_getElem?_getD]
  exact h i (by omega)
theorem num_split {l : List UInt8} {n k : Nat} (hl : l.length = n) (hk : k ≤ n) : num l n = num l k + 2 ^ k * num (l.drop k) (n - k) := by
  have h := num_app (l.take k) (l.drop k) (n - k)
  have e : (l.take k).length = k := by rw [List.length_take]; omega
  rw [e, List.take_append_drop, num_take, show k + (n - k) = n by omega] at h
  exact h
theorem cnt_hi {l : List UInt8} {y : Nat} (hl : l.length = 70) (hn : num l 70 = y) : decide ((0 : Int) < ((cntD (l.drop 64) 9 (l.drop 64).length : Nat) : Int)) = ovf y := by
  have h1 := num_split hl (show 64 ≤ 70 by omega)
  have h2 := num_lt l 64
  have h3 := cnt_num (l.drop 64) 9
  rw [h3, show (l.drop 64).length = 70 - 64 by rw [List.length_drop, hl]]
  unfold ovf
  generalize num (l.drop 64) (70 - 64) = q at h1 ⊢
  rw [decide_eq_decide]
  have h4 : (2 : Nat) ^ 64 = 18446744073709551616 := rfl
  rw [h4] at *
  omega
theorem no49 : ∀ (l : List UInt8), Kn l → (l.contains 49 = true ↔ 0 < num l l.length) := by
  intro l hk
  constructor
  · intro h
    have hm : (49 : UInt8) ∈ l := by simpa using h
    obtain ⟨i, hi, e⟩ := List.getElem_of_mem hm
    have hs := num_split (l := l) (n := l.length) rfl (show i + 1 ≤ l.length by omega)
    have hs2 := num_step l i
    rw [getD_at hi, e] at hs2
    have : bit1 49 = 1 := rfl
    rw [this] at hs2
    have := Nat.two_pow_pos i
    omega
  · intro h
    by_cases hc : l.contains 49 = true
    · exact hc
    · exfalso
      have : num l l.length = num (List.replicate l.length 48) l.length := num_same _ fun i hi => by
        rw [getD_at hi, getD_at (by rw [List.length_replicate]; exact hi), List.getElem_replicate]
        have h2 := hk i hi
        rw [getD_at hi] at h2
        rcases h2 with h2 | h2
        · exact h2
        · exact absurd (by simpa using (h2 ▸ List.getElem_mem hi : (49 : UInt8) ∈ l)) hc
      rw [this, num_zero] at h
      omega
theorem tru_hi {l : List UInt8} {x n : Nat} (hl : l.length = 70) (hk : Kn l) (hn : num l 70 = x) (h2 : n ≤ 64) : (((truthL (l.drop n) : Nat) : Int) == 116) = decide (2 ^ n ≤ x) := by
  have h1 := num_split hl (show n ≤ 70 by omega)
  have h3 := num_lt l n
  have h4 := no49 (l.drop n) (kn_drop hk n)
  rw [show (l.drop n).length = 70 - n by rw [List.length_drop, hl]] at h4
  have e : decide (2 ^ n ≤ x) = (l.drop n).contains 49 := by
    rw [Bool.eq_iff_iff, decide_eq_true_iff, h4]
    rw [hn] at h1
    constructor
    · intro h
      rcases Nat.eq_zero_or_pos (num (l.drop n) (70 - n)) with h5 | h5
      · rw [h5] at h1; omega
      · exact h5
    · intro h
      have : 2 ^ n * 1 ≤ 2 ^ n * num (l.drop n) (70 - n) := Nat.mul_le_mul (Nat.le_refl _) h
      omega
  rw [e]
  unfold truthL
  cases (l.drop n).contains 49
  · simp only [Bool.false_eq_true, if_false]
    split <;> rfl
  · rfl
theorem dec_B {l : List UInt8} {x n : Nat} (hl : l.length = 70) (hk : Kn l) (hn : num l 70 = x) (h1 : 1 ≤ n) (h2 : n ≤ 64) (hx : x < 2 ^ n) : Bl (l.take n) = ⟨n, (kv n (BitVec.ofNat 64 x)).v, (kv n (BitVec.ofNat 64 x)).x⟩ := by
  refine Bl_num h1 h2 (by rw [List.length_take]; omega) (kn_take hk n) ?_
  have hp : 2 ^ n ≤ 2 ^ 64 := Nat.pow_le_pow_right (by omega) h2
  rw [num_take, num_mod l 70 n (by omega), hn, BitVec.toNat_ofNat, Nat.mod_eq_of_lt (show x < 2 ^ 64 by omega)]
theorem fill_B {n : Nat} (h1 : 1 ≤ n) (h2 : n ≤ 64) {c : UInt8} {q : Nat} (h : (c = 120 ∧ q = 3) ∨ (c = 122 ∧ q = 2)) : Bl (List.replicate n c) = ⟨n, (fl n q).v, (fl n q).x⟩ := by
  refine Bl_map (fl_ok h1 h2 q) ?_
  unfold vl
  apply List.ext_getElem (by simp)
  intro i h3 h4
  have hi : i < n := by simpa using h3
  rw [List.getElem_replicate, List.getElem_map, List.getElem_range]
  rcases h with ⟨rfl, rfl⟩ | ⟨rfl, rfl⟩ <;> simp [st, fl, msk_bit h2, hi]
end Go.Proofs.YtogmipbdnffegaaGreatDoor
namespace Go.Proofs.YtogmipbdnffegaaGreatDoor
open Go Go.RowKit
set_option linter.unusedVariables false
end Go.Proofs.YtogmipbdnffegaaGreatDoor
namespace Go.Proofs.YtogmipbdnffegaaGreatDoor
open Go Go.RowKit
set_option linter.unusedVariables false
theorem rn_sl {n x : Nat} {v : Value} {w : World} (h : RN n x v w) (hn : 0 < n) : ∃ bl off cap, v = .slice (some ⟨bl, off, none⟩) n cap ∧ n ≤ cap := by
  obtain ⟨l, hr, hl, -⟩ := h
  obtain ⟨a, cap, rfl, -⟩ := id hr.sh
  obtain ⟨bl, off, rfl, -, -⟩ := row_nth hr (k := 0) (by omega)
  exact ⟨bl, off, cap, by rw [hl], hl ▸ hr.cp _ _ _ rfl⟩
theorem own_sl {B n : Nat} {w : World} {v : Value} {l : List UInt8} (h : Own8 B w v l) (hl : l.length = n) (hn : 0 < n) : ∃ g cap, v = .slice (some ⟨g, 0, none⟩) n cap ∧ B ≤ g := by
  rcases id h.2 with ⟨_, h0⟩ | ⟨g, cap, cur, hv, hb, _⟩
  · omega
  · exact ⟨g, cap, by rw [hv, hl], hb⟩
end Go.Proofs.YtogmipbdnffegaaGreatDoor
