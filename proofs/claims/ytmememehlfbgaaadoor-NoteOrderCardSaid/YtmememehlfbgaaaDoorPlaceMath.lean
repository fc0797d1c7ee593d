/- The line and the column of a byte of a text: plain facts. -/
import Derived.Lib.Bytealg
import Derived.Lib.LastIndexByte
import Derived.Lib.Strings
namespace Go.Proofs.YtmememehlfbgaaaDoor
set_option linter.unusedVariables false
/-- line and column behind k bytes -/
def plc (s : ByteArray) : Nat → Nat × Nat
  | 0 => (1, 1)
  | k + 1 => if ((s.data[k]!).toNat : Int) = 10 then ((plc s k).1 + 1, 1) else ((plc s k).1, (plc s k).2 + 1)
theorem plc_le (s : ByteArray) (k : Nat) : 1 ≤ (plc s k).1 ∧ (plc s k).1 ≤ k + 1 ∧ 1 ≤ (plc s k).2 ∧ (plc s k).2 ≤ k + 1 := by
  induction k with
  | zero => simp [plc]
  | succ k ih =>
    unfold plc
    split
    · simp only; omega
    · simp only; omega
theorem plc_col (s : ByteArray) (k : Nat) : (k : Int) - Lib.lastIdx s 10 k = ((plc s k).2 : Int) := by
  induction k with
  | zero => rfl
  | succ k ih =>
    unfold plc Lib.lastIdx
    split
    · simp only; omega
    · simp only; omega
theorem get_of_lt (s : ByteArray) (k : Nat) (h : k < s.size) : s.data[k]! = s[k] := by
  rw [getElem!_pos s.data k h]; rfl
theorem extract_get (s : ByteArray) (k j : Nat) (hj : j < k) (hk : k ≤ s.size) : (s.extract 0 k).data[j]! = s.data[j]! := by
  have hd : (s.extract 0 k).data = s.data.extract 0 k := by simp [ByteArray.data_extract]
  have hs : s.data.size = s.size := rfl
  have h1 : j < (s.data.extract 0 k).size := by simp; omega
  rw [hd, getElem!_pos (s.data.extract 0 k) j h1, getElem!_pos s.data j (by omega)]
  simp
theorem lastIdx_extract (s : ByteArray) (c : Int) (k : Nat) (hk : k ≤ s.size) : ∀ j, j ≤ k → Lib.lastIdx (s.extract 0 k) c j = Lib.lastIdx s c j := by
  intro j
  induction j with
  | zero => intro _; rfl
  | succ j ih => intro h; unfold Lib.lastIdx; rw [extract_get s k j (by omega) hk, ih (by omega)]
theorem place_col (s : ByteArray) (k : Nat) (hk : k ≤ s.size) : (k : Int) - Lib.lastIndexByte (s.extract 0 k) 10 = ((plc s k).2 : Int) := by
  have e : (s.extract 0 k).size = k := by simp; omega
  unfold Lib.lastIndexByte
  rw [e, lastIdx_extract s 10 k hk k (Nat.le_refl _)]
  exact plc_col s k
theorem take_snoc (s : ByteArray) (k : Nat) (h : k < s.size) : s.data.toList.take (k + 1) = s.data.toList.take k ++ [s.data[k]!] := by
  rw [List.take_succ_eq_append_getElem (by simpa using h), getElem!_pos s.data k h]; simp
theorem plc_line (s : ByteArray) (k : Nat) (hk : k ≤ s.size) : 1 + (s.data.toList.take k).count 10 = (plc s k).1 := by
  induction k with
  | zero => rfl
  | succ k ih =>
    have ih := ih (by omega)
    rw [take_snoc s k (by omega), List.count_append]
    unfold plc
    have e : ((s.data[k]!).toNat : Int) = 10 ↔ s.data[k]! = 10 := by
      constructor
      · intro h; apply UInt8.toNat_inj.1; show _ = 10; omega
      · intro h; rw [h]; rfl
    by_cases h : s.data[k]! = 10
    · rw [if_pos (e.2 h), h]; simp; omega
    · rw [if_neg (fun x => h (e.1 x))]; simp [h]; omega
theorem place_line (s : ByteArray) (k : Nat) (hk : k ≤ s.size) : (1 : Int) + (Lib.countByte (s.data.toList.take k) 10 : Nat) = ((plc s k).1 : Int) := by
  unfold Lib.countByte
  rw [← plc_line s k hk]; omega
theorem plc_cut (s : ByteArray) (m : Nat) (hm : m ≤ s.size) : ∀ j, j ≤ m → plc (s.extract 0 m) j = plc s j := by
  intro j
  induction j with
  | zero => intro _; rfl
  | succ j ih => intro h; unfold plc; rw [extract_get s m j (by omega) hm, ih (by omega)]
end Go.Proofs.YtmememehlfbgaaaDoor
