/- The line and the column of a byte of a text: plain facts.
   What a string's bytes are read as. No program here. -/
import Derived.Lib.Bytealg
import Derived.Lib.LastIndexByte
import Derived.Lib.Strings
namespace Go.Proofs.Ytpjnjcljaoaceaa
set_option linter.unusedVariables false
/-- line and column behind k bytes -/
def plcT (s : ByteArray) : Nat → Nat × Nat
  | 0 => (1, 1)
  | k + 1 => if ((s.data[k]!).toNat : Int) = 10 then ((plcT s k).1 + 1, 1) else ((plcT s k).1, (plcT s k).2 + 1)
theorem plc_le (s : ByteArray) (k : Nat) : 1 ≤ (plcT s k).1 ∧ (plcT s k).1 ≤ k + 1 ∧ 1 ≤ (plcT s k).2 ∧ (plcT s k).2 ≤ k + 1 := by
  induction k with
  | zero => simp [plcT]
  | succ k ih =>
    unfold plcT
    split
    · simp only; omega
    · simp only; omega
theorem plc_col (s : ByteArray) (k : Nat) : (k : Int) - Lib.lastIdx s 10 k = ((plcT s k).2 : Int) := by
  induction k with
  | zero => rfl
  | succ k ih =>
    unfold plcT Lib.lastIdx
    split
    · simp only; omega
    · simp only; omega
theorem get_of_lt (s : ByteArray) (k : Nat) (h : k < s.size) : s.data[k]! = s[k] := by
  rw [getElem!_pos s.data k h]; rfl
theorem extract_get (s : ByteArray) (k j : Nat) (hj : j < k) (hk : k ≤ s.size) : (s.extract 0 k).data[j]! = s.data[j]! := by
  have hd : (s.extract 0 k).data = s.data.extract 0 k := by simp [ByteArray.data_extract]
  have hs : s.data.size = s.size := rfl
  have h1 : j < (s.data.extract 0 k).size := by simp; omega
  rw [hd, getElem!_pos (s.data.extract 0 k) j h1, getElem!_pos s.data j (by omega)]
  simp
theorem lastIdx_extract (s : ByteArray) (c : Int) (k : Nat) (hk : k ≤ s.size) : ∀ j, j ≤ k → Lib.lastIdx (s.extract 0 k) c j = Lib.lastIdx s c j := by
  intro j
  induction j with
  | zero => intro _; rfl
  | succ j ih => intro h; unfold Lib.lastIdx; rw [extract_get s k j (by omega) hk, ih (by omega)]
theorem place_col (s : ByteArray) (k : Nat) (hk : k ≤ s.size) : (k : Int) - Lib.lastIndexByte (s.extract 0 k) 10 = ((plcT s k).2 : Int) := by
  have e : (s.extract 0 k).size = k := by simp; omega
  unfold Lib.lastIndexByte
  rw [e, lastIdx_extract s 10 k hk k (Nat.le_refl _)]
  exact plc_col s k
theorem take_snoc (s : ByteArray) (k : Nat) (h : k < s.size) : s.data.toList.take (k + 1) = s.data.toList.take k ++ [s.data[k]!] := by
  rw [List.take_succ_eq_append_getElem (by simpa using h), getElem!_pos s.data k h]; simp
theorem plc_line (s : ByteArray) (k : Nat) (hk : k ≤ s.size) : 1 + (s.data.toList.take k).count 10 = (plcT s k).1 := by
  induction k with
  | zero => rfl
  | succ k ih =>
    have ih := ih (by omega)
    rw [take_snoc s k (by omega), List.count_append]
    unfold plcT
    have e : ((s.data[k]!).toNat : Int) = 10 ↔ s.data[k]! = 10 := by
      constructor
      · intro h; apply UInt8.toNat_inj.1; show _ = 10; omega
      · intro h; rw [h]; rfl
    by_cases h : s.data[k]! = 10
    · rw [if_pos (e.2 h), h]; simp; omega
    · rw [if_neg (fun x => h (e.1 x))]; simp [h]; omega
theorem place_line (s : ByteArray) (k : Nat) (hk : k ≤ s.size) : (1 : Int) + (Lib.countByte (s.data.toList.take k) 10 : Nat) = ((plcT s k).1 : Int) := by
  unfold Lib.countByte
  rw [← plc_line s k hk]; omega
theorem plc_cut (s : ByteArray) (m : Nat) (hm : m ≤ s.size) : ∀ j, j ≤ m → plcT (s.extract 0 m) j = plcT s j := by
  intro j
  induction j with
  | zero => intro _; rfl
  | succ j ih => intro h; unfold plcT; rw [extract_get s m j (by omega) hm, ih (by omega)]
end Go.Proofs.Ytpjnjcljaoaceaa
namespace Go.Proofs.Ytpjnjcljaoaceaa
set_option linter.unusedVariables false
inductive So
  | ok (n : Nat) (l : List UInt8)
  | er (e : Int)
/-- byte n of a text, as a number -/
def gb (s : ByteArray) (n : Nat) : Nat := (s.data[n]!).toNat
theorem gb_le (s : ByteArray) (n : Nat) : gb s n ≤ 255 := by have := (s.data[n]!).toNat_lt; unfold gb; omega
theorem gb_at (s : ByteArray) (n : Nat) (h : n < s.size) : s[n].toNat = gb s n := by unfold gb; rw [get_of_lt s n h]
/-- from byte n on, with the content l so far: what comes of it -/
inductive Ss (s : ByteArray) : Nat → List UInt8 → So → Prop
  | nd {n : Nat} {l : List UInt8} (h : s.size ≤ n) : Ss s n l (.er 11)
  | nl {n : Nat} {l : List UInt8} (h : n < s.size) (c : gb s n = 10) : Ss s n l (.er 11)
  | qt {n : Nat} {l : List UInt8} (h : n < s.size) (c : gb s n = 34) : Ss s n l (.ok n l)
  | be {n : Nat} {l : List UInt8} (h : n < s.size) (c : gb s n = 92) (h1 : n + 1 = s.size) : Ss s n l (.er 11)
  | bx {n : Nat} {l : List UInt8} (h : n < s.size) (c : gb s n = 92) (h1 : n + 1 < s.size) (d : gb s (n + 1) ≠ 34) (e : gb s (n + 1) ≠ 92) : Ss s n l (.er 10)
  | bo {n : Nat} {l : List UInt8} {o : So} (h : n < s.size) (c : gb s n = 92) (h1 : n + 1 < s.size) (d : gb s (n + 1) = 34 ∨ gb s (n + 1) = 92) (r : Ss s (n + 2) (l ++ [s.data[n + 1]!]) o) : Ss s n l o
  | il {n : Nat} {l : List UInt8} (h : n < s.size) (c : gb s n ≠ 10) (d : gb s n ≠ 34) (e : gb s n ≠ 92) (f : gb s n < 32 ∨ 126 < gb s n) : Ss s n l (.er 10)
  | go {n : Nat} {l : List UInt8} {o : So} (h : n < s.size) (d : gb s n ≠ 34) (e : gb s n ≠ 92) (f : 32 ≤ gb s n ∧ gb s n ≤ 126) (r : Ss s (n + 1) (l ++ [s.data[n]!]) o) : Ss s n l o
theorem ss_total (s : ByteArray) : ∀ (f n : Nat) (l : List UInt8), s.size - n ≤ f → ∃ o, Ss s n l o := by
  intro f
  induction f with
  | zero => intro n l h; exact ⟨_, .nd (by omega)⟩
  | succ f ih =>
    intro n l h
    by_cases h0 : n < s.size
    · by_cases c1 : gb s n = 10
      · exact ⟨_, .nl h0 c1⟩
      · by_cases c2 : gb s n = 34
        · exact ⟨_, .qt h0 c2⟩
        · by_cases c3 : gb s n = 92
          · by_cases h1 : n + 1 < s.size
            · by_cases d : gb s (n + 1) = 34 ∨ gb s (n + 1) = 92
              · obtain ⟨o, r⟩ := ih (n + 2) (l ++ [s.data[n + 1]!]) (by omega)
                exact ⟨o, .bo h0 c3 h1 d r⟩
              · exact ⟨_, .bx h0 c3 h1 (fun x => d (.inl x)) (fun x => d (.inr x))⟩
            · exact ⟨_, .be h0 c3 (by omega)⟩
          · by_cases f1 : 32 ≤ gb s n ∧ gb s n ≤ 126
            · obtain ⟨o, r⟩ := ih (n + 1) (l ++ [s.data[n]!]) (by omega)
              exact ⟨o, .go h0 c2 c3 f1 r⟩
            · exact ⟨_, .il h0 c1 c2 c3 (by omega)⟩
    · exact ⟨_, .nd (by omega)⟩
end Go.Proofs.Ytpjnjcljaoaceaa
