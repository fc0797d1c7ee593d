/- The lines of a text and the place of a byte: plain facts. -/
import Derived.Test.YtmememehlfbgaaaDoorPlaceMath
import Derived.Lib.SplitLaws
import Derived.Lib.CountLaws
import Derived.Lib.CutLaws
namespace Go.Proofs.YtmememehlfbgaaaDoor
open Go
set_option linter.unusedVariables false
theorem idx_hit {c : UInt8} : ∀ {l : List UInt8} {i : Nat}, Lib.indexByte l c = (i : Int) → ∃ h : i < l.length, l[i] = c ∧ ∀ (j : Nat) (hj : j < i), l[j]'(by omega) ≠ c
  | [], i, h => by simp [Lib.indexByte] at h
  | b :: l, i, h => by
    unfold Lib.indexByte at h
    split at h
    · rename_i hb
      have hi : i = 0 := by omega
      subst hi
      exact ⟨by simp, by simpa using hb, fun j hj => by omega⟩
    · rename_i hb
      split at h
      · omega
      · obtain ⟨k, rfl⟩ : ∃ k, i = k + 1 := ⟨i - 1, by have := Lib.indexByte_ge l c; rename_i h2; have h3 : Lib.indexByte l c ≠ -1 := by simpa using h2
                                                       omega⟩
        obtain ⟨h1, h2, h3⟩ := idx_hit (c := c) (l := l) (i := k) (by omega)
        refine ⟨by simp; omega, by simpa using h2, fun j hj => ?_⟩
        cases j with
        | zero => simpa using hb
        | succ j => simpa using h3 j (by omega)
theorem idx_none {c : UInt8} : ∀ {l : List UInt8}, Lib.indexByte l c = -1 → ∀ x ∈ l, x ≠ c
  | [], _ => by simp
  | b :: l, h => by
    unfold Lib.indexByte at h
    split at h
    · omega
    · rename_i hb
      split at h
      · rename_i h2
        have ih := idx_none (l := l) (c := c) (by simpa using h2)
        intro x hx
        rcases List.mem_cons.1 hx with rfl | hx
        · simpa using hb
        · exact ih x hx
      · have := Lib.indexByte_ge l c
        omega
def nl : ByteArray := ⟨#[10]⟩
theorem indexB_nl (s : ByteArray) : Lib.indexB s nl = Lib.indexByte s.data.toList 10 := Lib.index_one s.data.toList 10
/-- bytes and ends of the first j pieces -/
def psum : List ByteArray → Nat → Nat
  | _, 0 => 0
  | [], _ + 1 => 0
  | x :: r, n + 1 => (x.size + 1) + psum r n
theorem psum_snoc : ∀ (P : List ByteArray) (j : Nat) (x : ByteArray), P[j]? = some x → psum P (j + 1) = psum P j + (x.size + 1)
  | [], j, x, h => by simp at h
  | y :: r, 0, x, h => by simp at h; subst h; cases r <;> simp [psum]
  | y :: r, j + 1, x, h => by
    have ih := psum_snoc r j x (by simpa using h)
    simp only [psum] at ih ⊢
    omega
theorem plc_first (s : ByteArray) : ∀ k : Nat, (∀ j, j < k → ((s.data[j]!).toNat : Int) ≠ 10) → plc s k = (1, k + 1)
  | 0, _ => rfl
  | k + 1, h => by
    have ih := plc_first s k (fun j hj => h j (by omega))
    unfold plc
    rw [if_neg (h k (by omega)), ih]
theorem plc_succ (s : ByteArray) (k : Nat) : plc s (k + 1) = if ((s.data[k]!).toNat : Int) = 10 then ((plc s k).1 + 1, 1) else ((plc s k).1, (plc s k).2 + 1) := rfl
theorem plc_shift (s : ByteArray) (i : Nat) (hi : ((s.data[i]!).toNat : Int) = 10) : ∀ k : Nat, i + 1 + k ≤ s.size → plc s (i + 1 + k) = ((plc s i).1 + (plc (s.extract (i + 1) s.size) k).1, (plc (s.extract (i + 1) s.size) k).2)
  | 0, _ => by
    show plc s (i + 1) = _
    conv => lhs; unfold plc
    rw [if_pos hi]; rfl
  | k + 1, h => by
    have ih := plc_shift s i hi k (by omega)
    have e : (s.extract (i + 1) s.size).data[k]! = s.data[i + 1 + k]! := by
      have hd : (s.extract (i + 1) s.size).data = s.data.extract (i + 1) s.size := by simp [ByteArray.data_extract]
      have hs : s.data.size = s.size := rfl
      have h1 : k < (s.data.extract (i + 1) s.size).size := by simp; omega
      rw [hd, getElem!_pos (s.data.extract (i + 1) s.size) k h1, getElem!_pos s.data (i + 1 + k) (by omega)]
      simp
    show plc s (i + 1 + k + 1) = _
    rw [plc_succ s (i + 1 + k), plc_succ (s.extract (i + 1) s.size) k, e, ih]
    split
    · simp only [Nat.add_assoc]
    · rfl
theorem split_place (n : Nat) : ∀ (s : ByteArray), Lib.countB s nl = n → ∀ k, k ≤ s.size →
    (plc s k).1 ≤ n + 1 ∧ (∃ x, (Lib.splitB nl 0 n s)[(plc s k).1 - 1]? = some x ∧ (plc s k).2 ≤ x.size + 1) ∧ psum (Lib.splitB nl 0 n s) ((plc s k).1 - 1) + ((plc s k).2 - 1) = k := by
  induction n with
  | zero =>
    intro s hn k hk
    have hm : Lib.indexB s nl = -1 := by
      rcases Lib.indexB_cases s nl with h | ⟨i, h, _⟩
      · exact h
      · have := Lib.countB_hit s nl i (by decide) h; omega
    have h0 := hm
    rw [indexB_nl] at h0
    have hno := idx_none h0
    have hp := plc_first s k (fun j hj e => by
      have hj' : j < s.data.toList.length := by simp; show j < s.size; omega
      have h1 := hno s.data.toList[j] (List.getElem_mem hj')
      apply h1
      apply UInt8.toNat_inj.1
      rw [get_of_lt s j (by omega)] at e
      have e2 : s.data.toList[j].toNat = s[j].toNat := rfl
      rw [e2]; show _ = 10; omega)
    rw [hp]
    refine ⟨by simp, ⟨s, rfl, by simp; omega⟩, ?_⟩
    show 0 + (k + 1 - 1) = k
    omega
  | succ n ih =>
    intro s hn k hk
    rcases Lib.indexB_cases s nl with hm | ⟨i, hm, hroom⟩
    · have := Lib.countB_miss s nl hm; omega
    · have hc := Lib.countB_hit s nl i (by decide) hm
      have hz : nl.size = 1 := rfl
      rw [hz] at hc hroom
      have h0 := hm
      rw [indexB_nl] at h0
      obtain ⟨hil, hi10, hno⟩ := idx_hit h0
      have hb : ((s.data[i]!).toNat : Int) = 10 := by
        rw [get_of_lt s i (by omega)]
        have e2 : s.data.toList[i].toNat = s[i].toNat := rfl
        rw [← e2, hi10]; rfl
      have hno2 : ∀ j, j < i → ((s.data[j]!).toNat : Int) ≠ 10 := fun j hj e => by
        apply hno j hj
        apply UInt8.toNat_inj.1
        rw [get_of_lt s j (by omega)] at e
        have e2 : (s.data.toList[j]'(by omega)).toNat = s[j].toNat := rfl
        rw [e2]; show _ = 10; omega
      have hsp := Lib.splitB_hit nl 0 n s i hm
      rw [hz] at hsp
      rw [hsp]
      have hei : (s.extract 0 (i + 0)).size = i := by simp; omega
      by_cases hki : k ≤ i
      · rw [plc_first s k (fun j hj => hno2 j (by omega))]
        refine ⟨by simp, ⟨_, rfl, by rw [hei]; simp; omega⟩, ?_⟩
        show 0 + (k + 1 - 1) = k
        omega
      · obtain ⟨k', rfl⟩ : ∃ k', k = i + 1 + k' := ⟨k - (i + 1), by omega⟩
        have hsz : (s.extract (i + 1) s.size).size = s.size - (i + 1) := by simp
        obtain ⟨r1, ⟨x, hx, hxl⟩, r3⟩ := ih (s.extract (i + 1) s.size) (by omega) k' (by omega)
        obtain ⟨l1, l2, l3, l4⟩ := plc_le (s.extract (i + 1) s.size) k'
        rw [plc_shift s i hb k' hk, plc_first s i hno2]
        obtain ⟨m, hm2⟩ : ∃ m, (plc (s.extract (i + 1) s.size) k').1 = m + 1 := ⟨(plc (s.extract (i + 1) s.size) k').1 - 1, by omega⟩
        simp only [hm2] at r1 hx r3 ⊢
        have e1 : 1 + (m + 1) - 1 = m + 1 := by omega
        have e2 : m + 1 - 1 = m := by omega
        rw [e2] at hx r3
        rw [e1]
        refine ⟨by omega, ⟨x, by simpa using hx, hxl⟩, ?_⟩
        simp only [psum]
        rw [hei]; omega
theorem split_le (n : Nat) : ∀ (s : ByteArray), Lib.countB s nl = n → ∀ x ∈ Lib.splitB nl 0 n s, x.size ≤ s.size := by
  induction n with
  | zero => intro s _ x hx; rw [Lib.splitB_zero] at hx; simp at hx; rw [hx]; omega
  | succ n ih =>
    intro s hn x hx
    rcases Lib.indexB_cases s nl with hm | ⟨i, hm, hroom⟩
    · have := Lib.countB_miss s nl hm; omega
    · have hc := Lib.countB_hit s nl i (by decide) hm
      have hz : nl.size = 1 := rfl
      rw [Lib.splitB_hit nl 0 n s i hm] at hx
      rw [hz] at hc hroom hx
      rcases List.mem_cons.1 hx with rfl | hx
      · simp; omega
      · have := ih _ (by omega) x hx
        simp at this; omega
theorem psum_mono (P : List ByteArray) (j k : Nat) (h : j ≤ k) : psum P j ≤ psum P k := by
  obtain ⟨d, rfl⟩ := Nat.le.dest h
  clear h
  induction d with
  | zero => exact Nat.le_refl _
  | succ d ih =>
    refine Nat.le_trans ih ?_
    show psum P (j + d) ≤ psum P (j + d + 1)
    cases hx : P[j + d]? with
    | some x => rw [psum_snoc P _ x hx]; omega
    | none =>
      have hl : P.length ≤ j + d := by simpa using hx
      have e : ∀ (P : List ByteArray) (k : Nat), P.length ≤ k → psum P (k + 1) = psum P k := by
        intro P
        induction P with
        | nil => intro k _; cases k <;> rfl
        | cons y r ih2 =>
          intro k hk
          cases k with
          | zero => simp at hk
          | succ k => simp only [psum]; rw [← ih2 k (by simpa using hk)]
      rw [e P _ hl]; exact Nat.le_refl _
end Go.Proofs.YtmememehlfbgaaaDoor
