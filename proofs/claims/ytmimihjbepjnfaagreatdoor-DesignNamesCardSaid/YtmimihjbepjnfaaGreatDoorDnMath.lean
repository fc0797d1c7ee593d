/- Names of signals: plain facts on lists of bytes. -/
import Derived.Test.YtmimihjbepjnfaaGreatDoorNoteMath
import Derived.Lib.SplitLaws
import Derived.Lib.CutLaws
namespace Go.Proofs.YtmimihjbepjnfaaGreatDoor
open Go
set_option linter.unusedVariables false
/-- bytes that no part of a name holds -/
def badL : List UInt8 := [46, 91, 93, 34, 92]
/-- a part of a name -/
def partL (l : List UInt8) : Bool := decide (1 ≤ l.length) && decide (l.length ≤ 40) && wib 33 126 badL l
/-- the pieces between dots -/
def pcs : List UInt8 → List (List UInt8)
  | [] => [[]]
  | c :: l => if c = 46 then [] :: pcs l else (c :: (pcs l).headD []) :: (pcs l).tail
def nameL (l : List UInt8) : Bool := decide (l.length ≤ 120) && (pcs l).all partL
theorem pcs_ne : ∀ l, pcs l ≠ []
  | [] => by simp [pcs]
  | c :: l => by unfold pcs; split <;> simp
theorem pcs_at (r : List UInt8) : ∀ (a : List UInt8), (∀ x ∈ a, x ≠ 46) → pcs (a ++ 46 :: r) = a :: pcs r
  | [], _ => by simp [pcs]
  | c :: a, h => by
    have ih := pcs_at r a (fun x hx => h x (List.mem_cons_of_mem _ hx))
    have hc : c ≠ 46 := h c List.mem_cons_self
    simp only [List.cons_append, pcs, if_neg hc, ih, List.headD_cons, List.tail_cons]
theorem pcs_no : ∀ (a : List UInt8), (∀ x ∈ a, x ≠ 46) → pcs a = [a]
  | [], _ => rfl
  | c :: a, h => by
    have ih := pcs_no a (fun x hx => h x (List.mem_cons_of_mem _ hx))
    have hc : c ≠ 46 := h c List.mem_cons_self
    simp only [pcs, if_neg hc, ih, List.headD_cons, List.tail_cons]
theorem pcs_le : ∀ (l : List UInt8), ∀ p ∈ pcs l, p.length ≤ l.length
  | [], p, h => by simp [pcs] at h; simp [h]
  | c :: l, p, h => by
    have ih := pcs_le l
    unfold pcs at h
    split at h
    · rcases List.mem_cons.1 h with rfl | h
      · simp
      · have := ih p h; simp; omega
    · rcases List.mem_cons.1 h with rfl | h
      · have hne := pcs_ne l
        cases hq : pcs l with
        | nil => exact absurd hq hne
        | cons q qs =>
          have := ih q (by rw [hq]; exact List.mem_cons_self)
          simp; omega
      · have := ih p (List.mem_of_mem_tail h); simp; omega
theorem ixb_hit {c : UInt8} : ∀ {l : List UInt8} {i : Nat}, Lib.indexByte l c = (i : Int) → ∃ h : i < l.length, l[i] = c ∧ ∀ x ∈ l.take i, x ≠ c
  | [], i, h => by simp [Lib.indexByte] at h
  | b :: l, i, h => by
    unfold Lib.indexByte at h
    split at h
    · rename_i hb
      have hi : i = 0 := by omega
      subst hi
      exact ⟨by simp, by simpa using hb, by simp⟩
    · rename_i hb
      split at h
      · omega
      · obtain ⟨k, rfl⟩ : ∃ k, i = k + 1 := ⟨i - 1, by have := Lib.indexByte_ge l c; rename_i h2; have h3 : Lib.indexByte l c ≠ -1 := by simpa using h2
                                                       omega⟩
        obtain ⟨h1, h2, h3⟩ := ixb_hit (c := c) (l := l) (i := k) (by omega)
        refine ⟨by simp; omega, by simpa using h2, fun x hx => ?_⟩
        simp only [List.take_succ_cons, List.mem_cons] at hx
        rcases hx with rfl | hx
        · simpa using hb
        · exact h3 x hx
theorem ixb_none {c : UInt8} : ∀ {l : List UInt8}, Lib.indexByte l c = -1 → ∀ x ∈ l, x ≠ c
  | [], _ => by simp
  | b :: l, h => by
    unfold Lib.indexByte at h
    split at h
    · omega
    · rename_i hb
      split at h
      · rename_i h2
        have ih := ixb_none (l := l) (c := c) (by simpa using h2)
        intro x hx
        rcases List.mem_cons.1 hx with rfl | hx
        · simpa using hb
        · exact ih x hx
      · have := Lib.indexByte_ge l c
        omega
theorem ixb_mem {c : UInt8} {l : List UInt8} : 0 ≤ Lib.indexByte l c ↔ l.contains c = true := by
  rw [List.contains_iff_mem]
  constructor
  · intro h
    obtain ⟨i, hi⟩ := Int.eq_ofNat_of_zero_le h
    obtain ⟨h1, h2, _⟩ := ixb_hit hi
    rw [← h2]; exact List.getElem_mem h1
  · intro h
    have hg := Lib.indexByte_ge l c
    by_cases h1 : Lib.indexByte l c = -1
    · exact absurd rfl (ixb_none h1 c h)
    · omega
def dot : ByteArray := ⟨#[46]⟩
theorem indexB_dot (s : ByteArray) : Lib.indexB s dot = Lib.indexByte s.data.toList 46 := Lib.index_one s.data.toList 46
theorem split_pcs (n : Nat) : ∀ (s : ByteArray), Lib.countB s dot = n → (Lib.splitB dot 0 n s).map (·.data.toList) = pcs s.data.toList := by
  induction n with
  | zero =>
    intro s hn
    have hm : Lib.indexB s dot = -1 := by
      rcases Lib.indexB_cases s dot with h | ⟨i, h, _⟩
      · exact h
      · have := Lib.countB_hit s dot i (by decide) h; omega
    rw [Lib.splitB_miss dot 0 0 s hm]
    rw [indexB_dot] at hm
    rw [pcs_no _ (ixb_none hm)]; rfl
  | succ n ih =>
    intro s hn
    rcases Lib.indexB_cases s dot with hm | ⟨i, hm, hroom⟩
    · have := Lib.countB_miss s dot hm; omega
    · have hc := Lib.countB_hit s dot i (by decide) hm
      rw [Lib.splitB_hit dot 0 n s i hm]
      have hz : dot.size = 1 := rfl
      rw [hz] at hc hroom ⊢
      rw [indexB_dot] at hm
      obtain ⟨h1, h2, h3⟩ := ixb_hit hm
      have hs : s.data.toList.length = s.size := by simp
      have ih1 := ih (s.extract (i + 1) s.size) (by omega)
      have e1 : (s.extract (i + 1) s.size).data.toList = s.data.toList.drop (i + 1) := by
        simp only [ByteArray.data_extract, Array.toList_extract]
        simp only [List.extract]
        refine List.take_of_length_le ?_
        simp
      have e2 : (s.extract 0 (i + 0)).data.toList = s.data.toList.take i := by
        simp only [ByteArray.data_extract, Array.toList_extract]
        simp [List.extract]
      rw [List.map_cons, ih1, e1, e2]
      have hsp : s.data.toList = s.data.toList.take i ++ 46 :: s.data.toList.drop (i + 1) := by
        rw [← h2, ← List.drop_eq_getElem_cons h1, List.take_append_drop]
      conv => rhs; rw [hsp]
      rw [pcs_at _ _ h3]
/-- the index of one of n elements -/
def ixL (i n : Nat) : List UInt8 := if n = 1 then [] else 91 :: (Lib.decDigits i ++ [93])
def ixB (i n : Nat) : ByteArray := ⟨(ixL i n).toArray⟩
/-- the name of a bit -/
def bitB (s : ByteArray) (E W e k : Nat) : ByteArray := s ++ ixB e E ++ ixB k W
end Go.Proofs.YtmimihjbepjnfaaGreatDoor
