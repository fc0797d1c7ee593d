/- The words and the signs of the language, and how a word is found. No program here. -/
import Derived.Test.YtogmipbdnffegaaGreatDoorLxMath
namespace Go.Proofs.YtogmipbdnffegaaGreatDoor
open Go Go.RowKit
set_option linter.unusedVariables false
def wordL : List (List UInt8) := [[97, 102, 116, 101, 114], [97, 108, 119, 97, 121, 115], [97, 110, 100], [97, 115, 115, 105, 103, 110], [99, 97, 115, 101], [99, 97, 115, 101, 120], [99, 97, 115, 101, 122], [99, 97, 116], [99, 104, 101, 99, 107], [99, 111, 109, 98], [99, 111, 110, 115, 116], [100, 101, 102, 97, 117, 108, 116], [100, 101, 108, 97, 121], [100, 111, 119, 110, 116, 111], [101, 108, 115, 101], [101, 110, 117, 109], [102, 97, 108, 108], [102, 111, 114], [102, 117, 110, 99, 116, 105, 111, 110], [105, 102], [105, 110], [105, 110, 105, 116, 105, 97, 108], [105, 110, 115, 116], [105, 110, 116, 101, 114, 102, 97, 99, 101], [108, 105, 110, 107], [108, 111, 103], [109, 111, 100, 117, 108, 101], [109, 111, 110, 105, 116, 111, 114], [110, 111, 119], [111, 110], [111, 114], [111, 117, 116], [112, 114, 111, 112, 101, 114, 116, 121], [114, 101, 112], [114, 101, 112, 101, 97, 116], [114, 105, 115, 101], [115, 101, 113], [115, 104, 111, 119], [115, 105, 103, 110, 101, 100], [115, 105, 122, 101], [115, 116, 111, 112], [115, 116, 114, 111, 98, 101], [115, 116, 114, 117, 99, 116], [116, 104, 101, 110], [116, 105, 109, 101, 115], [116, 111], [117, 110, 115, 105, 103, 110, 101, 100], [118, 97, 114], [118, 105, 101, 119], [119, 97, 105, 116], [119, 104, 105, 108, 101], [119, 105, 100, 116, 104], [119, 105, 114, 101], [119, 114, 105, 116, 101]]
def signL : List (List UInt8) := [[33, 61, 61], [61, 61, 61], [62, 62, 62], [33, 61], [38, 38], [43, 58], [45, 62], [60, 60], [60, 61], [61, 61], [61, 62], [62, 61], [62, 62], [124, 124], [33], [35], [37], [38], [40], [41], [42], [43], [44], [45], [46], [47], [58], [59], [60], [61], [62], [63], [91], [93], [94], [123], [124], [125], [126]]
def wordB (i : Nat) : ByteArray := ⟨(wordL.getD i []).toArray⟩
def signB (i : Nat) : ByteArray := ⟨(signL.getD i []).toArray⟩
theorem less_irr : ∀ a, Op.bytesLess a a = false
  | [] => rfl
  | a :: x => by
    have h := less_irr x
    have h2 : ¬ a < a := by intro h3; exact absurd (UInt8.lt_iff_toNat_lt.1 h3) (Nat.lt_irrefl _)
    simp [Op.bytesLess, h, h2]
theorem less_tri : ∀ a b, Op.bytesLess a b = false → Op.bytesLess b a = false → a = b
  | [], [], _, _ => rfl
  | [], b :: y, h, _ => by simp [Op.bytesLess] at h
  | a :: x, [], _, h => by simp [Op.bytesLess] at h
  | a :: x, b :: y, h1, h2 => by
    simp only [Op.bytesLess, Bool.or_eq_false_iff, decide_eq_false_iff_not, Bool.and_eq_false_iff, UInt8.lt_iff_toNat_lt] at h1 h2
    have e : a = b := UInt8.toNat_inj.1 (by omega)
    subst e
    simp at h1 h2
    rw [less_tri x y h1 h2]
theorem less_trans : ∀ a b c, Op.bytesLess a b = true → Op.bytesLess b c = true → Op.bytesLess a c = true
  | _, _, [], _, h => by simp [Op.bytesLess] at h
  | [], _, c :: z, _, _ => by simp [Op.bytesLess]
  | a :: x, [], c :: z, h, _ => by simp [Op.bytesLess] at h
  | a :: x, b :: y, c :: z, h1, h2 => by
    simp only [Op.bytesLess, Bool.or_eq_true, decide_eq_true_eq, Bool.and_eq_true, beq_iff_eq, UInt8.lt_iff_toNat_lt] at h1 h2 ⊢
    rcases h1 with h1 | ⟨e1, h1⟩ <;> rcases h2 with h2 | ⟨e2, h2⟩
    · exact .inl (by omega)
    · exact .inl (by rw [← e2]; exact h1)
    · exact .inl (by rw [e1]; exact h2)
    · exact .inr ⟨e1.trans e2, less_trans x y z h1 h2⟩
theorem words_up : ∀ i : Fin 54, ∀ j : Fin 54, i.1 < j.1 → Op.bytesLess (wordL.getD i.1 []) (wordL.getD j.1 []) = true := by decide +kernel
theorem words_len : wordL.length = 54 := by decide +kernel
/-- is a text a word of the language -/
def isKey (l : List UInt8) : Bool := wordL.contains l
/-- is the i-th word at least this text -/
def wGe (l : List UInt8) (i : Nat) : Bool := !(Op.bytesLess (wordL.getD i []) l)
theorem wGe_mono (l : List UInt8) : ∀ a b, a ≤ b → b < 54 → wGe l a = true → wGe l b = true := by
  intro a b hab hb h
  unfold wGe at h ⊢
  by_cases e : a = b
  · rw [← e]; exact h
  · cases h2 : Op.bytesLess (wordL.getD b []) l
    · rfl
    · have := less_trans _ _ _ (words_up ⟨a, by omega⟩ ⟨b, hb⟩ (by show a < b; omega)) h2
      rw [this] at h; simp at h
theorem count_mono (q : Nat → Bool) : ∀ n, (∀ a b, a ≤ b → b < n → q b = true → q a = true) → ∀ i, i < n → (q i = true ↔ i < (List.range n).countP q)
  | 0, _, i, hi => absurd hi (Nat.not_lt_zero _)
  | n + 1, hm, i, hi => by
    have ih := count_mono q n (fun a b h1 h2 h3 => hm a b h1 (by omega) h3)
    rw [List.range_succ, List.countP_append]
    have hle : (List.range n).countP q ≤ n := by have := List.countP_le_length (p := q) (l := List.range n); simpa using this
    cases hn : q n
    · have e : List.countP q [n] = 0 := by simp [hn]
      rw [e, Nat.add_zero]
      by_cases hin : i = n
      · subst hin; rw [hn]; simp; exact hle
      · exact ih i (by omega)
    · have e : List.countP q [n] = 1 := by simp [hn]
      rw [e]
      have hall : ∀ j, j < n → q j = true := fun j hj => hm j n (by omega) (by omega) hn
      have hc : (List.range n).countP q = n := by
        have : (List.range n).countP q = (List.range n).length := List.countP_eq_length.2 (fun j hj => hall j (List.mem_range.1 hj))
        simpa using this
      rw [hc]
      by_cases hin : i = n
      · subst hin; simp [hn]
      · simp [hall i (by omega)]; omega
/-- how many words are less than a text -/
def wAt (l : List UInt8) : Nat := (List.range 54).countP (fun i => !wGe l i)
theorem wAt_le (l : List UInt8) : wAt l ≤ 54 := by unfold wAt; have := List.countP_le_length (p := fun i => !wGe l i) (l := List.range 54); simpa using this
theorem wAt_iff (l : List UInt8) (i : Nat) (hi : i < 54) : Op.bytesLess (wordL.getD i []) l = true ↔ i < wAt l := by
  have h := count_mono (fun i => !wGe l i) 54 (fun a b hab hb hq => by
    cases h2 : wGe l a
    · rfl
    · have := wGe_mono l a b hab hb h2
      rw [this] at hq; cases hq) i hi
  unfold wAt
  rw [← h]
  unfold wGe
  simp
theorem key_iff (l : List UInt8) : isKey l = (decide (wAt l < 54) && (wordL.getD (wAt l) [] == l)) := by
  rw [Bool.eq_iff_iff, Bool.and_eq_true, decide_eq_true_eq, beq_iff_eq]
  unfold isKey
  rw [List.contains_iff_mem]
  constructor
  · intro h
    obtain ⟨j, hj, e⟩ := List.getElem_of_mem h
    rw [words_len] at hj
    have ej : wordL.getD j [] = l := by rw [List.getD_eq_getElem?_getD, List.getElem?_eq_getElem (by rw [words_len]; exact hj)]; exact e
    have hn : ¬ j < wAt l := fun h2 => by
      have := (wAt_iff l j hj).2 h2
      rw [ej, less_irr] at this; cases this
    have hn2 : ¬ wAt l < j := fun h2 => by
      have hlt := (wAt_iff l (wAt l) (by omega))
      have h3 := words_up ⟨wAt l, by omega⟩ ⟨j, hj⟩ h2
      rw [ej] at h3
      exact absurd (hlt.1 h3) (Nat.lt_irrefl _)
    have : wAt l = j := by omega
    rw [this]
    exact ⟨hj, ej⟩
  · rintro ⟨h1, h2⟩
    rw [← h2, List.getD_eq_getElem?_getD, List.getElem?_eq_getElem (by rw [words_len]; exact h1)]
    exact List.getElem_mem _
end Go.Proofs.YtogmipbdnffegaaGreatDoor
