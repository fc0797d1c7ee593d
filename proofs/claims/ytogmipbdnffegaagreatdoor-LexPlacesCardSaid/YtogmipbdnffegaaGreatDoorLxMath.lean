/- Bytes of a text that belong to a class, and how many of them a text begins with. No program here. -/
import Derived.Test.YtogmipbdnffegaaGreatDoorBase
namespace Go.Proofs.YtogmipbdnffegaaGreatDoor
open Go Go.RowKit
set_option linter.unusedVariables false
theorem len_list (s : ByteArray) : s.data.toList.length = s.size := by simp only [Array.length_toList]; rfl
def isL (c : Nat) : Bool := (decide (97 ≤ c) && decide (c ≤ 122)) || (decide (65 ≤ c) && decide (c ≤ 90)) || c == 95
def isD (c : Nat) : Bool := decide (48 ≤ c) && decide (c ≤ 57)
def inW (c : Nat) : Bool := isL c || isD c
def inQ (c : Nat) : Bool := decide (33 ≤ c) && decide (c ≤ 126) && !(c == 46 || c == 91 || c == 93 || c == 34 || c == 92 || c == 96)
def isB (c : Nat) : Bool := c == 32 || c == 9 || c == 10
def noF (c : Nat) : Bool := c != 10
def spn (f : Nat → Bool) : List UInt8 → Nat
  | [] => 0
  | c :: l => if f c.toNat then spn f l + 1 else 0
theorem spn_le (f : Nat → Bool) : ∀ l, spn f l ≤ l.length
  | [] => Nat.le_refl _
  | c :: l => by
    unfold spn
    split
    · have := spn_le f l; simp; omega
    · exact Nat.zero_le _
def span (f : Nat → Bool) (s : ByteArray) : Nat := spn f s.data.toList
theorem span_le (f : Nat → Bool) (s : ByteArray) : span f s ≤ s.size := by have := spn_le f s.data.toList; rw [len_list] at this; exact this
theorem spn_is (f : Nat → Bool) : ∀ (l : List UInt8) (n : Nat), n ≤ l.length → (∀ q (h : q < l.length), q < n → f l[q].toNat = true) → (∀ h : n < l.length, f l[n].toNat = false) → spn f l = n
  | [], n, hn, _, _ => by simp at hn; subst hn; rfl
  | c :: l, 0, _, _, h => by
    have := h (by simp)
    unfold spn
    rw [if_neg (by simpa using this)]
  | c :: l, n + 1, hn, hd, hs => by
    have h0 := hd 0 (by simp) (by omega)
    unfold spn
    rw [if_pos (by simpa using h0)]
    congr 1
    refine spn_is f l n (by simpa using hn) (fun q h hq => ?_) (fun h => ?_)
    · have := hd (q + 1) (by simpa using h) (by omega)
      simpa using this
    · have := hs (by simpa using h)
      simpa using this
theorem span_is {f : Nat → Bool} {s : ByteArray} {n : Nat} (hn : n ≤ s.size) (hd : ∀ q (h : q < s.size), q < n → f s[q].toNat = true) (hs : ∀ h : n < s.size, f s[n].toNat = false) : span f s = n :=
  spn_is f _ n (by rw [len_list]; exact hn) (fun q h hq => hd q (by rw [← len_list]; exact h) hq) (fun h => hs (by rw [← len_list]; exact h))
theorem spn_yes (f : Nat → Bool) : ∀ (l : List UInt8) (q : Nat) (h : q < l.length), q < spn f l → f l[q].toNat = true
  | [], q, h, _ => by simp at h
  | c :: l, 0, _, h => by
    unfold spn at h
    split at h
    · simpa using ‹_›
    · omega
  | c :: l, q + 1, hq, h => by
    unfold spn at h
    split at h
    · exact spn_yes f l q (by simpa using hq) (by omega)
    · omega
theorem spn_no (f : Nat → Bool) : ∀ (l : List UInt8) (h : spn f l < l.length), f l[spn f l].toNat = false
  | [], h => by simp at h
  | c :: l, h => by
    by_cases hc : f c.toNat = true
    · have e : spn f (c :: l) = spn f l + 1 := by show (if _ then _ else _) = _; rw [if_pos hc]
      have h2 : spn f l < l.length := by rw [e] at h; simpa using h
      have := spn_no f l h2
      simp only [e, List.getElem_cons_succ]
      exact this
    · have e : spn f (c :: l) = 0 := by show (if _ then _ else _) = _; rw [if_neg hc]
      simp only [e, List.getElem_cons_zero]
      simpa using hc
theorem span_yes {f : Nat → Bool} {s : ByteArray} {q : Nat} (h : q < s.size) (hq : q < span f s) : f s[q].toNat = true := spn_yes f _ q (by rw [len_list]; exact h) hq
theorem span_no {f : Nat → Bool} {s : ByteArray} (h : span f s < s.size) : f s[span f s].toNat = false := spn_no f _ (by rw [len_list]; exact h)
end Go.Proofs.YtogmipbdnffegaaGreatDoor
