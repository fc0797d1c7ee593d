/- Bytes of a text that belong to a class, and how many of them a text begins with. No program here.
   The classes of bytes: the program's functions and the reference's.
   How many bytes of a class a text begins with: the program's span. -/
import Derived.Test.YtpjnjcljaoaceaaBase
import Derived.Test.YtpjnjcljaoaceaaShelf
import Derived.Lib.IndexLaws
namespace Go.Proofs.Ytpjnjcljaoaceaa
open Go Go.RowKit
set_option linter.unusedVariables false
theorem len_list (s : ByteArray) : s.data.toList.length = s.size := by simp only [Array.length_toList]; rfl
def isL (c : Nat) : Bool := (decide (97 ≤ c) && decide (c ≤ 122)) || (decide (65 ≤ c) && decide (c ≤ 90)) || c == 95
def isD (c : Nat) : Bool := decide (48 ≤ c) && decide (c ≤ 57)
def inW (c : Nat) : Bool := isL c || isD c
def inQ (c : Nat) : Bool := decide (33 ≤ c) && decide (c ≤ 126) && !(c == 46 || c == 91 || c == 93 || c == 34 || c == 92 || c == 96)
def isB (c : Nat) : Bool := c == 32 || c == 9 || c == 10
def noF (c : Nat) : Bool := c != 10
def spn (f : Nat → Bool) : List UInt8 → Nat
  | [] => 0
  | c :: l => if f c.toNat then spn f l + 1 else 0
theorem spn_le (f : Nat → Bool) : ∀ l, spn f l ≤ l.length
  | [] => Nat.le_refl _
  | c :: l => by
    unfold spn
    split
    · have := spn_le f l; simp; omega
    · exact Nat.zero_le _
def span (f : Nat → Bool) (s : ByteArray) : Nat := spn f s.data.toList
theorem span_le (f : Nat → Bool) (s : ByteArray) : span f s ≤ s.size := by have := spn_le f s.data.toList; rw [len_list] at this; exact this
theorem spn_is (f : Nat → Bool) : ∀ (l : List UInt8) (n : Nat), n ≤ l.length → (∀ q (h : q < l.length), q < n → f l[q].toNat = true) → (∀ h : n < l.length, f l[n].toNat = false) → spn f l = n
  | [], n, hn, _, _ => by simp at hn; subst hn; rfl
  | c :: l, 0, _, _, h => by
    have := h (by simp)
    unfold spn
    rw [if_neg (by simpa using this)]
  | c :: l, n + 1, hn, hd, hs => by
    have h0 := hd 0 (by simp) (by omega)
    unfold spn
    rw [if_pos (by simpa using h0)]
    congr 1
    refine spn_is f l n (by simpa using hn) (fun q h hq => ?_) (fun h => ?_)
    · have := hd (q + 1) (by simpa using h) (by omega)
      simpa using this
    · have := hs (by simpa using h)
      simpa using this
theorem span_is {f : Nat → Bool} {s : ByteArray} {n : Nat} (hn : n ≤ s.size) (hd : ∀ q (h : q < s.size), q < n → f s[q].toNat = true) (hs : ∀ h : n < s.size, f s[n].toNat = false) : span f s = n :=
  spn_is f _ n (by rw [len_list]; exact hn) (fun q h hq => hd q (by rw [← len_list]; exact h) hq) (fun h => hs (by rw [← len_list]; exact h))
theorem spn_yes (f : Nat → Bool) : ∀ (l : List UInt8) (q : Nat) (h : q < l.length), q < spn f l → f l[q].toNat = true
  | [], q, h, _ => by simp at h
  | c :: l, 0, _, h => by
    unfold spn at h
    split at h
    · simpa using ‹_›
    · omega
  | c :: l, q + 1, hq, h => by
    unfold spn at h
    split at h
    · exact spn_yes f l q (by simpa using hq) (by omega)
    · omega
theorem spn_no (f : Nat → Bool) : ∀ (l : List UInt8) (h : spn f l < l.length), f l[spn f l].toNat = false
  | [], h => by simp at h
  | c :: l, h => by
    by_cases hc : f c.toNat = true
    · have e : spn f (c :: l) = spn f l + 1 := by show (if _ then _ else _) = _; rw [if_pos hc]
      have h2 : spn f l < l.length := by rw [e] at h; simpa using h
      have := spn_no f l h2
      simp only [e, List.getElem_cons_succ]
      exact this
    · have e : spn f (c :: l) = 0 := by show (if _ then _ else _) = _; rw [if_neg hc]
      simp only [e, List.getElem_cons_zero]
      simpa using hc
theorem span_yes {f : Nat → Bool} {s : ByteArray} {q : Nat} (h : q < s.size) (hq : q < span f s) : f s[q].toNat = true := spn_yes f _ q (by rw [len_list]; exact h) hq
theorem span_no {f : Nat → Bool} {s : ByteArray} (h : span f s < s.size) : f s[span f s].toNat = false := spn_no f _ (by rw [len_list]; exact h)
end Go.Proofs.Ytpjnjcljaoaceaa
namespace Go.Proofs.Ytpjnjcljaoaceaa
open Go Go.RowKit
set_option linter.unusedVariables false
theorem retB {a b : Bool} (h : a = b) : Ending.returned (.bool a) = .returned (.bool b) := by rw [h]
theorem idx_q : ∀ c : Fin 256, decide (Lib.indexByte [46, 91, 93, 34, 92, 96] (UInt8.ofNat c.1) < 0) = !(c.1 == 46 || c.1 == 91 || c.1 == 93 || c.1 == 34 || c.1 == 92 || c.1 == 96) := by decide +kernel
set_option maxHeartbeats 400000 in
theorem inQ_p (c : Nat) (hc : c ≤ 255) (w : World) : Calls Try.prog 48 #[.int .u8 c] w fun e w' => e = .returned (.bool (inQ c)) ∧ w = w' := by
  by_cases h1 : 33 ≤ c
  · by_cases h2 : c ≤ 126
    · have k0 : (33 : Int) ≤ (c : Int) := by omega
      have k1 : (c : Int) ≤ 126 := by omega
      have hq := idx_q ⟨c, by omega⟩
      have HB : Hid (inQ c = decide (Lib.indexByte [46, 91, 93, 34, 92, 96] (UInt8.ofNat c) < 0)) := Lib.hid (by rw [hq]; unfold inQ; simp [h1, h2])
      clear hq h1 h2
      go_enter Try.func48, Try.ntmps48
      go_wp2_with fail
      refine (Try.strings_IndexByte _ _ _).mono ?_
      rintro e w1 ⟨rfl, rfl⟩
      go_wp2_with fail
      go_ret
      exact ⟨retB (by first | (rw [HB.out]; rfl) | rw [HB.out]), rfl⟩
    · have k0 : (33 : Int) ≤ (c : Int) := by first | omega | exact beq_eq_false_iff_ne.2 (by omega) | (subst_vars; rfl)
      have k1 : ¬ ((c : Int) ≤ 126) := by first | omega | exact beq_eq_false_iff_ne.2 (by omega) | (subst_vars; rfl)
      have HB : Hid (inQ c = false) := Lib.hid (by unfold inQ; simp <;> omega)
      try clear h5
      go_enter Try.func48, Try.ntmps48
      go_wp2_with fail
      go_ret
      exact ⟨retB (by first | exact HB.out.symm | (rw [HB.out]; exact decide_eq_false (by omega)) | (rw [HB.out]; simp [bne, k0])), rfl⟩
  · have k0 : ¬ ((33 : Int) ≤ (c : Int)) := by first | omega | exact beq_eq_false_iff_ne.2 (by omega) | (subst_vars; rfl)
    have HB : Hid (inQ c = false) := Lib.hid (by unfold inQ; simp <;> omega)
    try clear h5
    go_enter Try.func48, Try.ntmps48
    go_wp2_with fail
    go_ret
    exact ⟨retB (by first | exact HB.out.symm | (rw [HB.out]; exact decide_eq_false (by omega)) | (rw [HB.out]; simp [bne, k0])), rfl⟩
end Go.Proofs.Ytpjnjcljaoaceaa
namespace Go.Proofs.Ytpjnjcljaoaceaa
open Go Go.RowKit
set_option linter.unusedVariables false
set_option maxRecDepth 100000 in
set_option maxHeartbeats 800000 in
theorem span_Q (s : ByteArray) (hs : s.size ≤ 1000000) (w : World) :
    Calls Try.prog 47 #[.string s, .func (.func 48) #[] #[]] w fun e w' => e = .returned (.int .i64 (span inQ s : Nat)) ∧ w = w' := by
  have hc := inQ_p
  have HC := Lib.hid hc
  clear hc
  go_enter Try.func47, Try.ntmps47
  go_wp2_with fail
  go_loop [5] (fun u => ∃ n : Nat, n ≤ s.size ∧ u = .int .i64 n ∧ Hid (∀ q (h : q < s.size), q < n → inQ s[q].toNat = true)) (fun u => s.size - (intOf u).toNat)
  case atStart => exact ⟨0, Nat.zero_le _, rfl, Lib.hid (fun q h hq => absurd hq (Nat.not_lt_zero q))⟩
  case round =>
    obtain ⟨n, hn, rfl, hd⟩ := hrel
    have hn0 : (0 : Int) ≤ (n : Int) := by omega
    by_cases hlt : n < s.size
    · have hb : s[n].toNat ≤ 255 := by have := s[n].toNat_lt; omega
      have hk := HC.out s[n].toNat hb w
      cases hv : inQ s[n].toNat
      · have HS : Hid (span inQ s = n) := Lib.hid (span_is hn hd.out (fun _ => hv))
        rw [hv] at hk
        have HK := Lib.hid hk
        clear hv hk
        go_wp2_with fail
        refine HK.out.mono ?_
        rintro e w1 ⟨rfl, rfl⟩
        go_wp2_with fail
        go_ret
        exact ⟨ret_int (by rw [HS.out]), rfl⟩
      · have HD : Hid (∀ q (h : q < s.size), q < n + 1 → inQ s[q].toNat = true) := Lib.hid (fun q h hq => by
          by_cases hqn : q < n
          · exact hd.out q h hqn
          · obtain rfl : q = n := by omega
            exact hv)
        rw [hv] at hk
        have HK := Lib.hid hk
        clear hv hk
        go_wp2_with fail
        refine HK.out.mono ?_
        rintro e w1 ⟨rfl, rfl⟩
        go_wp2_with fail
        go_round
        case rel => exact ⟨n + 1, by omega, by go_num, HD⟩
        case measure => simp [intOf] <;> omega
    · obtain rfl : n = s.size := by omega
      have HS : Hid (span inQ s = s.size) := Lib.hid (span_is hn hd.out (fun h => absurd h (Nat.lt_irrefl _)))
      go_wp2_with fail
      go_ret
      exact ⟨ret_int (by rw [HS.out]), rfl⟩
end Go.Proofs.Ytpjnjcljaoaceaa
