/- Reading a message's text: plain facts. -/
import Derived.Test.YtmeofhjnckgcpaaDoorNoteNum
namespace Go.Proofs.YtmeofhjnckgcpaaDoor
open Go Go.RowKit
set_option linter.unusedVariables false
def nF (l : List UInt8) : List UInt8 := (Lib.cut l [58]).1
def nR (l : List UInt8) : List UInt8 := (Lib.cut l [58]).2.1
def pL (s : List UInt8) : Int := numV (nF (nR s))
def pC (s : List UInt8) : Int := numV (nF (nR (nR s)))
def pRs (s : List UInt8) : List UInt8 := nR (nR (nR s))
def pTl (s : List UInt8) : List UInt8 := Lib.trimPrefix (pRs s) [32]
def pP (s : List UInt8) : Bool := Lib.hasPrefix (pRs s) [32]
def pW (s : List UInt8) : List UInt8 := (Lib.cut (pTl s) [32]).1
def pT (s : List UInt8) : List UInt8 := (Lib.cut (pTl s) [32]).2.1
def pB (s : List UInt8) : Bool := (Lib.cut (pTl s) [32]).2.2
def okL (s : List UInt8) : Bool := decide (0 ≤ pL s) && decide (0 ≤ pC s) && pP s && decide (codeF (pW s) ≠ 0) && (!(pT s).isEmpty || !pB s)
def rdErr (s : List UInt8) : Int := if okL s then noteChk (nF s) (pL s) (pC s) (codeF (pW s)) (pT s) else 10
def rdVal (s : List UInt8) : Value := if rdErr s = 0 then .agg #[.string ⟨(nF s).toArray⟩, .int .i64 (pL s), .int .i64 (pC s), .int .i64 (codeF (pW s)), .string ⟨(pT s).toArray⟩] else .agg #[.string ⟨#[]⟩, .int .i64 0, .int .i64 0, .int .i64 0, .string ⟨#[]⟩]
theorem rd_bad {s : List UInt8} (h : okL s = false) : rdErr s = 10 ∧ rdVal s = .agg #[.string ⟨#[]⟩, .int .i64 0, .int .i64 0, .int .i64 0, .string ⟨#[]⟩] := by
  have e : rdErr s = 10 := by unfold rdErr; rw [h]; rfl
  exact ⟨e, by unfold rdVal; rw [e]; rfl⟩
theorem rd_fault {s : List UInt8} (h : okL s = true) (hr : noteChk (nF s) (pL s) (pC s) (codeF (pW s)) (pT s) ≠ 0) : rdErr s = noteChk (nF s) (pL s) (pC s) (codeF (pW s)) (pT s) ∧ rdVal s = .agg #[.string ⟨#[]⟩, .int .i64 0, .int .i64 0, .int .i64 0, .string ⟨#[]⟩] := by
  have e : rdErr s = noteChk (nF s) (pL s) (pC s) (codeF (pW s)) (pT s) := by unfold rdErr; rw [h]; rfl
  exact ⟨e, by unfold rdVal; rw [e, if_neg hr]⟩
theorem rd_good {s : List UInt8} (h : okL s = true) (hr : noteChk (nF s) (pL s) (pC s) (codeF (pW s)) (pT s) = 0) : rdErr s = 0 ∧ rdVal s = .agg #[.string ⟨(nF s).toArray⟩, .int .i64 (pL s), .int .i64 (pC s), .int .i64 (codeF (pW s)), .string ⟨(pT s).toArray⟩] := by
  have e : rdErr s = 0 := by unfold rdErr; rw [h]; exact hr
  exact ⟨e, by unfold rdVal; rw [if_pos e]⟩
def No (c : UInt8) (l : List UInt8) : Prop := ∀ x ∈ l, x ≠ c
theorem no_snoc {c : UInt8} {l : List UInt8} {k : Nat} (h : No c (l.take k)) (hk : k < l.length) (hc : l[k] ≠ c) : No c (l.take (k + 1)) := by
  intro x hx
  rw [List.take_succ_eq_append_getElem hk] at hx
  rcases List.mem_append.1 hx with h1 | h1
  · exact h x h1
  · simp at h1; rw [h1]; exact hc
theorem cut_here {c : UInt8} {l : List UInt8} {k : Nat} (h : No c (l.take k)) (hk : k < l.length) (hc : l[k] = c) : Lib.cut l [c] = (l.take k, l.drop (k + 1), true) := by
  have e : l = l.take k ++ c :: l.drop (k + 1) := by
    conv => lhs; rw [← List.take_append_drop k l, List.drop_eq_getElem_cons hk, hc]
  have h2 := cut_at (l.take k) (l.drop (k + 1)) h
  rw [← e] at h2; exact h2
theorem cut_all {c : UInt8} {l : List UInt8} (h : No c l) : Lib.cut l [c] = (l, [], false) := cut_no l h
/-- what is known where the scan of s stands at place i: the part, where it begins, and what has been read -/
inductive Scan (s : List UInt8) : Nat → Nat → Nat → List UInt8 → Int → Int → Prop
  | p0 {i : Nat} (h : No 58 (s.take i)) : Scan s 0 0 i [] 0 0
  | p1 {f i : Nat} {F : List UInt8} (h1 : Lib.cut s [58] = (F, s.drop f, true)) (hf : f ≤ i) (h : No 58 ((s.drop f).take (i - f))) : Scan s 1 f i F 0 0
  | p2 {f i : Nat} {F s1 l1 : List UInt8} (h1 : Lib.cut s [58] = (F, s1, true)) (h2 : Lib.cut s1 [58] = (l1, s.drop f, true)) (hb : nbad l1 = false) (hf : f ≤ i) (h : No 58 ((s.drop f).take (i - f))) : Scan s 2 f i F (numR l1 : Nat) 0
  | p3 {f i : Nat} {F s1 l1 s2 c1 : List UInt8} (h1 : Lib.cut s [58] = (F, s1, true)) (h2 : Lib.cut s1 [58] = (l1, s2, true)) (h3 : Lib.cut s2 [58] = (c1, s.drop f, true)) (hb : nbad l1 = false) (hc : nbad c1 = false) : Scan s 3 f i F (numR l1 : Nat) (numR c1 : Nat)
theorem Scan.le {s : List UInt8} {p f i : Nat} {F : List UInt8} {L C : Int} (h : Scan s p f i F L C) : p ≤ 3 := by cases h <;> omega
theorem Scan.no {s : List UInt8} {p f i : Nat} {F : List UInt8} {L C : Int} (h : Scan s p f i F L C) (hp : p < 3) (hi : i < s.length) (hc : s[i] ≠ 58) : Scan s p f (i + 1) F L C := by
  have drop_no : ∀ f, f ≤ i → No 58 ((s.drop f).take (i - f)) → No 58 ((s.drop f).take (i + 1 - f)) := fun f hf h => by
    rw [show i + 1 - f = (i - f) + 1 from by omega]
    refine no_snoc h (by simp; omega) ?_
    rw [List.getElem_drop]
    have e : f + (i - f) = i := by omega
    simpa [e] using hc
  cases h with
  | p0 h => exact .p0 (no_snoc h hi hc)
  | p1 h1 hf h => exact .p1 h1 (by omega) (drop_no _ hf h)
  | p2 h1 h2 hb hf h => exact .p2 h1 h2 hb (by omega) (drop_no _ hf h)
  | p3 => omega
theorem drop_cut {s : List UInt8} {f i : Nat} (hf : f ≤ i) (h : No 58 ((s.drop f).take (i - f))) (hi : i < s.length) (hc : s[i] = 58) : Lib.cut (s.drop f) [58] = ((s.drop f).take (i - f), s.drop (i + 1), true) := by
  have h2 := cut_here (k := i - f) h (by simp; omega) (by
    rw [List.getElem_drop]
    have e : f + (i - f) = i := by omega
    simpa [e] using hc)
  rw [List.drop_drop] at h2
  rw [h2, show f + (i - f + 1) = i + 1 from by omega]
theorem Scan.at0 {s : List UInt8} {f i : Nat} {F : List UInt8} {L C : Int} (h : Scan s 0 f i F L C) (hi : i < s.length) (hc : s[i] = 58) : f = 0 ∧ L = 0 ∧ C = 0 ∧ Scan s 1 (i + 1) (i + 1) (s.take i) 0 0 := by
  cases h with
  | p0 h => exact ⟨rfl, rfl, rfl, .p1 (cut_here h hi hc) (Nat.le_refl _) (by intro x hx; simp at hx)⟩
theorem Scan.at1 {s : List UInt8} {f i : Nat} {F : List UInt8} {L C : Int} (h : Scan s 1 f i F L C) (hi : i < s.length) (hc : s[i] = 58) (hb : nbad ((s.drop f).take (i - f)) = false) : f ≤ i ∧ C = 0 ∧ Scan s 2 (i + 1) (i + 1) F (numR ((s.drop f).take (i - f)) : Nat) 0 := by
  cases h with
  | p1 h1 hf h => exact ⟨hf, rfl, .p2 h1 (drop_cut hf h hi hc) hb (Nat.le_refl _) (by intro x hx; simp at hx)⟩
theorem Scan.at2 {s : List UInt8} {f i : Nat} {F : List UInt8} {L C : Int} (h : Scan s 2 f i F L C) (hi : i < s.length) (hc : s[i] = 58) (hb : nbad ((s.drop f).take (i - f)) = false) : f ≤ i ∧ Scan s 3 (i + 1) (i + 1) F L (numR ((s.drop f).take (i - f)) : Nat) := by
  cases h with
  | p2 h1 h2 hb1 hf h => exact ⟨hf, .p3 h1 h2 (drop_cut hf h hi hc) hb1 hb⟩
theorem Scan.from_le {s : List UInt8} {p f i : Nat} {F : List UInt8} {L C : Int} (h : Scan s p f i F L C) (hp : p < 3) : f ≤ i := by
  cases h with
  | p0 h => omega
  | p1 h1 hf h => exact hf
  | p2 h1 h2 hb hf h => exact hf
  | p3 => omega
theorem okL_l {s : List UInt8} (h : nbad (nF (nR s)) = true) : okL s = false := by
  have : pL s = -1 := by unfold pL numV; rw [h]; rfl
  unfold okL; rw [this]; rfl
theorem okL_c {s : List UInt8} (h : nbad (nF (nR (nR s))) = true) : okL s = false := by
  have : pC s = -1 := by unfold pC numV; rw [h]; rfl
  unfold okL; rw [this]; simp
theorem okL_p {s : List UInt8} (h : pP s = false) : okL s = false := by unfold okL; rw [h]; simp
theorem Scan.bad1 {s : List UInt8} {f i : Nat} {F : List UInt8} {L C : Int} (h : Scan s 1 f i F L C) (hi : i < s.length) (hc : s[i] = 58) (hb : nbad ((s.drop f).take (i - f)) = true) : okL s = false := by
  cases h with
  | p1 h1 hf h => exact okL_l (by unfold nF nR; rw [h1, drop_cut hf h hi hc]; exact hb)
theorem Scan.bad2 {s : List UInt8} {f i : Nat} {F : List UInt8} {L C : Int} (h : Scan s 2 f i F L C) (hi : i < s.length) (hc : s[i] = 58) (hb : nbad ((s.drop f).take (i - f)) = true) : okL s = false := by
  cases h with
  | p2 h1 h2 hb1 hf h => exact okL_c (by unfold nF nR; rw [h1, h2, drop_cut hf h hi hc]; exact hb)
theorem Scan.short {s : List UInt8} {p f : Nat} {F : List UInt8} {L C : Int} (h : Scan s p f s.length F L C) (hp : p < 3) : okL s = false := by
  have full : ∀ f, f ≤ s.length → (s.drop f).take (s.length - f) = s.drop f := fun f hf => List.take_of_length_le (by simp)
  cases h with
  | p0 h =>
    rw [List.take_length] at h
    exact okL_l (by unfold nF nR; rw [cut_all h]; rfl)
  | p1 h1 hf h =>
    rw [full _ hf] at h
    exact okL_c (by unfold nF nR; rw [h1, cut_all h]; rfl)
  | p2 h1 h2 hb hf h =>
    rw [full _ hf] at h
    exact okL_p (by unfold pP pRs nR; rw [h1, h2, cut_all h]; rfl)
  | p3 => omega
/-- all three parts are there -/
structure Three (s : List UInt8) (f : Nat) (F : List UInt8) (L C : Int) : Prop where
  f1 : nF s = F
  r3 : pRs s = s.drop f
  l1 : ∃ n : Nat, L = n ∧ pL s = min L 16002
  c1 : ∃ n : Nat, C = n ∧ pC s = min C 16002
theorem Scan.three {s : List UInt8} {f i : Nat} {F : List UInt8} {L C : Int} (h : Scan s 3 f i F L C) : Three s f F L C := by
  cases h with
  | p3 h1 h2 h3 hb hc =>
    rename_i s1 l1 s2 c1
    refine ⟨by unfold nF; rw [h1], by unfold pRs nR; rw [h1, h2, h3], ⟨_, rfl, ?_⟩, ⟨_, rfl, ?_⟩⟩
    · unfold pL nF nR numV; rw [h1, h2]
      simp only [hb]
      rw [num_two _ _ rfl]; simp; omega
    · unfold pC nF nR numV; rw [h1, h2, h3]
      simp only [hc]
      rw [num_two _ _ rfl]; simp; omega
theorem chk_two (f t : List UInt8) (l c e : Int) : noteChk f (min l 16002) (min c 16002) e t = noteChk f l c e t := by
  unfold noteChk
  split
  · by_cases h : 1 ≤ l ∧ l ≤ 16000 ∧ 1 ≤ c ∧ c ≤ 16001 ∧ 1 ≤ e ∧ e ≤ 22
    · rw [if_pos h, if_pos (by omega)]
    · rw [if_neg h, if_neg (by omega)]
  · rfl
theorem chk_zero {f t : List UInt8} {l c e : Int} (h : noteChk f l c e t = 0) : l ≤ 16000 ∧ c ≤ 16001 := by
  unfold noteChk at h
  split at h
  · split at h
    · omega
    · exact absurd h (by decide)
  · exact absurd h (by decide)
theorem code_iff {e : Nat} (h1 : 1 ≤ e) (h2 : e < 23) (l : List UInt8) : wordsL.getD e [] = l ↔ codeF l = e := by
  constructor
  · intro h
    subst h
    have := code_of h1 h2
    exact this
  · intro h
    have hl : wordsL.length = 23 := rfl
    unfold codeF at h
    split at h
    · rename_i hf
      have h3 := List.findIdx_getElem (w := show wordsL.findIdx (· == l) < wordsL.length by omega)
      simp only [h] at h3
      rw [List.getD_eq_getElem?_getD, List.getElem?_eq_getElem (by omega)]
      simpa using h3
    · omega
theorem codeF_lt (l : List UInt8) : codeF l < 23 := by unfold codeF; split <;> omega
end Go.Proofs.YtmeofhjnckgcpaaDoor
