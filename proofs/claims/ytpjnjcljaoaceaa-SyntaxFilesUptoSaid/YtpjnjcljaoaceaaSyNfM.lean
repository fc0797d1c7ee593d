/- The reference's nodeFault: its ways. -/
import Derived.Test.YtpjnjcljaoaceaaSyTkr
import Derived.Test.YtpjnjcljaoaceaaSyHng
import Derived.StillTailTactics
namespace Go.Proofs.Ytpjnjcljaoaceaa
open Go Go.RowKit Go.Sort
set_option linter.unusedVariables false
theorem OS.mono {w : World} {B B' : Nat} {v : Value} {l : List ByteArray} (h : OS B w v l) (hB : B' ≤ B) : OS B' w v l := by
  refine ⟨h.1, ?_⟩
  rcases h.2 with h1 | ⟨g, cap, cur, hv, hb, hr⟩
  · exact .inl h1
  · exact .inr ⟨g, cap, cur, hv, by omega, hr⟩
theorem u8_str (c x : UInt8) : ((bs [c]).toList == [x]) = (c == x) := by
  rw [ByteArray.toList_eq]
  have h : (bs [c]).data.toList = [c] := bs_list _
  rw [h]
  simp
theorem narL_at (k : Int) (c : UInt8) (L : List UInt8) (j : Nat) (h : j < L.length) : (narL k c L)[j]'(by rw [narL_len]; exact h) = if (decide (j = 0) && selK k || (k == 114 && c == 116)) = true then 116 else L[j] := by
  have hne : selK k = true → (k == 114) = false := by
    intro hs
    cases e : (k == 114)
    · rfl
    · have : k = 114 := by simpa using e
      subst this
      exact absurd hs (by decide)
  have key : (narL k c L)[j]? = some (if (decide (j = 0) && selK k || (k == 114 && c == 116)) = true then 116 else L[j]) := by
    unfold narL
    cases hs : selK k
    · rw [if_neg (by decide)]
      by_cases hc : k = 114 ∧ c = 116
      · rw [if_pos hc, List.getElem?_replicate, if_pos h]
        simp [hc.1, hc.2]
      · rw [if_neg hc, List.getElem?_eq_getElem h]
        have : (k == 114 && c == 116) = false := by
          cases e : (k == 114 && c == 116)
          · rfl
          · exact absurd (by simpa using e) hc
        simp [this]
    · rw [if_pos rfl, hne hs, List.getElem?_set]
      by_cases hj : j = 0
      · subst hj
        rw [if_pos rfl, if_pos h]
        simp
      · rw [if_neg (fun e => hj e.symm), List.getElem?_eq_getElem h]
        simp [hj]
  rw [List.getElem?_eq_getElem (by rw [narL_len]; exact h)] at key
  exact Option.some.inj key
/-- a node that is not the empty one, though it is of no kind -/
def nonE : Nd → Bool
  | .mk k _ _ nm tx n v x s _ _ ks => !nm.toList.isEmpty || (!tx.toList.isEmpty || (!(n == 0 && (v == 0 && x == 0)) || (s || decide (0 < ks.length))))
theorem toL_emp (b : ByteArray) : b.toList.isEmpty = decide (b = ⟨#[]⟩) := by
  by_cases h : b = ⟨#[]⟩
  · subst h
    rw [ByteArray.toList_eq]
    rfl
  · rw [decide_eq_false h]
    refine toL_ne ?_
    refine Nat.pos_of_ne_zero (fun e => h ?_)
    exact ByteArray.ext (Array.eq_empty_of_size_eq_zero e)
theorem same_emp (T : Nd) (h : T.kind = 0) : same T nd0 = !nonE T := by
  obtain ⟨k, l, co, nm, tx, n, v, x, s, a, cap, ks⟩ := T
  have hk : k = 0 := h
  subst hk
  unfold nd0 same
  simp only [nonE]
  rw [toL_emp, toL_emp]
  have hl : sameL ks [] = !decide (0 < ks.length) := by
    cases ks <;> simp [sameL]
  rw [hl]
  by_cases h1 : nm = ⟨#[]⟩ <;> by_cases h2 : tx = ⟨#[]⟩ <;> by_cases h3 : n = 0 <;> by_cases h4 : v = 0 <;> by_cases h5 : x = 0 <;> cases s <;> simp [h1, h2, h3, h4, h5]
theorem mt_no45 {k : Int} {ks : List Nd} {L : List UInt8} (h : mt (formO k).2.1 ks = some L) : ∀ c ∈ L, c ≠ 45 := by
  intro c hc e
  subst e
  have hin := mt_in _ _ ks L (Nat.le_refl _) h 45 hc
  by_cases hk : 0 ≤ k ∧ k < 122
  · obtain ⟨m, rfl⟩ : ∃ m : Nat, k = (m : Int) := ⟨k.toNat, by omega⟩
    have hm : m < 122 := by omega
    rw [formO_at m hm] at hin
    have := pat_no45 ⟨m, hm⟩
    simp only at this
    rw [← Bool.not_eq_true, List.contains_iff_mem] at this
    exact this hin
  · unfold formO at hin
    rw [if_neg hk] at hin
    cases hin
theorem form_no45 {k : Int} : ∀ x ∈ (formO k).2.1, x ≠ 45 := by
  intro c hin e
  subst e
  by_cases hk : 0 ≤ k ∧ k < 122
  · obtain ⟨m, rfl⟩ : ∃ m : Nat, k = (m : Int) := ⟨k.toNat, by omega⟩
    have hm : m < 122 := by omega
    rw [formO_at m hm] at hin
    have := pat_no45 ⟨m, hm⟩
    simp only at this
    rw [← Bool.not_eq_true, List.contains_iff_mem] at this
    exact this hin
  · unfold formO at hin
    rw [if_neg hk] at hin
    cases hin
theorem dec_int (j : Nat) : decide (j = 0) = ((j : Int) == 0) := by
  by_cases h : j = 0
  · subst h; rfl
  · rw [decide_eq_false h, beq_eq_false_iff_ne.2 (by omega)]
/-- the ways of a kid, one by one -/
theorem kids_ways (f : Nd → UInt8 → Int) (SK : Bool) (j : Nat) (ks : List Nd) (NL : List UInt8) (h : j < ks.length) (h' : j < NL.length) (R : Int) (hR : R = kidsE f SK j (ks.drop j) (NL.drop j)) :
    ((ks[j]).kind = 0 → nonE ks[j] = true → R = 4) ∧
    ((ks[j]).kind = 0 → nonE ks[j] = false → R = kidsE f SK (j + 1) (ks.drop (j + 1)) (NL.drop (j + 1))) ∧
    ((ks[j]).kind ≠ 0 → (((j : Int) == 0) && SK && ((ks[j]).kind == 114)) = true → R = 8) ∧
    ((ks[j]).kind ≠ 0 → (((j : Int) == 0) && SK && ((ks[j]).kind == 114)) = false → f ks[j] NL[j] ≠ 0 → R = f ks[j] NL[j]) ∧
    ((ks[j]).kind ≠ 0 → (((j : Int) == 0) && SK && ((ks[j]).kind == 114)) = false → f ks[j] NL[j] = 0 → R = kidsE f SK (j + 1) (ks.drop (j + 1)) (NL.drop (j + 1))) := by
  rw [kidsE_drop f SK j ks NL h h', dec_int] at hR
  refine ⟨?_, ?_, ?_, ?_, ?_⟩
  · intro h0 h1
    have e : kidE f ks[j] NL[j] = 4 := by unfold kidE; rw [if_pos h0, same_emp _ h0, h1]; rfl
    rw [hR, e, if_neg (by rw [h0]; simp), if_neg (by decide)]
  · intro h0 h1
    have e : kidE f ks[j] NL[j] = 0 := by unfold kidE; rw [if_pos h0, same_emp _ h0, h1]; rfl
    rw [hR, e, if_neg (by rw [h0]; simp), if_pos rfl]
  · intro h0 h1
    rw [hR, if_pos (by rw [← Bool.and_assoc]; exact h1)]
  · intro h0 h1 h2
    have e : kidE f ks[j] NL[j] = f ks[j] NL[j] := by unfold kidE; rw [if_neg h0]
    rw [hR, e, if_neg (by rw [← Bool.and_assoc, h1]; decide), if_neg h2]
  · intro h0 h1 h2
    have e : kidE f ks[j] NL[j] = f ks[j] NL[j] := by unfold kidE; rw [if_neg h0]
    rw [hR, e, if_neg (by rw [← Bool.and_assoc, h1]; decide), if_pos h2]
/-- the reference's look at the fields, by its table -/
theorem rfields_nd (m : Nat) (hm : m < 122) (k l c : Int) (nm tx : ByteArray) (n v x : Int) (s : Bool) (a : Option Addr) (cap : Nat) (ks : List Nd) (hu : Nu (.mk k l c nm tx n v x s a cap ks)) (w : World) : Calls Try.prog 17 #[.string (bs (dash (formO (m : Int)).2.2)), .agg #[.int .i64 k, .int .i64 l, .int .i64 c, .string nm, .string tx, .int .i64 n, .int .u64 v, .int .u64 x, .bool s, .slice a ks.length cap]] w fun e w' => e = .returned (.int .i64 (fldN (formO (m : Int)).2.2 (.mk k l c nm tx n v x s a cap ks))) ∧ Below w.heap.size w w' := by
  obtain ⟨v0, v1, x0, x1, _⟩ := hu
  have hl : (dash (formO (m : Int)).2.2).length ≤ 1000000 := by
    rw [formO_at m hm]
    have h := (form_len_le ⟨m, hm⟩).2.2
    simp only at h
    unfold dash
    split
    · simp
    · omega
  have h := rfields_any k l c nm tx (rbN n v x) s a ks.length cap (dash (formO (m : Int)).2.2) hl w
  simp only [rbN, U_ofInt v0 v1, U_ofInt x0 x1] at h
  rw [dash_has _ _ (by decide), dash_has _ _ (by decide), dash_has _ _ (by decide), dash_has _ _ (by decide)] at h
  exact h
def amb3 (d : Nat) (ks : List Nd) : Bool := match ks with | [_, y, z] => !(z.kind == 0) && dan d y | _ => false
/-- what nodeFault answers for trees of a depth -/
def FaultTo (d : Nat) : Prop := ∀ T : Nd, T.dep ≤ d → T.cnt ≤ 1000000 → Nu T → T.kind ≠ 0 → ∀ (c : UInt8), c ≠ 45 → ∀ (gt ct : Nat), 122 ≤ ct → ∀ w, TAB w gt → Nin w T → Calls Try.prog 11 #[.slice (some ⟨gt, 0, none⟩) 122 ct, T.val, .string (bs [c])] w fun e w' => e = .returned (.int .i64 (chkN d T c)) ∧ Below w.heap.size w w'
end Go.Proofs.Ytpjnjcljaoaceaa
