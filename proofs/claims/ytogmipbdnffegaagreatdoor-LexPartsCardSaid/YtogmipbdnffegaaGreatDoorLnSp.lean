/- The reference's rows of words and of signs. -/
import Derived.Test.YtogmipbdnffegaaGreatDoorLrSplit
import Derived.Test.YtogmipbdnffegaaGreatDoorMgRun
import Derived.Test.YtogmipbdnffegaaGreatDoorLnEq
namespace Go.Proofs.YtogmipbdnffegaaGreatDoor
open Go Go.RowKit
set_option linter.unusedVariables false
def wsL : List UInt8 → List UInt8 → List (List UInt8)
  | cur, [] => if cur = [] then [] else [cur]
  | cur, c :: r => if c = 32 then (if cur = [] then wsL [] r else cur :: wsL [] r) else wsL (cur ++ [c]) r
theorem wsL_next (cur : List UInt8) (c : UInt8) (r : List UInt8) (h : ¬ c = 32) : wsL cur (c :: r) = wsL (cur ++ [c]) r := by rw [wsL, if_neg h]
theorem gbL_get (s : ByteArray) (k : Nat) (h : k < s.data.toList.length) : gb s k = s.data.toList[k].toNat := by
  unfold gb
  have h' : k < s.data.size := by simpa using h
  rw [getElem!_pos s.data k h']
  simp
theorem sext_list (s : ByteArray) (F k : Nat) : (s.extract F k).data.toList = (s.data.toList.take k).drop F := by
  rw [ByteArray.data_extract, List.drop_take]
  simp
theorem spS_ws (s : ByteArray) : ∀ k, k ≤ s.size → (spS s k).1.map (·.data.toList) ++ wsL ((s.data.toList.take k).drop (spS s k).2) (s.data.toList.drop k) = wsL [] s.data.toList
  | 0, _ => by simp [spS]
  | k + 1, h => by
    have ih := spS_ws s k (by omega)
    have hF := (spS_le s k).1
    have hk : k < s.data.toList.length := by have : s.data.toList.length = s.size := Array.length_toList
                                             omega
    have hg := gbL_get s k hk
    have hne : ¬ k = s.size := by omega
    have hd : s.data.toList.drop k = s.data.toList[k] :: s.data.toList.drop (k + 1) := List.drop_eq_getElem_cons hk
    have ht : s.data.toList.take (k + 1) = s.data.toList.take k ++ [s.data.toList[k]] := by rw [List.take_succ_eq_append_getElem hk]
    rw [hd] at ih
    by_cases h32 : s.data.toList[k] = 32
    · have hgb : gb s k = 32 := by rw [hg, h32]; rfl
      have hc : k = s.size ∨ gb s k = 32 := .inr hgb
      by_cases hf : (spS s k).2 < k
      · have e : spS s (k + 1) = ((spS s k).1 ++ [s.extract (spS s k).2 k], k + 1) := by
          show (if k = s.size ∨ gb s k = 32 then _ else _) = _
          rw [if_pos hc, if_pos hf]
        have hcur : (s.data.toList.take k).drop (spS s k).2 ≠ [] := by
          intro e0
          have := congrArg List.length e0
          simp at this
          omega
        have hz : (s.data.toList.take (k + 1)).drop (k + 1) = [] := by apply List.drop_eq_nil_of_le; simp; omega
        rw [e]
        simp only
        rw [hz, ← ih]
        simp only [List.map_append, List.map_cons, List.map_nil, List.append_assoc, sext_list]
        rw [wsL, if_pos h32, if_neg hcur]
        simp
      · have e : spS s (k + 1) = ((spS s k).1, k + 1) := by
          show (if k = s.size ∨ gb s k = 32 then _ else _) = _
          rw [if_pos hc, if_neg hf]
        have hcur : (s.data.toList.take k).drop (spS s k).2 = [] := by apply List.drop_eq_nil_of_le; simp; omega
        have hz : (s.data.toList.take (k + 1)).drop (k + 1) = [] := by apply List.drop_eq_nil_of_le; simp; omega
        rw [e]
        simp only
        rw [hz, ← ih, hcur, wsL, if_pos h32, if_pos rfl]
    · have hgb : ¬ gb s k = 32 := by
        rw [hg]
        intro e
        exact h32 (UInt8.toNat_inj.1 e)
      have e : spS s (k + 1) = spS s k := by
        show (if k = s.size ∨ gb s k = 32 then _ else _) = _
        rw [if_neg (by rintro (e | e); exact hne e; exact hgb e)]
      rw [e, ← ih, ht, List.drop_append_of_le_length (by simp; omega), wsL_next _ _ _ h32]
theorem spS_all (s : ByteArray) : (spS s (s.size + 1)).1.map (·.data.toList) = wsL [] s.data.toList := by
  have ih := spS_ws s s.size (Nat.le_refl _)
  have hF := (spS_le s s.size).1
  have hl : s.data.toList.length = s.size := Array.length_toList
  rw [show s.data.toList.drop s.size = [] from List.drop_eq_nil_of_le (by omega), show s.data.toList.take s.size = s.data.toList from List.take_of_length_le (by omega)] at ih
  have e : spS s (s.size + 1) = (if (spS s s.size).2 < s.size then (spS s s.size).1 ++ [s.extract (spS s s.size).2 s.size] else (spS s s.size).1, s.size + 1) := by
    show (if s.size = s.size ∨ gb s s.size = 32 then _ else _) = _
    rw [if_pos (.inl rfl)]
  rw [e, ← ih]
  simp only
  split
  · rename_i hf
    have hcur : s.data.toList.drop (spS s s.size).2 ≠ [] := by
      intro e0
      have := congrArg List.length e0
      simp at this
      omega
    rw [wsL, if_neg hcur]
    simp only [List.map_append, List.map_cons, List.map_nil, sext_list]
    rw [List.take_of_length_le (by omega)]
  · rename_i hf
    have hcur : s.data.toList.drop (spS s s.size).2 = [] := List.drop_eq_nil_of_le (by omega)
    rw [wsL, if_pos hcur]
    simp
set_option maxRecDepth 1000000 in
theorem list_inj : ∀ (a b : List ByteArray), a.map (·.data.toList) = b.map (·.data.toList) → a = b := by
  intro a
  induction a with
  | nil => intro b h; cases b <;> simp_all
  | cons x a ih =>
    intro b h
    cases b with
    | nil => simp at h
    | cons y b =>
      simp only [List.map_cons, List.cons.injEq] at h
      rw [ih b h.2]
      congr 1
      cases x; cases y
      have := h.1
      simp only at this
      exact ByteArray.ext (Array.ext' this)
def wordsB : List ByteArray := (List.range 54).map wordB
theorem words_ws : wsL [] wordsT.data.toList = wordL := by decide +kernel
theorem words_split : (spS wordsT (wordsT.size + 1)).1 = wordsB := list_inj _ _ (by
  rw [spS_all, words_ws]
  decide +kernel)
set_option maxRecDepth 100000 in
theorem lexWords_any (w : World) : Calls Tryz.prog 9 #[] w fun e w' => ∃ v, e = .returned v ∧ OS w.heap.size w' v wordsB ∧ Below w.heap.size w w' := by
  have h := fun w1 => split_any wordsT (by show wordsT.data.size ≤ _; decide +kernel) wordsB (Lib.hid words_split) w1
  unfold wordsT at h
  have H := Lib.hid h
  clear h
  go_enter Tryz.func9, Tryz.ntmps9
  go_wp2_with (go_at_call 23; refine (H.out _).mono ?_; rintro e w1 ⟨v, rfl, ho, hb⟩)
  go_ret
  exact ⟨_, rfl, ho, hb⟩
/-- a row of texts that a call has made -/
theorem OS.row {B n : Nat} {w : World} {v : Value} {f : Nat → ByteArray} (h : OS B w v ((List.range n).map f)) (hn : 1 ≤ n) : ∃ g cap, v = .slice (some ⟨g, 0, none⟩) n cap ∧ n ≤ cap ∧ TxtRow w g n f := by
  obtain ⟨g, cap, hv, hc, hr⟩ := h.at (by simpa using hn)
  rw [List.length_map, List.length_range] at hv hc
  refine ⟨g, cap, hv, hc, fun i hi => ?_⟩
  have := hr i (by simpa using hi)
  simpa using this
end Go.Proofs.YtogmipbdnffegaaGreatDoor
