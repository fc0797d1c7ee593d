/- The numbers of messages' texts: the program's and the reference's. -/
import Derived.Test.YtmeofhjnckgcpaaDoorNoteRt
namespace Go.Proofs.YtmeofhjnckgcpaaDoor
open Go Go.RowKit
set_option linter.unusedVariables false
/-- no number -/
def nbad (l : List UInt8) : Bool := l.isEmpty || (decide (1 < l.length) && l.head? == some 48) || !wi 48 57 l
def numV (l : List UInt8) : Int := if nbad l then -1 else (numL l : Nat)
def numR (l : List UInt8) : Nat := l.foldl (fun a c => min (10 * a + (c.toNat - 48)) 1000000) 0
theorem numR_snoc (l : List UInt8) (c : UInt8) : numR (l ++ [c]) = min (10 * numR l + (c.toNat - 48)) 1000000 := by unfold numR; rw [List.foldl_append]; rfl
theorem numL_le (l : List UInt8) : numL l ≤ 16002 := by
  rcases List.eq_nil_or_concat l with rfl | ⟨r, c, rfl⟩
  · decide
  · rw [List.concat_eq_append, numL_snoc]; exact Nat.min_le_right _ _
theorem numR_le (l : List UInt8) : numR l ≤ 1000000 := by
  rcases List.eq_nil_or_concat l with rfl | ⟨r, c, rfl⟩
  · decide
  · rw [List.concat_eq_append, numR_snoc]; exact Nat.min_le_right _ _
/-- the two limits agree below 16002 -/
theorem num_two (n : Nat) : ∀ l : List UInt8, l.length = n → numL l = min (numR l) 16002 := by
  induction n with
  | zero => intro l h; have : l = [] := List.length_eq_zero_iff.1 h
            subst this; decide
  | succ n ih =>
    intro l h
    rcases List.eq_nil_or_concat l with rfl | ⟨r, c, rfl⟩
    · simp at h
    · rw [List.concat_eq_append] at h ⊢
      rw [numL_snoc, numR_snoc, ih r (by simpa using h)]
      omega
theorem nbad_ne {s : ByteArray} (h : nbad s.data.toList = false) : 0 < s.size ∧ wi 48 57 s.data.toList = true ∧ (1 < s.size → ∀ hs : 0 < s.size, s[0].toNat ≠ 48) := by
  have hl := len_toList s
  unfold nbad at h
  simp only [Bool.or_eq_false_iff, Bool.not_eq_false'] at h
  obtain ⟨⟨h1, h2⟩, h3⟩ := h
  have hne : s.data.toList ≠ [] := by simpa using h1
  have hpos : 0 < s.size := by
    rcases Nat.eq_zero_or_pos s.size with h0 | h0
    · exact absurd (List.length_eq_zero_iff.1 (hl.trans h0)) hne
    · exact h0
  refine ⟨hpos, h3, fun h5 hs e => ?_⟩
  have h6 : s.data.toList.head? = some 48 := by
    rw [List.head?_eq_getElem?, List.getElem?_eq_getElem (by omega)]
    congr 1
    apply UInt8.toNat_inj.1
    exact e
  rw [h6, hl] at h2
  simp at h2
  omega
theorem numV_range (l : List UInt8) : -1 ≤ numV l ∧ numV l ≤ 16002 := by
  have := numL_le l
  unfold numV; split <;> omega
theorem toList_ne0 {s : ByteArray} (h : 0 < s.size) : ¬ s.toList = [] ∧ s.toList.isEmpty = false := by
  have hne1 : ¬ s.toList = [] := fun e => by
    rw [Lib.toList_data] at e
    have h : s.data.toList.length = 0 := by rw [e]; rfl
    rw [len_toList] at h; omega
  exact ⟨hne1, by simpa using hne1⟩
theorem eq_empty {s : ByteArray} (h : s.size = 0) : s = ⟨#[]⟩ := by
  have : s.data = #[] := Array.eq_empty_of_size_eq_zero h
  cases s; simp_all
set_option maxRecDepth 100000 in
set_option maxHeartbeats 800000 in
theorem number_any (s : ByteArray) (hs2 : s.size ≤ 1000000) (w : World) :
    Calls Tryd.prog 59 #[.string s] w fun e w' => e = .returned (.int .i64 (numV s.data.toList)) ∧ w = w' := by
  have hl := len_toList s
  by_cases h0 : s.size = 0
  · have e0 := eq_empty h0
    subst e0
    go_enter Tryd.func59, Tryd.ntmps59
    go_wp2_with fail
    go_ret
    exact ⟨rfl, rfl⟩
  have hpos : 0 < s.size := by omega
  obtain ⟨n1, n2⟩ := toList_ne0 hpos
  by_cases h48 : s[0].toNat = 48
  · have t48 : ((s[0].toNat : Int) == 48) = true := by rw [h48]; rfl
    by_cases h1 : 1 < s.size
    · have m1 : ¬ s.toList = [48] := fun e => by
        rw [Lib.toList_data] at e
        rw [e] at hl; simp at hl; omega
      have m2 : (s.toList == [48]) = false := by simpa using m1
      have HF : Hid (numV s.data.toList = -1) := by
        show numV _ = _
        unfold numV
        have hb : nbad s.data.toList = true := by
          cases e : nbad s.data.toList
          · exact absurd h48 ((nbad_ne e).2.2 h1 hpos)
          · rfl
        rw [hb]; rfl
      clear h48 hl h0
      go_enter Tryd.func59, Tryd.ntmps59
      go_wp2_with fail
      go_ret
      exact ⟨ret_i HF.out.symm, rfl⟩
    · have e0 : s = ⟨#[48]⟩ := by
        have e1 : s.data.toList = [48] := by
          match hq : s.data.toList, (show s.data.toList.length = 1 by omega) with
          | [c], _ =>
            have : s[0] = c := by
              show s.data[0] = c
              have h9 := congrArg (·[0]?) hq
              simp at h9
              exact (Array.getElem?_eq_some_iff.1 h9).2
            rw [this] at h48
            have : c = 48 := UInt8.toNat_inj.1 h48
            rw [this]
        have e2 : s.data = #[48] := by rw [← Array.toArray_toList (xs := s.data), e1]
        cases s; simp_all
      subst e0
      clear hl h0 hpos n1 n2 h48 t48 h1
      go_enter Tryd.func59, Tryd.ntmps59
      go_wp2_with fail
      refine (nwithin_any ⟨#[48]⟩ 48 57 (by decide) _).mono ?_
      rintro e w' ⟨rfl, rfl⟩
      rw [show wi 48 57 (⟨#[48]⟩ : ByteArray).data.toList = true from by decide]
      go_wp2_with fail
      go_loop [3, 23] (fun v i => ∃ k : Nat, k ≤ 1 ∧ i = .int .i64 k ∧ v = .int .i64 0) (fun _ i => 1 - (intOf i).toNat)
      case atStart => exact ⟨0, Nat.zero_le _, rfl, rfl⟩
      case round =>
        obtain ⟨k, hk, rfl, rfl⟩ := hrel
        by_cases hlt : k < 1
        · obtain rfl : k = 0 := by omega
          go_wp2_with fail
          go_round
          case rel => exact ⟨1, by omega, by go_num, rfl⟩
          case measure => simp [intOf]
        · go_wp2_with fail
          go_ret
          exact ⟨rfl, rfl⟩
  · have t48 : ((s[0].toNat : Int) == 48) = false := by apply beq_eq_false_iff_ne.2; omega
    cases hw : wi 48 57 s.data.toList
    · have HF : Hid (numV s.data.toList = -1) := by
        show numV _ = _
        unfold numV nbad; rw [hw]; simp
      have HW := Lib.hid hw
      clear h48 hl h0 hw
      go_enter Tryd.func59, Tryd.ntmps59
      go_wp2_with fail
      refine (nwithin_any s 48 57 (by omega) _).mono ?_
      rintro e w' ⟨rfl, rfl⟩
      rw [HW.out]
      go_wp2_with fail
      go_ret
      exact ⟨ret_i HF.out.symm, rfl⟩
    · have h := number_ok s hpos hs2 t48 (Lib.hid hw) w
      have hb : nbad s.data.toList = false := by
        unfold nbad
        rw [hw]
        have e1 : s.data.toList.head? ≠ some 48 := by
          rw [List.head?_eq_getElem?, List.getElem?_eq_getElem (by omega)]
          intro e
          apply h48
          have e2 : s.data.toList[0]'(by omega) = 48 := by simpa using e
          show (s.data.toList[0]'(by omega)).toNat = 48
          rw [e2]; rfl
        have e2 : s.data.toList.isEmpty = false := by
          rw [← Lib.toList_data]; exact n2
        rw [e2]
        simp [e1]
      have e : numV s.data.toList = (numF s s.size : Nat) := by unfold numV; rw [hb, numF_all]; rfl
      rw [e]; exact h
end Go.Proofs.YtmeofhjnckgcpaaDoor
