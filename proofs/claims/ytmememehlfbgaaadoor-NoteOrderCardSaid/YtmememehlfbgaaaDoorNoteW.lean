/- Package note: within, Name, File; the reference's within and FileName. -/
import Derived.Test.YtmememehlfbgaaaDoorBase
import Derived.Test.YtmememehlfbgaaaDoorShelf
import Derived.Test.YtmememehlfbgaaaDoorNoteMath
import Derived.Lib.AppendIntMem
import Derived.Lib.LaidTab
namespace Go.Proofs.YtmememehlfbgaaaDoor
open Go Go.RowKit
set_option linter.unusedVariables false
theorem below_step {B B' : Nat} {a w w' : World} (hb : Below B' w w') (h : Below B a w) (hB : B ≤ B') : Below B a w' := h.trans (hb.mono hB)
theorem ret_bool {a b : Bool} (h : a = b) : Ending.returned (.bool a) = .returned (.bool b) := by rw [h]
theorem tk_snoc (s : ByteArray) (k : Nat) (h : k < s.size) : s.data.toList.take (k + 1) = s.data.toList.take k ++ [s[k]] := by
  rw [List.take_succ_eq_append_getElem (by simpa using h)]; rfl
theorem tk_len (s : ByteArray) {k : Nat} (h : s.size ≤ k) : s.data.toList.take k = s.data.toList := List.take_of_length_le (by simpa using h)
theorem nth_eq (s : ByteArray) (k : Nat) (h : k < s.size) (h' : k < s.data.toList.length) : s.data.toList[k] = s[k] := rfl
/-- what the calls lean on of package-level variables: they lie below block B -/
structure NGlob (B : Nat) (w : World) : Prop where
  tab : Lib.TabBelow Tryd.prog B w "internal/strconv.uint64pow10" .u64 Lib.pow10Tab
  wd : ∀ j, j < 23 → w.cell? ⟨1, j, none⟩ = some (.string (wordB j))
  lt : 1 < B
  le : B ≤ w.heap.size
theorem NGlob.on {B B' : Nat} {w w' : World} (h : NGlob B w) (hb : Below B' w w') (hB : B ≤ B') : NGlob B w' :=
  ⟨h.tab.on (hb.mono hB), fun j hj => (hb.cell (p := ⟨1, j, none⟩) (Nat.lt_of_lt_of_le h.lt hB)).trans (h.wd j hj), h.lt, Nat.le_trans h.le hb.size⟩
theorem NGlob.here {B : Nat} {w w' : World} (h : NGlob B w) (hb : Below w.heap.size w w') : NGlob B w' := h.on hb h.le
set_option maxHeartbeats 400000 in
theorem nwithin_any (s : ByteArray) (lo hi : Nat) (hs : s.size ≤ 9223372036854775807) (w : World) : Calls Tryd.prog 98 #[.string s, .int .u8 lo, .int .u8 hi] w fun e w' => e = .returned (.bool (wi lo hi s.data.toList)) ∧ w = w' := by
  go_enter Tryd.func98, Tryd.ntmps98
  go_wp2_with fail
  go_loop [10] (fun i => ∃ k : Nat, k ≤ s.size ∧ i = .int .i64 k ∧ Hid (wi lo hi (s.data.toList.take k) = true)) (fun i => s.size - (intOf i).toNat)
  case atStart => exact ⟨0, Nat.zero_le _, rfl, rfl⟩
  case round =>
    obtain ⟨k, hk, rfl, hz⟩ := hrel
    by_cases hlt : k < s.size
    · have hl : k < s.data.toList.length := by simpa using hlt
      by_cases h1 : s[k].toNat < lo
      · have HF := Lib.hid (wi_out (lo := lo) (hi := hi) hl (Or.inl h1))
        go_wp2_with fail
        go_ret
        exact ⟨ret_bool HF.out.symm, rfl⟩
      · by_cases h2 : hi < s[k].toNat
        · have HF := Lib.hid (wi_out (lo := lo) (hi := hi) hl (Or.inr h2))
          go_wp2_with fail
          go_ret
          exact ⟨ret_bool HF.out.symm, rfl⟩
        · have HS : Hid (wi lo hi (s.data.toList.take (k + 1)) = true) := by
            show wi lo hi (s.data.toList.take (k + 1)) = true
            rw [tk_snoc s k hlt, wi_snoc, hz.out]; simp; omega
          go_wp2_with fail
          go_round
          case rel => exact ⟨k + 1, by omega, by go_num, HS⟩
          case measure => simp [intOf]; omega
    · have HF : Hid (wi lo hi s.data.toList = true) := by
        have := hz.out
        rw [tk_len s (by omega)] at this; exact this
      go_wp2_with fail
      go_ret
      exact ⟨ret_bool HF.out.symm, rfl⟩
set_option maxHeartbeats 400000 in
theorem name_in (j : Nat) (hj : j < 23) {B : Nat} (w : World) (hG : NGlob B w) : Calls Tryd.prog 79 #[.int .i64 j] w fun e w' => e = .returned (.string (wordB j)) ∧ w = w' := by
  have hc := hG.wd j hj
  clear hG
  have h0 : (0 : Int) ≤ (j : Int) := by omega
  have h1 : (j : Int) < 23 := by omega
  go_enter Tryd.func79, Tryd.ntmps79
  go_wp2_with fail
  go_ret
  exact ⟨rfl, rfl⟩
set_option maxHeartbeats 400000 in
theorem name_out (j : Int) (hj : ¬ (0 ≤ j ∧ j < 23)) (w : World) : Calls Tryd.prog 79 #[.int .i64 j] w fun e w' => e = .returned (.string ⟨#[]⟩) ∧ w = w' := by
  by_cases h0 : j < 0
  · go_enter Tryd.func79, Tryd.ntmps79
    go_wp2_with fail
    go_ret
    exact ⟨rfl, rfl⟩
  · have h1 : 23 ≤ j := by omega
    go_enter Tryd.func79, Tryd.ntmps79
    go_wp2_with fail
    go_ret
    exact ⟨rfl, rfl⟩
theorem name_any (j : Int) {B : Nat} (w : World) (hG : NGlob B w) : Calls Tryd.prog 79 #[.int .i64 j] w fun e w' => e = .returned (.string (wordOf j)) ∧ w = w' := by
  unfold wordOf
  by_cases h : 0 ≤ j ∧ j < 23
  · rw [if_pos h]
    obtain ⟨n, rfl⟩ : ∃ n : Nat, j = n := ⟨j.toNat, by omega⟩
    exact name_in n (by omega) w hG
  · rw [if_neg h]; exact name_out j h w
set_option maxHeartbeats 400000 in
theorem file_any (s : ByteArray) (hs : s.size ≤ 9223372036854775807) (w : World) : Calls Tryd.prog 97 #[.string s] w fun e w' => e = .returned (.bool (fileB s.data.toList)) ∧ Below w.heap.size w w' := by
  have hlen : s.data.toList.length = s.size := by simp
  by_cases h0 : s.size = 0
  · have e0 : s = ⟨#[]⟩ := by
      have : s.data = #[] := Array.eq_empty_of_size_eq_zero h0
      cases s; simp_all
    subst e0
    go_enter Tryd.func97, Tryd.ntmps97
    go_wp2_with fail
    go_ret
    exact ⟨rfl, Below.refl _ _⟩
  · have hne : s.toList = [] → False := fun e => by
      rw [Lib.toList_data] at e
      have := congrArg List.length e
      rw [hlen] at this; exact h0 this
    have hne1 : ¬ s.toList = [] := hne
    have hne2 : s.toList.isEmpty = false := by simpa using hne1
    have hne3 : s.data.toList.isEmpty = false := by rw [← Lib.toList_data]; exact hne2
    clear hne
    by_cases h60 : s.size ≤ 60
    · cases hw : wi 33 126 s.data.toList
      · have HF : Hid (fileB s.data.toList = false) := by show fileB _ = _; unfold fileB; rw [hw]; simp
        have HW := Lib.hid hw
        clear hw hne3 hlen
        go_enter Tryd.func97, Tryd.ntmps97
        go_wp2_with fail
        refine (nwithin_any s 33 126 hs _).mono ?_
        rintro e w' ⟨rfl, rfl⟩
        rw [HW.out]
        go_wp2_with fail
        go_ret
        exact ⟨ret_bool HF.out.symm, Below.refl _ _⟩
      · have HF : Hid (fileB s.data.toList = !(Lib.containsAny s.data.toList [58, 34])) := by show fileB _ = _; unfold fileB; rw [hw, hne3]; simp [hlen, h60]
        have HA := Lib.hid (wi_ascii hw (by decide))
        have HW := Lib.hid hw
        clear hw hne3 hlen
        go_enter Tryd.func97, Tryd.ntmps97
        go_wp2_with fail
        refine (nwithin_any s 33 126 hs _).mono ?_
        rintro e w' ⟨rfl, rfl⟩
        rw [HW.out]
        go_wp2_with fail
        refine (Tryd.strings_ContainsAny_laid s ⟨#[58, 34]⟩ _ (by omega) (by decide) HA.out (by intro j b hb; match j, hb with | 0, hb => simp at hb; subst hb; decide | 1, hb => simp at hb; subst hb; decide)).mono ?_
        rintro e w1 ⟨rfl, hb1⟩
        go_wp2_with fail
        go_ret
        exact ⟨ret_bool HF.out.symm, hb1⟩
    · have HF : Hid (fileB s.data.toList = false) := by show fileB _ = _; unfold fileB; rw [hlen]; simp; omega
      clear hne3 hlen
      go_enter Tryd.func97, Tryd.ntmps97
      go_wp2_with fail
      go_ret
      exact ⟨ret_bool HF.out.symm, Below.refl _ _⟩
end Go.Proofs.YtmememehlfbgaaaDoor
