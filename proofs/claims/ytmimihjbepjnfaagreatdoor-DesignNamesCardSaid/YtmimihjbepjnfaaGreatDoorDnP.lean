/- A part of a name: the program and the reference. -/
import Derived.Test.YtmimihjbepjnfaaGreatDoorDnWi
import Derived.Test.YtmimihjbepjnfaaGreatDoorDnMath
import Derived.Lib.ConvBytes
import Derived.Lib.AtoiErrMem
import Derived.Test.YtmimihjbepjnfaaGreatDoorShelf
namespace Go.Proofs.YtmimihjbepjnfaaGreatDoor
open Go Go.RowKit
set_option linter.unusedVariables false
def partB (s : ByteArray) : Bool := partL s.data.toList
def bads : ByteArray := ⟨#[46, 91, 93, 34, 92]⟩
theorem len_data (s : ByteArray) : s.data.toList.length = s.size := by simp
set_option maxRecDepth 100000 in
set_option maxHeartbeats 1600000 in
theorem rpart_any (s : ByteArray) (hs : s.size ≤ 9223372036854775807) (w : World) : Calls Tryz.prog 7 #[.string s] w fun e w' => e = .returned (.bool (partB s)) ∧ Below w.heap.size w w' := by
  have hl := len_data s
  by_cases h1 : 1 ≤ s.size
  · have h1i : (1 : Int) ≤ (s.size : Int) := by omega
    by_cases h2 : s.size ≤ 40
    · have h2i : (s.size : Int) ≤ 40 := by omega
      have HP : Hid (partB s = wib 33 126 bads.data.toList s.data.toList) := by
        show partL _ = _
        unfold partL
        rw [hl, decide_eq_true h1, decide_eq_true h2]; rfl
      go_enter Tryz.func7, Tryz.ntmps7
      go_wp2_with fail
      refine (rwithin_any s bads 33 126 hs (by decide) w).mono ?_
      rintro e w' ⟨rfl, hb⟩
      rw [← HP.out]
      go_wp2_with fail
      go_ret
      exact ⟨rfl, hb⟩
    · have h2i : ¬ (s.size : Int) ≤ 40 := by omega
      have HP : Hid (partB s = false) := by
        show partL _ = _
        unfold partL
        rw [hl, decide_eq_false h2]; simp
      go_enter Tryz.func7, Tryz.ntmps7
      go_wp2_with fail
      go_ret
      exact ⟨ret_bool HP.out.symm, Below.refl _ _⟩
  · have h1i : ¬ (1 : Int) ≤ (s.size : Int) := by omega
    have HP : Hid (partB s = false) := by
      show partL _ = _
      unfold partL
      rw [hl, decide_eq_false h1]; simp
    go_enter Tryz.func7, Tryz.ntmps7
    go_wp2_with fail
    go_ret
    exact ⟨ret_bool HP.out.symm, Below.refl _ _⟩
set_option maxRecDepth 100000 in
set_option maxHeartbeats 1600000 in
theorem part_any (s : ByteArray) (hs : s.size ≤ 9223372036854775807) (w : World) : Calls Tryz.prog 6 #[.string s] w fun e w' => e = .returned (.bool (partB s)) ∧ Below w.heap.size w w' := by
  have hl := len_data s
  by_cases h1 : 1 ≤ s.size
  · have h1i : ¬ (s.size : Int) < 1 := by omega
    by_cases h2 : s.size ≤ 40
    · have h2i : ¬ (40 : Int) < (s.size : Int) := by omega
      have HP : Hid (partB s = wib 33 126 badL s.data.toList) := by
        show partL _ = _
        unfold partL
        rw [hl, decide_eq_true h1, decide_eq_true h2]; rfl
      go_enter Tryz.func6, Tryz.ntmps6
      go_upto_region 3 with fail
      have hcv := Lib.run_convert_string_bytes (P := Tryz.prog) w 9 54 5 s Tryz.underlying9 Tryz.underlying54 Tryz.underlying5
      obtain ⟨cap, hcap⟩ : ∃ cap, grownCap w s.size 0 5 = cap := ⟨_, rfl⟩
      rw [hcap] at hcv
      have hcells : ∀ j (hj : j < s.size), (Lib.bytesWorld w 5 s).cell? ⟨w.heap.size, j, none⟩ = some (.int .u8 (s[j].toNat : Nat)) := fun j hj => by
        rw [Lib.bytesWorld_cell w 5 s j hj, List.getD_eq_getElem?_getD, List.getElem?_eq_getElem (by rw [hl]; exact hj)]; rfl
      have hbw := Lib.bytesWorld_below w 5 s
      generalize Lib.bytesWorld w 5 s = W1 at hcv hcells hbw
      clear hcap
      have HB := Lib.hid hbw
      have HC := Lib.hid hcells
      clear hbw hcells
      go_upto_block 0 with fail
      clear hcv
      go_wp2_with fail
      go_loopw [16] (fun i wr => ∃ k : Nat, k ≤ s.size ∧ i = .int .i64 k ∧ Hid (wib 33 126 badL (s.data.toList.take k) = true) ∧ wr = W1) (fun i _ => s.size - (intOf i).toNat)
      case atStart => exact ⟨0, Nat.zero_le _, rfl, rfl, rfl⟩
      case round =>
        obtain ⟨k, hk, rfl, hz, rfl⟩ := hrel
        have hk0 : (0 : Int) ≤ (k : Int) := by omega
        by_cases hlt : k < s.size
        · have hlk : k < s.data.toList.length := by rw [hl]; exact hlt
          have hki : (k : Int) < (s.size : Int) := by omega
          have hcell := HC.out k hlt
          have heq : s.data.toList[k] = s[k] := rfl
          by_cases h3 : s[k].toNat < 33
          · have HF : Hid (partB s = false) := by
              show partB s = false
              rw [HP.out]; exact wib_out hlk (Or.inl h3)
            go_wp2_with fail
            go_ret
            exact ⟨ret_bool HF.out.symm, HB.out⟩
          · by_cases h4 : 126 < s[k].toNat
            · have HF : Hid (partB s = false) := by
                show partB s = false
                rw [HP.out]; exact wib_out hlk (Or.inr (Or.inl h4))
              go_wp2_with fail
              go_ret
              exact ⟨ret_bool HF.out.symm, HB.out⟩
            · have hci : (s[k].toNat : Int).toNat.toUInt8 = s[k] := by simp
              have hix := Tryz.strings_IndexByte ⟨#[46, 91, 93, 34, 92]⟩ (s[k].toNat : Int)
              rw [hci] at hix
              have hbd : (⟨#[46, 91, 93, 34, 92]⟩ : ByteArray).data.toList = badL := rfl
              rw [hbd] at hix
              have HX := Lib.hid hix
              clear hix hci
              cases hcon : badL.contains s[k] with
              | true =>
                have HF : Hid (partB s = false) := by
                  show partB s = false
                  rw [HP.out]; exact wib_out hlk (Or.inr (Or.inr hcon))
                have h5 : (0 : Int) ≤ Lib.indexByte badL s[k] := ixb_mem.2 hcon
                generalize Lib.indexByte badL s[k] = ix at HX h5
                clear hcon
                go_wp2_with (first | (with_reducible refine (HX.out _).mono ?_; rintro e w3 ⟨rfl, rfl⟩))
                go_ret
                exact ⟨ret_bool HF.out.symm, HB.out⟩
              | false =>
                have h5 : ¬ (0 : Int) ≤ Lib.indexByte badL s[k] := fun h => by have := ixb_mem.1 h; rw [hcon] at this; cases this
                have HS : Hid (wib 33 126 badL (s.data.toList.take (k + 1)) = true) := by
                  show wib 33 126 badL (s.data.toList.take (k + 1)) = true
                  rw [tk_snoc s k hlt, wib_snoc, hz.out, hcon]; simp; omega
                generalize Lib.indexByte badL s[k] = ix at HX h5
                clear hcon
                go_wp2_with (first | (with_reducible refine (HX.out _).mono ?_; rintro e w3 ⟨rfl, rfl⟩))
                go_roundw
                case rel => exact ⟨k + 1, by omega, by go_num, HS, by first | rfl | trivial⟩
                case measure => simp [intOf]; omega
        · have HT : Hid (partB s = true) := by
            show partB s = true
            have := hz.out
            rw [tk_len s (by omega)] at this
            rw [HP.out]; exact this
          have hki : ¬ (k : Int) < (s.size : Int) := by omega
          go_wp2_with fail
          go_ret
          exact ⟨ret_bool HT.out.symm, HB.out⟩
    · have h2i : (40 : Int) < (s.size : Int) := by omega
      have HP : Hid (partB s = false) := by
        show partL _ = _
        unfold partL
        rw [hl, decide_eq_false h2]; simp
      go_enter Tryz.func6, Tryz.ntmps6
      go_wp2_with fail
      go_ret
      exact ⟨ret_bool HP.out.symm, Below.refl _ _⟩
  · have h1i : (s.size : Int) < 1 := by omega
    have HP : Hid (partB s = false) := by
      show partL _ = _
      unfold partL
      rw [hl, decide_eq_false h1]; simp
    go_enter Tryz.func6, Tryz.ntmps6
    go_wp2_with fail
    go_ret
    exact ⟨ret_bool HP.out.symm, Below.refl _ _⟩
end Go.Proofs.YtmimihjbepjnfaaGreatDoor
