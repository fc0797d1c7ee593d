/- The reference's plainNumber. -/
import Derived.Test.YtmeofhjnckgcpaaDoorNoteScan
namespace Go.Proofs.YtmeofhjnckgcpaaDoor
open Go Go.RowKit
set_option linter.unusedVariables false
/-- the number of the first k digits; at most 1000000 -/
def numQ (s : ByteArray) : Nat → Nat
  | 0 => 0
  | k + 1 => min (10 * numQ s k + ((s.data[k]!).toNat - 48)) 1000000
theorem numQ_le (s : ByteArray) (k : Nat) : numQ s k ≤ 1000000 := by
  cases k with
  | zero => exact Nat.zero_le _
  | succ k => exact Nat.min_le_right _ _
theorem numQ_take (s : ByteArray) (k : Nat) (hk : k ≤ s.size) : numQ s k = numR (s.data.toList.take k) := by
  induction k with
  | zero => rfl
  | succ k ih =>
    rw [tk_snoc s k (by omega), numR_snoc, ← ih (by omega)]
    show min (10 * numQ s k + ((s.data[k]!).toNat - 48)) 1000000 = _
    rw [get_of_lt s k (by omega)]
theorem numQ_all (s : ByteArray) : numQ s s.size = numR s.data.toList := by
  rw [numQ_take s s.size (Nat.le_refl _), List.take_of_length_le (by simp)]
theorem ret_ib {a b : Int} {x y : Bool} (h : a = b) (h2 : x = y) : Ending.returned (.tuple #[.int .i64 a, .bool x]) = .returned (.tuple #[.int .i64 b, .bool y]) := by rw [h, h2]
set_option maxRecDepth 100000 in
set_option maxHeartbeats 800000 in
theorem plain_bad (s : ByteArray) (hs2 : s.size ≤ 1000000) (hb : nbad s.data.toList = true) (w : World) :
    Calls Tryd.prog 41 #[.string s] w fun e w' => e = .returned (.tuple #[.int .i64 0, .bool false]) ∧ Below w.heap.size w w' := by
  have hl := len_toList s
  by_cases h0 : s.size = 0
  · have e0 := eq_empty h0
    subst e0
    clear hb hl h0
    go_enter Tryd.func41, Tryd.ntmps41
    go_wp2_with fail
    go_ret2
    exact ⟨rfl, Below.refl _ _⟩
  have hpos : 0 < s.size := by omega
  obtain ⟨n1, n2⟩ := toList_ne0 hpos
  by_cases h1 : 1 < s.size ∧ s[0].toNat = 48
  · obtain ⟨h1, h48⟩ := h1
    have t48 : ((s[0].toNat : Int) == 48) = true := by rw [h48]; rfl
    clear hb hl h0 h48
    go_enter Tryd.func41, Tryd.ntmps41
    go_wp2_with fail
    go_ret2
    exact ⟨rfl, Below.refl _ _⟩
  · have hw : wib 48 57 (⟨#[]⟩ : ByteArray).data.toList s.data.toList = false := by
      have e : wib 48 57 (⟨#[]⟩ : ByteArray).data.toList s.data.toList = wi 48 57 s.data.toList := wib_nil 48 57 _
      rw [e]
      cases hw : wi 48 57 s.data.toList
      · rfl
      · exfalso
        unfold nbad at hb
        rw [hw] at hb
        have e2 : s.data.toList.isEmpty = false := by rw [← Lib.toList_data]; exact n2
        rw [e2, hl] at hb
        simp only [Bool.false_or, Bool.not_true, Bool.or_false, Bool.and_eq_true, decide_eq_true_eq, beq_iff_eq] at hb
        obtain ⟨g1, g2⟩ := hb
        apply h1
        refine ⟨g1, ?_⟩
        rw [List.head?_eq_getElem?, List.getElem?_eq_getElem (by omega)] at g2
        have g3 : s.data.toList[0]'(by omega) = 48 := by simpa using g2
        show (s.data.toList[0]'(by omega)).toNat = 48
        rw [g3]; rfl
    have HW := Lib.hid hw
    clear hb hl h0 hw
    by_cases h2 : 1 < s.size
    · have t48 : ((s[0].toNat : Int) == 48) = false := by apply beq_eq_false_iff_ne.2; intro e; exact h1 ⟨h2, by omega⟩
      clear h1
      go_enter Tryd.func41, Tryd.ntmps41
      go_wp2_with fail
      refine (rwithin_any s ⟨#[]⟩ 48 57 (by omega) (by decide) _).mono ?_
      rintro e w1 ⟨rfl, hb1⟩
      rw [HW.out]
      go_wp2_with fail
      go_ret2
      exact ⟨rfl, hb1⟩
    · clear h1
      go_enter Tryd.func41, Tryd.ntmps41
      go_wp2_with fail
      refine (rwithin_any s ⟨#[]⟩ 48 57 (by omega) (by decide) _).mono ?_
      rintro e w1 ⟨rfl, hb1⟩
      rw [HW.out]
      go_wp2_with fail
      go_ret2
      exact ⟨rfl, hb1⟩
set_option maxRecDepth 100000 in
set_option maxHeartbeats 1000000 in
theorem plain_one (s : ByteArray) (hs2 : s.size ≤ 1000000) (hb : nbad s.data.toList = false) (h1 : ¬ 1 < s.size) (w : World) :
    Calls Tryd.prog 41 #[.string s] w fun e w' => e = .returned (.tuple #[.int .i64 (numR s.data.toList : Nat), .bool true]) ∧ Below w.heap.size w w' := by
  obtain ⟨hpos, hwi, h48⟩ := nbad_ne hb
  obtain ⟨n1, n2⟩ := toList_ne0 hpos
  have hq := numQ_all s
  have HX : wib 48 57 (⟨#[]⟩ : ByteArray).data.toList s.data.toList = true := (wib_nil 48 57 _).trans hwi
  have HW := Lib.hid HX
  clear h48
  go_enter Tryd.func41, Tryd.ntmps41
  go_wp2_with fail
  refine (rwithin_any s ⟨#[]⟩ 48 57 (by omega) (by decide) _).mono ?_
  rintro e w1 ⟨rfl, hb1⟩
  rw [HW.out]
  go_wp2_with fail
  have HWI := Lib.hid hwi
  have HQ := Lib.hid hq
  clear hwi hq hb HX
  go_loop [4, 25] (fun v i => ∃ k : Nat, k ≤ s.size ∧ i = .int .i64 k ∧ v = .int .i64 (numQ s k)) (fun _ i => s.size - (intOf i).toNat)
  case atStart => exact ⟨0, Nat.zero_le _, rfl, rfl⟩
  case round =>
    obtain ⟨k, hk, rfl, rfl⟩ := hrel
    have hl := numQ_le s k
    by_cases hlt : k < s.size
    · obtain ⟨d1, d2⟩ := dig_at HWI.out k hlt
      have hsn : (numQ s (k + 1) : Int) = min (10 * (numQ s k : Int) + ((s[k].toNat : Int) - 48)) 1000000 := by
        show ((min (10 * numQ s k + ((s.data[k]!).toNat - 48)) 1000000 : Nat) : Int) = _
        rw [get_of_lt s k hlt]; omega
      have HS := Lib.hid hsn
      clear hsn
      go_wp2_with fail
      go_round
      case rel => exact ⟨k + 1, by omega, by go_num, by rw [HS.out]⟩
      case measure => simp [intOf]; omega
    · have hks : k = s.size := by omega
      have HK := Lib.hid hks
      clear hks
      go_wp2_with fail
      go_ret2
      exact ⟨ret_ib (by rw [HK.out, HQ.out]) rfl, hb1⟩
set_option maxRecDepth 100000 in
set_option maxHeartbeats 1000000 in
theorem plain_more (s : ByteArray) (hs2 : s.size ≤ 1000000) (hb : nbad s.data.toList = false) (h1 : 1 < s.size) (hp : 0 < s.size) (t48 : ((s[0].toNat : Int) == 48) = false) (w : World) :
    Calls Tryd.prog 41 #[.string s] w fun e w' => e = .returned (.tuple #[.int .i64 (numR s.data.toList : Nat), .bool true]) ∧ Below w.heap.size w w' := by
  obtain ⟨hpos, hwi, h48⟩ := nbad_ne hb
  obtain ⟨n1, n2⟩ := toList_ne0 hpos
  have hq := numQ_all s
  have HX : wib 48 57 (⟨#[]⟩ : ByteArray).data.toList s.data.toList = true := (wib_nil 48 57 _).trans hwi
  have HW := Lib.hid HX
  clear h48
  go_enter Tryd.func41, Tryd.ntmps41
  go_wp2_with fail
  refine (rwithin_any s ⟨#[]⟩ 48 57 (by omega) (by decide) _).mono ?_
  rintro e w1 ⟨rfl, hb1⟩
  rw [HW.out]
  go_wp2_with fail
  have HWI := Lib.hid hwi
  have HQ := Lib.hid hq
  clear hwi hq hb HX
  go_loop [4, 25] (fun v i => ∃ k : Nat, k ≤ s.size ∧ i = .int .i64 k ∧ v = .int .i64 (numQ s k)) (fun _ i => s.size - (intOf i).toNat)
  case atStart => exact ⟨0, Nat.zero_le _, rfl, rfl⟩
  case round =>
    obtain ⟨k, hk, rfl, rfl⟩ := hrel
    have hl := numQ_le s k
    by_cases hlt : k < s.size
    · obtain ⟨d1, d2⟩ := dig_at HWI.out k hlt
      have hsn : (numQ s (k + 1) : Int) = min (10 * (numQ s k : Int) + ((s[k].toNat : Int) - 48)) 1000000 := by
        show ((min (10 * numQ s k + ((s.data[k]!).toNat - 48)) 1000000 : Nat) : Int) = _
        rw [get_of_lt s k hlt]; omega
      have HS := Lib.hid hsn
      clear hsn
      go_wp2_with fail
      go_round
      case rel => exact ⟨k + 1, by omega, by go_num, by rw [HS.out]⟩
      case measure => simp [intOf]; omega
    · have hks : k = s.size := by omega
      have HK := Lib.hid hks
      clear hks
      go_wp2_with fail
      go_ret2
      exact ⟨ret_ib (by rw [HK.out, HQ.out]) rfl, hb1⟩
theorem plain_good (s : ByteArray) (hs2 : s.size ≤ 1000000) (hb : nbad s.data.toList = false) (w : World) :
    Calls Tryd.prog 41 #[.string s] w fun e w' => e = .returned (.tuple #[.int .i64 (numR s.data.toList : Nat), .bool true]) ∧ Below w.heap.size w w' := by
  obtain ⟨hpos, hwi, h48⟩ := nbad_ne hb
  by_cases h1 : 1 < s.size
  · have := h48 h1 hpos
    exact plain_more s hs2 hb h1 hpos (by apply beq_eq_false_iff_ne.2; omega) w
  · exact plain_one s hs2 hb h1 w
end Go.Proofs.YtmeofhjnckgcpaaDoor
