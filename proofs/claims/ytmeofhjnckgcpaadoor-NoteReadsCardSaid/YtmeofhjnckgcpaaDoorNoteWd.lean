/- The reference's NoteWord. -/
import Derived.Test.YtmeofhjnckgcpaaDoorNoteR
namespace Go.Proofs.YtmeofhjnckgcpaaDoor
open Go Go.RowKit
set_option linter.unusedVariables false
theorem ret_str {a b : ByteArray} (h : a = b) : Ending.returned (.string a) = .returned (.string b) := by rw [h]
/-- the words, each with a blank ahead -/
def nwB : ByteArray := ⟨(([32, 97, 114, 103, 117, 109, 101, 110, 116, 32, 114, 97, 110, 103, 101, 32, 108, 97, 114, 103, 101, 32, 102, 111, 114, 109, 32, 111, 114, 100, 101, 114].append [32, 116, 119, 105, 99, 101, 32, 117, 110, 107, 110, 111, 119, 110, 32, 116, 121, 112, 101, 32, 110, 97, 109, 101, 32, 115, 121, 110, 116, 97, 120, 32, 115]).append ([104, 111, 114, 116, 32, 115, 117, 109, 32, 115, 116, 97, 116, 101, 32, 102, 117, 108, 108, 32, 99, 108, 97, 115, 104, 32, 108, 111, 115, 116, 32, 108].append [111, 111, 112, 32, 111, 112, 101, 110, 32, 99, 111, 110, 115, 116, 97, 110, 116, 32, 119, 105, 100, 116, 104, 32, 116, 105, 109, 101, 32, 114, 117, 108, 101])).toArray⟩
/-- is there a word's end at place k -/
def nwSep (k : Nat) : Bool := decide (130 ≤ k) || (nwB.data[k]!).toNat == 32
def nwCnt : Nat → Nat
  | 0 => 0
  | k + 1 => if nwSep k then nwCnt k + 1 else nwCnt k
def nwFrm : Nat → Nat
  | 0 => 0
  | k + 1 => if nwSep k then k + 1 else nwFrm k
theorem nw_word : ∀ k : Fin 131, nwSep k.1 = true → nwB.extract (nwFrm k.1) k.1 = wordB (nwCnt k.1) ∧ nwCnt k.1 < 23 := by decide +kernel
theorem nw_end : nwCnt 131 = 23 := by decide +kernel
theorem nw_le (k : Nat) : nwFrm k ≤ k ∧ nwCnt k ≤ k := by
  induction k with
  | zero => exact ⟨Nat.le_refl _, Nat.le_refl _⟩
  | succ k ih => simp only [nwFrm, nwCnt]; split <;> omega
theorem nw_size : nwB.size = 130 := by decide +kernel
set_option maxRecDepth 100000 in
set_option maxHeartbeats 1600000 in
theorem noteWord_any (e : Int) (w : World) : Calls Tryd.prog 16 #[.int .i64 e] w fun e' w' => e' = .returned (.string (wordOf e)) ∧ w = w' := by
  go_enter Tryd.func16, Tryd.ntmps16
  have hlit : (⟨(([32, 97, 114, 103, 117, 109, 101, 110, 116, 32, 114, 97, 110, 103, 101, 32, 108, 97, 114, 103, 101, 32, 102, 111, 114, 109, 32, 111, 114, 100, 101, 114].append [32, 116, 119, 105, 99, 101, 32, 117, 110, 107, 110, 111, 119, 110, 32, 116, 121, 112, 101, 32, 110, 97, 109, 101, 32, 115, 121, 110, 116, 97, 120, 32, 115]).append ([104, 111, 114, 116, 32, 115, 117, 109, 32, 115, 116, 97, 116, 101, 32, 102, 117, 108, 108, 32, 99, 108, 97, 115, 104, 32, 108, 111, 115, 116, 32, 108].append [111, 111, 112, 32, 111, 112, 101, 110, 32, 99, 111, 110, 115, 116, 97, 110, 116, 32, 119, 105, 100, 116, 104, 32, 116, 105, 109, 101, 32, 114, 117, 108, 101])).toArray⟩ : ByteArray) = nwB := rfl
  rw [hlit]
  clear hlit
  have hsz := nw_size
  have hget : ∀ k (h : k < nwB.size), nwB.data[k]! = nwB[k] := fun k h => by rw [getElem!_pos nwB.data k h]; rfl
  have hwd : ∀ k, k < 131 → nwSep k = true → nwB.extract (nwFrm k) k = wordB (nwCnt k) ∧ nwCnt k < 23 := fun k h => nw_word ⟨k, h⟩
  have hsep : ∀ k (h : k < nwB.size), nwSep k = (nwB[k].toNat == 32) := fun k h => by
    unfold nwSep; rw [hget k h]
    have : ¬ 130 ≤ k := by omega
    simp [this]
  generalize nwB = S at hsz hget hwd hsep ⊢
  have HG := Lib.hid hget
  have HW := Lib.hid hwd
  have HP := Lib.hid hsep
  have hs1 : S.size ≤ 130 := by omega
  have hs2 : 130 ≤ S.size := by omega
  have HS := Lib.hid hsz
  clear hget hwd hsep hsz
  go_wp2_with fail
  go_loop [3, 4, 5] (fun n f i => ∃ k : Nat, k ≤ 131 ∧ i = .int .i64 k ∧ n = .int .i64 (nwCnt k) ∧ f = .int .i64 (nwFrm k) ∧ Hid (e < 0 ∨ (nwCnt k : Int) ≤ e)) (fun _ _ i => 131 - (intOf i).toNat)
  case atStart => exact ⟨0, Nat.zero_le _, rfl, rfl, rfl, by show e < 0 ∨ ((0 : Nat) : Int) ≤ e; omega⟩
  case round =>
    obtain ⟨k, hk, rfl, rfl, rfl, hinv⟩ := hrel
    obtain ⟨hfk, hck⟩ := nw_le k
    by_cases h131 : 131 ≤ k
    · have HF : Hid (wordOf e = ⟨#[]⟩) := by
        have h1 := hinv.out
        have h2 : k = 131 := by omega
        rw [h2, nw_end] at h1
        show wordOf e = _
        unfold wordOf; rw [if_neg (by omega)]
      go_wp2_with fail
      go_ret
      exact ⟨ret_str HF.out.symm, rfl⟩
    · by_cases h130 : 130 ≤ k
      · have hsepk : nwSep k = true := by unfold nwSep; simp [h130]
        by_cases he : (nwCnt k : Int) = e
        · have ht : ((nwCnt k : Int) == e) = true := by simpa using he
          have HF : Hid (S.extract (nwFrm k) k = wordOf e) := by
            have h2 := HW.out k (by omega) hsepk
            show _ = _
            rw [h2.1]; unfold wordOf; rw [if_pos (by omega)]; congr 1; omega
          clear he hsepk
          go_wp2_with fail
          go_ret
          exact ⟨ret_str HF.out, rfl⟩
        · have ht : ((nwCnt k : Int) == e) = false := by simpa using he
          have hc1 : nwCnt (k + 1) = nwCnt k + 1 := by show (if nwSep k then _ else _) = _; rw [if_pos hsepk]
          have hf1 : nwFrm (k + 1) = k + 1 := by show (if nwSep k then _ else _) = _; rw [if_pos hsepk]
          have HC := Lib.hid hc1
          have HF := Lib.hid hf1
          have hinv2 : Hid (e < 0 ∨ (nwCnt (k + 1) : Int) ≤ e) := by
            have h1 := hinv.out
            show e < 0 ∨ (nwCnt (k + 1) : Int) ≤ e
            rw [hc1]; omega
          clear he hsepk hc1 hf1
          go_wp2_with fail
          go_round
          case rel => exact ⟨k + 1, by omega, by go_num, by rw [HC.out]; go_num, by rw [HF.out]; go_num, hinv2⟩
          case measure => simp [intOf]; omega
      · have hkS : k < S.size := by omega
        have hb255 : S[k].toNat ≤ 255 := by have := S[k].toNat_lt; omega
        by_cases hb : S[k].toNat = 32
        · have hsepk : nwSep k = true := by rw [HP.out k hkS, hb]; rfl
          have hb1 : ((S[k].toNat : Int) != 32) = false := by rw [hb]; rfl
          clear hb
          by_cases he : (nwCnt k : Int) = e
          · have ht : ((nwCnt k : Int) == e) = true := by simpa using he
            have HF : Hid (S.extract (nwFrm k) k = wordOf e) := by
              have h2 := HW.out k (by omega) hsepk
              show _ = _
              rw [h2.1]; unfold wordOf; rw [if_pos (by omega)]; congr 1; omega
            clear he hsepk
            go_wp2_with fail
            go_ret
            exact ⟨ret_str HF.out, rfl⟩
          · have ht : ((nwCnt k : Int) == e) = false := by simpa using he
            have hc1 : nwCnt (k + 1) = nwCnt k + 1 := by show (if nwSep k then _ else _) = _; rw [if_pos hsepk]
            have hf1 : nwFrm (k + 1) = k + 1 := by show (if nwSep k then _ else _) = _; rw [if_pos hsepk]
            have HC := Lib.hid hc1
            have HF := Lib.hid hf1
            have hinv2 : Hid (e < 0 ∨ (nwCnt (k + 1) : Int) ≤ e) := by
              have h1 := hinv.out
              show e < 0 ∨ (nwCnt (k + 1) : Int) ≤ e
              rw [hc1]; omega
            clear he hsepk hc1 hf1
            go_wp2_with fail
            go_round
            case rel => exact ⟨k + 1, by omega, by go_num, by rw [HC.out]; go_num, by rw [HF.out]; go_num, hinv2⟩
            case measure => simp [intOf]; omega
        · have hsepk : nwSep k = false := by rw [HP.out k hkS]; simpa using hb
          have hb1 : ((S[k].toNat : Int) != 32) = true := by simp; omega
          have hc1 : nwCnt (k + 1) = nwCnt k := by show (if nwSep k then _ else _) = _; rw [if_neg (by rw [hsepk]; decide)]
          have hf1 : nwFrm (k + 1) = nwFrm k := by show (if nwSep k then _ else _) = _; rw [if_neg (by rw [hsepk]; decide)]
          have HC := Lib.hid hc1
          have HF := Lib.hid hf1
          have hinv2 : Hid (e < 0 ∨ (nwCnt (k + 1) : Int) ≤ e) := by
            show e < 0 ∨ (nwCnt (k + 1) : Int) ≤ e
            rw [hc1]; exact hinv.out
          clear hb hsepk hc1 hf1
          go_wp2_with fail
          go_round
          case rel => exact ⟨k + 1, by omega, by go_num, by rw [HC.out], by rw [HF.out], hinv2⟩
          case measure => simp [intOf]; omega
end Go.Proofs.YtmeofhjnckgcpaaDoor
