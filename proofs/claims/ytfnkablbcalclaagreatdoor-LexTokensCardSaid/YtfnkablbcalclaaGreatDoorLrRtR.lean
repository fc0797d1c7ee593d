/- The reference's token: what it answers, by the ways a token is read. -/
import Derived.Test.YtfnkablbcalclaaGreatDoorMgRt
import Derived.Test.YtfnkablbcalclaaGreatDoorMgTkA
import Derived.Test.YtfnkablbcalclaaGreatDoorMgSpl
import Derived.Test.YtfnkablbcalclaaGreatDoorMgTkB
import Derived.Test.YtfnkablbcalclaaGreatDoorLrNu1
import Derived.Test.YtfnkablbcalclaaGreatDoorLrNu2
namespace Go.Proofs.YtfnkablbcalclaaGreatDoor
open Go Go.RowKit
set_option linter.unusedVariables false
def rtA (r : ByteArray) (k : Int) (t : ByteArray) (q : Bool) (n v x : Int) (s : Bool) (z : Nat) (e : Int) (w : World) : Prop :=
  Calls Tryz.prog 10 #[.string r] w fun u w' => u = .returned (.tuple #[.agg #[.int .i64 k, .int .i64 0, .int .i64 0, .string t, .bool q, .int .i64 n, .int .u64 v, .int .u64 x, .bool s], .int .i64 z, .int .i64 e]) ∧ Below w.heap.size w w'
def RefTok (r : ByteArray) : Res → Prop
  | .ok k t q n v x s z => ∀ w, rtA r k t q n v x s z 0 w
  | .er e => e ≠ 0 ∧ ∃ (k : Int) (t : ByteArray) (q : Bool) (n v x : Int) (s : Bool) (z : Nat), ∀ w, rtA r k t q n v x s z e w
theorem isB_cases {c : Nat} (h : isB c = true) : c = 32 ∨ c = 9 ∨ c = 10 := by
  unfold isB at h
  simp only [Bool.or_eq_true, beq_iff_eq] at h
  omega
theorem isB_not {c : Nat} (h : isB c = false) : c ≠ 32 ∧ c ≠ 9 ∧ c ≠ 10 := by
  unfold isB at h
  simp only [Bool.or_eq_false_iff, beq_eq_false_iff_ne] at h
  exact ⟨h.1.1, h.1.2, h.2⟩
theorem token_rt (r : ByteArray) (hs : r.size ≤ 2000) (h1 : 1 ≤ r.size) (R : Res) (hR : Rt r R) : RefTok r R := by
  have hb0 : ∀ q (h : q < r.size), r[q].toNat = gb r q := fun q h => gb_at r q h
  cases hR with
  | name hL h40 =>
    have hl := span_le inW r
    intro w
    have h := token_name r (span inW r) (by omega) h1 (Lib.hid hL) (Lib.hid rfl) hl h40 _ (Lib.hid rfl) w
    exact h
  | long hL h40 =>
    have hl := span_le inW r
    exact ⟨by decide, 0, ⟨#[]⟩, false, 0, 0, 0, false, 0, fun w => token_long r (span inW r) (by omega) h1 (Lib.hid hL) (Lib.hid rfl) hl h40 w⟩
  | qbad h92 hb =>
    have hL : isL (gb r 0) = false := by rw [h92]; decide
    refine ⟨by decide, 0, ⟨#[]⟩, false, 0, 0, 0, false, 0, fun w => ?_⟩
    rcases hb with h0 | ⟨h2, h3, h4⟩
    · exact token_quo_no r _ (by omega) h1 (Lib.hid hL) h92 (Lib.hid rfl) h0 w
    · obtain ⟨k1, k2, k3⟩ := isB_not h4
      rw [← hb0 _ h3] at k1 k2 k3
      exact token_quo_ill r _ (by omega) h1 (Lib.hid hL) h92 (Lib.hid rfl) h2 h3 k1 k2 k3 w
  | qlong h92 h2 he h40 =>
    have hL : isL (gb r 0) = false := by rw [h92]; decide
    refine ⟨by decide, 0, ⟨#[]⟩, false, 0, 0, 0, false, 0, fun w => ?_⟩
    rcases he with h3 | ⟨h3, h4⟩
    · exact token_quo_big_end r _ (by omega) h1 (Lib.hid hL) h92 (Lib.hid rfl) h2 h40 h3 w
    · rcases isB_cases h4 with k | k | k <;> rw [← hb0 _ h3] at k
      · exact token_quo_big_b32 r _ (by omega) h1 (Lib.hid hL) h92 (Lib.hid rfl) h2 h40 h3 k w
      · exact token_quo_big_b9 r _ (by omega) h1 (Lib.hid hL) h92 (Lib.hid rfl) h2 h40 h3 k w
      · exact token_quo_big_b10 r _ (by omega) h1 (Lib.hid hL) h92 (Lib.hid rfl) h2 h40 h3 k w
  | qok h92 h2 he h40 =>
    have hL : isL (gb r 0) = false := by rw [h92]; decide
    intro w
    rcases he with h3 | ⟨h3, h4⟩
    · exact token_quo_ok_end r _ (by omega) h1 (Lib.hid hL) h92 (Lib.hid rfl) h2 h40 h3 w
    · rcases isB_cases h4 with k | k | k <;> rw [← hb0 _ h3] at k
      · exact token_quo_ok_b32 r _ (by omega) h1 (Lib.hid hL) h92 (Lib.hid rfl) h2 h40 h3 k w
      · exact token_quo_ok_b9 r _ (by omega) h1 (Lib.hid hL) h92 (Lib.hid rfl) h2 h40 h3 k w
      · exact token_quo_ok_b10 r _ (by omega) h1 (Lib.hid hL) h92 (Lib.hid rfl) h2 h40 h3 k w
  | sok h34 h hl =>
    rename_i n l
    have hL : isL (gb r 0) = false := by rw [h34]; decide
    intro w
    exact token_str r (by omega) h1 (Lib.hid hL) h34 4 0 0 _ false 0 0 0 false _ 0 w (fun W => stringToken_any r (by omega) h1 _ h _ (Lib.hid (by simp only [soR]; rw [if_neg (by omega)])) W)
  | slong h34 h hl =>
    rename_i n l
    have hL : isL (gb r 0) = false := by rw [h34]; decide
    exact ⟨by decide, 0, ⟨#[]⟩, false, 0, 0, 0, false, 0, fun w => token_str r (by omega) h1 (Lib.hid hL) h34 0 0 0 _ false 0 0 0 false 0 3 w (fun W => stringToken_any r (by omega) h1 _ h _ (Lib.hid (by simp only [soR]; rw [if_pos (by omega)])) W)⟩
  | sbad h34 h =>
    rename_i e
    have hL : isL (gb r 0) = false := by rw [h34]; decide
    have he := ss_er h e rfl
    exact ⟨by omega, 0, ⟨#[]⟩, false, 0, 0, 0, false, 0, fun w => token_str r (by omega) h1 (Lib.hid hL) h34 0 0 0 _ false 0 0 0 false 0 e w (fun W => stringToken_any r (by omega) h1 _ h _ (Lib.hid rfl) W)⟩
  | nq hD hl h39 hR =>
    rename_i a b c
    have hL := isD_isL _ hD
    obtain ⟨n92, n34⟩ : gb r 0 ≠ 92 ∧ gb r 0 ≠ 34 := by have := isD_rng hD; omega
    have hp := span_first (f := isD) h1 hD
    have hp2 := (span_letters r).1
    obtain ⟨g1, g2⟩ := rdg_two rfl hl h39 hR
    have hw := span_le inW (r.extract (span isD r + 1) r.size)
    have hw2 : span inW (r.extract (span isD r + 1) r.size) ≤ r.size - (span isD r + 1) := by simpa using hw
    unfold quoT at hR
    generalize hS : span inW (r.extract (span isD r + 1) r.size) = S at *
    generalize hN : span isD r = N at *
    have hB : ∀ W, Calls Tryz.prog 40 #[.string (r.extract 0 (N + 1 + S))] W fun e w' => e = .returned (.tuple #[.agg #[.int .i64 a, .int .u64 b, .int .u64 c], .int .i64 0]) ∧ Below W.heap.size W w' := fun W => rfRd _ _ (by simp; omega) hR W
    intro w
    have hl2 : N + 1 < r.size := by omega
    by_cases h115 : gb r (N + 1) = 115
    · rw [decide_eq_true h115]
      exact token_num r (by omega) h1 (Lib.hid hL) n92 n34 (by omega) 3 0 0 _ false _ _ _ true _ 0 w (fun W => numTok_quo_yes r N (by omega) (by omega) hp (Lib.hid hN) hl (by rw [hb0 N hl]; exact h39) S (Lib.hid hS) (by omega) (by omega) hl2 (by rw [hb0 _ hl2]; exact h115) a b c 0 W hB)
    · rw [decide_eq_false h115]
      exact token_num r (by omega) h1 (Lib.hid hL) n92 n34 (by omega) 3 0 0 _ false _ _ _ false _ 0 w (fun W => numTok_quo_else r N (by omega) (by omega) hp (Lib.hid hN) hl (by rw [hb0 N hl]; exact h39) S (Lib.hid hS) (by omega) (by omega) hl2 (by rw [hb0 _ hl2]; exact h115) a b c 0 W hB)
  | nqbad hD hl h39 he hR =>
    rename_i a b c e
    have hL := isD_isL _ hD
    obtain ⟨n92, n34⟩ : gb r 0 ≠ 92 ∧ gb r 0 ≠ 34 := by have := isD_rng hD; omega
    have hp := span_first (f := isD) h1 hD
    have hp2 := (span_letters r).1
    have hw := span_le inW (r.extract (span isD r + 1) r.size)
    have hw2 : span inW (r.extract (span isD r + 1) r.size) ≤ r.size - (span isD r + 1) := by simpa using hw
    unfold quoT at hR
    generalize hS : span inW (r.extract (span isD r + 1) r.size) = S at *
    generalize hN : span isD r = N at *
    have hB : ∀ W, Calls Tryz.prog 40 #[.string (r.extract 0 (N + 1 + S))] W fun u w' => u = .returned (.tuple #[.agg #[.int .i64 a, .int .u64 b, .int .u64 c], .int .i64 e]) ∧ Below W.heap.size W w' := fun W => rfRd _ _ (by simp; omega) hR W
    by_cases hS0 : S = 0
    · subst hS0
      exact ⟨he, 3, ⟨#[]⟩, false, a, b, c, false, N + 1 + 0, fun w => token_num r (by omega) h1 (Lib.hid hL) n92 n34 (by omega) 3 0 0 _ false _ _ _ false _ e w (fun W => numTok_quo_no r N (by omega) (by omega) hp (Lib.hid hN) hl (by rw [hb0 N hl]; exact h39) 0 (Lib.hid hS) (by omega) rfl a b c e W hB)⟩
    · have hl2 : N + 1 < r.size := by omega
      by_cases h115 : gb r (N + 1) = 115
      · exact ⟨he, 3, ⟨#[]⟩, false, a, b, c, true, N + 1 + S, fun w => token_num r (by omega) h1 (Lib.hid hL) n92 n34 (by omega) 3 0 0 _ false _ _ _ true _ e w (fun W => numTok_quo_yes r N (by omega) (by omega) hp (Lib.hid hN) hl (by rw [hb0 N hl]; exact h39) S (Lib.hid hS) (by omega) (by omega) hl2 (by rw [hb0 _ hl2]; exact h115) a b c e W hB)⟩
      · exact ⟨he, 3, ⟨#[]⟩, false, a, b, c, false, N + 1 + S, fun w => token_num r (by omega) h1 (Lib.hid hL) n92 n34 (by omega) 3 0 0 _ false _ _ _ false _ e w (fun W => numTok_quo_else r N (by omega) (by omega) hp (Lib.hid hN) hl (by rw [hb0 N hl]; exact h39) S (Lib.hid hS) (by omega) (by omega) hl2 (by rw [hb0 _ hl2]; exact h115) a b c e W hB)⟩
  | nbad hD hn hb =>
    have hL := isD_isL _ hD
    obtain ⟨n92, n34⟩ : gb r 0 ≠ 92 ∧ gb r 0 ≠ 34 := by have := isD_rng hD; omega
    have hp := span_first (f := isD) h1 hD
    have hl := span_le isD r
    obtain ⟨hp2, hp3⟩ := span_letters r
    have h00 : 0 < r.size := by omega
    refine ⟨by decide, 0, ⟨#[]⟩, false, 0, 0, 0, false, 0, fun w => token_num r (by omega) h1 (Lib.hid hL) n92 n34 (by omega) 0 0 0 _ false 0 0 0 false 0 10 w (fun W => ?_)⟩
    by_cases hl2 : span isD r < r.size ∧ isL (gb r (span isD r)) = true
    · exact numTok_let_in r _ (by omega) hl hp (Lib.hid rfl) hl2.1 (by rw [hb0 _ hl2.1]; exact fun h => hn ⟨hl2.1, h⟩) _ (Lib.hid rfl) (hp3.2 hl2) W
    · obtain ⟨h2, h48⟩ := hb.resolve_left hl2
      have hW : span inW r ≤ span isD r := Nat.le_of_not_lt (fun h => hl2 (hp3.1 h))
      by_cases hin : span isD r < r.size
      · exact numTok_nought_in r _ (by omega) hl hp h00 (Lib.hid rfl) hin (by rw [hb0 _ hin]; exact fun h => hn ⟨hin, h⟩) _ (Lib.hid rfl) hW h2 (by rw [hb0 0 h00]; exact h48) W
      · exact numTok_nought_at r _ (by omega) hl hp h00 (Lib.hid rfl) (by omega) _ (Lib.hid rfl) hW h2 (by rw [hb0 0 h00]; exact h48) W
  | nok hD hn hb hv =>
    have hL := isD_isL _ hD
    obtain ⟨n92, n34⟩ : gb r 0 ≠ 92 ∧ gb r 0 ≠ 34 := by have := isD_rng hD; omega
    have hp := span_first (f := isD) h1 hD
    have hl := span_le isD r
    obtain ⟨hp2, hp3⟩ := span_letters r
    have h00 : 0 < r.size := by omega
    intro w
    refine token_num r (by omega) h1 (Lib.hid hL) n92 n34 (by omega) 3 0 0 _ false 32 _ 0 true _ 0 w (fun W => ?_)
    have hW : span inW r ≤ span isD r := Nat.le_of_not_lt (fun h => hb (.inl (hp3.1 h)))
    by_cases hin : span isD r < r.size
    · have h39 : r[span isD r].toNat ≠ 39 := by rw [hb0 _ hin]; exact fun h => hn ⟨hin, h⟩
      by_cases h2 : 2 ≤ span isD r
      · exact numTok_ok_in_many r _ (by omega) hl hp h00 (Lib.hid rfl) hin h39 h2 (by rw [hb0 0 h00]; exact fun h => hb (.inr ⟨h2, h⟩)) _ (Lib.hid rfl) hW _ (Lib.hid rfl) hv W
      · exact numTok_ok_in_one r _ (by omega) hl hp h00 (Lib.hid rfl) hin h39 (by omega) _ (Lib.hid rfl) hW _ (Lib.hid rfl) hv W
    · by_cases h2 : 2 ≤ span isD r
      · exact numTok_ok_at_many r _ (by omega) hl hp h00 (Lib.hid rfl) (by omega) h2 (by rw [hb0 0 h00]; exact fun h => hb (.inr ⟨h2, h⟩)) _ (Lib.hid rfl) hW _ (Lib.hid rfl) hv W
      · exact numTok_ok_at_one r _ (by omega) hl hp h00 (Lib.hid rfl) (by omega) (by omega) _ (Lib.hid rfl) hW _ (Lib.hid rfl) hv W
  | nbig hD hn hb hv =>
    have hL := isD_isL _ hD
    obtain ⟨n92, n34⟩ : gb r 0 ≠ 92 ∧ gb r 0 ≠ 34 := by have := isD_rng hD; omega
    have hp := span_first (f := isD) h1 hD
    have hl := span_le isD r
    obtain ⟨hp2, hp3⟩ := span_letters r
    have h00 : 0 < r.size := by omega
    refine ⟨by decide, 0, ⟨#[]⟩, false, 0, 0, 0, false, 0, fun w => token_num r (by omega) h1 (Lib.hid hL) n92 n34 (by omega) 0 0 0 _ false 0 0 0 false 0 3 w (fun W => ?_)⟩
    have hW : span inW r ≤ span isD r := Nat.le_of_not_lt (fun h => hb (.inl (hp3.1 h)))
    by_cases hin : span isD r < r.size
    · have h39 : r[span isD r].toNat ≠ 39 := by rw [hb0 _ hin]; exact fun h => hn ⟨hin, h⟩
      by_cases h2 : 2 ≤ span isD r
      · exact numTok_big_in_many r _ (by omega) hl hp h00 (Lib.hid rfl) hin h39 h2 (by rw [hb0 0 h00]; exact fun h => hb (.inr ⟨h2, h⟩)) _ (Lib.hid rfl) hW _ (Lib.hid rfl) hv W
      · exact numTok_big_in_one r _ (by omega) hl hp h00 (Lib.hid rfl) hin h39 (by omega) _ (Lib.hid rfl) hW _ (Lib.hid rfl) hv W
    · by_cases h2 : 2 ≤ span isD r
      · exact numTok_big_at_many r _ (by omega) hl hp h00 (Lib.hid rfl) (by omega) h2 (by rw [hb0 0 h00]; exact fun h => hb (.inr ⟨h2, h⟩)) _ (Lib.hid rfl) hW _ (Lib.hid rfl) hv W
      · exact numTok_big_at_one r _ (by omega) hl hp h00 (Lib.hid rfl) (by omega) (by omega) _ (Lib.hid rfl) hW _ (Lib.hid rfl) hv W
  | sign hL hD n34 n92 hi =>
    rename_i i
    have hW0 : span inW r = 0 := span_none h1 (by unfold inW; rw [hL, hD]; rfl)
    intro w
    exact token_sign r (by omega) h1 (Lib.hid hL) n92 n34 hW0 _ (Lib.hid (fun j hj => by rw [hi] at hj; injection hj with hj; subst hj; rfl)) (Lib.hid (fun h => by rw [hi] at h; cases h)) w
  | none hL hD n34 n92 hi =>
    have hW0 : span inW r = 0 := span_none h1 (by unfold inW; rw [hL, hD]; rfl)
    exact ⟨by decide, 0, ⟨#[]⟩, false, 0, 0, 0, false, 0, fun w => token_sign r (by omega) h1 (Lib.hid hL) n92 n34 hW0 _ (Lib.hid (fun j hj => by rw [hi] at hj; cases hj)) (Lib.hid (fun _ => rfl)) w⟩
end Go.Proofs.YtfnkablbcalclaaGreatDoor
