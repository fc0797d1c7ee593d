/- The program's taken: how many kids a letter with a mark takes. -/
import Derived.Test.YtpjnjcljaoaceaaSyBel
import Derived.LoopTactic
import Derived.Deep.CutBlock
namespace Go.Proofs.Ytpjnjcljaoaceaa
open Go Go.RowKit
set_option linter.unusedVariables false
set_option maxRecDepth 100000 in
set_option maxHeartbeats 1000000 in
theorem taken_many (c : UInt8) (m : Int) (hm : m = 42 ∨ m = 43) (ks : List Nd) (a : Option Addr) (cap : Nat) (hl : ks.length ≤ 4000000000000) (w : World) (hr : Row w a cap ks) : Calls Try.prog 42 #[.int .u8 (c.toNat : Int), .int .u8 m, .slice a ks.length cap] w fun e w' => e = .returned (.int .i64 (preN c ks : Nat)) ∧ Below w.heap.size w w' := by
  have hB := fun k W => belongs_any k c W
  have HB := Lib.hid hB
  have hrow := Lib.hid hr
  have hc : (c.toNat : Int) ≤ 255 := by have := c.toNat_lt; omega
  clear hB hr
  generalize hC : (c.toNat : Int) = C at *
  have HCC := Lib.hid hC
  clear hC
  rcases hm with rfl | rfl
  all_goals
    go_enter Try.func42, Try.ntmps42
    go_wp2_with fail
    go_loopw [7] (fun u wr => ∃ j : Nat, j ≤ ks.length ∧ u = .int .i64 (j : Int) ∧ Hid (∀ i (h : i < ks.length), i < j → bel ks[i].kind c = true) ∧ Below w.heap.size w wr) (fun u _ => ks.length - (intOf u).toNat)
    case atStart => exact ⟨0, Nat.zero_le _, rfl, Lib.hid (fun i h hi => absurd hi (Nat.not_lt_zero i)), Below.refl _ _⟩
    case round =>
      obtain ⟨j, hj, rfl, HD, hlo⟩ := hrel
      rename World => WR
      by_cases hlt : j < ks.length
      · have hne : ks ≠ [] := by rintro rfl; simp at hlt
        obtain ⟨hcap, hrr⟩ := hrow.out
        obtain ⟨b, o, ha, hf⟩ := hrr hne
        have hf := (hf j hlt).below hlo
        have HY : Hid (bel ks[j].kind c = true → ∀ i (h : i < ks.length), i < j + 1 → bel ks[i].kind c = true) := Lib.hid (fun hv i h hi => by
          by_cases hq : i < j
          · exact HD.out i h hq
          · obtain rfl : i = j := by omega
            exact hv)
        have HN : Hid (bel ks[j].kind c = false → preN c ks = j) := Lib.hid (fun hv => preN_is c ks j hj HD.out (fun _ => hv))
        generalize ks[j] = K at *
        obtain ⟨k', l', c', nm', tx', n', v', x', s', a', cap', ks'⟩ := K
        obtain ⟨h0, h1, h2, h3, h4, h5, h6, h7, h8, h9⟩ := hf
        subst ha
        clear hrr hne h1 h2 h3 h4 h5 h6 h7 h8 h9 hrow
        have HB' := Lib.hid (HB.out k')
        simp only [Nd.kind] at HY HN
        clear HB
        have hjl : (j : Int) < (ks.length : Int) := by omega
        have hj0 : (0 : Int) ≤ (j : Int) := by omega
        cases hv : bel k' c
        · have hp := HN.out hv
          rw [hv] at HB'
          clear hv HY HN HD
          go_wp2_with (refine (HB'.out _).mono ?_; rintro e w3 ⟨rfl, hb3⟩)
          go_ret
          exact ⟨by rw [hp]; rfl, hlo.trans (hb3.mono hlo.size)⟩
        · have hp := Lib.hid (HY.out hv)
          rw [hv] at HB'
          clear hv HY HN HD
          go_wp2_with (refine (HB'.out _).mono ?_; rintro e w3 ⟨rfl, hb3⟩)
          go_round
          case rel => exact ⟨j + 1, hlt, by go_num, hp, hlo.trans (hb3.mono hlo.size)⟩
          case measure => simp [intOf] <;> omega
      · obtain rfl : j = ks.length := by omega
        have hp : preN c ks = ks.length := preN_is c ks _ (Nat.le_refl _) HD.out (fun h => absurd h (Nat.lt_irrefl _))
        clear HD
        go_wp2_with fail
        go_ret
        exact ⟨by rw [hp]; rfl, hlo⟩
set_option maxRecDepth 100000 in
set_option maxHeartbeats 1000000 in
theorem taken_none (C m : Int) (h42 : (m == 42) = false) (h43 : (m == 43) = false) (a : Option Addr) (cap : Nat) (w : World) : Calls Try.prog 42 #[.int .u8 C, .int .u8 m, .slice a 0 cap] w fun e w' => e = .returned (.int .i64 0) ∧ Below w.heap.size w w' := by
  go_enter Try.func42, Try.ntmps42
  go_wp2_with fail
  go_ret
  exact ⟨rfl, Below.refl _ _⟩
set_option maxRecDepth 100000 in
set_option maxHeartbeats 1000000 in
theorem taken_one (C m : Int) (h42 : (m == 42) = false) (h43 : (m == 43) = false) (b o : Nat) (cap n : Nat) (k : Int) (R : Bool) (hR : (m == 63 || !(k == 0)) = R) (w : World) (h0 : w.cell? ⟨b, o, none⟩ = some (.int .i64 k)) (hn : 0 < n) (hn' : n ≤ 4000000000000) : Calls Try.prog 42 #[.int .u8 C, .int .u8 m, .slice (some ⟨b, o, none⟩) n cap] w fun e w' => e = .returned (.int .i64 (if R = true then 1 else 0)) ∧ Below w.heap.size w w' := by
  have hn0 : (0 : Int) < (n : Int) := by omega
  cases hm : m == 63
  all_goals cases hk : k == 0
  all_goals simp only [hm, hk] at hR
  all_goals subst hR
  all_goals
    go_enter Try.func42, Try.ntmps42
    go_wp2_with fail
    go_ret
    exact ⟨rfl, Below.refl _ _⟩
theorem taken_any (c mk : UInt8) (ks : List Nd) (a : Option Addr) (cap : Nat) (hl : ks.length ≤ 4000000000000) (w : World) (hr : Row w a cap ks) : Calls Try.prog 42 #[.int .u8 (c.toNat : Int), .int .u8 (mk.toNat : Int), .slice a ks.length cap] w fun e w' => e = .returned (.int .i64 (takeN c mk ks : Nat)) ∧ Below w.heap.size w w' := by
  have hx : ∀ n : Nat, n < 256 → (((mk.toNat : Int) == (n : Int)) = true ↔ mk = UInt8.ofNat n) := fun n hn => by
    rw [beq_iff_eq]
    constructor
    · intro h; exact UInt8.toNat_inj.1 (by simp <;> omega)
    · rintro rfl; simp <;> omega
  by_cases h : mk = 42 ∨ mk = 43
  · have e : takeN c mk ks = preN c ks := by unfold takeN; rw [if_pos h]
    rw [e]
    exact taken_many c _ (by rcases h with rfl | rfl <;> decide) ks a cap hl w hr
  · have h42 : ((mk.toNat : Int) == 42) = false := by
      cases hq : ((mk.toNat : Int) == 42)
      · rfl
      · exact absurd (Or.inl ((hx 42 (by decide)).1 hq)) h
    have h43 : ((mk.toNat : Int) == 43) = false := by
      cases hq : ((mk.toNat : Int) == 43)
      · rfl
      · exact absurd (Or.inr ((hx 43 (by decide)).1 hq)) h
    cases ks with
    | nil =>
      have e : takeN c mk [] = 0 := by unfold takeN; rw [if_neg h]
      rw [e]
      exact taken_none _ _ h42 h43 a cap w
    | cons x r =>
      obtain ⟨b, o, rfl, hf⟩ := hr.2 (by simp)
      have hf := hf 0 (by simp)
      have e : takeN c mk (x :: r) = if mk = 63 ∨ x.kind ≠ 0 then 1 else 0 := by unfold takeN; rw [if_neg h]
      obtain ⟨k', l', c', nm', tx', n', v', x', s', a', cap', ks'⟩ := x
      have h0 := hf.c0
      refine (taken_one _ _ h42 h43 b o cap _ k' _ rfl w (by simpa using h0) (by simp) hl).mono ?_
      rintro e w' ⟨rfl, hb⟩
      refine ⟨?_, hb⟩
      rw [‹takeN _ _ _ = _›]
      have h63 : ((mk.toNat : Int) == 63) = decide (mk = 63) := by
        by_cases hq : mk = 63
        · rw [decide_eq_true hq]; exact (hx 63 (by decide)).2 hq
        · rw [decide_eq_false hq]
          cases hz : ((mk.toNat : Int) == 63)
          · rfl
          · exact absurd ((hx 63 (by decide)).1 hz) hq
      rw [h63]
      simp only [Nd.kind]
      by_cases hq : mk = 63 <;> by_cases hk : k' = 0 <;> simp [hq, hk]
end Go.Proofs.Ytpjnjcljaoaceaa
