/- The reference's Valid of a valid vector. -/
import Derived.Test.YtpjnjcljaoaceaaMgTxt
import Derived.Test.YtpjnjcljaoaceaaRaw
namespace Go.Proofs.Ytpjnjcljaoaceaa
open Go Go.RowKit
set_option linter.unusedVariables false
theorem bit_zero (v : BitVec 64) (i : Nat) (h : v.getLsbD i = false) : v >>> i &&& 1#64 = 0#64 := by
  apply BitVec.eq_of_getLsbD_eq
  intro j hj
  rw [BitVec.getLsbD_and, BitVec.getLsbD_ushiftRight]
  by_cases h0 : j = 0
  · subst h0; simp [h]
  · have h1 : (1#64).getLsbD j = false := by rw [BitVec.getLsbD_one]; simp [h0]
    rw [h1, Bool.and_false]; simp
set_option maxRecDepth 100000 in
set_option maxHeartbeats 1000000 in
theorem refValid_ok (n : Nat) (a : Vx) (w : World) (ha : a.ok n) :
    Calls Try.prog 30 #[.agg #[.int .i64 n, .int .u64 (U a.v), .int .u64 (U a.x)]] w fun e w' => e = .returned (.bool true) ∧ Below w.heap.size w w' := by
  have h1 := ha.lo
  have h2 := ha.hi
  go_enter Try.func30, Try.ntmps30
  go_wp2_with fail
  go_loop [3] (fun i => ∃ k : Nat, n ≤ k ∧ k ≤ 64 ∧ i = .int .i64 k) (fun i => 64 - (intOf i).toNat)
  case atStart => exact ⟨n, Nat.le_refl _, h2, rfl⟩
  case round =>
    obtain ⟨k, hnk, hk, rfl⟩ := hrel
    by_cases hlt : k < 64
    · have fv := bit_zero a.v k (ha.subv k hnk)
      have fx := bit_zero a.x k (ha.subx k hnk)
      have gv : (a.v >>> k &&& 1#64 != 0#64) = false := by rw [fv]; rfl
      have gx : (a.x >>> k &&& 1#64 != 0#64) = false := by rw [fx]; rfl
      go_wp2_with fail
      go_round
      case rel => exact ⟨k + 1, by omega, by omega, by go_num⟩
      case measure => simp [intOf]; omega
    · go_wp2_with fail
      go_ret
      exact ⟨rfl, (Below.refl _ _).alloc (Nat.le_refl _) _⟩
theorem bit_set (v : BitVec 64) (i : Nat) (hi : i < 64) (h : v.getLsbD i = true) : (v >>> i &&& 1#64 != 0#64) = true := by
  have e := bit_one v i hi
  rw [h] at e
  have e2 : v >>> i &&& 1#64 = 1#64 := by simpa using e
  rw [e2]; rfl
set_option maxRecDepth 100000 in
set_option maxHeartbeats 1000000 in
theorem refValid_bits (n : Nat) (V X : BitVec 64) (w : World) (h1 : 1 ≤ n) (h2 : n ≤ 64) (hn : ¬ Ok n V X) :
    Calls Try.prog 30 #[.agg #[.int .i64 n, .int .u64 (U V), .int .u64 (U X)]] w fun e w' => e = .returned (.bool false) ∧ Below w.heap.size w w' := by
  have HN := Lib.hid hn
  clear hn
  go_enter Try.func30, Try.ntmps30
  go_wp2_with fail
  go_loop [3] (fun i => ∃ k : Nat, n ≤ k ∧ k ≤ 64 ∧ i = .int .i64 k ∧ Hid (∀ j, n ≤ j → j < k → V.getLsbD j = false ∧ X.getLsbD j = false)) (fun i => 64 - (intOf i).toNat)
  case atStart => exact ⟨n, Nat.le_refl _, h2, rfl, fun j a b => by omega⟩
  case round =>
    obtain ⟨k, hnk, hk, rfl, hz⟩ := hrel
    by_cases hlt : k < 64
    · cases hv : V.getLsbD k
      · have fv := bit_zero V k hv
        have gv : (V >>> k &&& 1#64 != 0#64) = false := by rw [fv]; rfl
        cases hx : X.getLsbD k
        · have fx := bit_zero X k hx
          have gx : (X >>> k &&& 1#64 != 0#64) = false := by rw [fx]; rfl
          have hz' : Hid (∀ j, n ≤ j → j < k + 1 → V.getLsbD j = false ∧ X.getLsbD j = false) := by
            intro j a b
            by_cases e : j = k
            · subst e; exact ⟨hv, hx⟩
            · exact hz.out j a (by omega)
          clear hv hx
          go_wp2_with fail
          go_round
          case rel => exact ⟨k + 1, by omega, by omega, by go_num, hz'⟩
          case measure => simp [intOf]; omega
        · have gx := bit_set X k hlt hx
          clear hv hx
          go_wp2_with fail
          go_ret
          exact ⟨rfl, (Below.refl _ _).alloc (Nat.le_refl _) _⟩
      · have gv := bit_set V k hlt hv
        clear hv
        go_wp2_with fail
        go_ret
        exact ⟨rfl, (Below.refl _ _).alloc (Nat.le_refl _) _⟩
    · exfalso
      refine HN.out (ok_mk h1 h2 (fun j hj => ?_) (fun j hj => ?_))
      · by_cases h : j < 64
        · exact (hz.out j hj (by omega)).1
        · exact BitVec.getLsbD_of_ge V j (by omega)
      · by_cases h : j < 64
        · exact (hz.out j hj (by omega)).2
        · exact BitVec.getLsbD_of_ge X j (by omega)
set_option maxHeartbeats 400000 in
theorem refValid_lo (W : Int) (V X : BitVec 64) (w : World) (h : ¬ (1 ≤ W ∧ W ≤ 64)) :
    Calls Try.prog 30 #[.agg #[.int .i64 W, .int .u64 (U V), .int .u64 (U X)]] w fun e w' => e = .returned (.bool false) ∧ Below w.heap.size w w' := by
  by_cases h1 : W < 1
  · go_enter Try.func30, Try.ntmps30
    go_wp2_with fail
    go_ret
    exact ⟨rfl, (Below.refl _ _).alloc (Nat.le_refl _) _⟩
  · have h2 : 64 < W := by omega
    go_enter Try.func30, Try.ntmps30
    go_wp2_with fail
    go_ret
    exact ⟨rfl, (Below.refl _ _).alloc (Nat.le_refl _) _⟩
theorem refValid_any (r : Rb) (w : World) : Calls Try.prog 30 #[.agg #[.int .i64 r.W, .int .u64 (U r.v), .int .u64 (U r.x)]] w fun e w' => e = .returned (.bool r.okB) ∧ Below w.heap.size w w' := by
  obtain ⟨W, V, X⟩ := r
  by_cases h : 1 ≤ W ∧ W ≤ 64
  · obtain ⟨n, rfl⟩ : ∃ n : Nat, W = n := ⟨W.toNat, by omega⟩
    by_cases ho : Ok n V X
    · rw [Rb.okB_of ho]; exact refValid_ok n ⟨V, X⟩ w ho
    · have e : (⟨(n : Int), V, X⟩ : Rb).okB = false := by
        cases hh : (⟨(n : Int), V, X⟩ : Rb).okB
        · rfl
        · obtain ⟨m, hm, o⟩ := Rb.ok_of hh
          have : m = n := by have hm' : (n : Int) = m := hm; omega
          subst this; exact absurd o ho
      rw [e]; exact refValid_bits n V X w (by omega) (by omega) ho
  · have e : (⟨W, V, X⟩ : Rb).okB = false := by
      simp only [Rb.okB, Bool.and_eq_false_iff, decide_eq_false_iff_not]
      by_cases h1 : 1 ≤ W
      · exact Or.inl (Or.inr (fun h2 => h ⟨h1, h2⟩))
      · exact Or.inl (Or.inl h1)
    rw [e]; exact refValid_lo W V X w h
end Go.Proofs.Ytpjnjcljaoaceaa
