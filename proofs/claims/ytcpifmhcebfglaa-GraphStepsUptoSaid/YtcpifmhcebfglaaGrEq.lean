/- Rows that are equal, and graphs that are: slices.Equal, the reference's SameGraph. -/
import Derived.Test.YtcpifmhcebfglaaGrGo
namespace Go.Proofs.Ytcpifmhcebfglaa
open Go Go.RowKit
set_option linter.unusedVariables false
theorem rg_ext {r s : Rg} (h1 : r.nm = s.nm) (h2 : r.nx = s.nx) (h3 : r.it = s.it) : r = s := by cases r; cases s; simp_all
instance : DecidableEq Rg := fun r s => if h : r.nm = s.nm ∧ r.nx = s.nx ∧ r.it = s.it then isTrue (rg_ext h.1 h.2.1 h.2.2) else isFalse (fun e => h (by rw [e]; exact ⟨rfl, rfl, rfl⟩))
theorem take_eq {α : Type} [Inhabited α] {l m : List α} {i : Nat} (h : l.take i = m.take i) (h1 : i < l.length) (h2 : i < m.length) (h3 : l[i]! = m[i]!) : l.take (i + 1) = m.take (i + 1) := by
  rw [tk1 l h1, tk1 m h2, h, h3]
theorem ne_at {α : Type} [Inhabited α] {l m : List α} {i : Nat} (h3 : l[i]! ≠ m[i]!) : l ≠ m := fun e => h3 (by rw [e])
set_option maxRecDepth 100000 in
set_option maxHeartbeats 4000000 in
theorem equalB_any (l m : List Bool) (v1 v2 : Value) (h1n : l.length ≤ 4000000000) (h2n : m.length ≤ 4000000000) (w : World) (h1 : RowOf 1 encB l v1 w) (h2 : RowOf 1 encB m v2 w) : Calls Try.prog 22 #[v1, v2] w fun e w' => e = .returned (.bool (decide (l = m))) ∧ Below w.heap.size w w' := by
  obtain ⟨ad1, c1, rfl, k1, r1⟩ := h1.open'
  obtain ⟨ad2, c2, rfl, k2, r2⟩ := h2.open'
  clear h1 h2
  by_cases hlen : l.length = m.length
  rotate_left
  · have hli : ¬ (l.length : Int) = (m.length : Int) := by omega
    have hlb : ((l.length : Int) == (m.length : Int)) = false := beq_eq_false_iff_ne.2 hli
    have HF : Hid (decide (l = m) = false) := Lib.hid (decide_eq_false (fun e => hlen (by rw [e])))
    go_enter Try.func22, Try.ntmps22
    go_wp2_with fail
    go_ret
    exact ⟨ret_bool HF.out.symm, Below.refl _ _⟩
  · rw [← hlen]
    rw [← hlen] at k2 h2n
    go_enter Try.func22, Try.ntmps22
    go_wp2_with fail
    go_loopw [13] (fun i wr => ∃ j : Nat, j ≤ l.length ∧ i = .int .i64 (j : Int) ∧ Hid (l.take j = m.take j) ∧ Hid (Below w.heap.size w wr)) (fun i _ => l.length - (intOf i).toNat)
    case atStart => exact ⟨0, Nat.zero_le _, rfl, rfl, Lib.hid (Below.refl _ _)⟩
    case round =>
      obtain ⟨j, hj, rfl, hE, hB⟩ := hrel
      rename World => WR
      have hj0 : (0 : Int) ≤ (j : Int) := by omega
      by_cases hlt : j < l.length
      · have hji : (j : Int) < (l.length : Int) := by omega
        obtain ⟨b1, o1, rfl, q1⟩ := (r1.below hB.out).pick (by omega)
        obtain ⟨b2, o2, rfl, q2⟩ := (r2.below hB.out).pick (by omega)
        have a0 := q1 j hlt 0 _ rfl
        have d0 := q2 j (by omega) 0 _ rfl
        simp only [Nat.mul_one, Nat.add_zero] at a0 d0
        clear q1 q2
        by_cases he : l[j]! = m[j]!
        · have HS : Hid (l.take (j + 1) = m.take (j + 1)) := Lib.hid (take_eq hE.out hlt (by omega) he)
          rw [he] at a0
          generalize m[j]! = x at a0 d0
          clear he hE
          go_upto_region 6 with fail
          go_region
          all_goals go_wp2_with fail
          all_goals go_roundw
          case rel => exact ⟨j + 1, by omega, by go_num, HS, Lib.hid (below_drewN hB.out 1)⟩
          all_goals first | done | (simp [intOf]; done) | (simp [intOf]; omega)
        · have HF : Hid (decide (l = m) = false) := Lib.hid (decide_eq_false (ne_at he))
          generalize l[j]! = x at *
          generalize m[j]! = y at *
          have f0a : ¬ x = y := he
          have f0b : (x == y) = false := beq_eq_false_iff_ne.2 f0a
          have f0c : (x != y) = true := by simp [bne, f0b]
          clear he hE
          go_upto_region 6 with fail
          go_region
          all_goals go_wp2_with fail
          all_goals go_ret
          all_goals exact ⟨ret_bool HF.out.symm, below_drewN hB.out 1⟩
      · have hji : ¬ (j : Int) < (l.length : Int) := by omega
        have HT : Hid (decide (l = m) = true) := Lib.hid (decide_eq_true (by
          have := hE.out
          rwa [List.take_of_length_le (by omega), List.take_of_length_le (by omega)] at this))
        go_wp2_with fail
        go_ret
        exact ⟨ret_bool HT.out.symm, hB.out⟩
set_option maxRecDepth 100000 in
set_option maxHeartbeats 4000000 in
theorem equalT_any (l m : List ByteArray) (v1 v2 : Value) (h1n : l.length ≤ 4000000000) (h2n : m.length ≤ 4000000000) (w : World) (h1 : RowOf 1 encT l v1 w) (h2 : RowOf 1 encT m v2 w) : Calls Try.prog 119 #[v1, v2] w fun e w' => e = .returned (.bool (decide (l = m))) ∧ Below w.heap.size w w' := by
  obtain ⟨ad1, c1, rfl, k1, r1⟩ := h1.open'
  obtain ⟨ad2, c2, rfl, k2, r2⟩ := h2.open'
  clear h1 h2
  by_cases hlen : l.length = m.length
  rotate_left
  · have hli : ¬ (l.length : Int) = (m.length : Int) := by omega
    have hlb : ((l.length : Int) == (m.length : Int)) = false := beq_eq_false_iff_ne.2 hli
    have HF : Hid (decide (l = m) = false) := Lib.hid (decide_eq_false (fun e => hlen (by rw [e])))
    go_enter Try.func119, Try.ntmps119
    go_wp2_with fail
    go_ret
    exact ⟨ret_bool HF.out.symm, Below.refl _ _⟩
  · rw [← hlen]
    rw [← hlen] at k2 h2n
    go_enter Try.func119, Try.ntmps119
    go_wp2_with fail
    go_loopw [13] (fun i wr => ∃ j : Nat, j ≤ l.length ∧ i = .int .i64 (j : Int) ∧ Hid (l.take j = m.take j) ∧ Hid (Below w.heap.size w wr)) (fun i _ => l.length - (intOf i).toNat)
    case atStart => exact ⟨0, Nat.zero_le _, rfl, rfl, Lib.hid (Below.refl _ _)⟩
    case round =>
      obtain ⟨j, hj, rfl, hE, hB⟩ := hrel
      rename World => WR
      have hj0 : (0 : Int) ≤ (j : Int) := by omega
      by_cases hlt : j < l.length
      · have hji : (j : Int) < (l.length : Int) := by omega
        obtain ⟨b1, o1, rfl, q1⟩ := (r1.below hB.out).pick (by omega)
        obtain ⟨b2, o2, rfl, q2⟩ := (r2.below hB.out).pick (by omega)
        have a0 := q1 j hlt 0 _ rfl
        have d0 := q2 j (by omega) 0 _ rfl
        simp only [Nat.mul_one, Nat.add_zero] at a0 d0
        clear q1 q2
        by_cases he : l[j]! = m[j]!
        · have HS : Hid (l.take (j + 1) = m.take (j + 1)) := Lib.hid (take_eq hE.out hlt (by omega) he)
          rw [he] at a0
          generalize m[j]! = x at a0 d0
          clear he hE
          go_upto_region 6 with fail
          go_region
          all_goals go_wp2_with fail
          all_goals go_roundw
          case rel => exact ⟨j + 1, by omega, by go_num, HS, Lib.hid (below_drewN hB.out 1)⟩
          all_goals first | done | (simp [intOf]; done) | (simp [intOf]; omega)
        · have HF : Hid (decide (l = m) = false) := Lib.hid (decide_eq_false (ne_at he))
          generalize l[j]! = x at *
          generalize m[j]! = y at *
          have f0z : ¬ x = y := he
          have f0a : ¬ x.toList = y.toList := fun e => f0z (tl_eq.2 e)
          have f0b : (x.toList == y.toList) = false := beq_eq_false_iff_ne.2 f0a
          have f0c : (x.toList != y.toList) = true := by simp [bne, f0b]
          clear he hE
          go_upto_region 6 with fail
          go_region
          all_goals go_wp2_with fail
          all_goals go_ret
          all_goals exact ⟨ret_bool HF.out.symm, below_drewN hB.out 1⟩
      · have hji : ¬ (j : Int) < (l.length : Int) := by omega
        have HT : Hid (decide (l = m) = true) := Lib.hid (decide_eq_true (by
          have := hE.out
          rwa [List.take_of_length_le (by omega), List.take_of_length_le (by omega)] at this))
        go_wp2_with fail
        go_ret
        exact ⟨ret_bool HT.out.symm, hB.out⟩
end Go.Proofs.Ytcpifmhcebfglaa
