/- Rows of rows that are equal: the reference's SameRows. -/
import Derived.Test.YtcpifmhcebfglaaGrPl
namespace Go.Proofs.Ytcpifmhcebfglaa
open Go Go.RowKit Go.Sort
set_option linter.unusedVariables false
set_option maxRecDepth 100000 in
set_option maxHeartbeats 4000000 in
theorem equalF_any (l m : List (List Bool)) (v1 v2 : Value) (h1n : l.length ≤ 4000000000) (h2n : m.length ≤ 4000000000) (hl : ∀ r ∈ l, r.length ≤ 4000000000) (hm : ∀ r ∈ m, r.length ≤ 4000000000) (w : World) (h1 : TR l v1 w) (h2 : TR m v2 w) : Calls Try.prog 51 #[v1, v2, .func (.func 22) #[] #[]] w fun e w' => e = .returned (.bool (decide (l = m))) ∧ Below w.heap.size w w' := by
  obtain ⟨ad1, c1, vs1, rfl, k1, m1, n1, r1, o1⟩ := h1
  obtain ⟨ad2, c2, vs2, rfl, k2, m2, n2, r2, o2⟩ := h2
  by_cases hlen : l.length = m.length
  rotate_left
  · have hli : ¬ (l.length : Int) = (m.length : Int) := by omega
    have hlb : ((l.length : Int) == (m.length : Int)) = false := beq_eq_false_iff_ne.2 hli
    have HF : Hid (decide (l = m) = false) := Lib.hid (decide_eq_false (fun e => hlen (by rw [e])))
    clear o1 o2
    go_enter Try.func51, Try.ntmps51
    go_wp2_with fail
    go_ret
    exact ⟨ret_bool HF.out.symm, Below.refl _ _⟩
  · have HLN := Lib.hid hlen
    rw [← hlen]
    rw [← hlen] at k2 h2n
    clear hlen
    go_enter Try.func51, Try.ntmps51
    go_upto_block 0 with fail
    go_wp2_with fail
    go_loopw [17] (fun i wr => ∃ j : Nat, j ≤ l.length ∧ i = .int .i64 (j : Int) ∧ Hid (l.take j = m.take j) ∧ Hid (Below w.heap.size w wr)) (fun i _ => l.length - (intOf i).toNat)
    case atStart => exact ⟨0, Nat.zero_le _, rfl, Lib.hid rfl, Lib.hid (Below.refl _ _)⟩
    case round =>
      obtain ⟨j, hj, rfl, hE, hB⟩ := hrel
      rename World => WR
      have hj0 : (0 : Int) ≤ (j : Int) := by omega
      by_cases hlt : j < l.length
      · have hji : (j : Int) < (l.length : Int) := by omega
        have hlm : j < m.length := by have := HLN.out; omega
        obtain ⟨b1, oo1, rfl, q1⟩ := (r1.below hB.out).pick (by omega)
        obtain ⟨b2, oo2, rfl, q2⟩ := (r2.below hB.out).pick (by omega)
        have a0 := q1 j (by omega) 0 _ rfl
        have d0 := q2 j (by omega) 0 _ rfl
        simp only [Nat.mul_one, Nat.add_zero] at a0 d0
        clear q1 q2
        have HQ := Lib.hid (fun W (hW : Below WR.heap.size WR W) => equalB_any l[j]! m[j]! vs1[j]! vs2[j]! (hl _ (by rw [getElem!_pos l j hlt]; exact List.getElem_mem hlt)) (hm _ (by rw [getElem!_pos m j hlm]; exact List.getElem_mem hlm)) W (((o1 j hlt).below hB.out).below hW).row (((o2 j hlm).below hB.out).below hW).row)
        obtain ⟨aj, cj, hv1, _⟩ := o1 j hlt
        obtain ⟨ak, ck, hv2, _⟩ := o2 j hlm
        rw [hv1] at a0 HQ
        rw [hv2] at d0 HQ
        have HTE := Lib.hid (fun h : l[j]! = m[j]! => take_eq hE.out hlt hlm h)
        have HNE := Lib.hid (fun h : l[j]! ≠ m[j]! => ne_at h)
        clear hv1 hv2 o1 o2 hlm
        generalize l[j]! = x at a0 HQ HTE HNE
        generalize m[j]! = y at d0 HQ HTE HNE
        by_cases hxy : x = y
        · have HH := Lib.hid (HTE.out hxy)
          rw [decide_eq_true hxy] at HQ
          clear HTE HNE hxy hE
          go_wp2_with fail
          refine (HQ.out _ (Below.refl _ _)).mono ?_
          rintro en W3 ⟨rfl, hb3⟩
          have HB3 := Lib.hid (hB.out.trans (hb3.mono hB.out.size))
          clear HQ a0 d0
          go_wp2_with fail
          go_roundw
          case rel => exact ⟨j + 1, by omega, by go_num, HH, HB3⟩
          all_goals first | done | (simp [intOf]; done) | (simp [intOf]; omega)
        · have HF := Lib.hid (decide_eq_false (HNE.out hxy))
          rw [decide_eq_false hxy] at HQ
          clear HTE HNE hxy hE
          go_wp2_with fail
          refine (HQ.out _ (Below.refl _ _)).mono ?_
          rintro en W3 ⟨rfl, hb3⟩
          have HB3 := Lib.hid (hB.out.trans (hb3.mono hB.out.size))
          clear HQ a0 d0
          go_wp2_with fail
          go_ret
          exact ⟨ret_bool HF.out.symm, HB3.out⟩
      · have hji : ¬ (j : Int) < (l.length : Int) := by omega
        have HT : Hid (decide (l = m) = true) := Lib.hid (decide_eq_true (by
          have := hE.out
          rwa [List.take_of_length_le (by omega), List.take_of_length_le (by have := HLN.out; omega)] at this))
        clear o1 o2
        go_wp2_with fail
        go_ret
        exact ⟨ret_bool HT.out.symm, hB.out⟩
set_option maxRecDepth 100000 in
set_option maxHeartbeats 4000000 in
theorem sameRows_any (l m : List (List Bool)) (v1 v2 : Value) (h1n : l.length ≤ 4000000000) (h2n : m.length ≤ 4000000000) (hl : ∀ r ∈ l, r.length ≤ 4000000000) (hm : ∀ r ∈ m, r.length ≤ 4000000000) (w : World) (h1 : TR l v1 w) (h2 : TR m v2 w) : Calls Try.prog 59 #[v1, v2] w fun e w' => e = .returned (.bool (decide (l = m))) ∧ Below w.heap.size w w' := by
  have HC := Lib.hid (equalF_any l m v1 v2 h1n h2n hl hm w h1 h2)
  clear h1 h2 hl hm
  generalize decide (l = m) = d at HC ⊢
  go_enter Try.func59, Try.ntmps59
  go_wp2_with fail
  refine HC.out.mono ?_
  rintro en W3 ⟨rfl, hb3⟩
  have HB3 := Lib.hid hb3
  go_wp2_with fail
  go_ret
  exact ⟨rfl, HB3.out⟩
end Go.Proofs.Ytcpifmhcebfglaa
