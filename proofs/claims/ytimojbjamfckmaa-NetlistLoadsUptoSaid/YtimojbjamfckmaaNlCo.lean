/- slices.Grow of nil and slices.Concat at bits: a row of the call's own. Condition: from 1 to 1,000,000 bits in all. -/
import Derived.Test.YtimojbjamfckmaaNlF
import Derived.Test.YtimojbjamfckmaaGrTf
import Derived.Lib.AppendZerosOnto
namespace Go.Proofs.Ytimojbjamfckmaa
open Go Go.RowKit Go.Sort
set_option linter.unusedVariables false
theorem zeros_one (z : Value) (n : Nat) (hz : z.cells = #[z]) : Builtin.zeroCells z.cells n = Array.replicate n z := by
  rw [hz]
  unfold Builtin.zeroCells
  apply Array.ext
  · simp
  · intro i h1 h2
    simp [Nat.mod_one]
set_option maxRecDepth 100000 in
set_option maxHeartbeats 8000000 in
theorem growB_any (n : Nat) (h0 : 0 < n) (hn : n ≤ 1000000) (w : World) : Calls Try.prog 128 #[.slice none 0 0, .int .i64 (n : Int)] w fun e w' => ∃ u, e = .returned u ∧ OwnK w.heap.size 4 1 encB w' u ([] : List Bool) ∧ Below w.heap.size w w' := by
  obtain ⟨i0, hi, hz0, hz1, hz2⟩ := infoMB_parts
  have h1 : ¬ ((n : Int) < 0) := by omega
  have h4 : (0 : Int) < (n : Int) := by omega
  have hold : (Builtin.firstCells i0.size 0 (.slice none 0 0)).run Try.prog w.drew = .ok (#[] : Array Value) w.drew := run_firstCells_none w.drew i0.size 0 0 0
  have hrz : ∀ ty, (Builtin.append_ #[42, 3] ty #[.slice none 0 0, .int .i64 (n : Int)]).run Try.prog w =
      .ok (.slice (some ⟨w.heap.size, 0, none⟩) n (grownCap w n 0 4)) (w.drew.alloc (.cells (#[] ++ Builtin.zeroCells (Value.bool false).cells n ++ Builtin.zeroCells (Value.bool false).cells (grownCap w n 0 4 - n)) 4)) := fun ty => by
    have h := Lib.run_append_grow_zeros w 42 3 ty 4 i0 (.bool false) .i64 .i64 Try.underlying42 Try.underlying3 hi hz0 none 0 0 [] hold n (by omega) (by rw [hz1]; decide) (by omega) (by omega) (by rw [hz2]; omega) (by rw [Nat.zero_add]; exact growslice_fits h0 (by rw [hz2]; omega))
    simpa using h
  have hGn : n ≤ grownCap w n 0 4 := grownCap_ge w _ _ _
  have hGm : grownCap w n 0 4 ≤ maxLen := grownCap_le_maxLen w n 0 4 (by unfold maxLen; omega)
  rw [zeros_one _ _ rfl, zeros_one _ _ rfl] at hrz
  generalize grownCap w n 0 4 = G at hrz hGn hGm
  have hob : Obj.cells (#[] ++ Array.replicate n (Value.bool false) ++ Array.replicate (G - n) (Value.bool false)) 4 = .cells (madeCells #[.bool false] G) 4 := by
    rw [made_one]
    congr 1
    apply Array.ext
    · simp; omega
    · intro i h1 h2
      simp [Array.getElem_append]
  rw [hob] at hrz
  clear hold hob
  go_enter Try.func128, Try.ntmps128
  go_wp2_with (at_builtin; refine Lib.wpList_append_run _ rfl _ _ _ _ rfl _ _ rfl rfl _ _ (hrz _) ?_)
  all_goals
    go_ret
    exact ⟨_, rfl, own_made (f := fun b : Bool => Value.bool b) w.drew w.heap.size (Nat.le_refl _) 4 false 0 G (Nat.zero_le _) hGm, ((Below.refl _ w).drew).alloc (Nat.le_refl _) _⟩
theorem flat_take (Ls : List (List Bool)) {j : Nat} (hj : j < Ls.length) : (Ls.take (j + 1)).flatten = (Ls.take j).flatten ++ Ls[j]! := by rw [tk1 Ls hj, List.flatten_append]; simp
theorem flat_le (Ls : List (List Bool)) (j : Nat) : (Ls.take j).flatten.length ≤ Ls.flatten.length := by
  have h := congrArg (fun l => l.flatten.length) (List.take_append_drop j Ls)
  simp only [List.flatten_append, List.length_append] at h
  omega
set_option maxRecDepth 100000 in
set_option maxHeartbeats 8000000 in
theorem concatB_any (Ls : List (List Bool)) (v : Value) (hn : Ls.length ≤ 1000) (ht : Ls.flatten.length ≤ 1000000) (h0 : 0 < Ls.flatten.length) (w : World) (h : TR Ls v w) : Calls Try.prog 89 #[v] w fun e w' => ∃ u, e = .returned u ∧ OwnK w.heap.size 4 1 encB w' u Ls.flatten ∧ Below w.heap.size w w' := by
  obtain ⟨ad1, c1, vs, rfl, k1, m1, hvl, r1, hrow⟩ := h
  obtain ⟨i0, ihi, ihz, ihs, ihb⟩ := infoMB_parts
  have HR1 := Lib.hid (fun W (hb : Below w.heap.size w W) => r1.below hb)
  have HRW := Lib.hid (fun j (hj : j < Ls.length) W (hb : Below w.heap.size w W) => (hrow j hj).below hb)
  have HT := Lib.hid (fun j (hj : j < Ls.length) => flat_take Ls hj)
  have HLE := Lib.hid (fun j => flat_le Ls j)
  clear r1 hrow
  go_enter Try.func89, Try.ntmps89
  go_upto_block 0 with fail
  go_wp2_with fail
  go_loopw [3, 11] (fun u i wr => ∃ (j s : Nat), j ≤ Ls.length ∧ u = .int .i64 (s : Int) ∧ i = .int .i64 (j : Int) ∧ Hid (s = (Ls.take j).flatten.length) ∧ wr = w) (fun _ i _ => Ls.length - (intOf i).toNat)
  case atStart => exact ⟨0, 0, Nat.zero_le _, rfl, rfl, Lib.hid (by simp), rfl⟩
  case round =>
    obtain ⟨j, s, hj, rfl, rfl, hS, rfl⟩ := hrel
    have hj0 : (0 : Int) ≤ (j : Int) := by omega
    have hs0 : (0 : Int) ≤ (s : Int) := by omega
    by_cases hlt : j < Ls.length
    · have hji : (j : Int) < (Ls.length : Int) := by omega
      obtain ⟨adj, cpj, hv, hcj, hnj, rj⟩ := HRW.out j hlt _ (Below.refl _ _)
      obtain ⟨bb, oo, hdd, hcell⟩ := (HR1.out _ (Below.refl _ _)).pick (by omega)
      subst hdd
      have c0 := hcell j (by omega) 0 _ rfl
      simp only [Nat.mul_one, Nat.add_zero] at c0
      rw [hv] at c0
      have HS2 := Lib.hid (show s + Ls[j]!.length = (Ls.take (j + 1)).flatten.length by rw [hS.out, HT.out j hlt, List.length_append])
      have hs2 : s + Ls[j]!.length ≤ 1000000 := by rw [HS2.out]; exact Nat.le_trans (HLE.out _) ht
      clear hcell hv rj hcj hnj hS
      generalize Ls[j]!.length = m at c0 HS2 hs2
      have hsi : ¬ ((s : Int) + (m : Int) < 0) := by omega
      go_wp2_with fail
      go_roundw
      case rel => exact ⟨j + 1, s + m, by omega, by go_num, by go_num, HS2, by first | rfl | trivial⟩
      all_goals first | done | (simp [intOf]; done) | (simp [intOf]; omega)
    · have hji : ¬ (j : Int) < (Ls.length : Int) := by omega
      have hst : s = Ls.flatten.length := by rw [hS.out, List.take_of_length_le (by omega)]
      have HG := Lib.hid (growB_any s (by omega) (by omega) wr)
      clear hS hst
      go_upto_block 2 with (first | (go_at_call 128; refine HG.out.mono ?_; rintro ee W1 ⟨u, rfl, O1, B1⟩))
      clear HG hlt hji
      go_wp2_with fail
      go_loopw [6, 27] (fun u i wr2 => ∃ j : Nat, j ≤ Ls.length ∧ i = .int .i64 (j : Int) ∧ Hid (OwnK wr.heap.size 4 1 encB wr2 u (Ls.take j).flatten) ∧ Hid (Below wr.heap.size wr wr2)) (fun _ i _ => Ls.length - (intOf i).toNat)
      case atStart => exact ⟨0, Nat.zero_le _, rfl, Lib.hid (by simpa using O1), Lib.hid B1⟩
      case round =>
        clear O1 B1
        obtain ⟨j, hj, rfl, hO, hB⟩ := hrel
        rename World => WR
        have hj0 : (0 : Int) ≤ (j : Int) := by omega
        by_cases hlt : j < Ls.length
        · have hji : (j : Int) < (Ls.length : Int) := by omega
          obtain ⟨adj, cpj, hv, hcj, hnj, rj⟩ := HRW.out j hlt _ hB.out
          obtain ⟨bb, oo, hdd, hcell⟩ := (HR1.out _ hB.out).pick (by omega)
          subst hdd
          have c0 := hcell j (by omega) 0 _ rfl
          simp only [Nat.mul_one, Nat.add_zero] at c0
          rw [hv] at c0
          have HT2 := Lib.hid (HT.out j hlt)
          have hs2 : (Ls.take j).flatten.length + Ls[j]!.length ≤ 1000000 := by
            have := HLE.out (j + 1)
            rw [HT.out j hlt, List.length_append] at this
            omega
          clear hcell hv
          generalize (Ls.take j).flatten = A at hO HT2 hs2
          generalize Ls[j]! = B at c0 HT2 hs2 rj hcj
          obtain ⟨ad, cp, hv⟩ := hO.out.slice
          subst hv
          have hO5 := hO.out
          have hs5 := hB.out.size
          clear hO
          go_wp2_with (at_builtin; refine wpList_append_row2 (f := fun b : Bool => Value.bool b) (fun _ => rfl) rfl _ _ 42 rfl (wr.heap.size) 4 i0 (.bool false) 1 Try.underlying42 ihi ihz ihs ihb (by decide) _ A rfl hO5.ownN _ B _ rfl hnj hcj rj (by unfold maxLen; omega) (by omega) hs5 ?_)
          intro v5 w5 O5 hb5 hg5
          have HO5 := Lib.hid O5.ownKN
          have HB5 := Lib.hid (hB.out.trans hb5)
          rw [← HT2.out] at HO5
          clear O5 hb5 hg5 hO5 hB
          go_wp2_with fail
          go_roundw
          case rel => exact ⟨j + 1, by omega, by go_num, HO5, HB5⟩
          all_goals first | done | (simp [intOf]; done) | (simp [intOf]; omega)
        · have hji : ¬ (j : Int) < (Ls.length : Int) := by omega
          have hO2 := hO.out
          rw [List.take_of_length_le (by omega)] at hO2
          have HO2 := Lib.hid hO2
          have HB2 := Lib.hid hB.out
          clear hO hB hO2
          go_wp2_with fail
          go_ret
          exact ⟨_, rfl, HO2.out, HB2.out⟩
end Go.Proofs.Ytimojbjamfckmaa
