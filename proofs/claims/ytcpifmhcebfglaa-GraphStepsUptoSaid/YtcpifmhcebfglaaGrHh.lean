/- The depth of a valid graph: the reference. -/
import Derived.Test.YtcpifmhcebfglaaGrHt
namespace Go.Proofs.Ytcpifmhcebfglaa
open Go Go.RowKit Go.Sort
set_option linter.unusedVariables false
def depthL (H l : List Int) : Int := l.foldl (fun d x => max d H[ndL x]!) 0
def heightG (g : Gr) : Int := depthL (htsL g g.ands.length) (goalsL g)
theorem depth_snoc (H l : List Int) (x : Int) : depthL H (l ++ [x]) = max (depthL H l) H[ndL x]! := by unfold depthL; rw [List.foldl_append]; rfl
theorem VG.small {g : Gr} (h : VG g) (sg : Small g) : Small g := sg
theorem goal_lit {g : Gr} (h : VG g) : ∀ l ∈ goalsL g, 0 ≤ l ∧ l < allL g := by
  intro l hl
  unfold goalsL at hl
  rcases List.mem_append.1 hl with h1 | h1
  · exact h.out l h1
  · obtain ⟨r, hr, rfl⟩ := List.mem_map.1 h1; exact h.next r hr
theorem allL_eq (g : Gr) : allL g = 2 * (1 + (g.ins.length : Int) + (g.regs.length : Int) + (g.ands.length : Int)) := by
  have : allL g = 2 * (1 + (g.ins.length : Int) + (g.regs.length : Int)) + 2 * (g.ands.length : Int) := rfl
  omega
set_option maxRecDepth 100000 in
set_option maxHeartbeats 8000000 in
theorem height_any (g : Gr) (v : Value) (vg : VG g) (w : World) (hG : GO g v w) : Calls Try.prog 65 #[v] w fun e w' => e = .returned (.int .i64 (heightG g)) ∧ Below w.heap.size w w' := by
  have hG0 := hG
  obtain ⟨a, b, c, d0, e, a', b', c', d', e', rfl, hC, hA⟩ := hG.all
  clear hG
  have n1 := vg.ins
  have n2 := vg.regs
  have n3 := vg.ands
  have n4 : g.outs.length ≤ 128 := by have := vg.same; have := vg.outN; omega
  go_enter Try.func65, Try.ntmps65
  go_upto_region 1 with fail
  have bel := (Below.refl w.heap.size w).alloc (Nat.le_refl _) (.cells #[.slice a g.ins.length a', .slice b g.outN.length b', .slice c g.regs.length c', .slice d0 g.ands.length d', .slice e g.outs.length e'] 31)
  have X := GX.new w (.slice a g.ins.length a') (.slice b g.outN.length b') (.slice c g.regs.length c') (.slice d0 g.ands.length d') (.slice e g.outs.length e') 31
  generalize w.alloc (.cells #[.slice a g.ins.length a', .slice b g.outN.length b', .slice c g.regs.length c', .slice d0 g.ands.length d', .slice e g.outs.length e'] 31) = W0 at bel X ⊢
  generalize hk : w.heap.size = k at X ⊢
  have HK := Lib.hid hk
  clear hk
  obtain ⟨x0, x1, x2, x3, x4⟩ := id X
  have H1 := Lib.hid (heights_any g _ vg W0 (hG0.below bel))
  go_upto_region 2 with (first | (go_at_call 64; refine H1.out.mono ?_; rintro e w1 ⟨q, rfl, A1, hb1⟩))
  replace bel := bel.trans (hb1.mono bel.size)
  replace X := X.below hb1
  clear hb1 x0 x1 x2 x3 x4 H1
  obtain ⟨x0, x1, x2, x3, x4⟩ := id X
  rename World => W1
  have H2 := Lib.hid (goals_any g _ (by omega) (by omega) (by omega) W1 (hG0.below bel))
  go_upto_block 0 with (first | (go_at_call 139; refine H2.out.mono ?_; rintro e w2 ⟨u, rfl, O2, hb2⟩; obtain ⟨ad, cp, rfl, hcp, R2⟩ := O2.row.open'; clear O2))
  replace bel := bel.trans (hb2.mono bel.size)
  replace A1 := A1.below hb2
  clear hb2 x0 x1 x2 x3 x4 H2 X hG0 hC hA
  rename World => W2
  have HGL := Lib.hid (goal_lit vg)
  have HLN := Lib.hid (htsL_len g g.ands.length (Nat.le_refl _))
  have HGn : (goalsL g).length ≤ 1000 := by unfold goalsL; simp; omega
  have HAL := Lib.hid (allL_eq g)
  generalize hL : goalsL g = L at R2 hcp HGL HGn ⊢
  generalize hH : htsL g g.ands.length = H at A1 HLN
  have HR : Hid (heightG g = depthL H L) := Lib.hid (by unfold heightG; rw [hL, hH])
  clear hL hH
  go_wp2_with fail
  go_loopw [4, 12] (fun x i wr => ∃ j : Nat, j ≤ L.length ∧ x = .int .i64 (depthL H (L.take j)) ∧ i = .int .i64 (j : Int) ∧ Hid (Arr 3 (fun n => Value.int .i64 n) q H wr) ∧ Hid (Below w.heap.size w wr) ∧ Hid (Below W2.heap.size W2 wr)) (fun _ i _ => L.length - (intOf i).toNat)
  case atStart => exact ⟨0, Nat.zero_le _, rfl, rfl, Lib.hid A1, Lib.hid bel, Lib.hid (Below.refl _ _)⟩
  case round =>
    obtain ⟨j, hj, rfl, rfl, hA1, hB1, hB2⟩ := hrel
    rename World => WR
    have hj0 : (0 : Int) ≤ (j : Int) := by omega
    by_cases hlt : j < L.length
    · have hji : (j : Int) < (L.length : Int) := by omega
      have HN := Lib.hid (show depthL H (L.take (j + 1)) = max (depthL H (L.take j)) H[ndL L[j]!]! by rw [tk1 L hlt, depth_snoc])
      have hl := HGL.out L[j]! (mem1 L hlt)
      rw [HAL.out] at hl
      obtain ⟨bb, oo, rfl, hcell⟩ := (R2.below hB2.out).pick (by omega)
      have c0 := hcell j hlt 0 _ rfl
      simp only [Nat.mul_one, Nat.add_zero] at c0
      clear hcell
      generalize L[j]! = l at c0 HN hl
      generalize hdd : depthL H (L.take (j + 1)) = D' at HN
      have HDD := Lib.hid hdd
      clear hdd
      generalize depthL H (L.take j) = D at HN ⊢
      have hi1 : 0 ≤ l / 2 := by omega
      have hi2 : l / 2 < 1 + (g.ins.length : Int) + (g.regs.length : Int) + (g.ands.length : Int) := by omega
      have a1 : WR.cell? ⟨q, (l / 2).toNat, none⟩ = some (.int .i64 H[ndL l]!) := hA1.out.cell (j := ndL l) (by unfold ndL; have := HLN.out; omega)
      generalize H[ndL l]! = h at a1 HN
      by_cases hge : D < h
      · have HD : Hid (D' = h) := Lib.hid (by rw [HN.out]; omega)
        go_wp2_with fail
        go_roundw
        case rel => exact ⟨j + 1, by omega, by rw [HDD.out, HD.out], by go_num, hA1, hB1, hB2⟩
        case measure => first | done | (simp [intOf]; done) | (simp [intOf]; omega)
      · have HD : Hid (D' = D) := Lib.hid (by rw [HN.out]; omega)
        go_wp2_with fail
        go_roundw
        case rel => exact ⟨j + 1, by omega, by rw [HDD.out, HD.out], by go_num, hA1, hB1, hB2⟩
        case measure => first | done | (simp [intOf]; done) | (simp [intOf]; omega)
    · have hji : ¬ (j : Int) < (L.length : Int) := by omega
      have HF : Hid (depthL H (L.take j) = heightG g) := Lib.hid (by rw [List.take_of_length_le (by omega), HR.out])
      generalize depthL H (L.take j) = D at HF ⊢
      go_wp2_with fail
      go_ret
      exact ⟨ret_num HF.out, hB1.out⟩
end Go.Proofs.Ytcpifmhcebfglaa
