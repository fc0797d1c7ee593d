/- The nodes that roots need: the reference's Below. -/
import Derived.Test.YtbphhcjepeamcaaGrBe
import Derived.Test.YtbphhcjepeamcaaGrHt
import Derived.Laws.EntriesVeiled
namespace Go.Proofs.Ytbphhcjepeamcaa
open Go Go.RowKit Go.Sort
set_option linter.unusedVariables false
def belowL (g : Gr) (M : List Bool) (l : Int) : List Bool := markL g (n0L g + g.ands.length) M l
def belowG (g : Gr) (rs : List Int) : List Bool := rs.foldl (belowL g) (List.replicate (n0L g + g.ands.length) false)
theorem belowL_len (g : Gr) (M : List Bool) (l : Int) : (belowL g M l).length = M.length := markL_len g _ M l
theorem belows_len (g : Gr) : ∀ (rs : List Int) (M : List Bool), (rs.foldl (belowL g) M).length = M.length
  | [], M => rfl
  | r :: rs, M => by rw [List.foldl_cons, belows_len g rs, belowL_len]
theorem infoBo : (Try.prog.info? 4).map (fun i => (i.zero, i.size, i.bytes)) = some (some (.bool false), 1, 1) := by kernel_rfl
theorem infoBo_parts : ∃ i, Try.prog.info? 4 = some i ∧ i.zero = some (.bool false) ∧ i.size = 1 ∧ i.bytes = 1 := by
  have h := infoBo
  cases hi : Try.prog.info? 4 with
  | none => rw [hi] at h; cases h
  | some i =>
    rw [hi] at h
    simp only [Option.map_some, Option.some.injEq, Prod.mk.injEq] at h
    exact ⟨i, rfl, h.1, h.2.1, h.2.2⟩
set_option maxRecDepth 100000 in
set_option maxHeartbeats 16000000 in
theorem below_any (g : Gr) (v r : Value) (rs : List Int) (vg : VG g) (hrn : rs.length ≤ 4000000000) (hrs : ∀ l ∈ rs, 0 ≤ l ∧ l < allL g) (w : World) (hG : GO g v w) (hr : RowOf 1 encI rs r w) : Calls Try.prog 60 #[v, r] w fun e w' => ∃ q, e = .returned (.slice (some ⟨q, 0, none⟩) (n0L g + g.ands.length) (n0L g + g.ands.length)) ∧ Arr 4 (fun b => Value.bool b) q (belowG g rs) w' ∧ Below w.heap.size w w' := by
  obtain ⟨a, b, c, d0, e, a', b', c', d', e', rfl, hC, hA⟩ := hG.all
  clear hG
  obtain ⟨ad1, c1, rfl, k1, r1⟩ := hr.open'
  clear hr
  have n1 := vg.ins
  have n2 := vg.regs
  have n3 := vg.ands
  go_enter Try.func60, Try.ntmps60
  go_upto_region 1 with fail
  have bel := (Below.refl w.heap.size w).alloc (Nat.le_refl _) (.cells #[.slice a g.ins.length a', .slice b g.outN.length b', .slice c g.regs.length c', .slice d0 g.ands.length d', .slice e g.outs.length e'] 28)
  have X := GX.new w (.slice a g.ins.length a') (.slice b g.outN.length b') (.slice c g.regs.length c') (.slice d0 g.ands.length d') (.slice e g.outs.length e') 28
  have hsz : w.heap.size + 1 ≤ (w.alloc (.cells #[.slice a g.ins.length a', .slice b g.outN.length b', .slice c g.regs.length c', .slice d0 g.ands.length d', .slice e g.outs.length e'] 28)).heap.size := by simp
  generalize w.alloc (.cells #[.slice a g.ins.length a', .slice b g.outN.length b', .slice c g.regs.length c', .slice d0 g.ands.length d', .slice e g.outs.length e'] 28) = W0 at bel X hsz ⊢
  generalize hk : w.heap.size = k at X ⊢
  have HK := Lib.hid hk
  clear hk
  obtain ⟨x0, x1, x2, x3, x4⟩ := id X
  have hkw := X.lt
  go_upto_region 2 with fail
  have bn : (W0.alloc (.cells #[.int .i64 (1 + (g.ins.length : Int) + (g.regs.length : Int))] 3)).cell? ⟨W0.heap.size, 0, none⟩ = some (.int .i64 (1 + (g.ins.length : Int) + (g.regs.length : Int))) := by go_simp
  replace X := X.below ((Below.refl _ W0).alloc (Nat.le_refl _) (.cells #[.int .i64 (1 + (g.ins.length : Int) + (g.regs.length : Int))] 3))
  replace bel := bel.alloc bel.size (.cells #[.int .i64 (1 + (g.ins.length : Int) + (g.regs.length : Int))] 3)
  have hs5 : W0.heap.size < (W0.alloc (.cells #[.int .i64 (1 + (g.ins.length : Int) + (g.regs.length : Int))] 3)).heap.size := by simp
  clear x0 x1 x2 x3 x4
  generalize W0.alloc (.cells #[.int .i64 (1 + (g.ins.length : Int) + (g.regs.length : Int))] 3) = W1 at X bel bn hs5 ⊢
  generalize W0.heap.size = t5 at hsz hkw bn hs5 ⊢
  obtain ⟨x0, x1, x2, x3, x4⟩ := id X
  obtain ⟨i0, hi0, hz0, hsz0, hby0⟩ := infoBo_parts
  have hmk : (Instr.makeSlice 53 (.int .i64 (1 + (g.ins.length : Int) + (g.regs.length : Int) + (g.ands.length : Int))) (.int .i64 (1 + (g.ins.length : Int) + (g.regs.length : Int) + (g.ands.length : Int)))).run Try.prog W1 = .ok (.slice (some ⟨W1.heap.size, 0, none⟩) (n0L g + g.ands.length) (n0L g + g.ands.length)) (W1.alloc (.cells (madeCells #[.bool false] (n0L g + g.ands.length)) 4)) := by
    have e1 : (1 + (g.ins.length : Int) + (g.regs.length : Int) + (g.ands.length : Int)) = ((n0L g + g.ands.length : Nat) : Int) := by unfold n0L; omega
    have hN : n0L g + g.ands.length ≤ 5000 := by unfold n0L; omega
    rw [e1]
    generalize n0L g + g.ands.length = N at *
    have := run_makeSlice (P := Try.prog) W1 53 4 i0 _ Try.underlying53 hi0 hz0 .i64 .i64 (N : Int) (N : Int) (by omega) (by omega) (by rw [hsz0]; omega) (by rw [hby0]; omega) (by omega)
    rw [hsz0, show (Value.bool false).cells = #[.bool false] from by kernel_rfl] at this
    simpa using this
  clear hi0 hz0 hsz0 hby0
  go_upto_region 3 with fail
  have A0 : Arr 4 (fun b => Value.bool b) W1.heap.size (List.replicate (n0L g + g.ands.length) false) (W1.alloc (.cells (madeCells #[.bool false] (n0L g + g.ands.length)) 4)) := Arr.made W1 _ false _
  replace X := X.below ((Below.refl _ W1).alloc (Nat.le_refl _) (.cells (madeCells #[.bool false] (n0L g + g.ands.length)) 4))
  replace bel := bel.alloc bel.size (.cells (madeCells #[.bool false] (n0L g + g.ands.length)) 4)
  replace bn := (((Below.refl _ W1).alloc (Nat.le_refl _) (.cells (madeCells #[.bool false] (n0L g + g.ands.length)) 4)).cell (p := ⟨t5, 0, none⟩) (World.block_lt_of_cell? W1 _ bn)).trans bn
  have hkq : k ≠ W1.heap.size := by have := HK.out; omega
  have htq : t5 ≠ W1.heap.size := by omega
  have hwq : w.heap.size ≤ W1.heap.size := by have := HK.out; omega
  have hs6 : (W1.alloc (.cells (madeCells #[.bool false] (n0L g + g.ands.length)) 4)).heap.size = W1.heap.size + 1 := by simp
  clear x0 x1 x2 x3 x4 hmk
  generalize W1.alloc (.cells (madeCells #[.bool false] (n0L g + g.ands.length)) 4) = W2 at A0 X bel bn hs6 ⊢
  generalize W1.heap.size = q at A0 hkq htq hwq hs5 hs6 ⊢
  have bo : (W2.alloc (.cells #[.slice (some ⟨q, 0, none⟩) (n0L g + g.ands.length) (n0L g + g.ands.length)] 53)).cell? ⟨q + 1, 0, none⟩ = some (.slice (some ⟨q, 0, none⟩) (n0L g + g.ands.length) (n0L g + g.ands.length)) := by rw [← hs6]; go_simp
  replace X := X.below ((Below.refl _ W2).alloc (Nat.le_refl _) (.cells #[.slice (some ⟨q, 0, none⟩) (n0L g + g.ands.length) (n0L g + g.ands.length)] 53))
  replace bel := bel.alloc bel.size (.cells #[.slice (some ⟨q, 0, none⟩) (n0L g + g.ands.length) (n0L g + g.ands.length)] 53)
  replace bn := (((Below.refl _ W2).alloc (Nat.le_refl _) (.cells #[.slice (some ⟨q, 0, none⟩) (n0L g + g.ands.length) (n0L g + g.ands.length)] 53)).cell (p := ⟨t5, 0, none⟩) (World.block_lt_of_cell? W2 _ bn)).trans bn
  replace A0 := A0.below ((Below.refl _ W2).alloc (Nat.le_refl _) (.cells #[.slice (some ⟨q, 0, none⟩) (n0L g + g.ands.length) (n0L g + g.ands.length)] 53))
  have hs7 : (W2.alloc (.cells #[.slice (some ⟨q, 0, none⟩) (n0L g + g.ands.length) (n0L g + g.ands.length)] 53)).heap.size = q + 2 := by simp [hs6]
  generalize W2.alloc (.cells #[.slice (some ⟨q, 0, none⟩) (n0L g + g.ands.length) (n0L g + g.ands.length)] 53) = W3 at A0 X bel bn bo hs7 ⊢
  have HS7 := Lib.hid hs7
  clear hs6 hs7
  go_upto_region 4 with fail
  have b3 : Below W3.heap.size W3 (W3.alloc (.cells #[.nilFunc] 128)) := (Below.refl _ W3).alloc (Nat.le_refl _) _
  have z0 : (W3.alloc (.cells #[.nilFunc] 128)).cell? ⟨W3.heap.size, 0, none⟩ = some .nilFunc := by go_simp
  have z1 : (W3.alloc (.cells #[.nilFunc] 128)).frozen? ⟨W3.heap.size, 0, none⟩ = false := by go_simp
  generalize W3.alloc (.cells #[.nilFunc] 128) = W4 at b3 z0 z1 ⊢
  generalize ht7 : W3.heap.size = t7 at b3 z0 z1 HS7 ⊢
  have HT7 := Lib.hid ht7
  clear ht7
  go_upto_region 5 with fail
  have b4 : Below t7 W3 (W4.setCell ⟨t7, 0, none⟩ (fnB k t5 (q + 1) t7)) := b3.setCell (p := ⟨t7, 0, none⟩) (Nat.le_refl _) _
  have bf : (W4.setCell ⟨t7, 0, none⟩ (fnB k t5 (q + 1) t7)).cell? ⟨t7, 0, none⟩ = some (fnB k t5 (q + 1) t7) := (by first | exact World.cell?_setCell_same z0 | exact World.cell?_setCell_same _ z0 | exact World.cell?_setCell_same _ _ z0 | exact World.cell?_setCell_same _ _ _ z0)
  rw [← HT7.out] at b4
  have B0 : BM g k t5 (q + 1) t7 q (.slice a g.ins.length a') (.slice b g.outN.length b') (.slice c g.regs.length c') (.slice d0 g.ands.length d') (.slice e g.outs.length e') w (List.replicate (n0L g + g.ands.length) false) (W4.setCell ⟨t7, 0, none⟩ (fnB k t5 (q + 1) t7)) := by
    rw [HT7.out] at b4
    have b5 : Below W3.heap.size W3 (W4.setCell ⟨t7, 0, none⟩ (fnB k t5 (q + 1) t7)) := by rw [HT7.out]; exact b4
    exact ⟨X.below b5, (b5.cell (p := ⟨t5, 0, none⟩) (World.block_lt_of_cell? W3 _ bn)).trans bn, (b5.cell (p := ⟨q + 1, 0, none⟩) (World.block_lt_of_cell? W3 _ bo)).trans bo, bf, A0.below b5, bel.trans (b5.mono bel.size)⟩
  have hBA : BA k t5 (q + 1) t7 q w := ⟨hkq, htq, by omega, by have := HS7.out; omega, hwq⟩
  clear X bn bo A0 bel b3 b4 bf z0 z1
  generalize W4.setCell ⟨t7, 0, none⟩ (fnB k t5 (q + 1) t7) = W5 at B0 ⊢
  generalize Value.slice a g.ins.length a' = va at B0
  generalize Value.slice b g.outN.length b' = vb at B0
  generalize Value.slice c g.regs.length c' = vc at B0
  generalize Value.slice e g.outs.length e' = ve at B0
  have hd' : g.ands.length ≤ d' := hC.ands
  clear hkq htq hwq hs5 hkw hC
  go_upto_block 0 with fail
  go_wp2_with fail
  go_loopw [27] (fun i wr => ∃ j : Nat, j ≤ rs.length ∧ i = .int .i64 (j : Int) ∧ Hid (BM g k t5 (q + 1) t7 q va vb vc (.slice d0 g.ands.length d') ve w ((rs.take j).foldl (belowL g) (List.replicate (n0L g + g.ands.length) false)) wr)) (fun i _ => rs.length - (intOf i).toNat)
  case atStart => exact ⟨0, Nat.zero_le _, rfl, Lib.hid B0⟩
  case round =>
    clear B0
    obtain ⟨j, hj, rfl, hB⟩ := hrel
    rename World => WR
    have hj0 : (0 : Int) ≤ (j : Int) := by omega
    have hML := Lib.hid (show ((rs.take j).foldl (belowL g) (List.replicate (n0L g + g.ands.length) false)).length = n0L g + g.ands.length by rw [belows_len]; simp)
    by_cases hlt : j < rs.length
    · have hji : (j : Int) < (rs.length : Int) := by omega
      have HT := Lib.hid (show (rs.take (j + 1)).foldl (belowL g) (List.replicate (n0L g + g.ands.length) false) = belowL g ((rs.take j).foldl (belowL g) (List.replicate (n0L g + g.ands.length) false)) rs[j]! by rw [tk1 rs hlt, List.foldl_append]; rfl)
      have hx := hrs rs[j]! (by rw [getElem!_pos rs j hlt]; exact List.getElem_mem hlt)
      have hxl : ndL rs[j]! < n0L g + g.ands.length := by
        have hal : allL g = 2 * (1 + (g.ins.length : Int) + (g.regs.length : Int) + (g.ands.length : Int)) := by unfold allL baseL; omega
        unfold ndL n0L; omega
      generalize (rs.take j).foldl (belowL g) (List.replicate (n0L g + g.ands.length) false) = M at hB hML HT
      have HC := Lib.hid (fun W (hW : BM g k t5 (q + 1) t7 q va vb vc (.slice d0 g.ands.length d') ve w M W) => mark_any g vg k t5 (q + 1) t7 q va vb vc ve d0 d' hd' w hA.ands hBA (n0L g + g.ands.length) rs[j]! M W hxl hx.1 hxl hML.out hW)
      obtain ⟨bx, bn, bo, bf, ba, bb⟩ := id hB.out
      obtain ⟨bk, ok, rfl, hcell⟩ := (r1.below bb).pick (by omega)
      have c0 := hcell j hlt 0 _ rfl
      simp only [Nat.mul_one, Nat.add_zero] at c0
      clear hcell hx hxl
      generalize rs[j]! = x at c0 HC HT
      go_wp2_with (go_at_call 90; refine (HC.out _ hB.out).mono ?_; rintro e w4 ⟨rfl, hB4⟩)
      go_roundw
      case rel => exact ⟨j + 1, by omega, by go_num, Lib.hid (by rw [HT.out]; exact hB4)⟩
      all_goals first | done | (simp [intOf]; done) | (simp [intOf]; omega)
    · have hji : ¬ (j : Int) < (rs.length : Int) := by omega
      have HT := Lib.hid (show (rs.take j).foldl (belowL g) (List.replicate (n0L g + g.ands.length) false) = belowG g rs by rw [List.take_of_length_le (by omega)]; rfl)
      obtain ⟨bx, bn, bo, bf, ba, bb⟩ := id hB.out
      go_wp2_with fail
      go_ret
      exact ⟨q, rfl, by rw [← HT.out]; exact hB.out.a, hB.out.bel⟩
end Go.Proofs.Ytbphhcjepeamcaa
