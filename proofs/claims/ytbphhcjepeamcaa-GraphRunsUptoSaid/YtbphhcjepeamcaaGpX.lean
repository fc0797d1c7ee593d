/- The program's sampled: the words of the outputs and of what the registers take. Condition: the graph is valid, there is a word for each node. -/
import Derived.Test.YtbphhcjepeamcaaGpW
namespace Go.Proofs.Ytbphhcjepeamcaa
open Go Go.RowKit Go.Sort
set_option linter.unusedVariables false
theorem hy1 (W : World) (x : Value) (t : TypeId) : ∀ (q : Nat) (u : Value), [x][q]? = some u → (W.alloc (.cells #[x] t)).cell? ⟨W.heap.size, q, none⟩ = some u := by
  intro q u hq
  match q, hq with
  | 0, hq => cases hq; go_simp
def outW (g : Gr) (V : List (BitVec 64)) : List (BitVec 64) := g.outs.map (litW V)
def nxtW (g : Gr) (V : List (BitVec 64)) : List (BitVec 64) := g.regs.map (fun r => litW V r.nx)
set_option maxRecDepth 100000 in
set_option maxHeartbeats 8000000 in
theorem sampled_any (g : Gr) (v : Value) (V : List (BitVec 64)) (vv : Value) (vg : VG g) (hV : V.length = n0L g + g.ands.length) (w : World) (hG : GO g v w) (hR : RowOf 1 encW V vv w) : Calls Try.prog 86 #[v, vv] w fun e w' => ∃ vo vn, e = .returned (.tuple #[vo, vn]) ∧ OwnK w.heap.size 66 1 encW w' vo (outW g V) ∧ OwnK w.heap.size 66 1 encW w' vn (nxtW g V) ∧ Below w.heap.size w w' := by
  have hG0 := hG
  obtain ⟨a, b, c, d0, e, a', b', c', d', e', rfl, hC, hA⟩ := hG.all
  clear hG
  have n2 := vg.regs
  have n4 : g.outs.length ≤ 128 := by have := vg.same; have := vg.outN; omega
  have HVL := Lib.hid hV
  have HIN := Lib.hid (fun l (h : 0 ≤ l ∧ l < allL g) => show ndL l < V.length by
    have h2 := h.2
    rw [allL_eq] at h2
    have := ndL_lt h.1 (n := ((n0L g + g.ands.length : Nat) : Int)) (by unfold n0L; omega)
    rw [hV]; omega)
  clear hV
  go_enter Try.func86, Try.ntmps86
  go_upto_region 1 with fail
  have bel := (Below.refl w.heap.size w).alloc (Nat.le_refl _) (.cells #[.slice a g.ins.length a', .slice b g.outN.length b', .slice c g.regs.length c', .slice d0 g.ands.length d', .slice e g.outs.length e'] 28)
  have X := GX.new w (.slice a g.ins.length a') (.slice b g.outN.length b') (.slice c g.regs.length c') (.slice d0 g.ands.length d') (.slice e g.outs.length e') 28
  generalize w.alloc (.cells #[.slice a g.ins.length a', .slice b g.outN.length b', .slice c g.regs.length c', .slice d0 g.ands.length d', .slice e g.outs.length e'] 28) = W0 at bel X ⊢
  generalize hk : w.heap.size = k at X ⊢
  have HK := Lib.hid hk
  clear hk
  obtain ⟨x0, x1, x2, x3, x4⟩ := id X
  have HX := Lib.hid (fun W (hb : Below W0.heap.size W0 W) => X.below hb)
  have HA := Lib.hid (fun W (hb : Below W0.heap.size W0 W) => hA.below (bel.trans (hb.mono bel.size)))
  have HR := Lib.hid (fun W (hb : Below W0.heap.size W0 W) => hR.below (bel.trans (hb.mono bel.size)))
  have HBEL := Lib.hid bel
  have O0 : OwnK W0.heap.size 66 1 encW W0 (.slice none 0 0) [] := OwnK.nil _ _ _ _ _
  go_upto_block 0 with fail
  clear hA hG0 hC bel X x0 x1 x2 x3 x4 hR
  obtain ⟨i0, ihi, ihz, ihs, ihb⟩ := infoMU_parts
  go_wp2_with fail
  go_loopw [4, 13] (fun u i wr => ∃ j : Nat, j ≤ g.outs.length ∧ i = .int .i64 (j : Int) ∧ Hid (OwnK W0.heap.size 66 1 encW wr u ((g.outs.take j).map (litW V))) ∧ Hid (Below W0.heap.size W0 wr)) (fun _ i _ => g.outs.length - (intOf i).toNat)
  case atStart => exact ⟨0, Nat.zero_le _, rfl, Lib.hid (by simpa using O0), Lib.hid (Below.refl _ _)⟩
  case round =>
    clear O0
    obtain ⟨j, hj, rfl, hO, hB⟩ := hrel
    rename World => WR
    have hj0 : (0 : Int) ≤ (j : Int) := by omega
    by_cases hlt : j < g.outs.length
    · have hji : (j : Int) < (g.outs.length : Int) := by omega
      have HT := Lib.hid (show (g.outs.take (j + 1)).map (litW V) = (g.outs.take j).map (litW V) ++ [litW V g.outs[j]!] by rw [tk1 _ hlt, List.map_append]; rfl)
      have HL : ((g.outs.take j).map (litW V)).length ≤ 8000000000 := by simp; omega
      obtain ⟨ad, cp, hv⟩ := hO.out.slice
      subst hv
      obtain ⟨bb, oo, hdd, hcell⟩ := (HA.out _ hB.out).outs.pick (by omega)
      subst hdd
      have c0 := hcell j hlt 0 _ rfl
      simp only [Nat.mul_one, Nat.add_zero] at c0
      have hlo := vg.out _ (mem1 g.outs hlt)
      clear hcell
      generalize (g.outs.take j).map (litW V) = L at HT HL hO
      generalize g.outs[j]! = l at c0 HT hlo
      have N1 := Lib.hid (value_any V vv l hlo.1 (HIN.out l hlo) WR (HR.out _ hB.out))
      generalize litW V l = x at N1 HT
      have O1 := hO.out
      have B1 := hB.out
      have hs1 := B1.size
      clear hO hB hlo
      go_wp2_with (first | (go_at_call 109; refine N1.out.mono ?_; rintro ee w2 ⟨rfl, hb2⟩; have hs2 := Nat.le_trans hs1 hb2.size; have O4 := (O1.below hb2).below ((Below.refl _ w2).alloc (Nat.le_refl _) (.cells #[.int .u64 (U x)] 66)); have B4 := (B1.trans (hb2.mono hs1)).alloc hs2 (.cells #[.int .u64 (U x)] 66); have hy := hy1 w2 (.int .u64 (U x)) 66) | (at_builtin; refine wpList_append_one (enc := encW) (k := 1) (fun _ => rfl) (by decide) (fun x u hu => by simp at hu; rcases hu with rfl; rfl) rfl _ _ 46 rfl (W0.heap.size) 66 i0 (.int .u64 0) 8 Try.underlying46 ihi ihz ihs ihb (by decide) _ L rfl O4 w2.heap.size 1 (x) rfl hy (show L.length + 1 ≤ maxLen by unfold maxLen; omega) (show (L.length + 1) * 8 ≤ 140737488355328 by omega) (by first | omega | (simp; omega)) ?_))
      intro v5 w5 O5 hb5 hg5
      have HO5 := Lib.hid O5
      have HB5 := Lib.hid (B4.trans hb5)
      clear O5 hb5 hg5 O4 hy O1 B1 B4 hb2
      go_wp2_with fail
      go_roundw
      case rel => exact ⟨j + 1, by omega, by go_num, (by rw [HT.out]; exact HO5), HB5⟩
      all_goals first | done | (simp [intOf]; done) | (simp [intOf]; omega)
    · have hji : ¬ (j : Int) < (g.outs.length : Int) := by omega
      have O1 := hO.out
      rw [List.take_of_length_le (by omega), show g.outs.map (litW V) = outW g V from rfl] at O1
      have B1 := hB.out
      clear hO hB
      obtain ⟨x0, x1, x2, x3, x4⟩ := HX.out _ B1
      have OZ : OwnK WR.heap.size 66 1 encW WR (.slice none 0 0) [] := OwnK.nil _ _ _ _ _
      go_upto_block 2 with fail
      clear x0 x1 x2 x3 x4
      have hsr := B1.size
      have HO1 := Lib.hid O1
      have HB1 := Lib.hid B1
      clear O1 B1
      go_wp2_with fail
      go_loopw [5, 27] (fun u i wr => ∃ j : Nat, j ≤ g.regs.length ∧ i = .int .i64 (j : Int) ∧ Hid (OwnK WR.heap.size 66 1 encW wr u ((g.regs.take j).map (fun r => litW V r.nx))) ∧ Hid (Below WR.heap.size WR wr)) (fun _ i _ => g.regs.length - (intOf i).toNat)
      case atStart => exact ⟨0, Nat.zero_le _, rfl, Lib.hid (by simpa using OZ), Lib.hid (Below.refl _ _)⟩
      case round =>
        clear OZ
        obtain ⟨j2, hj2, rfl, hO, hB⟩ := hrel
        rename World => WQ
        have hj20 : (0 : Int) ≤ (j2 : Int) := by omega
        have B0 := HB1.out.trans (hB.out.mono hsr)
        by_cases hlt2 : j2 < g.regs.length
        · have hji2 : (j2 : Int) < (g.regs.length : Int) := by omega
          have HT := Lib.hid (show (g.regs.take (j2 + 1)).map (fun r => litW V r.nx) = (g.regs.take j2).map (fun r => litW V r.nx) ++ [litW V g.regs[j2]!.nx] by rw [tk1 _ hlt2, List.map_append]; rfl)
          have HL : ((g.regs.take j2).map (fun r => litW V r.nx)).length ≤ 8000000000 := by simp; omega
          obtain ⟨ad2, cp2, hv2⟩ := hO.out.slice
          subst hv2
          obtain ⟨bb2, oo2, hdd, hcell⟩ := (HA.out _ B0).regs.pick (by omega)
          subst hdd
          have c0 := hcell j2 hlt2 0 _ rfl
          have c1 := hcell j2 hlt2 1 _ rfl
          have c2 := hcell j2 hlt2 2 _ rfl
          simp only [Nat.add_zero] at c0
          have hlo := vg.next _ (mem1 g.regs hlt2)
          clear hcell
          generalize (g.regs.take j2).map (fun r => litW V r.nx) = L at HT HL hO
          generalize g.regs[j2]! = r at c0 c1 c2 HT hlo
          obtain ⟨r0, r1, r2⟩ := r
          simp only at c0 c1 c2 HT hlo
          go_upto_region 9 with fail
          have bA := (Below.refl WQ.heap.size WQ).alloc (Nat.le_refl _) (.cells #[.string r0, .int .i64 r1, .bool r2] 89)
          have y1 : (WQ.alloc (.cells #[.string r0, .int .i64 r1, .bool r2] 89)).cell? ⟨WQ.heap.size, 1, none⟩ = some (.int .i64 r1) := by go_simp
          have O1 := hO.out.below bA
          have B1 := hB.out.trans (bA.mono hB.out.size)
          clear bA c0 c1 c2 hO hB B0
          generalize WQ.alloc (.cells #[.string r0, .int .i64 r1, .bool r2] 89) = WS at O1 B1 y1 ⊢
          generalize WQ.heap.size = q10 at y1 ⊢
          have N1 := Lib.hid (value_any V vv r1 hlo.1 (HIN.out r1 hlo) WS (HR.out _ (HB1.out.trans (B1.mono hsr))))
          generalize litW V r1 = x at N1 HT
          have hs1 := B1.size
          clear hlo
          go_wp2_with (first | (go_at_call 109; refine N1.out.mono ?_; rintro ee w2 ⟨rfl, hb2⟩; have hs2 := Nat.le_trans hs1 hb2.size; have O4 := (O1.below hb2).below ((Below.refl _ w2).alloc (Nat.le_refl _) (.cells #[.int .u64 (U x)] 66)); have B4 := (B1.trans (hb2.mono hs1)).alloc hs2 (.cells #[.int .u64 (U x)] 66); have hy := hy1 w2 (.int .u64 (U x)) 66) | (at_builtin; refine wpList_append_one (enc := encW) (k := 1) (fun _ => rfl) (by decide) (fun x u hu => by simp at hu; rcases hu with rfl; rfl) rfl _ _ 46 rfl (WR.heap.size) 66 i0 (.int .u64 0) 8 Try.underlying46 ihi ihz ihs ihb (by decide) _ L rfl O4 w2.heap.size 1 (x) rfl hy (show L.length + 1 ≤ maxLen by unfold maxLen; omega) (show (L.length + 1) * 8 ≤ 140737488355328 by omega) (by first | omega | (simp; omega)) ?_))
          intro v5 w5 O5 hb5 hg5
          have HO5 := Lib.hid O5
          have HB5 := Lib.hid (B4.trans hb5)
          clear O5 hb5 hg5 O4 hy O1 B1 B4 hb2 y1
          go_wp2_with fail
          go_roundw
          case rel => exact ⟨j2 + 1, by omega, by go_num, (by rw [HT.out]; exact HO5), HB5⟩
          all_goals first | done | (simp [intOf]; done) | (simp [intOf]; omega)
        · have hji2 : ¬ (j2 : Int) < (g.regs.length : Int) := by omega
          have HN := Lib.hid hO.out
          rw [List.take_of_length_le (by omega), show g.regs.map (fun r => litW V r.nx) = nxtW g V from rfl] at HN
          have HO2 := Lib.hid ((HO1.out.below hB.out).mono HBEL.out.size)
          have HB2 := Lib.hid (HBEL.out.trans (B0.mono HBEL.out.size))
          have hwr := Nat.le_trans HBEL.out.size hsr
          clear hO hB B0
          go_wp2_with fail
          go_ret2
          exact ⟨_, _, rfl, HO2.out, HN.out.mono hwr, HB2.out⟩
end Go.Proofs.Ytbphhcjepeamcaa
