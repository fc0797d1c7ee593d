/- The program's follow, moved and kept: what a literal becomes. No condition but that the literal is that of a node. -/
import Derived.Test.YtbphhcjepeamcaaGpY
import Derived.Test.YtbphhcjepeamcaaGpL
namespace Go.Proofs.Ytbphhcjepeamcaa
open Go Go.RowKit Go.Sort
set_option linter.unusedVariables false
theorem hyo (W : World) (x : Value) (t : TypeId) : ∀ (q : Nat) (u : Value), [x][q]? = some u → (W.alloc (.cells #[x] t)).cell? ⟨W.heap.size, q, none⟩ = some u := by
  intro q u hq
  match q, hq with
  | 0, hq => cases hq; go_simp
def flL (T : List Int) (l : Int) : Int := if l % 2 = 1 then notL T[ndL l]! else T[ndL l]!
def flN (T : List Int) (p : Int × Int) : Int × Int := (flL T p.1, flL T p.2)
def flR (T : List Int) (r : Rg) : Rg := ⟨r.nm, flL T r.nx, r.it⟩
set_option maxRecDepth 100000 in
set_option maxHeartbeats 2000000 in
theorem follow_any (T : List Int) (v : Value) (l : Int) (h0 : 0 ≤ l) (hl : ndL l < T.length) (w : World) (hR : RowOf 1 encI T v w) : Calls Try.prog 110 #[v, .int .i64 l] w fun e w' => e = .returned (.int .i64 (flL T l)) ∧ Below w.heap.size w w' := by
  obtain ⟨ad, cp, rfl, hcp, R⟩ := hR.open'
  obtain ⟨bb, oo, hdd, hcell⟩ := R.pick (by omega)
  subst hdd
  have c0 := hcell (ndL l) hl 0 _ rfl
  simp only [Nat.mul_one, Nat.add_zero] at c0
  have hlt := World.block_lt_of_cell? w _ c0
  rw [show ndL l = (l / 2).toNat from rfl] at c0
  clear hcell R hR
  have m1 : 0 ≤ l / 2 := by omega
  have m2 : l / 2 < (T.length : Int) := by unfold ndL at hl; omega
  have N1 := Lib.hid (fun W => show Calls Try.prog 17 #[.int .i64 l] W fun e w' => e = .returned (.int .i64 (l / 2)) ∧ Below W.heap.size W w' by have := node_any l W; rwa [show nodeL l = l / 2 from if_pos h0] at this)
  have N2 := Lib.hid (fun W => inv_any l W)
  have HL : Hid (flL T l = if l % 2 = 1 then notL T[(l / 2).toNat]! else T[(l / 2).toNat]!) := Lib.hid rfl
  generalize T[(l / 2).toNat]! = b at c0 HL
  have N3 := Lib.hid (fun W => not_any b W)
  go_enter Try.func110, Try.ntmps110
  by_cases hi : l % 2 = 1
  · have hv : invL l = true := by unfold invL; rw [decide_eq_true h0, decide_eq_true hi]; rfl
    rw [hv] at N2
    rw [if_pos hi] at HL
    clear hv hi hl
    go_wp2_with (first | (go_at_call 18; refine (N2.out _).mono ?_; rintro ee w1 ⟨rfl, hb1⟩; have c1 := (hb1.cell (p := ⟨bb, oo + (l / 2).toNat, none⟩) hlt).trans c0; have hlt1 := World.block_lt_of_cell? w1 _ c1) | (go_at_call 17; refine (N1.out _).mono ?_; rintro ee w2 ⟨rfl, hb2⟩; have c2 := (hb2.cell (p := ⟨bb, oo + (l / 2).toNat, none⟩) hlt1).trans c1) | (go_at_call 19; refine (N3.out _).mono ?_; rintro ee w3 ⟨rfl, hb3⟩))
    go_ret
    exact ⟨by rw [HL.out]; rfl, (hb1.trans (hb2.mono hb1.size)).trans (hb3.mono (Nat.le_trans hb1.size hb2.size))⟩
  · have hv : invL l = false := by unfold invL; rw [decide_eq_false hi, Bool.and_false]
    rw [hv] at N2
    rw [if_neg hi] at HL
    clear hv hi hl N3
    go_wp2_with (first | (go_at_call 18; refine (N2.out _).mono ?_; rintro ee w1 ⟨rfl, hb1⟩; have c1 := (hb1.cell (p := ⟨bb, oo + (l / 2).toNat, none⟩) hlt).trans c0; have hlt1 := World.block_lt_of_cell? w1 _ c1) | (go_at_call 17; refine (N1.out _).mono ?_; rintro ee w2 ⟨rfl, hb2⟩; have c2 := (hb2.cell (p := ⟨bb, oo + (l / 2).toNat, none⟩) hlt1).trans c1))
    go_ret
    exact ⟨by rw [HL.out]; rfl, hb1.trans (hb2.mono hb1.size)⟩
set_option maxRecDepth 100000 in
set_option maxHeartbeats 2000000 in
theorem moved_any (T : List Int) (v : Value) (p : Int × Int) (h1 : 0 ≤ p.1 ∧ ndL p.1 < T.length) (h2 : 0 ≤ p.2 ∧ ndL p.2 < T.length) (w : World) (hR : RowOf 1 encI T v w) : Calls Try.prog 94 #[.agg #[.int .i64 p.1, .int .i64 p.2], v] w fun e w' => e = .returned (.agg #[.int .i64 (flN T p).1, .int .i64 (flN T p).2]) ∧ Below w.heap.size w w' := by
  obtain ⟨p1, p2⟩ := p
  simp only at h1 h2
  show Calls Try.prog 94 #[.agg #[.int .i64 p1, .int .i64 p2], v] w fun e w' => e = .returned (.agg #[.int .i64 (flL T p1), .int .i64 (flL T p2)]) ∧ Below w.heap.size w w'
  have HR := Lib.hid (fun W (hb : Below w.heap.size w W) => hR.below hb)
  go_enter Try.func94, Try.ntmps94
  go_upto_region 1 with fail
  have bel := ((Below.refl w.heap.size w).alloc (Nat.le_refl _) (.cells #[.int .i64 p1, .int .i64 p2] 110)).alloc (by simp) (.cells #[.int .i64 0, .int .i64 0] 110)
  have X := (Arr.allocV w [.int .i64 p1, .int .i64 p2] 110).below ((Below.refl _ _).alloc (Nat.le_refl _) (.cells #[.int .i64 0, .int .i64 0] 110))
  have Y : Arr 110 gV (w.heap.size + 1) [.int .i64 0, .int .i64 0] ((w.alloc (.cells #[.int .i64 p1, .int .i64 p2] 110)).alloc (.cells #[.int .i64 0, .int .i64 0] 110)) := by
    have := Arr.allocV (w.alloc (.cells #[.int .i64 p1, .int .i64 p2] 110)) [.int .i64 0, .int .i64 0] 110
    rwa [show (w.alloc (.cells #[.int .i64 p1, .int .i64 p2] 110)).heap.size = w.heap.size + 1 by simp] at this
  rw [show (w.alloc (.cells [Value.int IntKind.i64 p1, Value.int IntKind.i64 p2].toArray 110)).alloc (.cells #[.int .i64 0, .int .i64 0] 110) = (w.alloc (.cells #[.int .i64 p1, .int .i64 p2] 110)).alloc (.cells #[.int .i64 0, .int .i64 0] 110) from rfl] at X
  generalize (w.alloc (.cells #[.int .i64 p1, .int .i64 p2] 110)).alloc (.cells #[.int .i64 0, .int .i64 0] 110) = W0 at bel X Y ⊢
  have hsz := bel.size
  have C1 := Lib.hid (fun W (hb : Below w.heap.size w W) => follow_any T v p1 h1.1 h1.2 W (HR.out W hb))
  have C2 := Lib.hid (fun W (hb : Below w.heap.size w W) => follow_any T v p2 h2.1 h2.2 W (HR.out W hb))
  have HB := Lib.hid (fun d os => bel.trans ((below_regrown W0 d os).mono bel.size))
  have HBR := Lib.hid (fun d os => below_regrown W0 d os)
  have g0 := cell_regrown (X.cell (j := 0) (by simp))
  have g1 := cell_regrown (X.cell (j := 1) (by simp))
  simp only [List.getElem!_cons_zero, List.getElem!_cons_succ, gV] at g0 g1
  generalize hq1 : flL T p1 = y1 at C1
  generalize hq2 : flL T p2 = y2 at C2
  have HQ1 := Lib.hid hq1
  have HQ2 := Lib.hid hq2
  clear hq1 hq2
  refine wp_region_rel 9 (by kernel_rfl) (by kernel_rfl) ?_
  simp only [List.take_succ_cons, List.take_zero, List.drop_succ_cons, List.drop_zero]
  (refine rel_fix0 (fun K hK => ?_); go_simp; refine hK _ ?_; clear hK K)
  (refine rel_fix0 (fun K hK => ?_); go_simp; refine hK _ ?_; clear hK K)
  (refine rel_fix0 (fun K hK => ?_); go_simp; refine hK _ ?_; clear hK K)
  (refine rel_fix0 (fun K hK => ?_); go_simp; apply Exists.intro; refine ⟨fun _ _ => ?_, hK _ ?_⟩; (with_reducible exact ret_fix (C1.out _ (HB.out _ _))); clear hK K)
  (refine rel_fix0 (fun K hK => ?_); go_simp; refine hK _ ?_; clear hK K)
  (refine rel_fix0 (fun K hK => ?_); go_simp; refine hK _ ?_; clear hK K)
  (refine rel_fix0 (fun K hK => ?_); go_simp; refine hK _ ?_; clear hK K)
  (refine rel_fix0 (fun K hK => ?_); go_simp; apply Exists.intro; refine ⟨fun _ _ => ?_, hK _ ?_⟩; (with_reducible exact ret_fix (C2.out _ (HB.out _ _))); clear hK K)
  (refine rel_fix0 (fun K hK => ?_); go_simp; refine hK _ ?_; clear hK K)
  refine rel_nil ?_
  intro d os
  simp only [relAll]
  have B2 := HB.out d os
  have Y2 := Y.below (HBR.out d os)
  clear g0 g1 HB HBR C1 C2 X Y bel
  generalize grow (redrawn W0 d) os = W2 at B2 Y2 ⊢
  have f0 := Y2.free 0
  have f1 := Y2.free 1
  have z0 := Y2.cell (j := 0) (by simp)
  have z1 := Y2.cell (j := 1) (by simp)
  have HY := Lib.hid ((Y2.set 0 (.int .i64 y1)).set 1 (.int .i64 y2))
  have HBF := Lib.hid ((B2.setCell (p := ⟨w.heap.size + 1, 0, none⟩) (Nat.le_succ _) (.int .i64 y1)).setCell (p := ⟨w.heap.size + 1, 1, none⟩) (Nat.le_succ _) (.int .i64 y2))
  have hlk := Y2.lt
  clear Y2 B2
  go_wp2_with fail
  have BF := HBF.out
  have YF := HY.out
  clear HBF HY z0 z1 f0 f1
  simp only [gV] at YF
  generalize (W2.setCell ⟨w.heap.size + 1, 0, none⟩ (.int .i64 y1)).setCell ⟨w.heap.size + 1, 1, none⟩ (.int .i64 y2) = WF at BF YF ⊢
  have z0 := YF.cell (j := 0) (by simp)
  have z1 := YF.cell (j := 1) (by simp)
  simp at z0 z1
  exact bodyPost_ret (v := .agg #[.int .i64 y1, .int .i64 y2]) (by simp [results, Try.results94, go_sem, z0, z1]) rfl ⟨by rw [HQ1.out, HQ2.out], BF⟩
def keptL (n : Nat) : List Int := (List.range n).map fun i : Nat => 2 * (i : Int)
theorem keptL_succ (n : Nat) : keptL (n + 1) = keptL n ++ [2 * (n : Int)] := by unfold keptL; rw [List.range_succ, List.map_append]; rfl
set_option maxRecDepth 100000 in
set_option maxHeartbeats 2000000 in
theorem kept_any (n : Nat) (hn : n ≤ 100000) (w : World) : Calls Try.prog 93 #[.int .i64 (n : Int)] w fun e w' => ∃ u, e = .returned u ∧ OwnK w.heap.size 22 1 encI w' u (keptL n) ∧ Below w.heap.size w w' := by
  have O0 : OwnK w.heap.size 22 1 encI w (.slice none 0 0) [] := OwnK.nil _ _ _ _ _
  obtain ⟨i0, ihi, ihz, ihs, ihb⟩ := infoCI_parts
  go_enter Try.func93, Try.ntmps93
  go_upto_block 0 with fail
  go_wp2_with fail
  go_loopw [3, 6] (fun u i wr => ∃ j : Nat, j ≤ n ∧ i = .int .i64 (j : Int) ∧ Hid (OwnK w.heap.size 22 1 encI wr u (keptL j)) ∧ Hid (Below w.heap.size w wr)) (fun _ i _ => n - (intOf i).toNat)
  case atStart => exact ⟨0, Nat.zero_le _, rfl, Lib.hid O0, Lib.hid (Below.refl _ _)⟩
  case round =>
    clear O0
    obtain ⟨j, hj, rfl, hO, hB⟩ := hrel
    rename World => WR
    have hj0 : (0 : Int) ≤ (j : Int) := by omega
    by_cases hlt : j < n
    · have hji : (j : Int) < (n : Int) := by omega
      have HT := Lib.hid (keptL_succ j)
      have HL : (keptL j).length ≤ 8000000000 := by simp [keptL]; omega
      obtain ⟨ad, cp, hv⟩ := hO.out.slice
      subst hv
      generalize keptL j = L at HT HL hO
      have N1 := Lib.hid (literal_ok (j : Int) WR (by omega))
      have O1 := hO.out
      have B1 := hB.out
      have hs1 := B1.size
      clear hO hB
      go_wp2_with (first | (go_at_call 71; refine N1.out.mono ?_; rintro ee w2 ⟨rfl, hb2⟩; have hs2 := Nat.le_trans hs1 hb2.size; have O4 := (O1.below hb2).below ((Below.refl _ w2).alloc (Nat.le_refl _) (.cells #[.int .i64 (2 * (j : Int))] 22)); have B4 := (B1.trans (hb2.mono hs1)).alloc hs2 (.cells #[.int .i64 (2 * (j : Int))] 22); have hy := hyo w2 (.int .i64 (2 * (j : Int))) 22) | (at_builtin; refine wpList_append_one (enc := encI) (k := 1) (fun _ => rfl) (by decide) (fun x u hu => by simp at hu; rcases hu with rfl; rfl) rfl _ _ 26 rfl (w.heap.size) 22 i0 (.int .i64 0) 8 Try.underlying26 ihi ihz ihs ihb (by decide) _ L rfl O4 w2.heap.size 1 (2 * (j : Int)) rfl hy (show L.length + 1 ≤ maxLen by unfold maxLen; omega) (show (L.length + 1) * 8 ≤ 140737488355328 by omega) (by first | omega | (simp; omega)) ?_))
      intro v5 w5 O5 hb5 hg5
      have HO5 := Lib.hid O5
      have HB5 := Lib.hid (B4.trans hb5)
      clear O5 hb5 hg5 O4 hy O1 B1 B4 hb2
      go_wp2_with fail
      go_roundw
      case rel => exact ⟨j + 1, by omega, by go_num, (by rw [HT.out]; exact HO5), HB5⟩
      all_goals first | done | (simp [intOf]; done) | (simp [intOf]; omega)
    · have hji : ¬ (j : Int) < (n : Int) := by omega
      have HO := Lib.hid hO.out
      rw [show j = n by omega] at HO
      have HB := Lib.hid hB.out
      clear hO hB
      go_wp2_with fail
      go_ret
      exact ⟨_, rfl, HO.out, HB.out⟩
end Go.Proofs.Ytbphhcjepeamcaa
