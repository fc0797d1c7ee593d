/- The program's Roots and checkRoots: what they answer. Condition: a graph's rows have at most 4,000,000,000 elements. -/
import Derived.Test.YtcpifmhcebfglaaGpA
import Derived.Test.YtcpifmhcebfglaaGpB
import Derived.Deep.Onto
namespace Go.Proofs.Ytcpifmhcebfglaa
open Go Go.RowKit Go.Sort
set_option linter.unusedVariables false
theorem OwnK.mono {B B' : Nat} {t : TypeId} {k : Nat} {α : Type} {enc : α → List Value} {w : World} {v : Value} {l : List α} (h : OwnK B t k enc w v l) (hb : B' ≤ B) : OwnK B' t k enc w v l := World.ownsRow.mono h hb
set_option maxRecDepth 100000 in
set_option maxHeartbeats 4000000 in
theorem roots_any (g : Gr) (v : Value) (w : World) (sg : Small g) (hG : GO g v w) : Calls Try.prog 81 #[v] w fun e w' => ∃ u, e = .returned u ∧ OwnK w.heap.size 67 1 encI w' u (goalsL g) ∧ Below w.heap.size w w' := by
  have hG0 := hG
  obtain ⟨a, b, c, d0, e, a', b', c', d', e', rfl, hC, hA⟩ := hG.all
  clear hG
  have s3 := sg.regs
  have s5 := sg.outs
  go_enter Try.func81, Try.ntmps81
  go_upto_region 1 with fail
  have bel := (Below.refl w.heap.size w).alloc (Nat.le_refl _) (.cells #[.slice a g.ins.length a', .slice b g.outN.length b', .slice c g.regs.length c', .slice d0 g.ands.length d', .slice e g.outs.length e'] 31)
  have X := GX.new w (.slice a g.ins.length a') (.slice b g.outN.length b') (.slice c g.regs.length c') (.slice d0 g.ands.length d') (.slice e g.outs.length e') 31
  generalize w.alloc (.cells #[.slice a g.ins.length a', .slice b g.outN.length b', .slice c g.regs.length c', .slice d0 g.ands.length d', .slice e g.outs.length e'] 31) = W0 at bel X ⊢
  generalize hk : w.heap.size = k at X ⊢
  have HK := Lib.hid hk
  clear hk
  obtain ⟨x0, x1, x2, x3, x4⟩ := id X
  have H1 := Lib.hid (cloneI_any g.outs _ W0 sg.outs (RowOf.mk hC.outs (hA.outs.below bel)))
  go_upto_region 2 with (first | (go_at_call 152; refine H1.out.mono ?_; rintro ee w1 ⟨u, rfl, O1, hb1⟩))
  rename World => W1
  have X1 := X.below hb1
  clear x0 x1 x2 x3 x4 H1
  obtain ⟨x0, x1, x2, x3, x4⟩ := id X1
  go_upto_block 0 with fail
  clear x0 x1 x2 x3 x4 X1 X
  have HA := Lib.hid (fun W (hb : Below W0.heap.size W0 W) => hA.below (bel.trans (hb.mono bel.size)))
  obtain ⟨i0, ihi, ihz, ihs, ihb⟩ := infoCI_parts
  go_wp2_with fail
  go_loopw [3, 12] (fun u i wr => ∃ j : Nat, j ≤ g.regs.length ∧ i = .int .i64 (j : Int) ∧ Hid (OwnK W0.heap.size 67 1 encI wr u (g.outs ++ (g.regs.take j).map (·.nx))) ∧ Hid (Below W0.heap.size W0 wr)) (fun _ i _ => g.regs.length - (intOf i).toNat)
  case atStart => exact ⟨0, Nat.zero_le _, rfl, Lib.hid (by simpa using O1), Lib.hid hb1⟩
  case round =>
    clear O1
    obtain ⟨j, hj, rfl, hO, hB⟩ := hrel
    rename World => WR
    have hj0 : (0 : Int) ≤ (j : Int) := by omega
    by_cases hlt : j < g.regs.length
    · have hji : (j : Int) < (g.regs.length : Int) := by omega
      have HT := Lib.hid (show g.outs ++ (g.regs.take (j + 1)).map (·.nx) = (g.outs ++ (g.regs.take j).map (·.nx)) ++ [g.regs[j]!.nx] by rw [tk1 _ hlt, List.map_append, List.append_assoc]; rfl)
      have HL : (g.outs ++ (g.regs.take j).map (·.nx)).length ≤ 9000000000 := by simp; omega
      obtain ⟨bb, oo, hdd, hcell⟩ := (HA.out _ hB.out).regs.pick (by omega)
      subst hdd
      have c0 := hcell j hlt 0 _ rfl
      have c1 := hcell j hlt 1 _ rfl
      have c2 := hcell j hlt 2 _ rfl
      simp only [Nat.add_zero] at c0
      clear hcell
      generalize g.outs ++ (g.regs.take j).map (·.nx) = L at HT HL hO
      generalize g.regs[j]! = r at c0 c1 c2 HT
      obtain ⟨r0, r1, r2⟩ := r
      simp only at c0 c1 c2 HT
      obtain ⟨ad, cp, hv⟩ := hO.out.slice
      subst hv
      go_upto_region 5 with fail
      have bA := (Below.refl WR.heap.size WR).alloc (Nat.le_refl _) (.cells #[.string r0, .int .i64 r1, .bool r2] 128)
      have y1 : (WR.alloc (.cells #[.string r0, .int .i64 r1, .bool r2] 128)).cell? ⟨WR.heap.size, 1, none⟩ = some (.int .i64 r1) := by go_simp
      have O2 := hO.out.below bA
      have B2 := hB.out.trans (bA.mono hB.out.size)
      have hs2 := B2.size
      clear bA c0 c1 c2
      generalize WR.alloc (.cells #[.string r0, .int .i64 r1, .bool r2] 128) = WS at O2 B2 hs2 y1 ⊢
      generalize WR.heap.size = q10 at y1 ⊢
      have O4 := O2.below ((Below.refl _ WS).alloc (Nat.le_refl _) (.cells #[.int .i64 r1] 67))
      have hy : ∀ (q : Nat) (u : Value), (encI r1)[q]? = some u → (WS.alloc (.cells #[.int .i64 (r1)] 67)).cell? ⟨WS.heap.size, q, none⟩ = some u := by
        intro q u hq
        match q, hq with
        | 0, hq => cases hq; go_simp
      go_wp2_with (at_builtin; refine wpList_append_one (enc := encI) (k := 1) (fun _ => rfl) (by decide) (fun x u hu => by simp at hu; rcases hu with rfl; rfl) rfl _ _ 29 rfl (W0.heap.size) 67 i0 (.int .i64 0) 8 Try.underlying29 ihi ihz ihs ihb (by decide) _ L rfl O4 WS.heap.size 1 (r1) rfl hy (show L.length + 1 ≤ maxLen by unfold maxLen; omega) (show (L.length + 1) * 8 ≤ 140737488355328 by omega) (by first | omega | (simp; omega)) ?_)
      intro v5 w5 O5 hb5 hg5
      have HO5 := Lib.hid O5
      have HB5 := Lib.hid (B2.trans (((Below.refl _ WS).alloc hs2 _).trans hb5))
      clear O5 hb5 hg5 O4 hy hO hB y1 O2 B2
      go_wp2_with fail
      go_roundw
      case rel => exact ⟨j + 1, by omega, by go_num, (by rw [HT.out]; exact HO5), HB5⟩
      all_goals first | done | (simp [intOf]; done) | (simp [intOf]; omega)
    · have hji : ¬ (j : Int) < (g.regs.length : Int) := by omega
      have HF : Hid (OwnK w.heap.size 67 1 encI WR _ (goalsL g)) := Lib.hid (by
        have := hO.out.mono bel.size
        rw [List.take_of_length_le (by omega)] at this
        exact this)
      have HB := Lib.hid (bel.trans (hB.out.mono bel.size))
      clear hO hB
      go_wp2_with fail
      go_ret
      exact ⟨_, rfl, HF.out, HB.out⟩
theorem roots_holds : RootsC := fun g v w sg hG => (roots_any g v w sg hG).mono fun e w' ⟨u, h1, h2, h3⟩ => ⟨u, h1, h2.row lenI, h3⟩
/-- ErrRange if a literal is not that of a node -/
def rootsE (n : Int) (l : List Int) : Int := if l.any (fun x => !hasL n x) = true then 2 else 0
theorem rootsE_cons (n x : Int) (l : List Int) : rootsE n (x :: l) = if hasL n x = true then rootsE n l else 2 := by
  unfold rootsE
  cases h : hasL n x <;> simp [h]
set_option maxRecDepth 100000 in
set_option maxHeartbeats 4000000 in
theorem checkRoots_any (g : Gr) (v : Value) (l : List Int) (vl : Value) (w : World) (sg : Small g) (hn : l.length ≤ 9000000000) (hG : GO g v w) (hR : RowOf 1 encI l vl w) : Calls Try.prog 149 #[v, vl] w fun e w' => e = .returned (.int .i64 (rootsE (1 + (g.ins.length : Int) + (g.regs.length : Int) + (g.ands.length : Int)) l)) ∧ Below w.heap.size w w' := by
  have hG0 := hG
  obtain ⟨a, b, c, d0, e, a', b', c', d', e', rfl, hC, hA⟩ := hG.all
  clear hG
  obtain ⟨ad, cp, rfl, hcp, R⟩ := hR.open'
  go_enter Try.func149, Try.ntmps149
  go_upto_region 1 with fail
  have bel := (Below.refl w.heap.size w).alloc (Nat.le_refl _) (.cells #[.slice a g.ins.length a', .slice b g.outN.length b', .slice c g.regs.length c', .slice d0 g.ands.length d', .slice e g.outs.length e'] 31)
  have X := GX.new w (.slice a g.ins.length a') (.slice b g.outN.length b') (.slice c g.regs.length c') (.slice d0 g.ands.length d') (.slice e g.outs.length e') 31
  generalize w.alloc (.cells #[.slice a g.ins.length a', .slice b g.outN.length b', .slice c g.regs.length c', .slice d0 g.ands.length d', .slice e g.outs.length e'] 31) = W0 at bel X ⊢
  generalize hk : w.heap.size = k at X ⊢
  have HK := Lib.hid hk
  clear hk
  obtain ⟨x0, x1, x2, x3, x4⟩ := id X
  have H1 := Lib.hid (fun W (hb : Below w.heap.size w W) => nodes_ok g _ W sg (hG0.below hb))
  generalize hN : 1 + (g.ins.length : Int) + (g.regs.length : Int) + (g.ands.length : Int) = n at H1
  have HNN := Lib.hid hN
  clear hN
  have H2 := Lib.hid (fun x W => has_any n x W)
  have HX := Lib.hid (fun W (hb : Below W0.heap.size W0 W) => X.below hb)
  have HR := Lib.hid (fun W (hb : Below w.heap.size w W) => R.below hb)
  clear hC hA hG0 hR x0 x1 x2 x3 x4
  go_wp2_with fail
  go_loopw [9] (fun i wr => ∃ j : Nat, j ≤ l.length ∧ i = .int .i64 (j : Int) ∧ Hid (rootsE n l = rootsE n (l.drop j)) ∧ Hid (Below W0.heap.size W0 wr)) (fun i _ => l.length - (intOf i).toNat)
  case atStart => exact ⟨0, Nat.zero_le _, rfl, Lib.hid rfl, Lib.hid (Below.refl _ _)⟩
  case round =>
    obtain ⟨j, hj, rfl, hE, hB⟩ := hrel
    rename World => WR
    have hj0 : (0 : Int) ≤ (j : Int) := by omega
    have bR := bel.trans (hB.out.mono bel.size)
    by_cases hlt : j < l.length
    · have hji : (j : Int) < (l.length : Int) := by omega
      have hd : l.drop j = l[j]! :: l.drop (j + 1) := by rw [getElem!_pos l j hlt]; exact List.drop_eq_getElem_cons hlt
      have HE := Lib.hid (show rootsE n l = if hasL n l[j]! = true then rootsE n (l.drop (j + 1)) else 2 by rw [hE.out, hd, rootsE_cons])
      obtain ⟨bb, oo, hdd, hcell⟩ := (HR.out _ bR).pick (by omega)
      subst hdd
      have c0 := hcell j hlt 0 _ rfl
      simp only [Nat.mul_one, Nat.add_zero] at c0
      have H3 := Lib.hid (H2.out l[j]!)
      clear hcell hd hE
      generalize l[j]! = x at c0 HE H3
      obtain ⟨x0, x1, x2, x3, x4⟩ := HX.out _ hB.out
      have HBB := Lib.hid hB.out
      cases hh : hasL n x with
      | true =>
        rw [hh] at H3 HE
        rw [if_pos rfl] at HE
        clear hh
        go_wp2_with (first | (go_at_call 138; refine (H1.out _ bR).mono ?_; rintro ee w1 ⟨rfl, hb1⟩) | (go_at_call 148; refine (H3.out _).mono ?_; rintro ee w2 ⟨rfl, hb2⟩))
        have HB2 := Lib.hid ((HBB.out.trans (hb1.mono HBB.out.size)).trans (hb2.mono (Nat.le_trans HBB.out.size hb1.size)))
        clear hb1 hb2 x0 x1 x2 x3 x4
        first | go_roundw | (go_wp2_with fail; go_roundw)
        case rel => exact ⟨j + 1, by omega, by go_num, HE, HB2⟩
        all_goals first | done | (simp [intOf]; done) | (simp [intOf]; omega)
      | false =>
        rw [hh] at H3 HE
        rw [if_neg (by decide)] at HE
        clear hh
        go_wp2_with (first | (go_at_call 138; refine (H1.out _ bR).mono ?_; rintro ee w1 ⟨rfl, hb1⟩) | (go_at_call 148; refine (H3.out _).mono ?_; rintro ee w2 ⟨rfl, hb2⟩))
        have HB2 := Lib.hid ((bR.trans (hb1.mono bR.size)).trans (hb2.mono (Nat.le_trans bR.size hb1.size)))
        go_ret
        exact ⟨ret_num (by rw [HNN.out]; exact HE.out.symm), HB2.out⟩
    · have hji : ¬ (j : Int) < (l.length : Int) := by omega
      have HE := Lib.hid (show rootsE n l = 0 by rw [hE.out, List.drop_of_length_le (by omega)]; rfl)
      have HB2 := Lib.hid bR
      go_wp2_with fail
      go_ret
      exact ⟨ret_num (by rw [HNN.out]; exact HE.out.symm), HB2.out⟩
end Go.Proofs.Ytcpifmhcebfglaa
