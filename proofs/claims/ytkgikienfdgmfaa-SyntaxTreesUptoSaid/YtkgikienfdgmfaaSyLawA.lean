/- Trees: the law, for trees in memory. -/
import Derived.Test.YtkgikienfdgmfaaSyLaw
import Derived.RegionTactic
import Derived.Laws.EntriesVeiled
namespace Go.Proofs.Ytkgikienfdgmfaa
open Go Go.RowKit
set_option linter.unusedVariables false
set_option maxRecDepth 100000 in
set_option maxHeartbeats 8000000 in
theorem trees_any (A B : Nd) (stop : Int) (w : World) (hcA : A.cnt ≤ 1048576) (hcB : B.cnt ≤ 1048576) (hA : Nin w A) (hB : Nin w B) :
    Calls Try.prog 3 #[A.val, B.val, .int .i64 stop] w fun e w' => e = .returned (.bool true) ∧ Below w.heap.size w w' := by
  have cWA := fun w1 (hb : Below w.heap.size w w1) => weigh_any A.dep A (Nat.le_refl _) (by omega) w1 (hA.keep hb)
  have cWB := fun w1 (hb : Below w.heap.size w w1) => weigh_any B.dep B (Nat.le_refl _) (by omega) w1 (hB.keep hb)
  have cM := fun w1 (hb : Below w.heap.size w w1) => measure_any A.dep A (Nat.le_refl _) (by omega) w1 (hA.keep hb)
  have cT := fun w1 (hb : Below w.heap.size w w1) => tree_any A B (by omega) w1 (hA.keep hb) (hB.keep hb)
  have cS := fun w1 (hb : Below w.heap.size w w1) => same_any A B (by omega) w1 (hA.keep hb) (hB.keep hb)
  have cSA := fun w1 (hb : Below w.heap.size w w1) => same_any A A (by omega) w1 (hA.keep hb) (hA.keep hb)
  have cF := fun a b w1 (hb : Below w.heap.size w w1) => sameFile_any A B a b w1 (by omega) (hA.keep hb) (hB.keep hb)
  have cL := fun (B1 p q r : Nat) h1 h2 h3 h4 => list_any w B1 p q r stop h1 h2 h3 h4 A.dep A (Nat.le_refl _) hA
  have cK := fun (B1 p q : Nat) h1 h2 => walk_any w B1 p q stop h1 h2 A.dep A (Nat.le_refl _) hA
  have hvl := vis_len stop A
  have hvp : 1 ≤ (vis stop A).length := by obtain ⟨k, ln, c, nm, tx, n, vv, x, s, a, cap, ks⟩ := A; unfold vis; simp
  rw [same_self] at cSA
  obtain ⟨W1, hW1⟩ : ∃ W, W = ((w.alloc (.cells A.cells 27)).alloc (.cells B.cells 27)).alloc (.cells #[.int .i64 stop] 3) := ⟨_, rfl⟩
  have Z : LZ w W1 A B stop := by
    obtain ⟨k, ln, c, nm, tx, n, vv, x, s, a, cap, ks⟩ := A
    obtain ⟨k', ln', c', nm', tx', n', vv', x', s', a', cap', ks'⟩ := B
    rw [hW1]
    simp only [Nd.cells]
    exact ⟨(((Below.refl _ _).alloc (Nat.le_refl _) _).alloc (by simp <;> omega) _).alloc (by simp <;> omega) _, ⟨by go_simp, by go_simp, by go_simp, by go_simp, by go_simp, by go_simp, by go_simp, by go_simp, by go_simp, by go_simp⟩, ⟨by go_simp, by go_simp, by go_simp, by go_simp, by go_simp, by go_simp, by go_simp, by go_simp, by go_simp, by go_simp⟩, by go_simp, by simp <;> omega, by simp <;> omega, by simp <;> omega⟩
  generalize hVA : vis stop A = VA at *
  generalize hSV : same A B = SV at *
  generalize A.cnt = ca at *
  generalize A.dep = da at *
  generalize B.cnt = cb at *
  generalize B.dep = db at *
  obtain ⟨k, ln, c, nm, tx, n, vv, x, s, a, cap, ks⟩ := A
  obtain ⟨k', ln', c', nm', tx', n', vv', x', s', a', cap', ks'⟩ := B
  simp only [Nd.cells] at hW1
  simp only [Nd.val] at *
  clear hVA hSV hA hB
  have HWA := Lib.hid cWA
  have HWB := Lib.hid cWB
  have HM := Lib.hid cM
  have HT := Lib.hid cT
  have HS := Lib.hid cS
  have HSA := Lib.hid cSA
  have HF := Lib.hid cF
  have HL := Lib.hid cL
  have HK := Lib.hid cK
  clear cWA cWB cM cT cS cSA cF cL cK
  go_enter Try.func3, Try.ntmps3
  go_upto_region 1 with fail
  rw [← hW1]
  clear hW1
  obtain ⟨bel, ⟨a0, a1, a2, a3, a4, a5, a6, a7, a8, a9⟩, ⟨b0, b1, b2, b3, b4, b5, b6, b7, b8, b9⟩, cs, l0, l1, l2⟩ := id Z
  go_upto_region 2 with (go_at_call 4; refine (HWA.out _ bel).mono ?_; rintro e w4 ⟨rfl, hb4⟩; replace Z := Z.next hb4; clear bel a0 a1 a2 a3 a4 a5 a6 a7 a8 a9 b0 b1 b2 b3 b4 b5 b6 b7 b8 b9 cs l0 l1 l2 hb4; obtain ⟨bel, ⟨a0, a1, a2, a3, a4, a5, a6, a7, a8, a9⟩, ⟨b0, b1, b2, b3, b4, b5, b6, b7, b8, b9⟩, cs, l0, l1, l2⟩ := id Z)
  go_upto_region 3 with (go_at_call 4; refine (HWB.out _ bel).mono ?_; rintro e w4 ⟨rfl, hb4⟩; replace Z := Z.next hb4; clear bel a0 a1 a2 a3 a4 a5 a6 a7 a8 a9 b0 b1 b2 b3 b4 b5 b6 b7 b8 b9 cs l0 l1 l2 hb4; obtain ⟨bel, ⟨a0, a1, a2, a3, a4, a5, a6, a7, a8, a9⟩, ⟨b0, b1, b2, b3, b4, b5, b6, b7, b8, b9⟩, cs, l0, l1, l2⟩ := id Z)
  by_cases h1 : ca ≤ 5000
  · by_cases h2 : cb ≤ 5000
    · have h1' : ¬ (5000 : Int) < (ca : Int) := by omega
      have h2' : ¬ (5000 : Int) < (cb : Int) := by omega
      go_upto_region 5 with (go_at_call 5; refine (treed_ok _).mono ?_; rintro e w4 ⟨rfl, hb4⟩; replace Z := Z.next hb4; clear bel a0 a1 a2 a3 a4 a5 a6 a7 a8 a9 b0 b1 b2 b3 b4 b5 b6 b7 b8 b9 cs l0 l1 l2 hb4; obtain ⟨bel, ⟨a0, a1, a2, a3, a4, a5, a6, a7, a8, a9⟩, ⟨b0, b1, b2, b3, b4, b5, b6, b7, b8, b9⟩, cs, l0, l1, l2⟩ := id Z)
      go_upto_region 7 with (first | (go_at_call 6; refine (HM.out _ bel).mono ?_; rintro e w4 ⟨rfl, hb4⟩; replace Z := Z.next hb4; clear bel a0 a1 a2 a3 a4 a5 a6 a7 a8 a9 b0 b1 b2 b3 b4 b5 b6 b7 b8 b9 cs l0 l1 l2 hb4; obtain ⟨bel, ⟨a0, a1, a2, a3, a4, a5, a6, a7, a8, a9⟩, ⟨b0, b1, b2, b3, b4, b5, b6, b7, b8, b9⟩, cs, l0, l1, l2⟩ := id Z) | (go_at_call 7; refine (HT.out _ bel).mono ?_; rintro e w4 ⟨rfl, hb4⟩; replace Z := Z.next hb4; clear bel a0 a1 a2 a3 a4 a5 a6 a7 a8 a9 b0 b1 b2 b3 b4 b5 b6 b7 b8 b9 cs l0 l1 l2 hb4; obtain ⟨bel, ⟨a0, a1, a2, a3, a4, a5, a6, a7, a8, a9⟩, ⟨b0, b1, b2, b3, b4, b5, b6, b7, b8, b9⟩, cs, l0, l1, l2⟩ := id Z))
      clear h1' h2' HWA HWB HM HT
      cases SV
      all_goals
        go_wp2_with (go_at_call 8; refine (HS.out _ bel).mono ?_; rintro e w4 ⟨rfl, hb4⟩; replace Z := Z.next hb4; clear bel a0 a1 a2 a3 a4 a5 a6 a7 a8 a9 b0 b1 b2 b3 b4 b5 b6 b7 b8 b9 cs l0 l1 l2 hb4; obtain ⟨bel, ⟨a0, a1, a2, a3, a4, a5, a6, a7, a8, a9⟩, ⟨b0, b1, b2, b3, b4, b5, b6, b7, b8, b9⟩, cs, l0, l1, l2⟩ := id Z)
        go_at_call 9
        obtain ⟨n1, n2, n3⟩ := two_nc w4 k ln c nm tx n vv x s a ks.length cap k' ln' c' nm' tx' n' vv' x' s' a' ks'.length cap'
        refine (HF.out _ _ _ (bel.trans (n3.mono bel.size)) n1 n2).mono ?_
        rintro e w4 ⟨rfl, hb4⟩
        replace Z := (Z.next n3).next hb4
        clear n1 n2 n3 bel a0 a1 a2 a3 a4 a5 a6 a7 a8 a9 b0 b1 b2 b3 b4 b5 b6 b7 b8 b9 cs l0 l1 l2 hb4
        obtain ⟨bel, ⟨a0, a1, a2, a3, a4, a5, a6, a7, a8, a9⟩, ⟨b0, b1, b2, b3, b4, b5, b6, b7, b8, b9⟩, cs, l0, l1, l2⟩ := id Z
        clear HS HF
        go_upto_region 9 with (go_at_call 8; refine (HSA.out _ bel).mono ?_; rintro e w4 ⟨rfl, hb4⟩; replace Z := Z.next hb4; clear bel a0 a1 a2 a3 a4 a5 a6 a7 a8 a9 b0 b1 b2 b3 b4 b5 b6 b7 b8 b9 cs l0 l1 l2 hb4; obtain ⟨bel, ⟨a0, a1, a2, a3, a4, a5, a6, a7, a8, a9⟩, ⟨b0, b1, b2, b3, b4, b5, b6, b7, b8, b9⟩, cs, l0, l1, l2⟩ := id Z)
        clear HSA b0 b1 b2 b3 b4 b5 b6 b7 b8 b9 h1 h2
        go_upto_region 12 with fail
        obtain ⟨W5, hW5, e1, G5, e2, e3, e4, e5⟩ := setup cs l2
        unfold listF at hW5
        rw [← hW5]
        clear hW5
        have bel5 : Below w.heap.size w W5 := bel.trans (e1.mono bel.size)
        have f0 := (e1.cell (p := ⟨w.heap.size, 0, none⟩) l0).trans a0
        have f1 := (e1.cell (p := ⟨w.heap.size, 0 + 1, none⟩) l0).trans a1
        have f2 := (e1.cell (p := ⟨w.heap.size, 0 + 2, none⟩) l0).trans a2
        have f3 := (e1.cell (p := ⟨w.heap.size, 0 + 3, none⟩) l0).trans a3
        have f4 := (e1.cell (p := ⟨w.heap.size, 0 + 4, none⟩) l0).trans a4
        have f5 := (e1.cell (p := ⟨w.heap.size, 0 + 5, none⟩) l0).trans a5
        have f6 := (e1.cell (p := ⟨w.heap.size, 0 + 6, none⟩) l0).trans a6
        have f7 := (e1.cell (p := ⟨w.heap.size, 0 + 7, none⟩) l0).trans a7
        have f8 := (e1.cell (p := ⟨w.heap.size, 0 + 8, none⟩) l0).trans a8
        have f9 := (e1.cell (p := ⟨w.heap.size, 0 + 9, none⟩) l0).trans a9
        have HL5 := Lib.hid (HL.out W5.heap.size w4.heap.size (w.heap.size + 1 + 1) (w4.heap.size + 1 + 1) bel5.size bel.size (by omega) (by omega) _ _ W5 bel5 G5 e4 (by simp; omega))
        have HG5 := Lib.hid G5
        unfold listF at e4
        clear a0 a1 a2 a3 a4 a5 a6 a7 a8 a9 cs HL Z G5 e1
        obtain ⟨P, hP⟩ : ∃ P, w4.heap.size = P := ⟨_, rfl⟩
        have hPl := bel.size
        clear bel
        simp only [hP] at e2 e3 e4 e5 HL5 HG5 l0 l1 l2 hPl ⊢
        clear hP
        go_upto_region 13 with (go_at_call 10; refine HL5.out.mono ?_; rintro e w6 ⟨rfl, v1, G6, F6⟩)
        clear HL5 HG5 e4
        have hb6 : Below w.heap.size w w6 := F6.below bel5 bel5.size hPl bel5.size
        have hsz6 := F6.size
        have g0 := F6.cell f0 (by omega) (.inl (by omega))
        have g1 := F6.cell f1 (by omega) (.inl (by omega))
        have g2 := F6.cell f2 (by omega) (.inl (by omega))
        have g3 := F6.cell f3 (by omega) (.inl (by omega))
        have g4 := F6.cell f4 (by omega) (.inl (by omega))
        have g5 := F6.cell f5 (by omega) (.inl (by omega))
        have g6 := F6.cell f6 (by omega) (.inl (by omega))
        have g7 := F6.cell f7 (by omega) (.inl (by omega))
        have g8 := F6.cell f8 (by omega) (.inl (by omega))
        have g9 := F6.cell f9 (by omega) (.inl (by omega))
        have p1 := F6.cell e2 (by omega) (.inl (by omega))
        have p2 := (F6.frozen (b := P + 1) (o := 0) (by omega) (by omega) (.inl (by omega))).trans e3
        have HK6 := Lib.hid (HK.out w6.heap.size (P + 1) (w.heap.size + 1 + 1) (by omega) (by omega) (.slice none 0 0) [] w6 hb6 ⟨World.ownsRow_nil _ _ _ _, p1, p2, G6.cq, by omega, by omega, by omega, Nat.le_refl _⟩ (by simp; omega))
        have HG6 := Lib.hid G6
        have HF6 := Lib.hid F6
        clear f0 f1 f2 f3 f4 f5 f6 f7 f8 f9 e2 e3 HK p1 p2 F6 G6
        go_upto_region 14 with (go_at_call 11; refine HK6.out.mono ?_; rintro e w7 ⟨rfl, v2, G7, F7⟩)
        clear g0 g1 g2 g3 g4 g5 g6 g7 g8 g9 HK6
        simp only [List.nil_append] at G7
        have hsz7 := F7.size
        have hb7 : Below w.heap.size w w7 := F7.below hb6 (by omega) (by omega) hb6.size
        have G6 := HG6.out
        simp only [List.nil_append] at G6
        have c1 := F7.cell G6.cp (by omega) (.inl (by omega))
        have c2 := G7.cp
        have o1 := OI.fr G6.own F7 (Nat.le_refl _) (by omega)
        obtain ⟨b1, k1, hv1, hk1, r1⟩ := OI.at o1 hvp
        obtain ⟨b2, k2, hv2, hk2, r2⟩ := OI.at G7.own hvp
        subst hv1
        subst hv2
        have HR1 := Lib.hid r1
        have HR2 := Lib.hid r2
        have hP7 : P < w7.heap.size := by omega
        clear r1 r2 o1 G6 G7 HG6 HF6 F7 hb6
        obtain ⟨N, hN⟩ : ∃ N, VA.length = N := ⟨_, rfl⟩
        simp only [hN] at c1 c2 hk1 hk2 hvl hvp
        have HNN := Lib.hid hN
        clear hN
        have hP8 : P + 1 < w7.heap.size := World.block_lt_of_cell? w7 _ c2
        go_wp2_with fail
        go_loopw [93] (fun s wr => ∃ k : Nat, k ≤ N ∧ s = .int .i64 k ∧ Below w7.heap.size w7 wr) (fun s _ => N - (intOf s).toNat)
        case atStart => exact ⟨0, by omega, by first | rfl | go_num, Below.refl _ _⟩
        case round =>
          rename World => wo
          obtain ⟨i, hi, rfl, hlo⟩ := hrel
          by_cases hil : i < N
          · have hiv : i < VA.length := by rw [HNN.out]; exact hil
            have q1 := HR1.out i hiv
            have q2 := HR2.out i hiv
            have d1 := (hlo.cell (p := ⟨P, 0, none⟩) hP7).trans c1
            have d2 := (hlo.cell (p := ⟨P + 1, 0, none⟩) hP8).trans c2
            have d3 := (hlo.cell (p := ⟨b1, i, none⟩) (World.block_lt_of_cell? w7 _ q1)).trans q1
            have d4 := (hlo.cell (p := ⟨b2, i, none⟩) (World.block_lt_of_cell? w7 _ q2)).trans q2
            have hbb := bel5.trans (Below.refl _ _)
            generalize VA[i] = z at *
            clear q1 q2 c1 c2
            have HLO := Lib.hid hlo
            clear hlo
            go_upto_region 19 with fail
            go_region
            all_goals
              go_wp2_with fail
              go_roundw
              case rel => exact ⟨i + 1, by omega, by first | rfl | go_num, HLO.out.drew⟩
              case measure => simp [intOf]; omega
          · have : i = N := by omega
            subst this
            go_wp2_with fail
            go_ret
            exact ⟨rfl, hb7.trans (hlo.mono hb7.size)⟩
    · have h1' : ¬ (5000 : Int) < (ca : Int) := by omega
      have h2' : (5000 : Int) < (cb : Int) := by omega
      go_wp2_with (go_at_call 5; refine (treed_ok _).mono ?_; rintro e w4 ⟨rfl, hb4⟩; replace Z := Z.next hb4; clear bel a0 a1 a2 a3 a4 a5 a6 a7 a8 a9 b0 b1 b2 b3 b4 b5 b6 b7 b8 b9 cs l0 l1 l2 hb4; obtain ⟨bel, ⟨a0, a1, a2, a3, a4, a5, a6, a7, a8, a9⟩, ⟨b0, b1, b2, b3, b4, b5, b6, b7, b8, b9⟩, cs, l0, l1, l2⟩ := id Z)
      go_ret
      exact ⟨rfl, bel⟩
  · have h1' : (5000 : Int) < (ca : Int) := by omega
    go_wp2_with (go_at_call 5; refine (treed_ok _).mono ?_; rintro e w4 ⟨rfl, hb4⟩; replace Z := Z.next hb4; clear bel a0 a1 a2 a3 a4 a5 a6 a7 a8 a9 b0 b1 b2 b3 b4 b5 b6 b7 b8 b9 cs l0 l1 l2 hb4; obtain ⟨bel, ⟨a0, a1, a2, a3, a4, a5, a6, a7, a8, a9⟩, ⟨b0, b1, b2, b3, b4, b5, b6, b7, b8, b9⟩, cs, l0, l1, l2⟩ := id Z)
    go_ret
    exact ⟨rfl, bel⟩
end Go.Proofs.Ytkgikienfdgmfaa
