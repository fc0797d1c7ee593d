/- The law on names: its walk. -/
import Derived.Test.YtmimihjbepjnfaaGreatDoorDnRall
import Derived.Test.YtmimihjbepjnfaaGreatDoorDnFact
import Derived.Test.YtmimihjbepjnfaaGreatDoorRelC
namespace Go.Proofs.YtmimihjbepjnfaaGreatDoor
open Go Go.RowKit Go.Sort
set_option linter.unusedVariables false
/-- a new row of texts -/
def FS (L : List ByteArray) : Fa := fun v w => ∃ g cap, v = .slice (some ⟨g, 0, none⟩) L.length cap ∧ L.length ≤ cap ∧ ∀ j (hj : j < L.length), w.cell? ⟨g, j, none⟩ = some (.string L[j])
theorem fs_sta (L : List ByteArray) (hL : 1 ≤ L.length) : Sta (FS L) := fun v w w' ⟨g, cap, h1, h2, h3⟩ hb => ⟨g, cap, h1, h2, fun j hj => (hb.cell (p := ⟨g, j, none⟩) (World.block_lt_of_cell? w _ (h3 j hj))).trans (h3 j hj)⟩
theorem fs_equal (L : List ByteArray) (hn : L.length ≤ 1000000) (v1 v2 : Value) (w : World) (h1 : FS L v1 w) (h2 : FS L v2 w) : Calls Tryz.prog 10 #[v1, v2] w fun e w' => e = .returned (.bool true) ∧ Below w.heap.size w w' := by
  obtain ⟨g1, c1, rfl, k1, r1⟩ := h1
  obtain ⟨g2, c2, rfl, k2, r2⟩ := h2
  exact equal_str g1 c1 g2 c2 L.length (fun j => L[j]!) hn k1 k2 w (fun j hj => by show _ = some (Value.string L[j]!); rw [r1 j hj, getElem!_pos L j hj]) (fun j hj => by show _ = some (Value.string L[j]!); rw [r2 j hj, getElem!_pos L j hj])
theorem equal_nil (w : World) : Calls Tryz.prog 10 #[.slice none 0 0, .slice none 0 0] w fun e w' => e = .returned (.bool true) ∧ Below w.heap.size w w' := by
  go_enter Tryz.func10, Tryz.ntmps10
  go_wp2_with fail
  go_loopw [13] (fun u wr => u = .int .i64 0 ∧ wr = w) (fun _ _ => 0)
  case atStart => exact ⟨rfl, rfl⟩
  case round =>
    obtain ⟨rfl, rfl⟩ := hrel
    go_wp2_with fail
    go_ret
    exact ⟨rfl, Below.refl _ _⟩
set_option maxRecDepth 100000 in
set_option maxHeartbeats 2000000 in
theorem rbits_none (s : ByteArray) (a b W E : Int) (f : Bool) (l : Value) (h : hasB W E = false) (w : World) : Calls Tryz.prog 12 #[.agg #[.string s, .int .i64 a, .int .i64 b, .int .i64 W, .bool f, .int .i64 E, l]] w fun e w' => e = .returned (.slice none 0 0) ∧ Below w.heap.size w w' := by
  have h0 : 64 < W ∨ 32 < E ∨ E < 1 ∨ W < 1 := by
    simp only [hasB, Bool.and_eq_false_iff, decide_eq_false_iff_not] at h
    omega
  clear h
  go_enter Tryz.func12, Tryz.ntmps12
  go_upto_region 2 with fail
  have bel := (Below.refl w.heap.size w).alloc (Nat.le_refl _) (.cells #[.string s, .int .i64 a, .int .i64 b, .int .i64 W, .bool f, .int .i64 E, l] 24)
  have S := SG.new w s a b W f E l
  generalize w.alloc (.cells #[.string s, .int .i64 a, .int .i64 b, .int .i64 W, .bool f, .int .i64 E, l] 24) = W0 at bel S ⊢
  generalize hg : w.heap.size = g at S ⊢
  have HG := Lib.hid hg
  clear hg
  obtain ⟨s0, s1, s2, s3, s4, s5, s6⟩ := id S
  by_cases h1 : 64 < W
  · go_wp2_with fail
    go_ret
    exact ⟨rfl, bel⟩
  · by_cases h2 : 32 < E
    · go_wp2_with fail
      go_ret
      exact ⟨rfl, bel⟩
    · go_upto_block 0 with fail
      clear s0 s1 s2 s3 s4 s5 s6
      by_cases h3 : E < 1
      · have h4 : ¬ (0 : Int) < E := by omega
        go_wp2_with fail
        go_loopw [3, 17] (fun v i wr => v = .slice none 0 0 ∧ i = .int .i64 0 ∧ wr = W0) (fun _ _ _ => 0)
        case atStart => exact ⟨rfl, rfl, rfl⟩
        case round =>
          obtain ⟨rfl, rfl, rfl⟩ := hrel
          go_wp2_with fail
          go_ret
          exact ⟨rfl, bel⟩
      · have h5 : W < 1 := by omega
        have h6 : ¬ (0 : Int) < W := by omega
        obtain ⟨En, rfl⟩ : ∃ En : Nat, E = En := ⟨E.toNat, by omega⟩
        clear h0 h3
        go_wp2_with fail
        go_loopw [3, 17] (fun v i wr => ∃ e : Nat, e ≤ En ∧ v = .slice none 0 0 ∧ i = .int .i64 (e : Int) ∧ wr = W0) (fun _ i _ => En - (intOf i).toNat)
        case atStart => exact ⟨0, Nat.zero_le _, rfl, rfl, rfl⟩
        case round =>
          obtain ⟨e, he, rfl, rfl, rfl⟩ := hrel
          have he0 : (0 : Int) ≤ (e : Int) := by omega
          by_cases hlt : e < En
          · have hei : (e : Int) < (En : Int) := by omega
            obtain ⟨s0, s1, s2, s3, s4, s5, s6⟩ := id S
            go_upto_block 2 with fail
            clear s0 s1 s2 s3 s4 s5 s6
            go_wp2_with fail
            go_loopw [3, 22] (fun v i wi => v = .slice none 0 0 ∧ i = .int .i64 0 ∧ wi = wr) (fun _ _ _ => 0)
            case atStart => exact ⟨rfl, rfl, rfl⟩
            case round =>
              obtain ⟨rfl, rfl, rfl⟩ := hrel
              go_wp2_with fail
              go_roundw
              case rel => exact ⟨e + 1, by omega, by first | rfl | trivial, by go_num, by first | rfl | trivial⟩
              case measure => first | done | (simp [intOf]; done) | (simp [intOf]; omega)
          · obtain rfl : e = En := by omega
            have hei : ¬ (e : Int) < (e : Int) := by omega
            go_wp2_with fail
            go_ret
            exact ⟨rfl, bel⟩
theorem allE_pos (s : ByteArray) (E W : Nat) (h1 : 1 ≤ W) (h2 : 1 ≤ E) : 1 ≤ (allE s E W E).length := by rw [allE_len]; exact Nat.mul_le_mul h2 h1
theorem bits_fs (s : ByteArray) (a b : Int) (W E : Nat) (f : Bool) (l : Value) (hs : s.size ≤ 1000) (hW1 : 1 ≤ W) (hW2 : W ≤ 64) (hE1 : 1 ≤ E) (hE2 : E ≤ 32) (L : List ByteArray) (hL : Hid (allE s E W E = L)) (w : World) : Calls Tryz.prog 11 #[.agg #[.string s, .int .i64 a, .int .i64 b, .int .i64 W, .bool f, .int .i64 E, l]] w fun e w' => ∃ v, e = .returned v ∧ FS L v w' ∧ Below w.heap.size w w' :=
  (bits_some s a b W E f l hs hW1 hW2 hE1 hE2 w).mono fun _ _ ⟨v, h1, h2, h3⟩ => ⟨v, h1, by rw [← hL.out]; exact h2.at (allE_pos s E W hW1 hE1), h3⟩
theorem rbits_fs (s : ByteArray) (a b : Int) (W E : Nat) (f : Bool) (l : Value) (hs : s.size ≤ 1000) (hW1 : 1 ≤ W) (hW2 : W ≤ 64) (hE1 : 1 ≤ E) (hE2 : E ≤ 32) (L : List ByteArray) (hL : Hid (allE s E W E = L)) (w : World) : Calls Tryz.prog 12 #[.agg #[.string s, .int .i64 a, .int .i64 b, .int .i64 W, .bool f, .int .i64 E, l]] w fun e w' => ∃ v, e = .returned v ∧ FS L v w' ∧ Below w.heap.size w w' :=
  (rbits_some s a b W E f l hs hW1 hW2 hE1 hE2 w).mono fun _ _ ⟨v, h1, h2, h3⟩ => ⟨v, h1, by rw [← hL.out]; exact h2.at (allE_pos s E W hW1 hE1), h3⟩
set_option maxRecDepth 100000 in
set_option maxHeartbeats 4000000 in
theorem names_any (nm n0 : ByteArray) (a b W E : Int) (f : Bool) (l : Value) (w : World) (hM : Mxl w) : Calls Tryz.prog 3 #[.string nm, .agg #[.string n0, .int .i64 a, .int .i64 b, .int .i64 W, .bool f, .int .i64 E, l]] w fun e w' => e = .returned (.bool true) ∧ Below w.heap.size w w' := by
  go_enter Tryz.func3, Tryz.ntmps3
  go_upto_region 1 with fail
  have bel := (Below.refl w.heap.size w).alloc (Nat.le_refl _) (.cells #[.string n0, .int .i64 a, .int .i64 b, .int .i64 W, .bool f, .int .i64 E, l] 24)
  have M0 := hM.here bel
  have S := SG.new w n0 a b W f E l
  have z : (w.alloc (.cells #[.string n0, .int .i64 a, .int .i64 b, .int .i64 W, .bool f, .int .i64 E, l] 24)).frozen? ⟨w.heap.size, 0, none⟩ = false := by go_simp
  generalize w.alloc (.cells #[.string n0, .int .i64 a, .int .i64 b, .int .i64 W, .bool f, .int .i64 E, l] 24) = W0 at bel M0 S z ⊢
  generalize hg : w.heap.size = g at S z ⊢
  have HG := Lib.hid hg
  clear hg
  have hlt := S.lt
  go_wp2_with fail
  refine (designed_ok _).mono ?_
  rintro e w1 ⟨rfl, hb⟩
  replace bel := bel.trans (hb.mono bel.size)
  replace S := S.below hb
  replace M0 := M0.here hb
  replace z := (hb.frozen (p := ⟨g, 0, none⟩) hlt).trans z
  replace hlt := S.lt
  have M0lt : 0 < g := by have := hM.lt; have := HG.out; omega
  clear hb hM
  by_cases hn : nm.size ≤ 1000
  · have hni : ¬ (1000 : Int) < (nm.size : Int) := by omega
    obtain ⟨s0, s1, s2, s3, s4, s5, s6⟩ := id S
    go_upto_region 4 with fail
    have hb2 : Below w.heap.size w (w1.setCell ⟨g, 0, none⟩ (.string nm)) := bel.setCell (show w.heap.size ≤ g by have := HG.out; omega) _
    have S2 : SG g nm a b W f E l (w1.setCell ⟨g, 0, none⟩ (.string nm)) := by constructor <;> go_simp
    have M2 : Mxl (w1.setCell ⟨g, 0, none⟩ (.string nm)) := by
      obtain ⟨m, hm⟩ := M0
      exact ⟨m, by rw [World.cell?_setCell_other _ _ _ _ (by intro e; have := congrArg Addr.block e; have q := M0lt; simp at this; omega)]; exact hm⟩
    generalize w1.setCell ⟨g, 0, none⟩ (.string nm) = W1 at hb2 S2 M2 ⊢
    clear s0 s1 s2 s3 s4 s5 s6 S z hlt M0 bel
    obtain ⟨s0, s1, s2, s3, s4, s5, s6⟩ := id S2
    have hlt := S2.lt
    have g0 := cell_regrown s0
    have g1 := cell_regrown s1
    have g2 := cell_regrown s2
    have g3 := cell_regrown s3
    have g4 := cell_regrown s4
    have g5 := cell_regrown s5
    have g6 := cell_regrown s6
    have HM2 : Hid (∀ d os, Mxl (grow (redrawn W1 d) os)) := Lib.hid fun d os => M2.here (below_regrown W1 d os)
    have H1 := Lib.hid fun W1 => part_any nm (by omega) W1
    have H2 := Lib.hid fun W1 => rpart_any nm (by omega) W1
    have H3 := Lib.hid fun W1 hM => name_any nm W1 hM
    have H4 := Lib.hid fun W1 => rname_any nm (by omega) W1
    generalize partB nm = pv at H1 H2
    generalize nameB nm = nv at H3 H4
    clear s0 s1 s2 s3 s4 s5 s6
    cases hh : hasB W E with
    | false =>
      have H5 := Lib.hid fun W1 => bits_none nm a b W E f l hh W1
      have H6 := Lib.hid fun W1 => rbits_none nm a b W E f l hh W1
      clear hh
      cases pv <;> cases nv
      all_goals
        refine wp_region_rel 20 (by kernel_rfl) (by kernel_rfl) ?_
        simp only [List.take_succ_cons, List.take_zero, List.drop_succ_cons, List.drop_zero]
        (refine rel_fix0 (fun K hK => ?_); go_simp; refine hK _ ?_; clear hK K)
        (refine rel_fix0 (fun K hK => ?_); go_simp; apply Exists.intro; refine ⟨fun _ _ => ?_, hK _ ?_⟩; (with_reducible exact ret_fix (H1.out _)); clear hK K)
        (refine rel_fix0 (fun K hK => ?_); go_simp; refine hK _ ?_; clear hK K)
        (refine rel_fix0 (fun K hK => ?_); go_simp; apply Exists.intro; refine ⟨fun _ _ => ?_, hK _ ?_⟩; (with_reducible exact ret_fix (H2.out _)); clear hK K)
        (refine rel_fix0 (fun K hK => ?_); go_simp; refine hK _ ?_; clear hK K)
        (refine rel_fix0 (fun K hK => ?_); go_simp; refine hK _ ?_; clear hK K)
        (refine rel_fix0 (fun K hK => ?_); go_simp; refine hK _ ?_; clear hK K)
        (refine rel_fix0 (fun K hK => ?_); go_simp; apply Exists.intro; refine ⟨fun _ _ => ?_, hK _ ?_⟩; (with_reducible exact ret_fix (H3.out _ (HM2.out _ _))); clear hK K)
        (refine rel_fix0 (fun K hK => ?_); go_simp; refine hK _ ?_; clear hK K)
        (refine rel_fix0 (fun K hK => ?_); go_simp; apply Exists.intro; refine ⟨fun _ _ => ?_, hK _ ?_⟩; (with_reducible exact ret_fix (H4.out _)); clear hK K)
        (refine rel_fix0 (fun K hK => ?_); go_simp; refine hK _ ?_; clear hK K)
        (refine rel_fix0 (fun K hK => ?_); go_simp; refine hK _ ?_; clear hK K)
        (refine rel_fix0 (fun K hK => ?_); go_simp; refine hK _ ?_; clear hK K)
        (refine rel_fix0 (fun K hK => ?_); go_simp; refine hK _ ?_; clear hK K)
        (refine rel_fix0 (fun K hK => ?_); go_simp; apply Exists.intro; refine ⟨fun _ _ => ?_, hK _ ?_⟩; (with_reducible exact ret_fix (H5.out _)); clear hK K)
        (refine rel_fix0 (fun K hK => ?_); go_simp; refine hK _ ?_; clear hK K)
        (refine rel_fix0 (fun K hK => ?_); go_simp; apply Exists.intro; refine ⟨fun _ _ => ?_, hK _ ?_⟩; (with_reducible exact ret_fix (H6.out _)); clear hK K)
        (refine rel_fix0 (fun K hK => ?_); go_simp; apply Exists.intro; refine ⟨fun _ _ => ?_, hK _ ?_⟩; (with_reducible exact ret_fix (equal_nil _)); clear hK K)
        (refine rel_fix0 (fun K hK => ?_); go_simp; refine hK _ ?_; clear hK K)
        (refine rel_fix0 (fun K hK => ?_); go_simp; refine hK _ ?_; clear hK K)
        refine rel_nil ?_
        intro d os
        simp only [relAll]
        clear g0 g1 g2 g3 g4 g5 g6
        have b3 := hb2.trans ((below_regrown W1 d os).mono (by have := HG.out; omega))
        generalize grow (redrawn _ d) os = W4 at b3 ⊢
        go_wp2_with fail
        go_ret
        exact ⟨rfl, b3⟩
    | true =>
      obtain ⟨k1, k2, k3, k4⟩ : 1 ≤ W ∧ W ≤ 64 ∧ 1 ≤ E ∧ E ≤ 32 := by simpa [hasB, and_assoc] using hh
      obtain ⟨Wn, rfl⟩ : ∃ Wn : Nat, W = Wn := ⟨W.toNat, by omega⟩
      obtain ⟨En, rfl⟩ : ∃ En : Nat, E = En := ⟨E.toNat, by omega⟩
      obtain ⟨L, hL⟩ : ∃ L, allE nm En Wn En = L := ⟨_, rfl⟩
      have hl1 : 1 ≤ L.length := by rw [← hL]; exact allE_pos nm En Wn (by omega) (by omega)
      have hl2 : L.length ≤ 1000000 := by
        rw [← hL, allE_len]
        have : En * Wn ≤ 32 * 64 := Nat.mul_le_mul (by omega) (by omega)
        omega
      have H5 := Lib.hid fun W1 => bits_fs nm a b Wn En f l hn (by omega) (by omega) (by omega) (by omega) L (Lib.hid hL) W1
      have H6 := Lib.hid fun W1 => rbits_fs nm a b Wn En f l hn (by omega) (by omega) (by omega) (by omega) L (Lib.hid hL) W1
      have HQ := Lib.hid fun v1 v2 W1 => fs_equal L hl2 v1 v2 W1
      have HST := Lib.hid (fs_sta L hl1)
      clear hh hL hl1 hl2
      cases pv <;> cases nv
      all_goals
        refine wp_region_rel 20 (by kernel_rfl) (by kernel_rfl) ?_
        simp only [List.take_succ_cons, List.take_zero, List.drop_succ_cons, List.drop_zero]
        (refine rel_fix0 (fun K hK => ?_); go_simp; refine hK _ ?_; clear hK K)
        (refine rel_fix0 (fun K hK => ?_); go_simp; apply Exists.intro; refine ⟨fun _ _ => ?_, hK _ ?_⟩; (with_reducible exact ret_fix (H1.out _)); clear hK K)
        (refine rel_fix0 (fun K hK => ?_); go_simp; refine hK _ ?_; clear hK K)
        (refine rel_fix0 (fun K hK => ?_); go_simp; apply Exists.intro; refine ⟨fun _ _ => ?_, hK _ ?_⟩; (with_reducible exact ret_fix (H2.out _)); clear hK K)
        (refine rel_fix0 (fun K hK => ?_); go_simp; refine hK _ ?_; clear hK K)
        (refine rel_fix0 (fun K hK => ?_); go_simp; refine hK _ ?_; clear hK K)
        (refine rel_fix0 (fun K hK => ?_); go_simp; refine hK _ ?_; clear hK K)
        (refine rel_fix0 (fun K hK => ?_); go_simp; apply Exists.intro; refine ⟨fun _ _ => ?_, hK _ ?_⟩; (with_reducible exact ret_fix (H3.out _ (HM2.out _ _))); clear hK K)
        (refine rel_fix0 (fun K hK => ?_); go_simp; refine hK _ ?_; clear hK K)
        (refine rel_fix0 (fun K hK => ?_); go_simp; apply Exists.intro; refine ⟨fun _ _ => ?_, hK _ ?_⟩; (with_reducible exact ret_fix (H4.out _)); clear hK K)
        (refine rel_fix0 (fun K hK => ?_); go_simp; refine hK _ ?_; clear hK K)
        (refine rel_fix0 (fun K hK => ?_); go_simp; refine hK _ ?_; clear hK K)
        (refine rel_fix0 (fun K hK => ?_); go_simp; refine hK _ ?_; clear hK K)
        (refine rel_fix0 (fun K hK => ?_); go_simp; refine hK _ ?_; clear hK K)
        refine rel_fact [] (FS L) 29 rfl (by simp [Act.put]) (HST.out) (by rfl) (by kernel_rfl) (by kernel_rfl) ?_ ?_
        · intro d os
          simp only [relAll]
          go_simp
          exact ret_fact (H5.out _)
        (refine rel_fix (by kernel_rfl) (by kernel_rfl) (fun K hK => ?_); go_simp; refine hK _ ?_; clear hK K)
        refine rel_fact [] (FS L) 31 rfl (by simp [Act.put]) (HST.out) (by rfl) (by kernel_rfl) (by kernel_rfl) ?_ ?_
        · intro d os
          simp only [relAll]
          go_simp
          exact ret_fact (H6.out _)
        refine rel_use [(31, _), (29, _)] (.bool true) (by rfl) (by kernel_rfl) (by kernel_rfl) ?_ ?_
        · intro d os
          simp only [relAll]
          rintro v2 h2 v1 h1
          go_simp
          exact ret_fix (HQ.out _ _ _ h1 h2)
        (refine rel_fix (by kernel_rfl) (by kernel_rfl) (fun K hK => ?_); go_simp; refine hK _ ?_; clear hK K)
        (refine rel_fix (by kernel_rfl) (by kernel_rfl) (fun K hK => ?_); go_simp; refine hK _ ?_; clear hK K)
        refine rel_nil ?_
        intro d os
        simp only [relAll]
        rintro v2 -  v1 - 
        clear g0 g1 g2 g3 g4 g5 g6
        have b3 := hb2.trans ((below_regrown W1 d os).mono (by have := HG.out; omega))
        generalize grow (redrawn _ d) os = W4 at b3 ⊢
        go_wp2_with fail
        go_ret
        exact ⟨rfl, b3⟩
  · have hni : (1000 : Int) < (nm.size : Int) := by omega
    go_wp2_with (first | (with_reducible refine (designed_ok _).mono ?_; rintro e w3 ⟨rfl, hb3⟩))
    go_ret
    exact ⟨rfl, bel.trans (hb3.mono bel.size)⟩
end Go.Proofs.YtmimihjbepjnfaaGreatDoor
