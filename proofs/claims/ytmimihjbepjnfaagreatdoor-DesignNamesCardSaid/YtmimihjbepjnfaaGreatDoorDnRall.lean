/- The names of the bits of a signal: all of them, by the reference. -/
import Derived.Test.YtmimihjbepjnfaaGreatDoorDnBits
import Derived.Test.YtmimihjbepjnfaaGreatDoorDnAll
namespace Go.Proofs.YtmimihjbepjnfaaGreatDoor
open Go Go.RowKit Go.Sort
set_option linter.unusedVariables false
set_option maxRecDepth 100000 in
set_option maxHeartbeats 8000000 in
theorem rbits_some (s : ByteArray) (a b : Int) (W E : Nat) (f : Bool) (l : Value) (hs : s.size ≤ 1000) (hW1 : 1 ≤ W) (hW2 : W ≤ 64) (hE1 : 1 ≤ E) (hE2 : E ≤ 32) (w : World) : Calls Tryz.prog 12 #[.agg #[.string s, .int .i64 a, .int .i64 b, .int .i64 W, .bool f, .int .i64 E, l]] w fun e w' => ∃ v, e = .returned v ∧ OS (w.heap.size + 1) w' v (allE s E W E) ∧ Below w.heap.size w w' := by
  obtain ⟨i0, hi, hz0, hz1, hz2⟩ := infoS_parts
  go_enter Tryz.func12, Tryz.ntmps12
  go_upto_region 2 with fail
  have bel := (Below.refl w.heap.size w).alloc (Nat.le_refl _) (.cells #[.string s, .int .i64 a, .int .i64 b, .int .i64 W, .bool f, .int .i64 E, l] 24)
  have S := SG.new w s a b W f E l
  generalize w.alloc (.cells #[.string s, .int .i64 a, .int .i64 b, .int .i64 W, .bool f, .int .i64 E, l] 24) = W0 at bel S ⊢
  generalize hg : w.heap.size = g at S ⊢
  have HG := Lib.hid hg
  clear hg
  obtain ⟨s0, s1, s2, s3, s4, s5, s6⟩ := id S
  have hWb : ¬ (64 : Int) < (W : Int) := by omega
  have hEb : ¬ (32 : Int) < (E : Int) := by omega
  go_upto_block 0 with fail
  clear s0 s1 s2 s3 s4 s5 s6
  go_wp2_with fail
  go_loopw [3, 17] (fun v i wr => ∃ e : Nat, e ≤ E ∧ i = .int .i64 (e : Int) ∧ Hid (OS (w.heap.size + 1) wr v (allE s E W e)) ∧ Hid (SG g s a b W f E l wr) ∧ Hid (Below w.heap.size w wr)) (fun _ i _ => E - (intOf i).toNat)
  case atStart => exact ⟨0, Nat.zero_le _, rfl, Lib.hid (World.ownsRow_nil _ _ _ _), Lib.hid S, Lib.hid bel⟩
  case round =>
    obtain ⟨e, he, rfl, hO, hS, hB⟩ := hrel
    have he0 : (0 : Int) ≤ (e : Int) := by omega
    by_cases hlt : e < E
    · have hei : (e : Int) < (E : Int) := by omega
      obtain ⟨s0, s1, s2, s3, s4, s5, s6⟩ := id hS.out
      go_upto_block 2 with fail
      clear s0 s1 s2 s3 s4 s5 s6
      go_wp2_with fail
      go_loopw [3, 22] (fun v i wi => ∃ k : Nat, k ≤ W ∧ i = .int .i64 (k : Int) ∧ Hid (OS (w.heap.size + 1) wi v (allE s E W e ++ rowE s E W e k)) ∧ Hid (SG g s a b W f E l wi) ∧ Hid (Below w.heap.size w wi)) (fun _ i _ => W - (intOf i).toNat)
      case atStart => exact ⟨0, Nat.zero_le _, rfl, by rw [show allE s E W e ++ rowE s E W e 0 = allE s E W e by simp [rowE]]; exact hO, hS, hB⟩
      case round =>
        obtain ⟨k, hk, rfl, hO2, hS2, hB2⟩ := hrel
        rename World => WK
        have hk0 : (0 : Int) ≤ (k : Int) := by omega
        by_cases hlt2 : k < W
        · have hki : (k : Int) < (W : Int) := by omega
          have HN : Hid (allE s E W e ++ rowE s E W e (k + 1) = (allE s E W e ++ rowE s E W e k) ++ [bitB s E W e k]) := Lib.hid (by rw [rowE_snoc, List.append_assoc])
          have HLn : (allE s E W e ++ rowE s E W e k).length ≤ 3000 := by
            rw [List.length_append, allE_len]
            simp only [rowE, List.length_map, List.length_range]
            have : e * W ≤ 32 * 64 := Nat.mul_le_mul (by omega) hW2
            omega
          have O2 := hO2.out
          have b2 := hB2.out
          have S2 := hS2.out
          clear hO2 hB2 hS2 hO hB hS
          generalize allE s E W e ++ rowE s E W e k = L at HN HLn O2
          obtain ⟨ad, cpv, rfl⟩ := os_slice O2
          have z2 := S2.lt
          obtain ⟨s0, s1, s2, s3, s4, s5, s6⟩ := id S2
          have z1 := dec_size e (by omega)
          have z2' := dec_size k (by omega)
          have d1 := fun W1 => decimal_any 100 e W1 (by omega) (by omega)
          have d2 := fun W1 => decimal_any 100 k W1 (by omega) (by omega)
          have HE1 := Lib.hid (ix_put e E)
          have HK1 := Lib.hid (ix_put k W)
          generalize (⟨(Lib.decDigits e).toArray⟩ : ByteArray) = y1 at z1 d1 HE1
          generalize (⟨(Lib.decDigits k).toArray⟩ : ByteArray) = y2 at z2' d2 HK1
          have HD1 := Lib.hid d1
          have HD2 := Lib.hid d2
          clear d1 d2
          by_cases hE1e : E = 1
          · by_cases hW1e : W = 1
            · have hdum := 0
              have hE : ¬ (1 : Int) < (E : Int) := by omega
              have hW : ¬ (1 : Int) < (W : Int) := by omega
              have HX : Hid (bitB s E W e k = s) := Lib.hid (by
                unfold bitB
                rw [show ixB e E = ByteArray.empty by unfold ixB ixL; rw [if_pos hE1e]; rfl, ByteArray.append_empty]
                rw [show ixB k W = ByteArray.empty by unfold ixB ixL; rw [if_pos hW1e]; rfl, ByteArray.append_empty])
              clear hE1e hW1e
              go_upto_region 13 with fail
              go_upto_region 15 with fail
              rw [HX.out] at HN
              have b3 := b2
              obtain ⟨w3, hw3⟩ : ∃ w3 : World, w3 = WK := ⟨_, rfl⟩
              subst hw3
              have O3 := O2.below (w' := w3.alloc (Obj.cells #[.string s] 9)) ((Below.refl _ _).alloc (Nat.le_refl _) _)
              clear O2 b2
              go_wp2_with (first | (at_builtin; refine wpList_append_own _ rfl _ _ 28 rfl (w.heap.size + 1) 9 i0 (.string ⟨#[]⟩) 1 16 Tryz.underlying28 hi hz0 hz1 hz2 rfl (by decide) _ _ _ rfl (show (w3.alloc (Obj.cells #[.string s] 9)).ownsRow (w.heap.size + 1) 9 1 _ L.length (L.map Value.string) from O3) ⟨w3.heap.size, 0, none⟩ 1 1 [.string s] rfl rfl ?d1_11 ?d2_11 ?d3_11 ?d4_11 ?d5_11 ?_))
              try case d1_11 =>
                intro q u hq
                match q, hq with
                | 0, hq => simp at hq; subst hq; simp [Addr.add]
              case d2_11 => first | (intro u hu; simp at hu; subst hu; rfl) | rfl
              case d3_11 => unfold maxLen; omega
              case d4_11 => omega
              case d5_11 => have := b3.size; simp; omega
              intro v5 w5 hown5 hgr5 _
              have hown6 : OS (w.heap.size + 1) w5 v5 (L ++ [s]) := by
                unfold OS
                simpa using hown5
              have hlow : Below (w.heap.size + 1) w3 w5 := ((Below.refl (w.heap.size + 1) w3).alloc (by have := S2.lt; have := HG.out; omega) _).grown hgr5 (by have := S2.lt; have := HG.out; simp; omega) (fun q hq => (World.ownsRow.lt O3 q hq).1)
              have S5 := S2.mono hlow (by have := HG.out; omega)
              have b5 : Below w.heap.size w w5 := b3.trans (hlow.mono (by omega))
              clear hown5 hgr5 O3 hlow b3 S2
              have HO6 := Lib.hid hown6
              have HS6 := Lib.hid S5
              have HB6 := Lib.hid b5
              clear hown6 S5 b5
              go_wp2_with fail
              go_roundw
              case rel => exact ⟨k + 1, by omega, by go_num, by rw [HN.out]; exact HO6, HS6, HB6⟩
              case measure => first | done | (simp [intOf]; done) | (simp [intOf]; omega)
            · have hdum := 0
              have hE : ¬ (1 : Int) < (E : Int) := by omega
              have hW : (1 : Int) < (W : Int) := by omega
              have HX : Hid (bitB s E W e k = (s ++ (⟨#[91]⟩ ++ y2 ++ ⟨#[93]⟩))) := Lib.hid (by
                unfold bitB
                rw [show ixB e E = ByteArray.empty by unfold ixB ixL; rw [if_pos hE1e]; rfl, ByteArray.append_empty]
                rw [← HK1.out hW1e])
              clear hE1e hW1e
              go_upto_region 13 with fail
              have tb1 : ¬ 9223372036854775807 < 1 + y2.size := by omega
              have tb2 : ¬ 9223372036854775807 < 1 + y2.size + 1 := by omega
              have tb3 : ¬ 9223372036854775807 < s.size + (1 + y2.size + 1) := by omega
              go_upto_region 15 with (go_at_call 29; refine (HD2.out _).mono ?_; rintro e' w3 ⟨rfl, hb3⟩)
              have b2 := b2.trans (hb3.mono b2.size)
              replace O2 := O2.below hb3
              replace S2 := S2.below hb3
              clear hb3 s0 s1 s2 s3 s4 s5 s6
              have z2 := S2.lt
              obtain ⟨s0, s1, s2, s3, s4, s5, s6⟩ := id S2
              generalize (s ++ (⟨#[91]⟩ ++ y2 ++ ⟨#[93]⟩)) = nB at HX ⊢
              rw [HX.out] at HN
              have b3 := b2
              have O3 := O2.below (w' := w3.alloc (Obj.cells #[.string nB] 9)) ((Below.refl _ _).alloc (Nat.le_refl _) _)
              clear O2 b2
              go_wp2_with (first | (at_builtin; refine wpList_append_own _ rfl _ _ 28 rfl (w.heap.size + 1) 9 i0 (.string ⟨#[]⟩) 1 16 Tryz.underlying28 hi hz0 hz1 hz2 rfl (by decide) _ _ _ rfl (show (w3.alloc (Obj.cells #[.string nB] 9)).ownsRow (w.heap.size + 1) 9 1 _ L.length (L.map Value.string) from O3) ⟨w3.heap.size, 0, none⟩ 1 1 [.string nB] rfl rfl ?d1_10 ?d2_10 ?d3_10 ?d4_10 ?d5_10 ?_))
              try case d1_10 =>
                intro q u hq
                match q, hq with
                | 0, hq => simp at hq; subst hq; simp [Addr.add]
              case d2_10 => first | (intro u hu; simp at hu; subst hu; rfl) | rfl
              case d3_10 => unfold maxLen; omega
              case d4_10 => omega
              case d5_10 => have := b3.size; simp; omega
              intro v5 w5 hown5 hgr5 _
              have hown6 : OS (w.heap.size + 1) w5 v5 (L ++ [nB]) := by
                unfold OS
                simpa using hown5
              have hlow : Below (w.heap.size + 1) w3 w5 := ((Below.refl (w.heap.size + 1) w3).alloc (by have := S2.lt; have := HG.out; omega) _).grown hgr5 (by have := S2.lt; have := HG.out; simp; omega) (fun q hq => (World.ownsRow.lt O3 q hq).1)
              have S5 := S2.mono hlow (by have := HG.out; omega)
              have b5 : Below w.heap.size w w5 := b3.trans (hlow.mono (by omega))
              clear hown5 hgr5 O3 hlow b3 S2
              have HO6 := Lib.hid hown6
              have HS6 := Lib.hid S5
              have HB6 := Lib.hid b5
              clear hown6 S5 b5
              go_wp2_with fail
              go_roundw
              case rel => exact ⟨k + 1, by omega, by go_num, by rw [HN.out]; exact HO6, HS6, HB6⟩
              case measure => first | done | (simp [intOf]; done) | (simp [intOf]; omega)
          · by_cases hW1e : W = 1
            · have hdum := 0
              have hE : (1 : Int) < (E : Int) := by omega
              have hW : ¬ (1 : Int) < (W : Int) := by omega
              have HX : Hid (bitB s E W e k = (s ++ (⟨#[91]⟩ ++ y1 ++ ⟨#[93]⟩))) := Lib.hid (by
                unfold bitB
                rw [← HE1.out hE1e]
                rw [show ixB k W = ByteArray.empty by unfold ixB ixL; rw [if_pos hW1e]; rfl, ByteArray.append_empty])
              clear hE1e hW1e
              have ta1 : ¬ 9223372036854775807 < 1 + y1.size := by omega
              have ta2 : ¬ 9223372036854775807 < 1 + y1.size + 1 := by omega
              have ta3 : ¬ 9223372036854775807 < s.size + (1 + y1.size + 1) := by omega
              go_upto_region 13 with (go_at_call 29; refine (HD1.out _).mono ?_; rintro e' w3 ⟨rfl, hb3⟩)
              have b2 := b2.trans (hb3.mono b2.size)
              replace O2 := O2.below hb3
              replace S2 := S2.below hb3
              clear hb3 s0 s1 s2 s3 s4 s5 s6
              have z2 := S2.lt
              obtain ⟨s0, s1, s2, s3, s4, s5, s6⟩ := id S2
              have zA : (s ++ (⟨#[91]⟩ ++ y1 ++ ⟨#[93]⟩)).size ≤ 1010 := by simp only [ByteArray.size_append]; have q1 : (⟨#[91]⟩ : ByteArray).size = 1 := rfl; have q2 : (⟨#[93]⟩ : ByteArray).size = 1 := rfl; omega
              generalize (s ++ (⟨#[91]⟩ ++ y1 ++ ⟨#[93]⟩)) = nA at zA HX ⊢
              go_upto_region 15 with fail
              rw [HX.out] at HN
              have b3 := b2
              have O3 := O2.below (w' := w3.alloc (Obj.cells #[.string nA] 9)) ((Below.refl _ _).alloc (Nat.le_refl _) _)
              clear O2 b2
              go_wp2_with (first | (at_builtin; refine wpList_append_own _ rfl _ _ 28 rfl (w.heap.size + 1) 9 i0 (.string ⟨#[]⟩) 1 16 Tryz.underlying28 hi hz0 hz1 hz2 rfl (by decide) _ _ _ rfl (show (w3.alloc (Obj.cells #[.string nA] 9)).ownsRow (w.heap.size + 1) 9 1 _ L.length (L.map Value.string) from O3) ⟨w3.heap.size, 0, none⟩ 1 1 [.string nA] rfl rfl ?d1_01 ?d2_01 ?d3_01 ?d4_01 ?d5_01 ?_))
              try case d1_01 =>
                intro q u hq
                match q, hq with
                | 0, hq => simp at hq; subst hq; simp [Addr.add]
              case d2_01 => first | (intro u hu; simp at hu; subst hu; rfl) | rfl
              case d3_01 => unfold maxLen; omega
              case d4_01 => omega
              case d5_01 => have := b3.size; simp; omega
              intro v5 w5 hown5 hgr5 _
              have hown6 : OS (w.heap.size + 1) w5 v5 (L ++ [nA]) := by
                unfold OS
                simpa using hown5
              have hlow : Below (w.heap.size + 1) w3 w5 := ((Below.refl (w.heap.size + 1) w3).alloc (by have := S2.lt; have := HG.out; omega) _).grown hgr5 (by have := S2.lt; have := HG.out; simp; omega) (fun q hq => (World.ownsRow.lt O3 q hq).1)
              have S5 := S2.mono hlow (by have := HG.out; omega)
              have b5 : Below w.heap.size w w5 := b3.trans (hlow.mono (by omega))
              clear hown5 hgr5 O3 hlow b3 S2
              have HO6 := Lib.hid hown6
              have HS6 := Lib.hid S5
              have HB6 := Lib.hid b5
              clear hown6 S5 b5
              go_wp2_with fail
              go_roundw
              case rel => exact ⟨k + 1, by omega, by go_num, by rw [HN.out]; exact HO6, HS6, HB6⟩
              case measure => first | done | (simp [intOf]; done) | (simp [intOf]; omega)
            · have hdum := 0
              have hE : (1 : Int) < (E : Int) := by omega
              have hW : (1 : Int) < (W : Int) := by omega
              have HX : Hid (bitB s E W e k = ((s ++ (⟨#[91]⟩ ++ y1 ++ ⟨#[93]⟩)) ++ (⟨#[91]⟩ ++ y2 ++ ⟨#[93]⟩))) := Lib.hid (by
                unfold bitB
                rw [← HE1.out hE1e]
                rw [← HK1.out hW1e])
              clear hE1e hW1e
              have ta1 : ¬ 9223372036854775807 < 1 + y1.size := by omega
              have ta2 : ¬ 9223372036854775807 < 1 + y1.size + 1 := by omega
              have ta3 : ¬ 9223372036854775807 < s.size + (1 + y1.size + 1) := by omega
              go_upto_region 13 with (go_at_call 29; refine (HD1.out _).mono ?_; rintro e' w3 ⟨rfl, hb3⟩)
              have b2 := b2.trans (hb3.mono b2.size)
              replace O2 := O2.below hb3
              replace S2 := S2.below hb3
              clear hb3 s0 s1 s2 s3 s4 s5 s6
              have z2 := S2.lt
              obtain ⟨s0, s1, s2, s3, s4, s5, s6⟩ := id S2
              have zA : (s ++ (⟨#[91]⟩ ++ y1 ++ ⟨#[93]⟩)).size ≤ 1010 := by simp only [ByteArray.size_append]; have q1 : (⟨#[91]⟩ : ByteArray).size = 1 := rfl; have q2 : (⟨#[93]⟩ : ByteArray).size = 1 := rfl; omega
              generalize (s ++ (⟨#[91]⟩ ++ y1 ++ ⟨#[93]⟩)) = nA at zA HX ⊢
              have tb1 : ¬ 9223372036854775807 < 1 + y2.size := by omega
              have tb2 : ¬ 9223372036854775807 < 1 + y2.size + 1 := by omega
              have tb3 : ¬ 9223372036854775807 < nA.size + (1 + y2.size + 1) := by omega
              go_upto_region 15 with (go_at_call 29; refine (HD2.out _).mono ?_; rintro e' w3 ⟨rfl, hb3⟩)
              have b2 := b2.trans (hb3.mono b2.size)
              replace O2 := O2.below hb3
              replace S2 := S2.below hb3
              clear hb3 s0 s1 s2 s3 s4 s5 s6
              have z2 := S2.lt
              obtain ⟨s0, s1, s2, s3, s4, s5, s6⟩ := id S2
              generalize (nA ++ (⟨#[91]⟩ ++ y2 ++ ⟨#[93]⟩)) = nB at HX ⊢
              rw [HX.out] at HN
              have b3 := b2
              have O3 := O2.below (w' := w3.alloc (Obj.cells #[.string nB] 9)) ((Below.refl _ _).alloc (Nat.le_refl _) _)
              clear O2 b2
              go_wp2_with (first | (at_builtin; refine wpList_append_own _ rfl _ _ 28 rfl (w.heap.size + 1) 9 i0 (.string ⟨#[]⟩) 1 16 Tryz.underlying28 hi hz0 hz1 hz2 rfl (by decide) _ _ _ rfl (show (w3.alloc (Obj.cells #[.string nB] 9)).ownsRow (w.heap.size + 1) 9 1 _ L.length (L.map Value.string) from O3) ⟨w3.heap.size, 0, none⟩ 1 1 [.string nB] rfl rfl ?d1_00 ?d2_00 ?d3_00 ?d4_00 ?d5_00 ?_))
              try case d1_00 =>
                intro q u hq
                match q, hq with
                | 0, hq => simp at hq; subst hq; simp [Addr.add]
              case d2_00 => first | (intro u hu; simp at hu; subst hu; rfl) | rfl
              case d3_00 => unfold maxLen; omega
              case d4_00 => omega
              case d5_00 => have := b3.size; simp; omega
              intro v5 w5 hown5 hgr5 _
              have hown6 : OS (w.heap.size + 1) w5 v5 (L ++ [nB]) := by
                unfold OS
                simpa using hown5
              have hlow : Below (w.heap.size + 1) w3 w5 := ((Below.refl (w.heap.size + 1) w3).alloc (by have := S2.lt; have := HG.out; omega) _).grown hgr5 (by have := S2.lt; have := HG.out; simp; omega) (fun q hq => (World.ownsRow.lt O3 q hq).1)
              have S5 := S2.mono hlow (by have := HG.out; omega)
              have b5 : Below w.heap.size w w5 := b3.trans (hlow.mono (by omega))
              clear hown5 hgr5 O3 hlow b3 S2
              have HO6 := Lib.hid hown6
              have HS6 := Lib.hid S5
              have HB6 := Lib.hid b5
              clear hown6 S5 b5
              go_wp2_with fail
              go_roundw
              case rel => exact ⟨k + 1, by omega, by go_num, by rw [HN.out]; exact HO6, HS6, HB6⟩
              case measure => first | done | (simp [intOf]; done) | (simp [intOf]; omega)
        · obtain rfl : k = W := by omega
          have HO7 : Hid (OS (w.heap.size + 1) WK _ (allE s E k (e + 1))) := hO2
          have hki : ¬ (k : Int) < (k : Int) := by omega
          go_wp2_with fail
          go_roundw
          case rel => exact ⟨e + 1, by omega, by go_num, HO7, hS2, hB2⟩
          case measure => first | done | (simp [intOf]; done) | (simp [intOf]; omega)
    · obtain rfl : e = E := by omega
      have hei : ¬ (e : Int) < (e : Int) := by omega
      go_wp2_with fail
      go_ret
      exact ⟨_, rfl, hO.out, hB.out⟩
end Go.Proofs.YtmimihjbepjnfaaGreatDoor
