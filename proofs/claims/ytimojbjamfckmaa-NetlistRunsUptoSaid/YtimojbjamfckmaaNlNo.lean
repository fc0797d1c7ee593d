/- A cycle of a netlist: the reference. Conditions: the netlist is valid, there is a bit for each input and flip-flop. -/
import Derived.Test.YtimojbjamfckmaaNlNv
namespace Go.Proofs.Ytimojbjamfckmaa
open Go Go.RowKit Go.Sort
set_option linter.unusedVariables false
set_option maxRecDepth 100000 in
set_option maxHeartbeats 16000000 in
theorem netCycleO_any (n : Nl) (v : Value) (ins st : List Bool) (vi vs : Value) (vn : VN n) (hi1 : ins.length = n.ins.length) (hs1 : st.length = n.flops.length) (w : World) (hG : NO n v w) (h1 : RowC (fun b => Value.bool b) ins vi w) (h2 : RowC (fun b => Value.bool b) st vs w) : Calls Try.prog 32 #[v, vi, vs] w fun e w' => ∃ vo vx, e = .returned (.tuple #[vo, vx]) ∧ (∃ B, Own B 4 (fun b => Value.bool b) w' vo (showN n ins st)) ∧ (∃ B, Own B 4 (fun b => Value.bool b) w' vx (stepN n ins st)) ∧ Below w.heap.size w w' := by
  have hG0 := hG
  obtain ⟨a, b, c, d0, e, a', b', c', d', e', rfl, hC, hA⟩ := hG.all
  clear hG
  have n1 := vn.ins
  have n3 := vn.flops
  have n4 := vn.gates
  have n5 : n.outs.length ≤ 128 := by have := vn.same; have := vn.outN; omega
  have hxl := netX_len hi1 hs1
  have hVL : (valsN n ins st).length = netsN n := netV_len n _ hxl _ (Nat.le_refl _)
  have HI1 := Lib.hid (fun W (hb : Below w.heap.size w W) => h1.below hb)
  have HS1 := Lib.hid (fun W (hb : Below w.heap.size w W) => h2.below hb)
  obtain ⟨ai, ci, rfl, hic, hin, hir⟩ := h1
  obtain ⟨az, cz, rfl, hsc, hsn, hsr⟩ := h2
  have HVL := Lib.hid hVL
  have HEI := Lib.hid hi1
  have HES := Lib.hid hs1
  clear hVL hxl hi1 hs1
  go_enter Try.func32, Try.ntmps32
  go_upto_region 1 with fail
  have bel := (Below.refl w.heap.size w).alloc (Nat.le_refl _) (.cells #[.slice a n.ins.length a', .slice b n.outN.length b', .slice c n.flops.length c', .slice d0 n.gates.length d', .slice e n.outs.length e'] 27)
  have X := GX.new w (.slice a n.ins.length a') (.slice b n.outN.length b') (.slice c n.flops.length c') (.slice d0 n.gates.length d') (.slice e n.outs.length e') 27
  generalize w.alloc (.cells #[.slice a n.ins.length a', .slice b n.outN.length b', .slice c n.flops.length c', .slice d0 n.gates.length d', .slice e n.outs.length e'] 27) = W0 at bel X ⊢
  generalize hk : w.heap.size = k at X ⊢
  have HK := Lib.hid hk
  clear hk
  obtain ⟨x0, x1, x2, x3, x4⟩ := id X
  have H1 := Lib.hid (netValues_any n _ ins st _ _ vn HEI.out HES.out W0 (hG0.below bel) (HI1.out _ bel) (HS1.out _ bel))
  go_upto_region 2 with (first | (go_at_call 34; refine H1.out.mono ?_; rintro ee W1 ⟨u, rfl, O1, hb1⟩))
  clear H1 HI1 HS1 hir hsr
  have bel1 := bel.trans (hb1.mono bel.size)
  have X1 := X.below hb1
  have HX := Lib.hid (fun W (hb : Below W1.heap.size W1 W) => X1.below hb)
  have HA := Lib.hid (fun W (hb : Below W1.heap.size W1 W) => hA.below (bel1.trans (hb.mono bel1.size)))
  have HBEL := Lib.hid bel1
  obtain ⟨av, cv, e1, hcv, RV⟩ := (O1.row lenB).open'
  subst e1
  have HRV := Lib.hid (fun W (hb : Below W1.heap.size W1 W) => RV.below hb)
  have HSO : Hid (showN n ins st = outN_ n (valsN n ins st)) := Lib.hid rfl
  have HST : Hid (stepN n ins st = nextB n (valsN n ins st) ins.length n.flops.length) := Lib.hid rfl
  have HOI := Lib.hid (show ∀ x ∈ n.outs, 0 ≤ x ∧ x < ((valsN n ins st).length : Int) from fun x hx => by rw [HVL.out]; exact vn.out x hx)
  have HFI := Lib.hid (show ∀ j, j < n.flops.length → (0 ≤ n.flops[j]!.d ∧ n.flops[j]!.d < ((valsN n ins st).length : Int)) ∧ (0 ≤ n.flops[j]!.en ∧ n.flops[j]!.en < ((valsN n ins st).length : Int)) from fun j hj => by rw [HVL.out]; exact ⟨vn.d j hj, vn.en j hj⟩)
  have hVA : 2 + ins.length + n.flops.length ≤ (valsN n ins st).length := by rw [HVL.out, HEI.out]; unfold netsN fstN; omega
  have hVB : (valsN n ins st).length ≤ 100000 := by rw [HVL.out]; unfold netsN fstN; omega
  have hi2 : ins.length ≤ 128 := by rw [HEI.out]; omega
  clear x0 x1 x2 x3 x4 X X1 hA hG0 hC bel bel1 hb1 RV O1 HVL HEI HES
  obtain ⟨x0, x1, x2, x3, x4⟩ := HX.out _ (Below.refl _ _)
  generalize valsN n ins st = V at HRV HSO HST HOI HFI hVA hVB ⊢
  generalize ins.length = il at HST hVA hi2 ⊢
  obtain ⟨i0, ihi, ihz, ihs, ihb⟩ := infoMB_parts
  have O1 : OwnK W1.heap.size 4 1 encB W1 (.slice none 0 0) ([] : List Bool) := OwnK.nil _ _ _ _ _
  go_upto_block 0 with fail
  clear x0 x1 x2 x3 x4
  go_wp2_with fail
  go_loopw [6, 21] (fun u i wr => ∃ j : Nat, j ≤ n.outs.length ∧ i = .int .i64 (j : Int) ∧ Hid (OwnK W1.heap.size 4 1 encB wr u (pickL V (n.outs.take j))) ∧ Hid (Below W1.heap.size W1 wr)) (fun _ i _ => n.outs.length - (intOf i).toNat)
  case atStart => exact ⟨0, Nat.zero_le _, rfl, Lib.hid O1, Lib.hid (Below.refl _ _)⟩
  case round =>
    clear O1
    obtain ⟨j, hj, rfl, hO, hB⟩ := hrel
    rename World => WR
    have hj0 : (0 : Int) ≤ (j : Int) := by omega
    by_cases hlt : j < n.outs.length
    · have hji : (j : Int) < (n.outs.length : Int) := by omega
      have HT := Lib.hid (show pickL V (n.outs.take (j + 1)) = pickL V (n.outs.take j) ++ [V[n.outs[j]!.toNat]!] by rw [tk1 _ hlt]; exact List.map_append)
      have HL : (pickL V (n.outs.take j)).length ≤ 100000 := by unfold pickL; rw [List.length_map, List.length_take]; omega
      obtain ⟨hk0, hk1⟩ := HOI.out _ (mem1 n.outs hlt)
      obtain ⟨bb, oo, hdd, hcell⟩ := (HA.out _ hB.out).outs.pick (by omega)
      subst hdd
      have c0 := hcell j hlt 0 _ rfl
      simp only [Nat.mul_one, Nat.add_zero] at c0
      clear hcell
      generalize n.outs[j]! = kk at c0 hk0 hk1 HT
      obtain ⟨b4, o4, hdd, hcell⟩ := (HRV.out _ hB.out).pick (by omega)
      subst hdd
      have c1 := hcell kk.toNat (by omega) 0 _ rfl
      simp only [Nat.mul_one, Nat.add_zero] at c1
      clear hcell
      generalize V[kk.toNat]! = z at c1 HT
      generalize pickL V (n.outs.take j) = L at hO HT HL
      obtain ⟨ad, cp, hv⟩ := hO.out.slice
      subst hv
      have hO5 := hO.out
      have hB5 := hB.out
      have hs8 := hB5.size
      have bB := (Below.refl _ WR).alloc (Nat.le_refl _) (.cells #[.bool z] 4)
      have hs9 := Nat.le_trans hs8 bB.size
      have O4 := hO5.below bB
      have hy := newB WR z
      clear hO hB hO5
      go_wp2_with (at_builtin; refine wpList_append_one (enc := encB) (k := 1) (fun _ => rfl) (by decide) (fun x u hu => by simp at hu; rcases hu with rfl; rfl) rfl _ _ 42 rfl (W1.heap.size) 4 i0 (.bool false) 1 Try.underlying42 ihi ihz ihs ihb (by decide) _ L rfl O4 WR.heap.size 1 (z) rfl hy (show L.length + 1 ≤ maxLen by unfold maxLen; omega) (show (L.length + 1) * 1 ≤ 140737488355328 by omega) (by first | omega | (simp; omega)) ?_)
      intro v5 w5 O5 hb5 hg5
      have HO5 := Lib.hid O5
      have HB5 := Lib.hid (hB5.trans ((bB.mono hB5.size).trans hb5))
      rw [← HT.out] at HO5
      clear O5 hb5 hg5 O4 hy hB5 bB
      go_wp2_with fail
      go_roundw
      case rel => exact ⟨j + 1, by omega, by go_num, HO5, HB5⟩
      all_goals first | done | (simp [intOf]; done) | (simp [intOf]; omega)
    · have hji : ¬ (j : Int) < (n.outs.length : Int) := by omega
      have hO2 := hO.out
      rw [List.take_of_length_le (by omega), show pickL V n.outs = outN_ n V from rfl, ← HSO.out] at hO2
      have hOw := hO2.ownN
      obtain ⟨ao, co, eo⟩ := hOw.slice
      have HRO := Lib.hid (fun W (hb : Below WR.heap.size WR W) => hOw.below hb)
      have HB1 := Lib.hid (fun W (hb : Below WR.heap.size WR W) => hB.out.trans (hb.mono hB.out.size))
      subst eo
      clear hO hB hO2 HSO HOI
      obtain ⟨x0, x1, x2, x3, x4⟩ := HX.out _ (HB1.out _ (Below.refl _ _))
      have O1 : OwnK WR.heap.size 4 1 encB WR (.slice none 0 0) (nextB n V il 0) := OwnK.nil _ _ _ _ _
      go_upto_block 2 with fail
      clear x0 x1 x2 x3 x4
      go_wp2_with fail
      go_loopw [7, 36] (fun u i wr => ∃ j : Nat, j ≤ n.flops.length ∧ i = .int .i64 (j : Int) ∧ Hid (OwnK WR.heap.size 4 1 encB wr u (nextB n V il j)) ∧ Hid (Below WR.heap.size WR wr)) (fun _ i _ => n.flops.length - (intOf i).toNat)
      case atStart => exact ⟨0, Nat.zero_le _, rfl, Lib.hid O1, Lib.hid (Below.refl _ _)⟩
      case round =>
        clear O1 hlt hji
        obtain ⟨j, hj, rfl, hO, hB⟩ := hrel
        rename World => WF
        have hj0 : (0 : Int) ≤ (j : Int) := by omega
        by_cases hlt : j < n.flops.length
        · have hji : (j : Int) < (n.flops.length : Int) := by omega
          have HT := Lib.hid (nextB_succ n V il j)
          have HL : (nextB n V il j).length ≤ 100000 := by unfold nextB; rw [List.length_map, List.length_range]; omega
          obtain ⟨⟨hd0, hd1⟩, he0, he1⟩ := HFI.out j hlt
          have hB1 := HB1.out _ hB.out
          obtain ⟨bb, oo, hdd, hcell⟩ := (HA.out _ hB1).flops.pick (by omega)
          subst hdd
          have c0 := hcell j hlt 0 _ rfl
          have c1 := hcell j hlt 1 _ rfl
          have c2 := hcell j hlt 2 _ rfl
          have c3 := hcell j hlt 3 _ rfl
          have c4 := hcell j hlt 4 _ rfl
          simp only [Nat.add_zero] at c0
          clear hcell
          generalize n.flops[j]! = r at c0 c1 c2 c3 c4 HT hd0 hd1 he0 he1
          obtain ⟨r0, r1, r2, r3, r4⟩ := r
          simp only at c0 c1 c2 c3 c4 hd0 hd1 he0 he1
          generalize nextB n V il j = L at hO HT HL
          obtain ⟨ad, cp, hv⟩ := hO.out.slice
          subst hv
          have hB5 := hB.out
          have hO5 := hO.out
          clear hB hO
          go_upto_region 10 with fail
          have bA := (Below.refl WF.heap.size WF).alloc (Nat.le_refl _) (.cells #[.string r0, .int .i64 r1, .int .i64 r2, .int .i64 r3, .bool r4] 84)
          have z2 : (WF.alloc (.cells #[.string r0, .int .i64 r1, .int .i64 r2, .int .i64 r3, .bool r4] 84)).cell? ⟨WF.heap.size, 2, none⟩ = some (.int .i64 r2) := by go_simp
          have z3 : (WF.alloc (.cells #[.string r0, .int .i64 r1, .int .i64 r2, .int .i64 r3, .bool r4] 84)).cell? ⟨WF.heap.size, 3, none⟩ = some (.int .i64 r3) := by go_simp

          generalize WF.alloc (.cells #[.string r0, .int .i64 r1, .int .i64 r2, .int .i64 r3, .bool r4] 84) = WS at z2 z3 bA ⊢
          generalize WF.heap.size = q10 at z2 z3 ⊢
          have hB6 := hB5.trans (bA.mono hB5.size)
          have hO6 := hO5.below bA
          obtain ⟨b4, o4, hdd, hcell⟩ := (HRV.out _ (HB1.out _ hB6)).pick (by omega)
          subst hdd
          have v0 := hcell r3.toNat (by omega) 0 _ rfl
          have v1 := hcell r2.toNat (by omega) 0 _ rfl
          have v2 := hcell (2 + il + j) (by omega) 0 _ rfl
          simp only [Nat.mul_one, Nat.add_zero] at v0 v1 v2
          clear hcell c0 c1 c2 c3 c4 bA hB5 hO5 hB1
          have HT2 := Lib.hid (show takeB V il ⟨r0, r1, r2, r3, r4⟩ j = if V[r3.toNat]! = true then V[r2.toNat]! else V[2 + il + j]! from rfl)
          generalize takeB V il ⟨r0, r1, r2, r3, r4⟩ j = z at HT HT2
          have hs8 := hB6.size
          have bB := (Below.refl _ WS).alloc (Nat.le_refl _) (.cells #[.bool z] 4)
          have hs9 := Nat.le_trans hs8 bB.size
          have O4 := hO6.below bB
          have hy := newB WS z
          cases hen : V[r3.toNat]! with
          | true =>
            rw [hen] at v0 HT2
            rw [if_pos rfl] at HT2
            rw [← HT2.out] at v1
            clear hen HT2 v2
            go_wp2_with (at_builtin; refine wpList_append_one (enc := encB) (k := 1) (fun _ => rfl) (by decide) (fun x u hu => by simp at hu; rcases hu with rfl; rfl) rfl _ _ 42 rfl (WR.heap.size) 4 i0 (.bool false) 1 Try.underlying42 ihi ihz ihs ihb (by decide) _ L rfl O4 WS.heap.size 1 (z) rfl hy (show L.length + 1 ≤ maxLen by unfold maxLen; omega) (show (L.length + 1) * 1 ≤ 140737488355328 by omega) (by first | omega | (simp; omega)) ?_)
            intro v5 w5 O5 hb5 hg5
            have HO5 := Lib.hid O5
            have HB5 := Lib.hid (hB6.trans ((bB.mono hB6.size).trans hb5))
            rw [← HT.out] at HO5
            clear O5 hb5 hg5 O4 hy hB6 bB
            go_wp2_with fail
            go_roundw
            case rel => exact ⟨j + 1, by omega, by go_num, HO5, HB5⟩
            all_goals first | done | (simp [intOf]; done) | (simp [intOf]; omega)
          | false =>
            rw [hen] at v0 HT2
            rw [if_neg (by decide)] at HT2
            rw [← HT2.out] at v2
            clear hen HT2 v1
            go_wp2_with (at_builtin; refine wpList_append_one (enc := encB) (k := 1) (fun _ => rfl) (by decide) (fun x u hu => by simp at hu; rcases hu with rfl; rfl) rfl _ _ 42 rfl (WR.heap.size) 4 i0 (.bool false) 1 Try.underlying42 ihi ihz ihs ihb (by decide) _ L rfl O4 WS.heap.size 1 (z) rfl hy (show L.length + 1 ≤ maxLen by unfold maxLen; omega) (show (L.length + 1) * 1 ≤ 140737488355328 by omega) (by first | omega | (simp; omega)) ?_)
            intro v5 w5 O5 hb5 hg5
            have HO5 := Lib.hid O5
            have HB5 := Lib.hid (hB6.trans ((bB.mono hB6.size).trans hb5))
            rw [← HT.out] at HO5
            clear O5 hb5 hg5 O4 hy hB6 bB
            go_wp2_with fail
            go_roundw
            case rel => exact ⟨j + 1, by omega, by go_num, HO5, HB5⟩
            all_goals first | done | (simp [intOf]; done) | (simp [intOf]; omega)
        · have hji : ¬ (j : Int) < (n.flops.length : Int) := by omega
          have hO2 := hO.out
          rw [show j = n.flops.length by omega, ← HST.out] at hO2
          have HO2 := Lib.hid (hO2.ownN)
          have HB2 := Lib.hid (HBEL.out.trans ((HB1.out _ hB.out).mono HBEL.out.size))
          have HR2 := Lib.hid (HRO.out _ hB.out)
          clear hO hB hO2
          go_wp2_with fail
          go_ret2
          exact ⟨_, _, rfl, ⟨_, HR2.out⟩, ⟨_, HO2.out⟩, HB2.out⟩
end Go.Proofs.Ytimojbjamfckmaa
