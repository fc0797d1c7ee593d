/- The reference's ReadBits. -/
import Derived.Test.YtfnkablbcalclaaGreatDoorMgRd
import Derived.Test.YtfnkablbcalclaaGreatDoorMgRfDec
import Derived.Test.YtfnkablbcalclaaGreatDoorMgRfDig
import Derived.Laws.RangeString
import Derived.Laws.RangeAny
namespace Go.Proofs.YtfnkablbcalclaaGreatDoor
open Go Go.RowKit
set_option linter.unusedVariables false
theorem dig_all {d : ByteArray} (h : allB (fun c => isDig c.toNat) d = true) : ∀ k (hk : k < d.size), 48 ≤ d[k].toNat ∧ d[k].toNat ≤ 57 := fun k hk => isDig_yes.1 (allB_yes h k hk)
theorem dig_some {d : ByteArray} (h : allB (fun c => isDig c.toNat) d = false) : ¬ ∀ k (hk : k < d.size), 48 ≤ d[k].toNat ∧ d[k].toNat ≤ 57 := fun ha => by
  obtain ⟨k, hk, hf⟩ := allB_no h
  have := isDig_yes.2 (ha k hk)
  rw [this] at hf; cases hf
theorem ref_dec {n x : Nat} {d : ByteArray} {v : Value} (hA : DecA n d v) (hx1 : 1 ≤ x) (hx2 : x ≤ 100000) (hnx : n = x ∨ (64 < n ∧ 64 < x)) (hd : d.size ≤ 2000) (w : World) :
    Calls Tryz.prog 55 #[.string d, .int .i64 x] w fun e w' => e = .returned v ∧ Below w.heap.size w w' := by
  cases hA with
  | ill hx hz hdg => exact rfDec x d _ hx2 hx1 hx hz hd (Lib.hid fun _ => rfl) (Lib.hid fun h => absurd h (dig_some hdg)) (Lib.hid fun _ h => absurd h (dig_some hdg)) (Lib.hid fun _ h => absurd h (dig_some hdg)) w
  | wide hw hdg =>
    rcases hdg with rfl | rfl | ⟨hx, hz, hall⟩
    · exact rfDec_xw x w hx2 (by omega)
    · exact rfDec_zw x w hx2 (by omega)
    · exact rfDec x d _ hx2 hx1 hx hz hd (Lib.hid fun ⟨k, hk, hn⟩ => absurd (dig_all hall k hk) hn) (Lib.hid fun _ _ => rfl) (Lib.hid fun h => by omega) (Lib.hid fun h => by omega) w
  | x hw hx => obtain rfl : n = x := by omega
               subst hx; exact rfDec_x n w hx2 hx1 hw
  | z hw hx => obtain rfl : n = x := by omega
               subst hx; exact rfDec_z n w hx2 hx1 hw
  | fits hw hx hz hall hv => obtain rfl : n = x := by omega
                             exact rfDec n d _ hx2 hx1 hx hz hd (Lib.hid fun ⟨k, hk, hn⟩ => absurd (dig_all hall k hk) hn) (Lib.hid fun _ h => by omega) (Lib.hid fun _ _ h => absurd hv h) (Lib.hid fun _ _ _ => rfl) w
  | large hw hx hz hall hv => obtain rfl : n = x := by omega
                              exact rfDec n d _ hx2 hx1 hx hz hd (Lib.hid fun ⟨k, hk, hn⟩ => absurd (dig_all hall k hk) hn) (Lib.hid fun _ h => by omega) (Lib.hid fun _ _ _ => rfl) (Lib.hid fun _ _ h => absurd h hv) w
theorem dok_all {size : Nat} {d : ByteArray} (h : allB (fun c => digOk size c.toNat) d = true) : ∀ k, k < d.size → digOk size (dgt d k) = true := fun k hk => by rw [dgt_get hk]; exact allB_yes h _ (by omega)
theorem dok_some {size : Nat} {d : ByteArray} (h : allB (fun c => digOk size c.toNat) d = false) : ¬ ∀ k, k < d.size → digOk size (dgt d k) = true := fun ha => by
  obtain ⟨k, hk, hf⟩ := allB_no h
  have h2 := ha (d.size - 1 - k) (by omega)
  rw [dgt_get (by omega)] at h2
  have e : d.size - 1 - (d.size - 1 - k) = k := by omega
  simp only [e] at h2
  rw [h2] at hf; cases hf
theorem ref_dig {n x size : Nat} {d : ByteArray} {v : Value} (hA : DigA n size d v) (hx1 : 1 ≤ x) (hx2 : x ≤ 100000) (hnx : n = x ∨ (64 < n ∧ 64 < x)) (z1 : 1 ≤ size) (z2 : size ≤ 4) (hd0 : 0 < d.size) (hd : d.size ≤ 2000) (w : World) :
    Calls Tryz.prog 56 #[.string d, .int .i64 x, .int .i64 size] w fun e w' => e = .returned v ∧ Below w.heap.size w w' := by
  have no10 : allB (fun c => digOk size c.toNat) d = true → ∀ {u : Value}, (∃ k, k < d.size ∧ digOk size (dgt d k) = false) → u = bad 10 := fun h u ⟨k, hk, hf⟩ => by rw [dok_all h k hk] at hf; cases hf
  cases hA with
  | ill hdg => exact rfDig x size d _ hx2 hx1 z1 z2 hd0 hd (Lib.hid fun _ => rfl) (Lib.hid fun h => absurd h (dok_some hdg)) (Lib.hid fun _ h => absurd h (dok_some hdg)) (Lib.hid fun _ h => absurd h (dok_some hdg)) w
  | wide hw hall => exact rfDig x size d _ hx2 hx1 z1 z2 hd0 hd (Lib.hid (no10 hall)) (Lib.hid fun _ _ => rfl) (Lib.hid fun h => by omega) (Lib.hid fun h => by omega) w
  | fits hw hall hE => obtain rfl : n = x := by omega
                       exact rfDig n size d _ hx2 hx1 z1 z2 hd0 hd (Lib.hid (no10 hall)) (Lib.hid fun _ h => by omega) (Lib.hid fun _ _ ⟨k, hk, h⟩ => by rw [hE k hk] at h; cases h) (Lib.hid fun _ _ _ => rfl) w
  | large hw hall hE => obtain rfl : n = x := by omega
                        exact rfDig n size d _ hx2 hx1 z1 z2 hd0 hd (Lib.hid (no10 hall)) (Lib.hid fun _ h => by omega) (Lib.hid fun _ _ _ => rfl) (Lib.hid fun _ _ h => by
                          obtain ⟨k, hk, h2⟩ := hE
                          rw [h k hk] at h2; cases h2) w
theorem deca_form {n : Nat} {d : ByteArray} {v : Value} (h : DecA n d v) : ∃ a b c e : Int, v = .tuple #[.agg #[.int .i64 a, .int .u64 b, .int .u64 c], .int .i64 e] := by
  cases h <;> exact ⟨_, _, _, _, rfl⟩
theorem diga_form {n size : Nat} {d : ByteArray} {v : Value} (h : DigA n size d v) : ∃ a b c e : Int, v = .tuple #[.agg #[.int .i64 a, .int .u64 b, .int .u64 c], .int .i64 e] := by
  cases h <;> exact ⟨_, _, _, _, rfl⟩
theorem mz_of (c : Nat) : mz (c : Int) = if c = 100 then 99 else dw c := by
  unfold mz dw
  repeat' split
  all_goals omega
set_option maxRecDepth 100000 in
set_option maxHeartbeats 6400000 in
theorem rfRd (s : ByteArray) (v : Value) (hs : s.size ≤ 2000) (hR : Rdg s v) (w : World) :
    Calls Tryz.prog 40 #[.string s] w fun e w' => e = .returned v ∧ Below w.heap.size w w' := by
  have HR := Lib.hid hR
  clear hR
  have hmm := @run_makeMap Tryz.prog
  go_enter Tryz.func40, Tryz.ntmps40
  go_upto_region 1 with fail
  obtain ⟨W1, hW1⟩ : ∃ W, W = w.alloc (Obj.cells #[Value.int IntKind.i64 0, Value.int IntKind.u64 0, Value.int IntKind.u64 0] 30) := ⟨_, rfl⟩
  have X : Box W1 w.heap.size 0 0 0 ∧ W1.heap.size = w.heap.size + 1 ∧ Below w.heap.size w W1 := by
    rw [hW1]
    exact ⟨Box.new _ _ _ _, by simp, (Below.refl _ _).alloc (Nat.le_refl _) _⟩
  rw [← hW1]
  clear hW1
  have HX := Lib.hid X
  clear X
  go_upto_block 0 with fail
  go_cut [4] (fun u wx => ∃ K : Nat, K ≤ s.size ∧ u = .int .i64 K ∧ Hid (∀ q (h : q < s.size), q < K → 48 ≤ s[q].toNat ∧ s[q].toNat ≤ 57) ∧ Hid (∀ h : K < s.size, ¬ (48 ≤ s[K].toNat ∧ s[K].toNat ≤ 57)) ∧ Hid (wx = W1))
  case first =>
    go_wp2_with fail
    go_loop [4] (fun u => ∃ K : Nat, K ≤ s.size ∧ u = .int .i64 K ∧ Hid (∀ q (h : q < s.size), q < K → 48 ≤ s[q].toNat ∧ s[q].toNat ≤ 57)) (fun u => s.size - (intOf u).toNat)
    case atStart => exact ⟨0, Nat.zero_le _, rfl, Lib.hid (fun q h hq => absurd hq (Nat.not_lt_zero q))⟩
    case round =>
      obtain ⟨K, hK, rfl, hd⟩ := hrel
      by_cases hlt : K < s.size
      · have hk0 : (0 : Int) ≤ (K : Int) := by omega
        by_cases hb1 : s[K].toNat < 48
        · have hbi : ¬ ((48 : Int) ≤ (s[K].toNat : Int)) := by omega
          have HST : Hid (∀ h : K < s.size, ¬ (48 ≤ s[K].toNat ∧ s[K].toNat ≤ 57)) := Lib.hid (fun _ => by omega)
          clear hb1
          go_wp2_with fail
          go_meet
          exact ⟨K, hK, rfl, hd, HST, Lib.hid rfl⟩
        · by_cases hb2 : 57 < s[K].toNat
          · have hbi : (48 : Int) ≤ (s[K].toNat : Int) := by omega
            have hbj : ¬ ((s[K].toNat : Int) ≤ 57) := by omega
            have HST : Hid (∀ h : K < s.size, ¬ (48 ≤ s[K].toNat ∧ s[K].toNat ≤ 57)) := Lib.hid (fun _ => by omega)
            clear hb1 hb2
            go_wp2_with fail
            go_meet
            exact ⟨K, hK, rfl, hd, HST, Lib.hid rfl⟩
          · have hbi : (48 : Int) ≤ (s[K].toNat : Int) := by omega
            have hbj : (s[K].toNat : Int) ≤ 57 := by omega
            have HD : Hid (∀ q (h : q < s.size), q < K + 1 → 48 ≤ s[q].toNat ∧ s[q].toNat ≤ 57) := Lib.hid (fun q h hq => by
              by_cases hqk : q < K
              · exact hd.out q h hqk
              · obtain rfl : q = K := by omega
                omega)
            clear hb1 hb2
            go_wp2_with fail
            go_round
            case rel => exact ⟨K + 1, by omega, by go_num, HD⟩
            case measure => simp [intOf] <;> omega
      · obtain rfl : K = s.size := by omega
        go_wp2_with fail
        go_meet
        exact ⟨s.size, Nat.le_refl _, rfl, hd, Lib.hid (fun h => absurd h (Nat.lt_irrefl _)), Lib.hid rfl⟩
  case rest =>
  obtain ⟨K, hK, rfl, hd, hst, hwc⟩ := hcut
  have hlo := Below.refl W1.heap.size W1
  rw [hwc.out]
  clear hwc
  have hcs : (0 : Int) ≤ (K : Int) := by omega
  by_cases hK0 : K = 0
  · subst hK0
    have HV : Hid (v = bad 10) := Lib.hid (rdg_bad (fun wd r0 rs h => by have := cutt_K h hd.out hst.out; have := h.w0; omega) HR.out)
    have hbb : Below w.heap.size w W1 := HX.out.2.2.trans (hlo.mono (by have := HX.out.2.1; omega))
    obtain ⟨r0, r1, r2, rf⟩ := HX.out.1.below hlo
    have rz := World.block_lt_of_cell? W1 _ r0
    go_wp2_with fail
    exact bodyPost_ret (v := bad 10) (by simp [bad, results, Tryz.results40, go_sem, r0, r1, r2, rf, rz]) rfl ⟨by rw [HV.out], by (repeat (first | exact hbb | exact Nat.le_refl _ | refine Below.setCell ?_ ?_ _)) <;> (first | omega | (simp <;> omega))⟩
  · have hKn : ((K : Int) == 0) = false := beq_eq_false_iff_ne.2 (by omega)
    have hs0 : 0 < s.size := by omega
    by_cases hz : s[0].toNat = 48
    · have hzi : ((s[0].toNat : Int) == 48) = true := by rw [hz]; rfl
      have HV : Hid (v = bad 10) := Lib.hid (rdg_bad (fun wd r0 rs h => h.nz hs0 hz) HR.out)
      clear hz
      have hbb : Below w.heap.size w W1 := HX.out.2.2.trans (hlo.mono (by have := HX.out.2.1; omega))
      obtain ⟨r0, r1, r2, rf⟩ := HX.out.1.below hlo
      have rz := World.block_lt_of_cell? W1 _ r0
      go_wp2_with fail
      exact bodyPost_ret (v := bad 10) (by simp [bad, results, Tryz.results40, go_sem, r0, r1, r2, rf, rz]) rfl ⟨by rw [HV.out], by (repeat (first | exact hbb | exact Nat.le_refl _ | refine Below.setCell ?_ ?_ _)) <;> (first | omega | (simp <;> omega))⟩
    · have hzi : ((s[0].toNat : Int) == 48) = false := beq_eq_false_iff_ne.2 (by omega)
      by_cases hKs : K = s.size
      · have hKsi : ((K : Int) == (s.size : Int)) = true := by rw [hKs]; simp
        have HV : Hid (v = bad 10) := Lib.hid (rdg_bad (fun wd r0 rs h => by have := cutt_K h hd.out hst.out; have := h.lt; omega) HR.out)
        clear hKs hz hst hd
        have hbb : Below w.heap.size w W1 := HX.out.2.2.trans (hlo.mono (by have := HX.out.2.1; omega))
        obtain ⟨r0, r1, r2, rf⟩ := HX.out.1.below hlo
        have rz := World.block_lt_of_cell? W1 _ r0
        go_wp2_with fail
        exact bodyPost_ret (v := bad 10) (by simp [bad, results, Tryz.results40, go_sem, r0, r1, r2, rf, rz]) rfl ⟨by rw [HV.out], by (repeat (first | exact hbb | exact Nat.le_refl _ | refine Below.setCell ?_ ?_ _)) <;> (first | omega | (simp <;> omega))⟩
      · have hKl : K < s.size := by omega
        have hKsi : ((K : Int) == (s.size : Int)) = false := beq_eq_false_iff_ne.2 (by omega)
        by_cases hq : s[K].toNat = 39
        · have hqi : ((s[K].toNat : Int) == 39) = true := by rw [hq]; rfl
          obtain ⟨rs, C⟩ := cutt_mk (by omega) hKl hd.out (fun _ => hz) hq
          have hwd : (s.extract 0 K).size = K := by simp; omega
          have HCC := Lib.hid C
          have HDG : Hid (∀ q (hq : q < (s.extract 0 K).size), 48 ≤ (s.extract 0 K)[q].toNat ∧ (s.extract 0 K)[q].toNat ≤ 57) := Lib.hid (fun q hq => by
            obtain ⟨h, e⟩ := wd_at hK hq
            rw [e]
            exact hd.out q h (by omega))
          clear C hq hz hst hd hKs hK0
          go_upto_region 7 with fail
          go_wp2_with fail
          obtain ⟨wd, hE⟩ : ∃ wd, s.extract 0 K = wd := ⟨_, rfl⟩
          rw [hE] at hwd HCC HDG ⊢
          clear hE
          go_loopw [5] (fun u wx => ∃ pos : Nat, pos ≤ K ∧ wx = W1.iter wd pos ∧ u = .int .i64 (rfw wd pos)) (fun _ wx => K - wx.iterPos W1.heap.size)
          case atStart => exact ⟨0, Nat.zero_le _, rfl, rfl⟩
          case round =>
            obtain ⟨pos, hpos, rfl, rfl⟩ := hrel
            by_cases hp : pos < wd.size
            · have hdg := HDG.out pos hp
              have hnx : ∀ ty, (Instr.next (.pointer (some ⟨W1.heap.size, 0, none⟩)) true ty).run Tryz.prog (W1.iter wd pos) = _ := fun ty => run_next_ascii W1 wd pos ty hp (by omega)
              have hx2 := rfw_le wd pos
              have hba := byte_at wd pos hp
              obtain ⟨c, hc⟩ : ∃ c, wd[pos].toNat = 48 + c := ⟨wd[pos].toNat - 48, by omega⟩
              have hci : (wd[pos].toNat : Int) = 48 + (c : Int) := by omega
              have hc9 : c ≤ 9 := by omega
              by_cases hl : rfw wd pos < 1000
              · have HN : Hid (rfw wd (pos + 1) = 10 * rfw wd pos + c) := Lib.hid (by
                  show (if _ then _ else _) = _
                  rw [if_pos hl, hba]; omega)
                have hli : (rfw wd pos : Int) < 1000 := by omega
                clear hdg hba hc
                generalize rfw wd pos = x at hx2 hl hli HN ⊢
                go_wp2_with fail
                go_roundw
                case rel => exact ⟨pos + 1, by omega, rfl, congrArg (Value.int .i64) (by rw [HN.out]; omega)⟩
                case measure => simp <;> omega
              · have HN : Hid (rfw wd (pos + 1) = rfw wd pos) := Lib.hid (by
                  show (if _ then _ else _) = _
                  rw [if_neg hl])
                have hli : ¬ ((rfw wd pos : Int) < 1000) := by omega
                clear hdg hba hc
                generalize rfw wd pos = x at hx2 hl hli HN ⊢
                go_wp2_with fail
                go_roundw
                case rel => exact ⟨pos + 1, by omega, rfl, congrArg (Value.int .i64) (by rw [HN.out])⟩
                case measure => simp <;> omega
            · obtain rfl : pos = K := by omega
              have hnx : ∀ ty, (Instr.next (.pointer (some ⟨W1.heap.size, 0, none⟩)) true ty).run Tryz.prog (W1.iter wd pos) = _ := fun ty => run_next_end W1 wd pos ty hp
              have hr0 : (1 : Int) ≤ (pos : Int) + 1 := by omega
              have hr1 : (pos : Int) + 1 ≤ (s.size : Int) := by omega
              have hr2 : (0 : Int) ≤ (pos : Int) + 1 := by omega
              go_upto_region 12 with fail
              have hlo2 : Below W1.heap.size W1 (W1.iter wd pos) := (Below.refl _ _).alloc (Nat.le_refl _) _
              obtain ⟨W2, hW2⟩ : ∃ W, W1.iter wd pos = W := ⟨_, rfl⟩
              rw [hW2] at hlo2 hnx ⊢
              clear hW2 hnx
              have hx2 := rfw_le wd pos
              have HRW := Lib.hid (show rfw wd pos = rfw wd wd.size by rw [hwd])
              generalize rfw wd pos = x at hx2 HRW ⊢
              go_upto_region 13 with fail
              obtain ⟨r0, hrE⟩ : ∃ r, s.extract (pos + 1) s.size = r := ⟨_, rfl⟩
              rw [hrE] at HCC ⊢
              clear hrE
              have hr0s : r0.size ≤ 2000 := by
                have h1 := congrArg List.length HCC.out.list
                rw [List.length_append, List.length_cons, size_list, size_list, size_list] at h1
                omega
              obtain ⟨B, hB1, hB0⟩ : ∃ B : Bool, (B = true → ∃ h : 0 < r0.size, r0[0].toNat = 115 ∧ rs = r0.extract 1 r0.size) ∧ (B = false → (∀ h : 0 < r0.size, r0[0].toNat ≠ 115) ∧ rs = r0) := by
                rcases HCC.out.es with h | h
                · exact ⟨true, fun _ => h, fun h => absurd h (by decide)⟩
                · exact ⟨false, fun h => absurd h (by decide), fun _ => h⟩
              have HB1 := Lib.hid hB1
              have HB0 := Lib.hid hB0
              clear hB1 hB0
              go_cut [73] (fun b wx => b = .bool B ∧ Hid (W2 = wx))
              case first =>
                cases B
                · obtain ⟨h1, -⟩ := HB0.out rfl
                  by_cases hl : 0 < r0.size
                  · have h2 := h1 hl
                    have hli : (0 : Int) < (r0.size : Int) := by omega
                    have h2i : ((r0[0].toNat : Int) == 115) = false := beq_eq_false_iff_ne.2 (by omega)
                    clear h1 h2
                    go_wp2_with fail
                    go_meet
                    exact ⟨rfl, Lib.hid rfl⟩
                  · have hli : ¬ ((0 : Int) < (r0.size : Int)) := by omega
                    clear h1
                    go_wp2_with fail
                    go_meet
                    exact ⟨rfl, Lib.hid rfl⟩
                · obtain ⟨hl, h2, -⟩ := HB1.out rfl
                  have hli : (0 : Int) < (r0.size : Int) := by omega
                  have h2i : ((r0[0].toNat : Int) == 115) = true := by rw [h2]; rfl
                  clear h2
                  go_wp2_with fail
                  go_meet
                  exact ⟨rfl, Lib.hid rfl⟩
              case rest =>
              obtain ⟨rfl, hwc⟩ := hcut
              rw [← hwc.out]
              clear hwc
              go_upto_if 73 with fail
              go_cut [0] (fun b wx => b = .string rs ∧ Hid (W2 = wx))
              case first =>
                cases B
                · obtain ⟨-, rfl⟩ := HB0.out rfl
                  go_wp2_with fail
                  go_meet
                  exact ⟨rfl, Lib.hid rfl⟩
                · obtain ⟨hl, -, rfl⟩ := HB1.out rfl
                  have hli : (1 : Int) ≤ (r0.size : Int) := by omega
                  go_wp2_with fail
                  go_meet
                  exact ⟨rfl, Lib.hid rfl⟩
              case rest =>
              obtain ⟨rfl, hwc⟩ := hcut
              rw [← hwc.out]
              clear hwc
              have hrss : rs.size ≤ 2000 := by
                rcases HCC.out.es with ⟨_, _, h⟩ | ⟨_, h⟩
                · rw [h]; simp; omega
                · rw [h]; exact hr0s
              by_cases hr2 : rs.size < 2
              · have hr2i : (rs.size : Int) < 2 := by omega
                have HV : Hid (v = bad 10) := Lib.hid (rdg_short HCC.out hr2 HR.out)
                have hbb : Below w.heap.size w W2 := HX.out.2.2.trans (hlo2.mono (by have := HX.out.2.1; omega))
                obtain ⟨r0', r1', r2', rf'⟩ := HX.out.1.below hlo2
                have rz' := World.block_lt_of_cell? W2 _ r0'
                go_wp2_with fail
                exact bodyPost_ret (v := bad 10) (by simp [bad, results, Tryz.results40, go_sem, r0', r1', r2', rf', rz']) rfl ⟨by rw [HV.out], by (repeat (first | exact hbb | exact Nat.le_refl _ | refine Below.setCell ?_ ?_ _)) <;> (first | omega | (simp <;> omega))⟩
              · have hr2i : ¬ ((rs.size : Int) < 2) := by omega
                have hrs0 : 0 < rs.size := by omega
                have hi1 := ins_map W2 #[] 0 98 (.int .i64 1) rfl
                have hi2 := ins_map W2 #[⟨.int .u8 98, .int .i64 1, 0⟩] 1 111 (.int .i64 3) rfl
                have hi3 := ins_map W2 #[⟨.int .u8 98, .int .i64 1, 0⟩, ⟨.int .u8 111, .int .i64 3, 1⟩] 2 104 (.int .i64 4) rfl
                have hi4 := ins_map W2 #[⟨.int .u8 98, .int .i64 1, 0⟩, ⟨.int .u8 111, .int .i64 3, 1⟩, ⟨.int .u8 104, .int .i64 4, 2⟩] 3 100 (.int .i64 99) rfl
                have hlk := look_map W2 (rs[0].toNat : Int)
                simp only [bases] at hlk
                have hrsi : (0 : Int) < (rs.size : Int) := by omega
                go_upto_region 17 with fail
                go_upto_region 18 with fail
                have hlo3 := hlo2.trans ((((Below.refl W2.heap.size W2).alloc (Nat.le_refl _) (.map #[⟨.int .u8 98, .int .i64 1, 0⟩, ⟨.int .u8 111, .int .i64 3, 1⟩, ⟨.int .u8 104, .int .i64 4, 2⟩, ⟨.int .u8 100, .int .i64 99, 3⟩] 4)).mono hlo2.size))
                obtain ⟨W3, hW3⟩ : ∃ W, W2.alloc (.map #[⟨.int .u8 98, .int .i64 1, 0⟩, ⟨.int .u8 111, .int .i64 3, 1⟩, ⟨.int .u8 104, .int .i64 4, 2⟩, ⟨.int .u8 100, .int .i64 99, 3⟩] 4) = W := ⟨_, rfl⟩
                rw [hW3] at hlo3 ⊢
                clear hW3 hi1 hi2 hi3 hi4 hlk hmm
                have hmz := mz_of rs[0].toNat
                have hr1i : (1 : Int) ≤ (rs.size : Int) := by omega
                have hdsz : (rs.extract 1 rs.size).size = rs.size - 1 := by simp
                have hwp : 0 < x := by
                  rw [HRW.out]
                  refine rfw_pos ?_ _ HCC.out.w0
                  have hw0 : 0 < wd.size := HCC.out.w0
                  rw [byte_at wd 0 hw0]
                  have h1 := (HDG.out 0 hw0).1
                  have h2 : wd[0].toNat ≠ 48 := by
                    obtain ⟨h, e⟩ := wd_at (K := wd.size) (s := s) (q := 0) (by have := HCC.out.lt; omega) (by rw [← HCC.out.ew]; exact hw0)
                    have e2 : wd[0] = s[0] := by
                      rw [← e]
                      congr 1
                      exact HCC.out.ew
                    rw [e2]
                    exact HCC.out.nz h
                  omega
                have hnx : wid wd = x ∨ (64 < wid wd ∧ 64 < x) := by
                  rw [HRW.out]
                  exact rfw_wid (fun k hk => by rw [byte_at wd k hk]; exact dv_dig (HDG.out k hk)) wd.size (Nat.le_refl _)
                have HNX := Lib.hid hnx
                have HDZ := Lib.hid hdsz
                clear hnx hdsz
                rcases HR.out.inv HCC.out with ⟨h, _⟩ | ⟨hr, h⟩
                · omega
                · rcases h with ⟨hb, hd0, hv⟩ | ⟨hb, hA⟩ | ⟨hb, hd0, hA⟩
                  · have HV := Lib.hid hv
                    rw [if_neg hb, hd0] at hmz
                    rw [hmz]
                    clear hv hb hd0 hmz
                    have hbb : Below w.heap.size w W3 := HX.out.2.2.trans (hlo3.mono (by have := HX.out.2.1; omega))
                    obtain ⟨r0', r1', r2', rf'⟩ := HX.out.1.below hlo3
                    have rz' := World.block_lt_of_cell? W3 _ r0'
                    go_wp2_with fail
                    exact bodyPost_ret (v := bad 10) (by simp [bad, results, Tryz.results40, go_sem, r0', r1', r2', rf', rz']) rfl ⟨by rw [HV.out], by (repeat (first | exact hbb | exact Nat.le_refl _ | refine Below.setCell ?_ ?_ _)) <;> (first | omega | (simp <;> omega))⟩
                  · rw [if_pos hb] at hmz
                    rw [hmz]
                    clear hb hmz
                    obtain ⟨va, vb, vc, ve, hvf⟩ := deca_form hA
                    have HV := Lib.hid hvf
                    have cD := Lib.hid fun w' => ref_dec hA hwp (by omega) HNX.out (by rw [HDZ.out]; omega) w'
                    rw [hvf] at cD
                    clear hvf hA
                    go_wp2_with fail
                    refine (cD.out _).mono ?_
                    rintro e w4 ⟨rfl, hb4⟩
                    have hlo4 := hlo3.trans (hb4.mono hlo3.size)
                    have hbb : Below w.heap.size w w4 := HX.out.2.2.trans (hlo4.mono (by have := HX.out.2.1; omega))
                    obtain ⟨r0', r1', r2', rf'⟩ := HX.out.1.below hlo4
                    have rz' := World.block_lt_of_cell? w4 _ r0'
                    go_wp2_with fail
                    exact bodyPost_ret (v := .tuple #[.agg #[.int .i64 va, .int .u64 vb, .int .u64 vc], .int .i64 ve]) (by simp [bad, results, Tryz.results40, go_sem, r0', r1', r2', rf', rz']) rfl ⟨by rw [HV.out], by (repeat (first | exact hbb | exact Nat.le_refl _ | refine Below.setCell ?_ ?_ _)) <;> (first | omega | (simp <;> omega))⟩
                  · rw [if_neg hb] at hmz
                    rw [hmz]
                    have hdz : 1 ≤ dw rs[0].toNat ∧ dw rs[0].toNat ≤ 4 := by
                      refine ⟨by omega, ?_⟩
                      unfold dw
                      repeat' split
                      all_goals omega
                    obtain ⟨hz1, hz2⟩ := hdz
                    clear hb hmz hd0
                    obtain ⟨z, hz⟩ : ∃ z, dw rs[0].toNat = z := ⟨_, rfl⟩
                    rw [hz] at hA hz1 hz2 ⊢
                    clear hz
                    have hzi : ((z : Int) == 0) = false := beq_eq_false_iff_ne.2 (by omega)
                    have hzj : ((z : Int) == 99) = false := beq_eq_false_iff_ne.2 (by omega)
                    obtain ⟨va, vb, vc, ve, hvf⟩ := diga_form hA
                    have HV := Lib.hid hvf
                    have cD := Lib.hid fun w' => ref_dig hA hwp (by omega) HNX.out hz1 hz2 (by rw [HDZ.out]; omega) (by rw [HDZ.out]; omega) w'
                    rw [hvf] at cD
                    clear hvf hA
                    go_wp2_with fail
                    refine (cD.out _).mono ?_
                    rintro e w4 ⟨rfl, hb4⟩
                    have hlo4 := hlo3.trans (hb4.mono hlo3.size)
                    have hbb : Below w.heap.size w w4 := HX.out.2.2.trans (hlo4.mono (by have := HX.out.2.1; omega))
                    obtain ⟨r0', r1', r2', rf'⟩ := HX.out.1.below hlo4
                    have rz' := World.block_lt_of_cell? w4 _ r0'
                    go_wp2_with fail
                    exact bodyPost_ret (v := .tuple #[.agg #[.int .i64 va, .int .u64 vb, .int .u64 vc], .int .i64 ve]) (by simp [bad, results, Tryz.results40, go_sem, r0', r1', r2', rf', rz']) rfl ⟨by rw [HV.out], by (repeat (first | exact hbb | exact Nat.le_refl _ | refine Below.setCell ?_ ?_ _)) <;> (first | omega | (simp <;> omega))⟩
        · have hqi : ((s[K].toNat : Int) == 39) = false := beq_eq_false_iff_ne.2 (by omega)
          have HV : Hid (v = bad 10) := Lib.hid (rdg_bad (fun wd r0 rs h => by have e := cutt_K h hd.out hst.out; have h2 := h.q h.lt; subst e; exact hq h2) HR.out)
          clear hq hKs hz hst hd
          have hbb : Below w.heap.size w W1 := HX.out.2.2.trans (hlo.mono (by have := HX.out.2.1; omega))
          obtain ⟨r0, r1, r2, rf⟩ := HX.out.1.below hlo
          have rz := World.block_lt_of_cell? W1 _ r0
          go_wp2_with fail
          exact bodyPost_ret (v := bad 10) (by simp [bad, results, Tryz.results40, go_sem, r0, r1, r2, rf, rz]) rfl ⟨by rw [HV.out], by (repeat (first | exact hbb | exact Nat.le_refl _ | refine Below.setCell ?_ ?_ _)) <;> (first | omega | (simp <;> omega))⟩
end Go.Proofs.YtfnkablbcalclaaGreatDoor
