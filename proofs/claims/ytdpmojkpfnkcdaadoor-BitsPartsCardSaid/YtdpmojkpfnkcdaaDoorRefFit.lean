/- The reference's Fit. -/
import Derived.Test.YtdpmojkpfnkcdaaDoorRefs
import Derived.Lib.QuietBelow
namespace Go.Proofs.YtdpmojkpfnkcdaaDoor
open Go Go.RowKit
set_option linter.unusedVariables false
def fitB (kind : Int) (x y : UInt8) : Bool :=
  if kind = 0 then x == y else if kind = 1 then x == 122 || y == 122 || x == y else x == 122 || y == 122 || x == 120 || y == 120 || x == y
def fitL (kind : Int) (l m : List UInt8) : Bool := (l.zip m).all fun p => fitB kind p.1 p.2
theorem fitL_out {kind : Int} {l m : List UInt8} {k : Nat} (h : k < l.length) (h' : k < m.length) (hf : fitB kind l[k] m[k] = false) : fitL kind l m = false := by
  unfold fitL
  apply List.all_eq_false.2
  have hz : k < (l.zip m).length := by rw [List.length_zip]; omega
  refine ⟨(l.zip m)[k], List.getElem_mem hz, ?_⟩
  rw [List.getElem_zip]
  simp [hf]
theorem fitL_snoc {kind : Int} {l m : List UInt8} {k : Nat} (h : k < l.length) (h' : k < m.length) (h0 : fitL kind (l.take k) (m.take k) = true) (hf : fitB kind l[k] m[k] = true) : fitL kind (l.take (k + 1)) (m.take (k + 1)) = true := by
  unfold fitL at h0 ⊢
  rw [List.take_succ_eq_append_getElem h, List.take_succ_eq_append_getElem h', List.zip_append (by rw [List.length_take, List.length_take]; omega), List.all_append, h0]
  simp [hf]
set_option maxRecDepth 100000 in
set_option maxHeartbeats 3200000 in
theorem refFit_any (kind : Int) (v u : Value) (l m : List UInt8) (hlm : l.length = m.length) (hl : l.length ≤ 1000000) (hk : kind = 0 ∨ kind = 1 ∨ kind = 2) (w : World) (h : Row8 w v l) (h' : Row8 w u m) :
    Calls Tryd.prog 25 #[v, u, .int .i64 kind] w fun e w' => e = .returned (.bool (fitL kind l m)) ∧ Below w.heap.size w w' := by
  obtain ⟨a, cap, rfl, h0⟩ := h.sh
  obtain ⟨b, capb, rfl, h0b⟩ := h'.sh
  have H0 := Lib.hid h0
  have H0b := Lib.hid h0b
  clear h h0 h' h0b
  generalize hn : l.length = n at hl hlm ⊢
  have HM := Lib.hid hlm.symm
  rw [← hlm]
  have HN := Lib.hid hn
  clear hn hlm
  rcases hk with rfl | rfl | rfl
  · go_enter Tryd.func25, Tryd.ntmps25
    go_wp2_with fail
    go_loopw [21] (fun i wr => ∃ k : Nat, k ≤ n ∧ i = .int .i64 k ∧ Hid (fitL 0 (l.take k) (m.take k) = true) ∧ Below w.heap.size w wr) (fun i _ => n - (intOf i).toNat)
    case atStart => exact ⟨0, Nat.zero_le _, rfl, rfl, Below.refl _ _⟩
    case round =>
      obtain ⟨k, hk, rfl, hz, hlo⟩ := hrel
      by_cases hlt : k < n
      · have hkl : k < l.length := by rw [HN.out]; exact hlt
        have hkm : k < m.length := by rw [HM.out]; exact hlt
        obtain ⟨bl, off, rfl, hc⟩ := Row8.nth (cap := cap) (n := n) H0.out hkl
        obtain ⟨bm, ofm, rfl, hcm⟩ := Row8.nth (cap := capb) (n := n) H0b.out hkm
        have hk0 : (0 : Int) ≤ (k : Int) := by omega
        have hk1 : (k : Int) < (n : Int) := by omega
        have HS := fun hf => Lib.hid (fitL_snoc (kind := 0) hkl hkm hz.out hf)
        have HO := fun hf => Lib.hid (fitL_out (kind := 0) hkl hkm hf)
        generalize l[k] = x at hc HS HO
        generalize m[k] = y at hcm HS HO
        have pc := ((bcell hlo).1 _ _ (World.block_lt_of_cell? w _ hc)).trans hc
        have pcm := ((bcell hlo).1 _ _ (World.block_lt_of_cell? w _ hcm)).trans hcm
        clear hc hcm hz
        have rc := cell_regrown pc
        have rcm := cell_regrown pcm
        by_cases he : x = y
        · have te : ((x.toNat : Int) != (y.toNat : Int)) = false := by rw [he]; simp
          replace HS := HS (by simp [fitB, he])
          clear HO
          go_wp2_with fail
          refine wp_region_quiet_below (by kernel_rfl) (by kernel_rfl) ?_
          repeat (quiet_step (fail))
          refine wpQuiet_nil ?_
          intro _ hw'
          obtain ⟨⟨dq, osq⟩, hw''⟩ := hw'
          subst hw''
          have hb3 := hlo.trans ((below_regrown _ dq osq).mono hlo.size)
          go_wp2_with fail
          go_round
          case rel => exact ⟨k + 1, by omega, by go_num, HS, hb3⟩
          case measure => simp [intOf]; omega
        · have te : ((x.toNat : Int) != (y.toNat : Int)) = true := bne_iff_ne.2 (fun e => he (UInt8.toNat_inj.1 (Int.ofNat_inj.1 e)))
          replace HO := HO (by simp [fitB, he])
          clear HS
          go_wp2_with fail
          refine wp_region_quiet_below (by kernel_rfl) (by kernel_rfl) ?_
          repeat (quiet_step (fail))
          refine wpQuiet_nil ?_
          intro _ hw'
          obtain ⟨⟨dq, osq⟩, hw''⟩ := hw'
          subst hw''
          have hb3 := hlo.trans ((below_regrown _ dq osq).mono hlo.size)
          go_wp2_with fail
          go_ret
          exact ⟨ret_bool HO.out.symm, hb3⟩
      · have HF : Hid (fitL 0 l m = true) := by
          have := hz.out
          rw [List.take_of_length_le (by rw [HN.out]; omega), List.take_of_length_le (by rw [HM.out]; omega)] at this; exact this
        go_wp2_with fail
        go_ret
        exact ⟨ret_bool HF.out.symm, hlo⟩
  · go_enter Tryd.func25, Tryd.ntmps25
    go_wp2_with fail
    go_loopw [21] (fun i wr => ∃ k : Nat, k ≤ n ∧ i = .int .i64 k ∧ Hid (fitL 1 (l.take k) (m.take k) = true) ∧ Below w.heap.size w wr) (fun i _ => n - (intOf i).toNat)
    case atStart => exact ⟨0, Nat.zero_le _, rfl, rfl, Below.refl _ _⟩
    case round =>
      obtain ⟨k, hk, rfl, hz, hlo⟩ := hrel
      by_cases hlt : k < n
      · have hkl : k < l.length := by rw [HN.out]; exact hlt
        have hkm : k < m.length := by rw [HM.out]; exact hlt
        obtain ⟨bl, off, rfl, hc⟩ := Row8.nth (cap := cap) (n := n) H0.out hkl
        obtain ⟨bm, ofm, rfl, hcm⟩ := Row8.nth (cap := capb) (n := n) H0b.out hkm
        have hk0 : (0 : Int) ≤ (k : Int) := by omega
        have hk1 : (k : Int) < (n : Int) := by omega
        have HS := fun hf => Lib.hid (fitL_snoc (kind := 1) hkl hkm hz.out hf)
        have HO := fun hf => Lib.hid (fitL_out (kind := 1) hkl hkm hf)
        generalize l[k] = x at hc HS HO
        generalize m[k] = y at hcm HS HO
        have pc := ((bcell hlo).1 _ _ (World.block_lt_of_cell? w _ hc)).trans hc
        have pcm := ((bcell hlo).1 _ _ (World.block_lt_of_cell? w _ hcm)).trans hcm
        clear hc hcm hz
        have rc := cell_regrown pc
        have rcm := cell_regrown pcm
        by_cases hx122 : x = 122
        · have thx122 : ((x.toNat : Int) == 122) = true := by rw [hx122]; rfl
          replace HS := HS (by simp [fitB, hx122])
          clear HO
          go_wp2_with fail
          clear rc rcm
          go_region
          go_wp2_with fail
          go_round
          case rel => exact ⟨k + 1, by omega, by go_num, HS, by (repeat (first | (with_reducible exact hlo) | (with_reducible exact Nat.le_refl _) | (with_reducible refine below_drewN ?_ _) | (with_reducible refine Below.drew ?_))) <;> (first | exact hlo.size | omega | (simp <;> omega))⟩
          case measure => simp [intOf]; omega
        have thx122 : ((x.toNat : Int) == 122) = false := beq_eq_false_iff_ne.2 (fun e => hx122 (UInt8.toNat_inj.1 (by simpa using Int.ofNat_inj.1 e)))
        by_cases hy122 : y = 122
        · have thy122 : ((y.toNat : Int) == 122) = true := by rw [hy122]; rfl
          replace HS := HS (by simp [fitB, hy122])
          clear HO
          go_wp2_with fail
          clear rc rcm
          go_region
          go_wp2_with fail
          go_round
          case rel => exact ⟨k + 1, by omega, by go_num, HS, by (repeat (first | (with_reducible exact hlo) | (with_reducible exact Nat.le_refl _) | (with_reducible refine below_drewN ?_ _) | (with_reducible refine Below.drew ?_))) <;> (first | exact hlo.size | omega | (simp <;> omega))⟩
          case measure => simp [intOf]; omega
        have thy122 : ((y.toNat : Int) == 122) = false := beq_eq_false_iff_ne.2 (fun e => hy122 (UInt8.toNat_inj.1 (by simpa using Int.ofNat_inj.1 e)))
        by_cases he : x = y
        · have te : ((x.toNat : Int) != (y.toNat : Int)) = false := by rw [he]; simp
          replace HS := HS (by simp [fitB, he])
          clear HO
          go_wp2_with fail
          refine wp_region_quiet_below (by kernel_rfl) (by kernel_rfl) ?_
          repeat (quiet_step (fail))
          refine wpQuiet_nil ?_
          intro _ hw'
          obtain ⟨⟨dq, osq⟩, hw''⟩ := hw'
          subst hw''
          have hb3 := hlo.trans ((below_regrown _ dq osq).mono hlo.size)
          go_wp2_with fail
          go_round
          case rel => exact ⟨k + 1, by omega, by go_num, HS, hb3⟩
          case measure => simp [intOf]; omega
        · have te : ((x.toNat : Int) != (y.toNat : Int)) = true := bne_iff_ne.2 (fun e => he (UInt8.toNat_inj.1 (Int.ofNat_inj.1 e)))
          replace HO := HO (by simp [fitB, he, hx122, hy122])
          clear HS
          go_wp2_with fail
          refine wp_region_quiet_below (by kernel_rfl) (by kernel_rfl) ?_
          repeat (quiet_step (fail))
          refine wpQuiet_nil ?_
          intro _ hw'
          obtain ⟨⟨dq, osq⟩, hw''⟩ := hw'
          subst hw''
          have hb3 := hlo.trans ((below_regrown _ dq osq).mono hlo.size)
          go_wp2_with fail
          go_ret
          exact ⟨ret_bool HO.out.symm, hb3⟩
      · have HF : Hid (fitL 1 l m = true) := by
          have := hz.out
          rw [List.take_of_length_le (by rw [HN.out]; omega), List.take_of_length_le (by rw [HM.out]; omega)] at this; exact this
        go_wp2_with fail
        go_ret
        exact ⟨ret_bool HF.out.symm, hlo⟩
  · go_enter Tryd.func25, Tryd.ntmps25
    go_wp2_with fail
    go_loopw [21] (fun i wr => ∃ k : Nat, k ≤ n ∧ i = .int .i64 k ∧ Hid (fitL 2 (l.take k) (m.take k) = true) ∧ Below w.heap.size w wr) (fun i _ => n - (intOf i).toNat)
    case atStart => exact ⟨0, Nat.zero_le _, rfl, rfl, Below.refl _ _⟩
    case round =>
      obtain ⟨k, hk, rfl, hz, hlo⟩ := hrel
      by_cases hlt : k < n
      · have hkl : k < l.length := by rw [HN.out]; exact hlt
        have hkm : k < m.length := by rw [HM.out]; exact hlt
        obtain ⟨bl, off, rfl, hc⟩ := Row8.nth (cap := cap) (n := n) H0.out hkl
        obtain ⟨bm, ofm, rfl, hcm⟩ := Row8.nth (cap := capb) (n := n) H0b.out hkm
        have hk0 : (0 : Int) ≤ (k : Int) := by omega
        have hk1 : (k : Int) < (n : Int) := by omega
        have HS := fun hf => Lib.hid (fitL_snoc (kind := 2) hkl hkm hz.out hf)
        have HO := fun hf => Lib.hid (fitL_out (kind := 2) hkl hkm hf)
        generalize l[k] = x at hc HS HO
        generalize m[k] = y at hcm HS HO
        have pc := ((bcell hlo).1 _ _ (World.block_lt_of_cell? w _ hc)).trans hc
        have pcm := ((bcell hlo).1 _ _ (World.block_lt_of_cell? w _ hcm)).trans hcm
        clear hc hcm hz
        have rc := cell_regrown pc
        have rcm := cell_regrown pcm
        by_cases hx122 : x = 122
        · have thx122 : ((x.toNat : Int) == 122) = true := by rw [hx122]; rfl
          replace HS := HS (by simp [fitB, hx122])
          clear HO
          go_wp2_with fail
          clear rc rcm
          go_region
          go_wp2_with fail
          go_round
          case rel => exact ⟨k + 1, by omega, by go_num, HS, by (repeat (first | (with_reducible exact hlo) | (with_reducible exact Nat.le_refl _) | (with_reducible refine below_drewN ?_ _) | (with_reducible refine Below.drew ?_))) <;> (first | exact hlo.size | omega | (simp <;> omega))⟩
          case measure => simp [intOf]; omega
        have thx122 : ((x.toNat : Int) == 122) = false := beq_eq_false_iff_ne.2 (fun e => hx122 (UInt8.toNat_inj.1 (by simpa using Int.ofNat_inj.1 e)))
        by_cases hy122 : y = 122
        · have thy122 : ((y.toNat : Int) == 122) = true := by rw [hy122]; rfl
          replace HS := HS (by simp [fitB, hy122])
          clear HO
          go_wp2_with fail
          clear rc rcm
          go_region
          go_wp2_with fail
          go_round
          case rel => exact ⟨k + 1, by omega, by go_num, HS, by (repeat (first | (with_reducible exact hlo) | (with_reducible exact Nat.le_refl _) | (with_reducible refine below_drewN ?_ _) | (with_reducible refine Below.drew ?_))) <;> (first | exact hlo.size | omega | (simp <;> omega))⟩
          case measure => simp [intOf]; omega
        have thy122 : ((y.toNat : Int) == 122) = false := beq_eq_false_iff_ne.2 (fun e => hy122 (UInt8.toNat_inj.1 (by simpa using Int.ofNat_inj.1 e)))
        by_cases hx120 : x = 120
        · have thx120 : ((x.toNat : Int) == 120) = true := by rw [hx120]; rfl
          replace HS := HS (by simp [fitB, hx120])
          clear HO
          go_wp2_with fail
          clear rc rcm
          go_region
          go_wp2_with fail
          go_round
          case rel => exact ⟨k + 1, by omega, by go_num, HS, by (repeat (first | (with_reducible exact hlo) | (with_reducible exact Nat.le_refl _) | (with_reducible refine below_drewN ?_ _) | (with_reducible refine Below.drew ?_))) <;> (first | exact hlo.size | omega | (simp <;> omega))⟩
          case measure => simp [intOf]; omega
        have thx120 : ((x.toNat : Int) == 120) = false := beq_eq_false_iff_ne.2 (fun e => hx120 (UInt8.toNat_inj.1 (by simpa using Int.ofNat_inj.1 e)))
        by_cases hy120 : y = 120
        · have thy120 : ((y.toNat : Int) == 120) = true := by rw [hy120]; rfl
          replace HS := HS (by simp [fitB, hy120])
          clear HO
          go_wp2_with fail
          clear rc rcm
          go_region
          go_wp2_with fail
          go_round
          case rel => exact ⟨k + 1, by omega, by go_num, HS, by (repeat (first | (with_reducible exact hlo) | (with_reducible exact Nat.le_refl _) | (with_reducible refine below_drewN ?_ _) | (with_reducible refine Below.drew ?_))) <;> (first | exact hlo.size | omega | (simp <;> omega))⟩
          case measure => simp [intOf]; omega
        have thy120 : ((y.toNat : Int) == 120) = false := beq_eq_false_iff_ne.2 (fun e => hy120 (UInt8.toNat_inj.1 (by simpa using Int.ofNat_inj.1 e)))
        by_cases he : x = y
        · have te : ((x.toNat : Int) != (y.toNat : Int)) = false := by rw [he]; simp
          replace HS := HS (by simp [fitB, he])
          clear HO
          go_wp2_with fail
          refine wp_region_quiet_below (by kernel_rfl) (by kernel_rfl) ?_
          repeat (quiet_step (fail))
          refine wpQuiet_nil ?_
          intro _ hw'
          obtain ⟨⟨dq, osq⟩, hw''⟩ := hw'
          subst hw''
          have hb3 := hlo.trans ((below_regrown _ dq osq).mono hlo.size)
          go_wp2_with fail
          go_round
          case rel => exact ⟨k + 1, by omega, by go_num, HS, hb3⟩
          case measure => simp [intOf]; omega
        · have te : ((x.toNat : Int) != (y.toNat : Int)) = true := bne_iff_ne.2 (fun e => he (UInt8.toNat_inj.1 (Int.ofNat_inj.1 e)))
          replace HO := HO (by simp [fitB, he, hx122, hy122, hx120, hy120])
          clear HS
          go_wp2_with fail
          refine wp_region_quiet_below (by kernel_rfl) (by kernel_rfl) ?_
          repeat (quiet_step (fail))
          refine wpQuiet_nil ?_
          intro _ hw'
          obtain ⟨⟨dq, osq⟩, hw''⟩ := hw'
          subst hw''
          have hb3 := hlo.trans ((below_regrown _ dq osq).mono hlo.size)
          go_wp2_with fail
          go_ret
          exact ⟨ret_bool HO.out.symm, hb3⟩
      · have HF : Hid (fitL 2 l m = true) := by
          have := hz.out
          rw [List.take_of_length_le (by rw [HN.out]; omega), List.take_of_length_le (by rw [HM.out]; omega)] at this; exact this
        go_wp2_with fail
        go_ret
        exact ⟨ret_bool HF.out.symm, hlo⟩
set_option maxRecDepth 100000 in
set_option maxHeartbeats 800000 in
theorem refFit_no (kind : Int) (v u : Value) (h0 : (kind != 0) = true) (h1 : (kind != 1) = true) (h2 : (kind != 2) = true) (w : World) :
    Calls Tryd.prog 25 #[v, u, .int .i64 kind] w fun e w' => e = .returned (.bool false) ∧ Below w.heap.size w w' := by
  go_enter Tryd.func25, Tryd.ntmps25
  go_wp2_with fail
  go_ret
  exact ⟨rfl, Below.refl _ _⟩
end Go.Proofs.YtdpmojkpfnkcdaaDoor
