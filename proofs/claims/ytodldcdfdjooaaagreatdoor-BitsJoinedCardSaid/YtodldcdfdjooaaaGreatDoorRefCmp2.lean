/- The reference's Compared and below. No condition but lengths. -/
import Derived.Test.YtodldcdfdjooaaaGreatDoorRefCmp
import Derived.Test.YtodldcdfdjooaaaGreatDoorRefParts
namespace Go.Proofs.YtodldcdfdjooaaaGreatDoor
open Go Go.RowKit Go.Sort
set_option linter.unusedVariables false
theorem Row8.le {w : World} {a : Option Addr} {n cap : Nat} {l : List UInt8} (h : Row8 w (.slice a n cap) l) : n ≤ cap := h.cp _ _ _ rfl
theorem cmpF_ux {o : Nat} {x y : UInt8} (h : kn1 x = false) : cmpF o x y = if o = 116 then 117 else o := by unfold cmpF; rw [h]; rfl
theorem cmpF_uy {o : Nat} {x y : UInt8} (h : kn1 y = false) : cmpF o x y = if o = 116 then 117 else o := by unfold cmpF; rw [h, Bool.and_false]; rfl
theorem cmpF_eq {o : Nat} {x y : UInt8} (h : kn1 x = true) (k : kn1 y = true) (e : x = y) : cmpF o x y = o := by unfold cmpF; rw [h, k, Bool.and_self, if_pos rfl, if_pos e]
theorem cmpF_ne {o : Nat} {x y : UInt8} (h : kn1 x = true) (k : kn1 y = true) (e : x ≠ y) : cmpF o x y = 102 := by unfold cmpF; rw [h, k, Bool.and_self, if_pos rfl, if_neg e]
set_option maxRecDepth 100000 in
set_option maxHeartbeats 4000000 in
theorem compared_is (v u : Value) (l m : List UInt8) (hlm : l.length = m.length) (hl : l.length ≤ 1000000) (w : World) (h : Row8 w v l) (h' : Row8 w u m) :
    Calls Tryz.prog 87 #[v, u] w fun e w' => e = .returned (.int .u8 (cmpK l m l.length : Nat)) ∧ Below w.heap.size w w' := by
  obtain ⟨a, cap, rfl, h0⟩ := id h.sh
  obtain ⟨b, capb, rfl, h0b⟩ := id h'.sh
  have hca := h.le
  have hcb := h'.le
  have H0 := Lib.hid h0
  have H0b := Lib.hid h0b
  clear h h0 h' h0b
  generalize hn : l.length = n at hl hlm hca ⊢
  have HM := Lib.hid hlm.symm
  rw [← hlm] at hcb ⊢
  have HN := Lib.hid hn
  clear hn hlm
  go_enter Tryz.func87, Tryz.ntmps87
  go_wp2_with fail
  go_loopw [5, 9] (fun s5 s9 wr => ∃ k : Nat, k ≤ n ∧ s9 = .int .i64 k ∧ s5 = .int .u8 (cmpK l m k : Nat) ∧ Below w.heap.size w wr) (fun _ s9 _ => n - (intOf s9).toNat)
  case atStart => exact ⟨0, Nat.zero_le _, rfl, rfl, Below.refl _ _⟩
  case round =>
    obtain ⟨k, hk, rfl, rfl, hlo⟩ := hrel
    by_cases hlt : k < n
    · have hkl : k < l.length := by rw [HN.out]; exact hlt
      have hkm : k < m.length := by rw [HM.out]; exact hlt
      obtain ⟨bl, off, rfl, hc⟩ := Row8.nth (cap := cap) (n := n) H0.out hkl
      obtain ⟨bm, ofm, rfl, hcm⟩ := Row8.nth (cap := capb) (n := n) H0b.out hkm
      have pc := ((bcell hlo).1 _ _ (World.block_lt_of_cell? w _ hc)).trans hc
      have pcm := ((bcell hlo).1 _ _ (World.block_lt_of_cell? w _ hcm)).trans hcm
      have HC := Lib.hid (show cmpK l m (k + 1) = cmpF (cmpK l m k) l[k] m[k] from by rw [← getD_at hkl, ← getD_at hkm]; rfl)
      have hk0 : (0 : Int) ≤ (k : Int) := by omega
      have hk1 : (k : Int) < (n : Int) := by omega
      have hk2 : (k : Int) ≤ (k : Int) + 1 := by omega
      have hk3 : (k : Int) + 1 ≤ (cap : Int) := by omega
      have hk4 : (k : Int) + 1 ≤ (capb : Int) := by omega
      clear hc hcm
      generalize l[k] = x at pc HC
      generalize m[k] = y at pcm HC
      generalize cmpK l m k = o at HC ⊢
      cases hx : kn1 x
      · have HX := Lib.hid hx
        rw [cmpF_ux hx] at HC
        have cx := Lib.hid fun (c : Nat) (hc : 1 ≤ c) => known_sub hc false hx pc
        clear hx
        by_cases h16 : o = 116
        · subst h16
          rw [if_pos rfl] at HC
          go_wp2_with fail
          refine (cx.out _ (by omega)).mono ?_
          rintro e w1 ⟨rfl, rfl⟩
          go_wp2_with fail
          go_roundw
          case rel => exact ⟨k + 1, by omega, by go_num, by rw [HC.out]; rfl, hlo⟩
          case measure => simp [intOf]; omega
        · rw [if_neg h16] at HC
          have t16 : ((o : Int) == 116) = false := beq_eq_false_iff_ne.2 (fun e => h16 (by omega))
          clear h16
          go_wp2_with fail
          refine (cx.out _ (by omega)).mono ?_
          rintro e w1 ⟨rfl, rfl⟩
          go_wp2_with fail
          go_roundw
          case rel => exact ⟨k + 1, by omega, by go_num, by rw [HC.out], hlo⟩
          case measure => simp [intOf]; omega
      have cx := Lib.hid fun (c : Nat) (hc : 1 ≤ c) => known_sub hc true hx pc
      cases hy : kn1 y
      · rw [cmpF_uy hy] at HC
        have cy := Lib.hid fun (c : Nat) (hc : 1 ≤ c) => known_sub hc false hy pcm
        clear hx hy
        by_cases h16 : o = 116
        · subst h16
          rw [if_pos rfl] at HC
          go_wp2_with fail
          refine (cx.out _ (by omega)).mono ?_
          rintro e w1 ⟨rfl, rfl⟩
          go_wp2_with fail
          refine (cy.out _ (by omega)).mono ?_
          rintro e w1 ⟨rfl, rfl⟩
          go_wp2_with fail
          go_roundw
          case rel => exact ⟨k + 1, by omega, by go_num, by rw [HC.out]; rfl, hlo⟩
          case measure => simp [intOf]; omega
        · rw [if_neg h16] at HC
          have t16 : ((o : Int) == 116) = false := beq_eq_false_iff_ne.2 (fun e => h16 (by omega))
          clear h16
          go_wp2_with fail
          refine (cx.out _ (by omega)).mono ?_
          rintro e w1 ⟨rfl, rfl⟩
          go_wp2_with fail
          refine (cy.out _ (by omega)).mono ?_
          rintro e w1 ⟨rfl, rfl⟩
          go_wp2_with fail
          go_roundw
          case rel => exact ⟨k + 1, by omega, by go_num, by rw [HC.out], hlo⟩
          case measure => simp [intOf]; omega
      have cy := Lib.hid fun (c : Nat) (hc : 1 ≤ c) => known_sub hc true hy pcm
      obtain ⟨t, ht⟩ : ∃ t, ((x.toNat : Int) != (y.toNat : Int)) = t := ⟨_, rfl⟩
      have HR : Hid (cmpK l m (k + 1) = if t then 102 else o) := by
        by_cases e : x = y
        · rw [cmpF_eq hx hy e] at HC
          have : t = false := by rw [← ht, e]; simp
          rw [this]; exact HC
        · rw [cmpF_ne hx hy e] at HC
          have : t = true := by rw [← ht]; exact bne_iff_ne.2 (fun h => e (UInt8.toNat_inj.1 (by omega)))
          rw [this]; exact HC
      clear hx hy HC
      go_wp2_with fail
      refine (cx.out _ (by omega)).mono ?_
      rintro e w1 ⟨rfl, rfl⟩
      go_wp2_with fail
      refine (cy.out _ (by omega)).mono ?_
      rintro e w1 ⟨rfl, rfl⟩
      go_wp2_with fail
      have rc := cell_regrown pc
      have rcm := cell_regrown pcm
      refine wp_region_rel 9 (by kernel_rfl) (by kernel_rfl) ?_
      simp only [List.take_succ_cons, List.take_zero, List.drop_succ_cons, List.drop_zero]
      (refine rel_fix0 (fun K hK => ?_); go_simp; refine hK _ ?_; clear hK K)
      (refine rel_fix0 (fun K hK => ?_); go_simp; refine hK _ ?_; clear hK K)
      (refine rel_fix0 (fun K hK => ?_); go_simp; refine hK _ ?_; clear hK K)
      (refine rel_fix0 (fun K hK => ?_); go_simp; refine hK _ ?_; clear hK K)
      (refine rel_fix0 (fun K hK => ?_); go_simp; refine hK _ ?_; clear hK K)
      (refine rel_fix0 (fun K hK => ?_); go_simp; refine hK _ ?_; clear hK K)
      (refine rel_fix0 (fun K hK => ?_); go_simp; refine hK _ ?_; clear hK K)
      (refine rel_fix0 (fun K hK => ?_); go_simp; refine hK _ ?_; clear hK K)
      (refine rel_fix0 (fun K hK => ?_); go_simp; refine hK _ ?_; clear hK K)
      refine rel_nil ?_
      intro d os
      simp only [relAll]
      have hlo2 : Below w.heap.size w (grow (redrawn _ d) os) := hlo.trans ((below_regrown _ d os).mono hlo.size)
      clear rc rcm pc pcm hlo cx cy
      generalize grow (redrawn _ d) os = wd at hlo2 ⊢
      cases t
      · go_wp2_with fail
        go_roundw
        case rel => exact ⟨k + 1, by omega, by go_num, by rw [HR.out]; rfl, hlo2⟩
        case measure => simp [intOf]; omega
      · go_wp2_with fail
        go_roundw
        case rel => exact ⟨k + 1, by omega, by go_num, by rw [HR.out]; rfl, hlo2⟩
        case measure => simp [intOf]; omega
    · have hkn : k = n := by omega
      have Hkn := Lib.hid hkn
      clear hkn
      go_wp2_with fail
      go_ret
      exact ⟨ret_u8 (by rw [Hkn.out]), hlo⟩
/-- whether the first k states are those of a lesser number -/
def belK (l m : List UInt8) (s : Bool) : Nat → Bool
  | 0 => false
  | k + 1 => if l.getD k 0 = m.getD k 0 then belK l m s k else ((l.getD k 0 == 48) != (s && decide (k + 1 = l.length)))
set_option maxRecDepth 100000 in
set_option maxHeartbeats 4000000 in
theorem below_is (v u : Value) (l m : List UInt8) (s : Bool) (hlm : l.length = m.length) (hl : l.length ≤ 1000000) (w : World) (h : Row8 w v l) (h' : Row8 w u m) :
    Calls Tryz.prog 91 #[v, u, .bool s] w fun e w' => e = .returned (.bool (belK l m s l.length)) ∧ Below w.heap.size w w' := by
  obtain ⟨a, cap, rfl, h0⟩ := id h.sh
  obtain ⟨b, capb, rfl, h0b⟩ := id h'.sh
  have H0 := Lib.hid h0
  have H0b := Lib.hid h0b
  clear h h0 h' h0b
  generalize hn : l.length = n at hl hlm ⊢
  have HM := Lib.hid hlm.symm
  rw [← hlm]
  have HN := Lib.hid hn
  clear hn hlm
  obtain ⟨r, hr⟩ : ∃ r, belK l m s n = r := ⟨_, rfl⟩
  rw [hr]
  have HR := Lib.hid hr
  clear hr
  go_enter Tryz.func91, Tryz.ntmps91
  go_wp2_with fail
  go_loopw [7] (fun s7 wr => ∃ k : Nat, k ≤ n ∧ s7 = .int .i64 ((k : Int) - 1) ∧ belK l m s k = r ∧ Below w.heap.size w wr) (fun s7 _ => (intOf s7 + 1).toNat)
  case atStart => exact ⟨n, Nat.le_refl _, by first | rfl | go_num, HR.out, Below.refl _ _⟩
  case round =>
    obtain ⟨j, hj, rfl, hbj, hlo⟩ := hrel
    have HB := Lib.hid hbj
    clear hbj
    match j, hj, HB with
    | 0, hj, HB =>
      go_wp2_with fail
      go_ret
      exact ⟨by rw [← HB.out]; rfl, hlo⟩
    | k + 1, hj, HB =>
      have hkl : k < l.length := by rw [HN.out]; omega
      have hkm : k < m.length := by rw [HM.out]; omega
      obtain ⟨bl, off, rfl, hc⟩ := Row8.nth (cap := cap) (n := n) H0.out hkl
      obtain ⟨bm, ofm, rfl, hcm⟩ := Row8.nth (cap := capb) (n := n) H0b.out hkm
      have pc := ((bcell hlo).1 _ _ (World.block_lt_of_cell? w _ hc)).trans hc
      have pcm := ((bcell hlo).1 _ _ (World.block_lt_of_cell? w _ hcm)).trans hcm
      have HS := Lib.hid (show (if l[k] = m[k] then belK l m s k else ((l[k] == 48) != (s && decide (k + 1 = n)))) = r from by rw [← HB.out, ← getD_at hkl, ← getD_at hkm]; show _ = (if _ then _ else _); rw [HN.out])
      have hk0 : (0 : Int) ≤ (k : Int) := by omega
      have hk1 : (k : Int) < (n : Int) := by omega
      have ek : ((k + 1 : Nat) : Int) - 1 = (k : Int) := by omega
      rw [ek]
      clear hc hcm HB ek
      generalize l[k] = x at pc HS
      generalize m[k] = y at pcm HS
      have rc := cell_regrown pc
      have rcm := cell_regrown pcm
      obtain ⟨t, ht⟩ : ∃ t, ((x.toNat : Int) != (y.toNat : Int)) = t := ⟨_, rfl⟩
      have HS2 : Hid ((if t then ((x == 48) != (s && decide (k + 1 = n))) else belK l m s k) = r) := by
        by_cases e : x = y
        · have : t = false := by rw [← ht, e]; simp
          rw [if_pos e] at HS
          rw [this]; exact HS
        · have : t = true := by rw [← ht]; exact bne_iff_ne.2 (fun h => e (UInt8.toNat_inj.1 (by omega)))
          rw [if_neg e] at HS
          rw [this]; exact HS
      clear HS
      go_wp2_with fail
      refine wp_region_rel 9 (by kernel_rfl) (by kernel_rfl) ?_
      simp only [List.take_succ_cons, List.take_zero, List.drop_succ_cons, List.drop_zero]
      (refine rel_fix0 (fun K hK => ?_); go_simp; refine hK _ ?_; clear hK K)
      (refine rel_fix0 (fun K hK => ?_); go_simp; refine hK _ ?_; clear hK K)
      (refine rel_fix0 (fun K hK => ?_); go_simp; refine hK _ ?_; clear hK K)
      (refine rel_fix0 (fun K hK => ?_); go_simp; refine hK _ ?_; clear hK K)
      (refine rel_fix0 (fun K hK => ?_); go_simp; refine hK _ ?_; clear hK K)
      (refine rel_fix0 (fun K hK => ?_); go_simp; refine hK _ ?_; clear hK K)
      (refine rel_fix0 (fun K hK => ?_); go_simp; refine hK _ ?_; clear hK K)
      (refine rel_fix0 (fun K hK => ?_); go_simp; refine hK _ ?_; clear hK K)
      (refine rel_fix0 (fun K hK => ?_); go_simp; refine hK _ ?_; clear hK K)
      refine rel_nil ?_
      intro d os
      simp only [relAll]
      have hlo2 : Below w.heap.size w (grow (redrawn _ d) os) := hlo.trans ((below_regrown _ d os).mono hlo.size)
      have pc2 := rc d os
      clear rc rcm pc pcm hlo
      generalize grow (redrawn _ d) os = wd at hlo2 pc2 ⊢
      cases t
      · go_wp2_with fail
        go_roundw
        case rel => exact ⟨k, by omega, by go_num, HS2.out, hlo2⟩
        case measure => simp [intOf]
      · have H48 : Hid (((x.toNat : Int) == 48) = (x == 48)) := by
          refine Lib.hid ?_
          rw [Bool.eq_iff_iff, beq_iff_eq, beq_iff_eq]
          exact ⟨fun h => UInt8.toNat_inj.1 (by simpa using Int.ofNat_inj.1 h), fun h => by rw [h]; rfl⟩
        obtain ⟨t8, ht8⟩ : ∃ t8, ((x.toNat : Int) == 48) = t8 := ⟨_, rfl⟩
        rw [ht8] at H48
        obtain ⟨q, hq⟩ : ∃ q, ((k : Int) == (n : Int) - 1) = q := ⟨_, rfl⟩
        have HQ : Hid (decide (k + 1 = n) = q) := by
          refine Lib.hid ?_
          rw [← hq, Bool.eq_iff_iff, decide_eq_true_eq, beq_iff_eq]; omega
        have HF : Hid (r = (t8 != (s && q))) := by rw [← HS2.out, if_pos rfl, HQ.out, H48.out]; exact rfl
        clear HS2 H48 HQ
        cases s <;> cases q <;> cases t8 <;>
        · go_wp2_with fail
          go_ret
          exact ⟨by rw [HF.out]; rfl, hlo2⟩
end Go.Proofs.YtodldcdfdjooaaaGreatDoor
