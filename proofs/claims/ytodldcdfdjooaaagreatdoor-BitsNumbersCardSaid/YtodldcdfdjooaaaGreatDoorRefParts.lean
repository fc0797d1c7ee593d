/- The reference's functions on states: NotOf, AndOf, OrOf, XorOf; inverse, plus, minus; Count.
   The reference's functions on states: Count, Offset, Window, Stretched, Placed.
   The reference's Placed. -/
import Derived.Test.YtodldcdfdjooaaaGreatDoorEach
import Derived.Test.YtodldcdfdjooaaaGreatDoorRefB2
namespace Go.Proofs.YtodldcdfdjooaaaGreatDoor
open Go Go.RowKit Go.Sort
set_option linter.unusedVariables false
def notB (x : UInt8) : UInt8 := if x = 48 then 49 else if x = 49 then 48 else 120
def andB (x y : UInt8) : UInt8 := if x = 48 ∨ y = 48 then 48 else if x = 49 ∧ y = 49 then 49 else 120
def orB (x y : UInt8) : UInt8 := notB (andB (notB x) (notB y))
def xorB (x y : UInt8) : UInt8 := orB (andB x (notB y)) (andB (notB x) y)
set_option maxRecDepth 100000 in
set_option maxHeartbeats 800000 in
theorem notB_ok (x : UInt8) (w : World) : Calls Tryz.prog 106 #[.int .u8 (x.toNat : Int)] w fun e w' => e = .returned (.int .u8 ((notB x).toNat : Int)) ∧ w = w' := by
  have HR : Hid (notB x = if x = 48 then 49 else if x = 49 then 48 else 120) := rfl
  generalize notB x = r at HR ⊢
  by_cases h0 : x = 48
  · have t0 : ((x.toNat : Int) == 48) = true := by rw [h0]; rfl
    replace HR : Hid (r = 49) := HR.out.trans (if_pos h0)
    clear h0
    go_enter Tryz.func106, Tryz.ntmps106
    go_wp2_with fail
    go_ret
    exact ⟨ret_u8 (by rw [HR.out]; rfl), rfl⟩
  have t0 : ((x.toNat : Int) == 48) = false := beq_eq_false_iff_ne.2 (fun e => h0 (UInt8.toNat_inj.1 (by simpa using Int.ofNat_inj.1 e)))
  by_cases h1 : x = 49
  · have t1 : ((x.toNat : Int) == 49) = true := by rw [h1]; rfl
    replace HR : Hid (r = 48) := HR.out.trans ((if_neg h0).trans (if_pos h1))
    clear h0 h1
    go_enter Tryz.func106, Tryz.ntmps106
    go_wp2_with fail
    go_ret
    exact ⟨ret_u8 (by rw [HR.out]; rfl), rfl⟩
  have t1 : ((x.toNat : Int) == 49) = false := beq_eq_false_iff_ne.2 (fun e => h1 (UInt8.toNat_inj.1 (by simpa using Int.ofNat_inj.1 e)))
  replace HR : Hid (r = 120) := HR.out.trans ((if_neg h0).trans (if_neg h1))
  clear h0 h1
  go_enter Tryz.func106, Tryz.ntmps106
  go_wp2_with fail
  go_ret
  exact ⟨ret_u8 (by rw [HR.out]; rfl), rfl⟩
set_option maxRecDepth 100000 in
set_option maxHeartbeats 1600000 in
theorem andB_ok (x y : UInt8) (w : World) : Calls Tryz.prog 70 #[.int .u8 (x.toNat : Int), .int .u8 (y.toNat : Int)] w fun e w' => e = .returned (.int .u8 ((andB x y).toNat : Int)) ∧ w = w' := by
  have HR : Hid (andB x y = if x = 48 ∨ y = 48 then 48 else if x = 49 ∧ y = 49 then 49 else 120) := rfl
  generalize andB x y = r at HR ⊢
  by_cases h0 : x = 48
  · have t0 : ((x.toNat : Int) == 48) = true := by rw [h0]; rfl
    replace HR : Hid (r = 48) := HR.out.trans (if_pos (Or.inl h0))
    clear h0
    go_enter Tryz.func70, Tryz.ntmps70
    go_wp2_with fail
    go_ret
    exact ⟨ret_u8 (by rw [HR.out]; rfl), rfl⟩
  have t0 : ((x.toNat : Int) == 48) = false := beq_eq_false_iff_ne.2 (fun e => h0 (UInt8.toNat_inj.1 (by simpa using Int.ofNat_inj.1 e)))
  by_cases g0 : y = 48
  · have s0 : ((y.toNat : Int) == 48) = true := by rw [g0]; rfl
    replace HR : Hid (r = 48) := HR.out.trans (if_pos (Or.inr g0))
    clear h0 g0
    go_enter Tryz.func70, Tryz.ntmps70
    go_wp2_with fail
    go_ret
    exact ⟨ret_u8 (by rw [HR.out]; rfl), rfl⟩
  have s0 : ((y.toNat : Int) == 48) = false := beq_eq_false_iff_ne.2 (fun e => g0 (UInt8.toNat_inj.1 (by simpa using Int.ofNat_inj.1 e)))
  have hn : ¬ (x = 48 ∨ y = 48) := fun e => e.elim h0 g0
  by_cases h1 : x = 49
  · have t1 : ((x.toNat : Int) == 49) = true := by rw [h1]; rfl
    by_cases g1 : y = 49
    · have s1 : ((y.toNat : Int) == 49) = true := by rw [g1]; rfl
      replace HR : Hid (r = 49) := HR.out.trans ((if_neg hn).trans (if_pos ⟨h1, g1⟩))
      clear h0 g0 hn h1 g1
      go_enter Tryz.func70, Tryz.ntmps70
      go_wp2_with fail
      go_ret
      exact ⟨ret_u8 (by rw [HR.out]; rfl), rfl⟩
    have s1 : ((y.toNat : Int) == 49) = false := beq_eq_false_iff_ne.2 (fun e => g1 (UInt8.toNat_inj.1 (by simpa using Int.ofNat_inj.1 e)))
    replace HR : Hid (r = 120) := HR.out.trans ((if_neg hn).trans (if_neg (fun e => g1 e.2)))
    clear h0 g0 hn h1 g1
    go_enter Tryz.func70, Tryz.ntmps70
    go_wp2_with fail
    go_ret
    exact ⟨ret_u8 (by rw [HR.out]; rfl), rfl⟩
  have t1 : ((x.toNat : Int) == 49) = false := beq_eq_false_iff_ne.2 (fun e => h1 (UInt8.toNat_inj.1 (by simpa using Int.ofNat_inj.1 e)))
  replace HR : Hid (r = 120) := HR.out.trans ((if_neg hn).trans (if_neg (fun e => h1 e.1)))
  clear h0 g0 hn h1
  go_enter Tryz.func70, Tryz.ntmps70
  go_wp2_with fail
  go_ret
  exact ⟨ret_u8 (by rw [HR.out]; rfl), rfl⟩
set_option maxRecDepth 100000 in
set_option maxHeartbeats 800000 in
theorem orB_ok (x y : UInt8) (w : World) : Calls Tryz.prog 71 #[.int .u8 (x.toNat : Int), .int .u8 (y.toNat : Int)] w fun e w' => e = .returned (.int .u8 ((orB x y).toNat : Int)) ∧ w = w' := by
  go_enter Tryz.func71, Tryz.ntmps71
  go_wp2_with fail
  refine (notB_ok x _).mono ?_
  rintro e w' ⟨rfl, rfl⟩
  go_wp2_with fail
  refine (notB_ok y _).mono ?_
  rintro e w' ⟨rfl, rfl⟩
  go_wp2_with fail
  refine (andB_ok (notB x) (notB y) _).mono ?_
  rintro e w' ⟨rfl, rfl⟩
  go_wp2_with fail
  refine (notB_ok (andB (notB x) (notB y)) _).mono ?_
  rintro e w' ⟨rfl, rfl⟩
  go_wp2_with fail
  go_ret
  exact ⟨rfl, rfl⟩
set_option maxRecDepth 100000 in
set_option maxHeartbeats 800000 in
theorem xorB_ok (x y : UInt8) (w : World) : Calls Tryz.prog 72 #[.int .u8 (x.toNat : Int), .int .u8 (y.toNat : Int)] w fun e w' => e = .returned (.int .u8 ((xorB x y).toNat : Int)) ∧ w = w' := by
  go_enter Tryz.func72, Tryz.ntmps72
  go_wp2_with fail
  refine (notB_ok y _).mono ?_
  rintro e w' ⟨rfl, rfl⟩
  go_wp2_with fail
  refine (andB_ok x (notB y) _).mono ?_
  rintro e w' ⟨rfl, rfl⟩
  go_wp2_with fail
  refine (notB_ok x _).mono ?_
  rintro e w' ⟨rfl, rfl⟩
  go_wp2_with fail
  refine (andB_ok (notB x) y _).mono ?_
  rintro e w' ⟨rfl, rfl⟩
  go_wp2_with fail
  refine (orB_ok (andB x (notB y)) (andB (notB x) y) _).mono ?_
  rintro e w' ⟨rfl, rfl⟩
  go_wp2_with fail
  go_ret
  exact ⟨rfl, rfl⟩
theorem map_snoc (f : UInt8 → UInt8) {l : List UInt8} {k : Nat} (h : k < l.length) : (l.map f).take (k + 1) = (l.map f).take k ++ [f l[k]] := by
  rw [List.take_succ_eq_append_getElem (by rw [List.length_map]; exact h), List.getElem_map]
set_option maxRecDepth 100000 in
set_option maxHeartbeats 2000000 in
theorem inverse_any (v : Value) (l : List UInt8) (hl : l.length ≤ 1000000) (w : World) (h : Row8 w v l) :
    Calls Tryz.prog 66 #[v] w fun e w' => ∃ v, e = .returned v ∧ Row8 w' v (l.map notB) ∧ Below w.heap.size w w' := by
  obtain ⟨i0, hi, hz0, hz1, hz2⟩ := info_parts info5
  obtain ⟨a, cap, rfl, h0⟩ := h.sh
  have H0 := Lib.hid h0
  clear h h0
  generalize hn : l.length = n at hl ⊢
  have HN := Lib.hid hn
  clear hn
  go_enter Tryz.func66, Tryz.ntmps66
  go_wp2_with fail
  go_loopw [3, 8] (fun v i wr => ∃ k : Nat, k ≤ n ∧ i = .int .i64 k ∧ wr.ownsRow w.heap.size 5 1 v k (Lib.byteCells ((l.map notB).take k)) ∧ Below w.heap.size w wr) (fun _ i _ => n - (intOf i).toNat)
  case atStart => exact ⟨0, Nat.zero_le _, rfl, World.ownsRow_nil _ _ _ _, Below.refl _ _⟩
  case round =>
    obtain ⟨k, hk, rfl, hown, hlo⟩ := hrel
    by_cases hlt : k < n
    · have hkl : k < l.length := by rw [HN.out]; exact hlt
      obtain ⟨bl, off, rfl, hc⟩ := Row8.nth (cap := cap) (n := n) H0.out hkl
      have hk0 : (0 : Int) ≤ (k : Int) := by omega
      have hk1 : (k : Int) < (n : Int) := by omega
      have HC := Lib.hid (show Lib.byteCells ((l.map notB).take (k + 1)) = Lib.byteCells ((l.map notB).take k) ++ [Value.int .u8 (notB l[k]).toNat] from by rw [map_snoc notB hkl]; unfold Lib.byteCells; simp)
      have pc := ((bcell hlo).1 _ _ (World.block_lt_of_cell? w _ hc)).trans hc
      clear hc
      generalize l[k] = x at pc HC
      go_wp2_with fail
      refine (notB_ok x _).mono ?_
      rintro e w' ⟨rfl, rfl⟩
      generalize notB x = z at HC ⊢
      go_wp2_with (at_builtin; refine wpList_append_own _ rfl _ _ 30 rfl w.heap.size 5 i0 (.int .u8 0) 1 1 Tryz.underlying30 hi hz0 hz1 hz2 rfl (by decide) _ _ _ rfl (hown.alloc _) ⟨wr.heap.size, 0, none⟩ 1 1 [.int .u8 z.toNat] rfl rfl ?d1 ?d2 ?d3 ?d4 ?d5 ?_)
      case d1 =>
        intro q u hq
        match q, hq with
        | 0, hq => simp at hq; subst hq; simp [Addr.add]
      case d2 => intro u hu; simp at hu; subst hu; rfl
      case d3 => unfold maxLen; omega
      case d4 => omega
      case d5 => have := hlo.size; simp; omega
      intro v5 w5 hown5 hgr5 _
      have T : w5.ownsRow w.heap.size 5 1 v5 (k + 1) (Lib.byteCells ((l.map notB).take (k + 1))) ∧ Below w.heap.size w w5 := by
        rw [HC.out]
        exact ⟨hown5, (hlo.alloc hlo.size _).grown hgr5 (by have := hlo.size; simp; omega) (fun k hk => (hown.lt k hk).1)⟩
      clear hown5 hgr5
      go_wp2_with fail
      go_roundw
      case rel => exact ⟨k + 1, by omega, by go_num, T⟩
      case measure => simp [intOf]; omega
    · have hkn : k = n := by omega
      have Hkn := Lib.hid hkn
      clear hkn
      go_wp2_with fail
      go_ret
      refine ⟨_, rfl, ?_, hlo⟩
      have e1 : (l.map notB).take k = l.map notB := List.take_of_length_le (by rw [List.length_map, HN.out, Hkn.out]; exact Nat.le_refl _)
      rw [e1] at hown
      exact row8_own (B := w.heap.size) (by rw [List.length_map, HN.out, ← Hkn.out]; exact hown)
/-- the carry behind k states -/
def carK (l m : List UInt8) (c : UInt8) : Nat → UInt8
  | 0 => c
  | k + 1 => orB (andB (l.getD k 0) (m.getD k 0)) (andB (carK l m c k) (xorB (l.getD k 0) (m.getD k 0)))
/-- the sum's first k states -/
def sumK (l m : List UInt8) (c : UInt8) : Nat → List UInt8
  | 0 => []
  | k + 1 => sumK l m c k ++ [xorB (xorB (l.getD k 0) (m.getD k 0)) (carK l m c k)]
theorem sumK_len (l m : List UInt8) (c : UInt8) : ∀ k, (sumK l m c k).length = k
  | 0 => rfl
  | k + 1 => by show (sumK l m c k ++ _).length = _; rw [List.length_append, sumK_len l m c k]; rfl
theorem getD_at {l : List UInt8} {k : Nat} (h : k < l.length) : l.getD k 0 = l[k] := by rw [List.getD_eq_getElem?_getD, List.getElem?_eq_getElem h]; rfl
set_option maxRecDepth 100000 in
set_option maxHeartbeats 6000000 in
theorem plus_any (v u : Value) (l m : List UInt8) (c : UInt8) (hlm : l.length = m.length) (hl : l.length ≤ 1000000) (w : World) (h : Row8 w v l) (h' : Row8 w u m) :
    Calls Tryz.prog 107 #[v, u, .int .u8 (c.toNat : Int)] w fun e w' => ∃ v, e = .returned v ∧ Row8 w' v (sumK l m c l.length) ∧ Below w.heap.size w w' := by
  obtain ⟨i0, hi, hz0, hz1, hz2⟩ := info_parts info5
  obtain ⟨a, cap, rfl, h0⟩ := h.sh
  obtain ⟨b, capb, rfl, h0b⟩ := h'.sh
  have H0 := Lib.hid h0
  have H0b := Lib.hid h0b
  clear h h0 h' h0b
  generalize hn : l.length = n at hl hlm ⊢
  have HM := Lib.hid hlm.symm
  rw [← hlm]
  have HN := Lib.hid hn
  clear hn hlm
  go_enter Tryz.func107, Tryz.ntmps107
  go_wp2_with fail
  go_loopw [2, 7, 11] (fun cc v i wr => ∃ k : Nat, k ≤ n ∧ i = .int .i64 k ∧ cc = .int .u8 ((carK l m c k).toNat : Int) ∧ wr.ownsRow w.heap.size 5 1 v k (Lib.byteCells (sumK l m c k)) ∧ Below w.heap.size w wr) (fun _ _ i _ => n - (intOf i).toNat)
  case atStart => exact ⟨0, Nat.zero_le _, rfl, rfl, World.ownsRow_nil _ _ _ _, Below.refl _ _⟩
  case round =>
    obtain ⟨k, hk, rfl, rfl, hown, hlo⟩ := hrel
    by_cases hlt : k < n
    · have hkl : k < l.length := by rw [HN.out]; exact hlt
      have hkm : k < m.length := by rw [HM.out]; exact hlt
      obtain ⟨bl, off, rfl, hc⟩ := Row8.nth (cap := cap) (n := n) H0.out hkl
      obtain ⟨bm, ofm, rfl, hcm⟩ := Row8.nth (cap := capb) (n := n) H0b.out hkm
      have hk0 : (0 : Int) ≤ (k : Int) := by omega
      have hk1 : (k : Int) < (n : Int) := by omega
      have HC := Lib.hid (show Lib.byteCells (sumK l m c (k + 1)) = Lib.byteCells (sumK l m c k) ++ [Value.int .u8 (xorB (xorB l[k] m[k]) (carK l m c k)).toNat] from by rw [← getD_at hkl, ← getD_at hkm]; unfold Lib.byteCells; show List.map _ (sumK l m c k ++ _) = _; rw [List.map_append]; rfl)
      have HK := Lib.hid (show carK l m c (k + 1) = orB (andB l[k] m[k]) (andB (carK l m c k) (xorB l[k] m[k])) from by rw [← getD_at hkl, ← getD_at hkm]; rfl)
      have pc := ((bcell hlo).1 _ _ (World.block_lt_of_cell? w _ hc)).trans hc
      have pcm := ((bcell hlo).1 _ _ (World.block_lt_of_cell? w _ hcm)).trans hcm
      generalize l[k] = x at pc hc HC HK
      generalize m[k] = y at pcm hcm HC HK
      generalize carK l m c k = cr at HC HK ⊢
      have HCL := Lib.hid hc
      have HCM := Lib.hid hcm
      clear hc hcm
      have rc := cell_regrown pc
      have rcm := cell_regrown pcm
      go_wp2_with fail
      refine wp_region_rel 13 (by kernel_rfl) (by kernel_rfl) ?_
      simp only [List.take_succ_cons, List.take_zero, List.drop_succ_cons, List.drop_zero]
      (refine rel_fix0 (fun K hK => ?_); go_simp; refine hK _ ?_; clear hK K)
      (refine rel_fix0 (fun K hK => ?_); go_simp; refine hK _ ?_; clear hK K)
      (refine rel_fix0 (fun K hK => ?_); go_simp; refine hK _ ?_; clear hK K)
      (refine rel_fix0 (fun K hK => ?_); go_simp; refine hK _ ?_; clear hK K)
      (refine rel_fix0 (fun K hK => ?_); go_simp; refine hK _ ?_; clear hK K)
      (refine rel_fix0 (fun K hK => ?_); go_simp; refine hK _ ?_; clear hK K)
      (refine rel_fix0 (fun K hK => ?_); go_simp; refine hK _ ?_; clear hK K)
      (refine rel_fix0 (fun K hK => ?_); go_simp; refine hK _ ?_; clear hK K)
      (refine rel_fix0 (fun K hK => ?_); go_simp; refine hK _ ?_; clear hK K)
      (refine rel_fix0 (fun K hK => ?_); go_simp; apply Exists.intro; refine ⟨fun _ _ => ?_, hK _ ?_⟩; (with_reducible exact ret_same (xorB_ok x y _)); clear hK K)
      (refine rel_fix0 (fun K hK => ?_); go_simp; refine hK _ ?_; clear hK K)
      (refine rel_fix0 (fun K hK => ?_); go_simp; apply Exists.intro; refine ⟨fun _ _ => ?_, hK _ ?_⟩; (with_reducible exact ret_same (xorB_ok (xorB x y) cr _)); clear hK K)
      refine rel_fact [] (One8 (xorB (xorB x y) cr).toNat) 26 rfl (by simp [Act.put]) (one8_sta _) (by rfl) (by kernel_rfl) (by kernel_rfl) ?_ ?_
      · intro d os
        simp only [relAll]
        go_simp
        exact ⟨⟨_, rfl, by go_simp⟩, (Below.refl _ _).alloc (Nat.le_of_eq Array.size_append.symm) _⟩
      refine rel_nil ?_
      intro d os
      simp only [relAll]
      rintro uz ⟨bz, rfl, hz⟩
      have hb9 := below_regrown wr d os
      have hown2 := own_below hown hb9
      have hlo2 : Below w.heap.size w (grow (redrawn wr d) os) := hlo.trans (hb9.mono hlo.size)
      clear rc rcm hlo hown hb9 pc pcm
      generalize grow (redrawn wr d) os = wd at hlo2 hown2 hz ⊢
      generalize xorB (xorB x y) cr = z at HC hz ⊢
      go_wp2_with (at_builtin; refine wpList_append_own _ rfl _ _ 30 rfl w.heap.size 5 i0 (.int .u8 0) 1 1 Tryz.underlying30 hi hz0 hz1 hz2 rfl (by decide) _ _ _ rfl hown2 ⟨bz, 0, none⟩ 1 1 [.int .u8 z.toNat] rfl rfl ?d1 ?d2 ?d3 ?d4 ?d5 ?_)
      case d1 =>
        intro q u hq
        match q, hq with
        | 0, hq => simp at hq; subst hq; simpa [Addr.add] using hz
      case d2 => intro u hu; simp at hu; subst hu; rfl
      case d3 => unfold maxLen; omega
      case d4 => omega
      case d5 => exact hlo2.size
      intro v5 w5 hown5 hgr5 _
      have T : w5.ownsRow w.heap.size 5 1 v5 (k + 1) (Lib.byteCells (sumK l m c (k + 1))) ∧ Below w.heap.size w w5 := by
        rw [HC.out]
        exact ⟨hown5, hlo2.grown hgr5 hlo2.size (fun k hk => (hown2.lt k hk).1)⟩
      clear hown5 hgr5 hown2 hlo2 hz
      have pc := ((bcell T.2).1 _ _ (World.block_lt_of_cell? w _ HCL.out)).trans HCL.out
      have pcm := ((bcell T.2).1 _ _ (World.block_lt_of_cell? w _ HCM.out)).trans HCM.out
      have rc := cell_regrown pc
      have rcm := cell_regrown pcm
      have HT := Lib.hid T
      clear T
      go_wp2_with fail
      refine wp_region_rel 22 (by kernel_rfl) (by kernel_rfl) ?_
      simp only [List.take_succ_cons, List.take_zero, List.drop_succ_cons, List.drop_zero]
      (refine rel_fix0 (fun K hK => ?_); go_simp; refine hK _ ?_; clear hK K)
      (refine rel_fix0 (fun K hK => ?_); go_simp; refine hK _ ?_; clear hK K)
      (refine rel_fix0 (fun K hK => ?_); go_simp; refine hK _ ?_; clear hK K)
      (refine rel_fix0 (fun K hK => ?_); go_simp; refine hK _ ?_; clear hK K)
      (refine rel_fix0 (fun K hK => ?_); go_simp; refine hK _ ?_; clear hK K)
      (refine rel_fix0 (fun K hK => ?_); go_simp; refine hK _ ?_; clear hK K)
      (refine rel_fix0 (fun K hK => ?_); go_simp; refine hK _ ?_; clear hK K)
      (refine rel_fix0 (fun K hK => ?_); go_simp; refine hK _ ?_; clear hK K)
      (refine rel_fix0 (fun K hK => ?_); go_simp; apply Exists.intro; refine ⟨fun _ _ => ?_, hK _ ?_⟩; (with_reducible exact ret_same (andB_ok x y _)); clear hK K)
      (refine rel_fix0 (fun K hK => ?_); go_simp; refine hK _ ?_; clear hK K)
      (refine rel_fix0 (fun K hK => ?_); go_simp; refine hK _ ?_; clear hK K)
      (refine rel_fix0 (fun K hK => ?_); go_simp; refine hK _ ?_; clear hK K)
      (refine rel_fix0 (fun K hK => ?_); go_simp; refine hK _ ?_; clear hK K)
      (refine rel_fix0 (fun K hK => ?_); go_simp; refine hK _ ?_; clear hK K)
      (refine rel_fix0 (fun K hK => ?_); go_simp; refine hK _ ?_; clear hK K)
      (refine rel_fix0 (fun K hK => ?_); go_simp; refine hK _ ?_; clear hK K)
      (refine rel_fix0 (fun K hK => ?_); go_simp; refine hK _ ?_; clear hK K)
      (refine rel_fix0 (fun K hK => ?_); go_simp; refine hK _ ?_; clear hK K)
      (refine rel_fix0 (fun K hK => ?_); go_simp; apply Exists.intro; refine ⟨fun _ _ => ?_, hK _ ?_⟩; (with_reducible exact ret_same (xorB_ok x y _)); clear hK K)
      (refine rel_fix0 (fun K hK => ?_); go_simp; apply Exists.intro; refine ⟨fun _ _ => ?_, hK _ ?_⟩; (with_reducible exact ret_same (andB_ok cr (xorB x y) _)); clear hK K)
      (refine rel_fix0 (fun K hK => ?_); go_simp; apply Exists.intro; refine ⟨fun _ _ => ?_, hK _ ?_⟩; (with_reducible exact ret_same (orB_ok (andB x y) (andB cr (xorB x y)) _)); clear hK K)
      (refine rel_fix0 (fun K hK => ?_); go_simp; refine hK _ ?_; clear hK K)
      refine rel_nil ?_
      intro d os
      simp only [relAll]
      have T2 : (grow (redrawn w5 d) os).ownsRow w.heap.size 5 1 v5 (k + 1) (Lib.byteCells (sumK l m c (k + 1))) ∧ Below w.heap.size w (grow (redrawn w5 d) os) := ⟨own_below HT.out.1 (below_regrown w5 d os), HT.out.2.trans ((below_regrown w5 d os).mono HT.out.2.size)⟩
      clear rc rcm pc pcm
      generalize grow (redrawn w5 d) os = w6 at T2 ⊢
      go_wp2_with fail
      go_roundw
      case rel => exact ⟨k + 1, by omega, by go_num, by rw [HK.out], T2⟩
      case measure => simp [intOf]; omega
    · have hkn : k = n := by omega
      have Hkn := Lib.hid hkn
      clear hkn
      go_wp2_with fail
      go_ret
      refine ⟨_, rfl, ?_, hlo⟩
      rw [← Hkn.out]
      exact row8_own (B := w.heap.size) (by rw [sumK_len]; exact hown)
theorem minus_any (v u : Value) (l m : List UInt8) (hlm : l.length = m.length) (hl : l.length ≤ 1000000) (w : World) (h : Row8 w v l) (h' : Row8 w u m) :
    Calls Tryz.prog 108 #[v, u] w fun e w' => ∃ v, e = .returned v ∧ Row8 w' v (sumK l (m.map notB) 49 l.length) ∧ Below w.heap.size w w' := by
  have H := Lib.hid h
  have H' := Lib.hid h'
  have HL := Lib.hid hlm
  clear h h' hlm
  go_enter Tryz.func108, Tryz.ntmps108
  go_wp2_with fail
  refine (inverse_any u m (by rw [← HL.out]; exact hl) _ H'.out).mono ?_
  rintro e w1 ⟨r, rfl, hr, hb⟩
  have HR := Lib.hid hr
  clear hr
  have H1 := Lib.hid (H.out.below hb)
  go_wp2_with fail
  refine (plus_any v r l (m.map notB) 49 (by rw [List.length_map]; exact HL.out) hl _ H1.out HR.out).mono ?_
  rintro e w2 ⟨r2, rfl, hr2, hb2⟩
  go_wp2_with fail
  go_ret
  exact ⟨r2, rfl, hr2, hb.trans (hb2.mono hb.size)⟩
end Go.Proofs.YtodldcdfdjooaaaGreatDoor
namespace Go.Proofs.YtodldcdfdjooaaaGreatDoor
open Go Go.RowKit Go.Sort
set_option linter.unusedVariables false
/-- what Count has found in the highest j states -/
def cntD (l : List UInt8) (lim : Nat) : Nat → Nat
  | 0 => 0
  | j + 1 => min (2 * cntD l lim j + if l.getD (l.length - 1 - j) 0 = 49 then 1 else 0) lim
theorem cntD_le (l : List UInt8) (lim : Nat) : ∀ j, cntD l lim j ≤ lim
  | 0 => Nat.zero_le _
  | j + 1 => Nat.min_le_right _ _
theorem byte_eq {x : UInt8} {c : Nat} (hc : c < 256) (h : x = UInt8.ofNat c) : ((x.toNat : Int) == (c : Int)) = true := by
  subst h; simp; omega
theorem row_nth {w : World} {a : Option Addr} {m cap : Nat} {l : List UInt8} (h : Row8 w (.slice a m cap) l) {k : Nat} (hk : k < l.length) : ∃ bl off, a = some ⟨bl, off, none⟩ ∧ m = l.length ∧ ∀ q (hq : q < l.length), w.cell? ⟨bl, off + q, none⟩ = some (.int .u8 (l[q].toNat : Int)) := by
  obtain ⟨a', c, he, h0 | ⟨b, o, ha, hc⟩⟩ := h.sh
  · omega
  · injection he with e1 e2 e3
    exact ⟨b, o, e1.trans ha, e2, hc⟩
set_option maxRecDepth 100000 in
set_option maxHeartbeats 2000000 in
theorem count_any (v : Value) (l : List UInt8) (lim : Nat) (h1 : 1 ≤ lim) (h2 : lim ≤ 1000) (hl : l.length ≤ 1000000) (w : World) (h : Row8 w v l) :
    Calls Tryz.prog 123 #[v, .int .i64 lim] w fun e w' => e = .returned (.int .i64 (cntD l lim l.length : Nat)) ∧ w = w' := by
  obtain ⟨a, cap, rfl, h0⟩ := h.sh
  have H0 := Lib.hid h0
  clear h h0
  generalize hn : l.length = n at hl ⊢
  have HN := Lib.hid hn
  clear hn
  go_enter Tryz.func123, Tryz.ntmps123
  go_wp2_with fail
  go_loop [5, 6] (fun v i => ∃ j : Nat, j ≤ n ∧ i = .int .i64 ((n : Int) - 1 - (j : Int)) ∧ v = .int .u64 ((cntD l lim j : Nat) : Int)) (fun _ i => (intOf i + 1).toNat)
  case atStart => exact ⟨0, Nat.zero_le _, by simp, rfl⟩
  case round =>
    obtain ⟨j, hj, rfl, rfl⟩ := hrel
    have hx := cntD_le l lim j
    by_cases hlt : j < n
    · have hkl : l.length - 1 - j < l.length := by rw [HN.out]; omega
      obtain ⟨bl, off, rfl, hc0⟩ := Row8.nth (cap := cap) (n := n) H0.out hkl
      have hc : w.cell? ⟨bl, off + (n - 1 - j), none⟩ = some (.int .u8 (l[l.length - 1 - j].toNat : Int)) := by
        have e9 : n - 1 - j = l.length - 1 - j := by rw [HN.out]
        rw [e9]; exact hc0
      have hk0 : (0 : Int) ≤ (n : Int) - 1 - (j : Int) := by omega
      have hk1 : (n : Int) - 1 - (j : Int) < (n : Int) := by omega
      have HS := Lib.hid (show cntD l lim (j + 1) = min (2 * cntD l lim j + if l[l.length - 1 - j] = 49 then 1 else 0) lim from by rw [← getD_at hkl]; rfl)
      clear hc0
      generalize l[l.length - 1 - j] = x at hc HS
      generalize cntD l lim j = y at hx HS ⊢
      have m1 : IntKind.u64.wrap (2 * (y : Int)) = 2 * (y : Int) := by rw [IntKind.wrap_u64]; omega
      have m2 : IntKind.u64.wrap (2 * (y : Int) + 1) = 2 * (y : Int) + 1 := by rw [IntKind.wrap_u64]; omega
      have m3 : IntKind.u64.wrap (lim : Int) = (lim : Int) := by rw [IntKind.wrap_u64]; omega
      by_cases h49 : x = 49
      · have t1 : ((x.toNat : Int) == 49) = true := by rw [h49]; rfl
        replace HS : Hid (cntD l lim (j + 1) = min (2 * y + 1) lim) := HS.out.trans (by rw [if_pos h49])
        clear h49
        go_wp2_with fail
        go_round
        case rel => exact ⟨j + 1, by omega, by go_num, by rw [HS.out]; go_num⟩
        case measure => simp [intOf]; omega
      · have t1 : ((x.toNat : Int) == 49) = false := beq_eq_false_iff_ne.2 (fun e => h49 (UInt8.toNat_inj.1 (by simpa using Int.ofNat_inj.1 e)))
        replace HS : Hid (cntD l lim (j + 1) = min (2 * y) lim) := HS.out.trans (by rw [if_neg h49, Nat.add_zero])
        clear h49
        go_wp2_with fail
        go_round
        case rel => exact ⟨j + 1, by omega, by go_num, by rw [HS.out]; go_num⟩
        case measure => simp [intOf]; omega
    · have hkn : j = n := by omega
      have Hkn := Lib.hid hkn
      clear hkn
      have m3 : IntKind.i64.wrap ((cntD l lim j : Nat) : Int) = ((cntD l lim j : Nat) : Int) := by rw [IntKind.wrap_i64]; omega
      go_wp2_with fail
      go_ret
      exact ⟨ret_int (by rw [Hkn.out]), rfl⟩
theorem rm_cells (f : Nat → UInt8) (k : Nat) : Lib.byteCells ((List.range (k + 1)).map f) = Lib.byteCells ((List.range k).map f) ++ [Value.int .u8 (f k).toNat] := by
  rw [List.range_succ]; unfold Lib.byteCells; simp
theorem rm_row {w : World} {B : Nat} {v : Value} {f : Nat → UInt8} {k : Nat} (h : w.ownsRow B 5 1 v k (Lib.byteCells ((List.range k).map f))) : Row8 w v ((List.range k).map f) :=
  row8_own (B := B) (by rw [List.length_map, List.length_range]; exact h)
/-- the states of a vector that is cut or extended -/
def strF (l : List UInt8) (s : Bool) (i : Nat) : UInt8 := if i < l.length then l.getD i 0 else if s then l.getD (l.length - 1) 0 else 48
/-- the states of a window -/
def winF (l : List UInt8) (at_ : Int) (i : Nat) : UInt8 := if 0 ≤ at_ + i ∧ at_ + i < l.length then l.getD (at_ + i).toNat 0 else 120
end Go.Proofs.YtodldcdfdjooaaaGreatDoor
namespace Go.Proofs.YtodldcdfdjooaaaGreatDoor
open Go Go.RowKit Go.Sort
set_option linter.unusedVariables false
/-- a state of a vector into which the first j states of another one are put -/
def plF (l : List UInt8) (at_ : Int) (p : List UInt8) (j : Nat) (i : Nat) : UInt8 := if 0 ≤ (i : Int) - at_ ∧ (i : Int) - at_ < j then p.getD ((i : Int) - at_).toNat 0 else l.getD i 0
theorem plF_zero (l : List UInt8) (at_ : Int) (p : List UInt8) : (List.range l.length).map (plF l at_ p 0) = l := by
  apply List.ext_getElem
  · simp
  · intro i h1 h2
    rw [List.getElem_map, List.getElem_range]
    unfold plF
    rw [if_neg (by omega), getD_at h2]
theorem plF_keep (l : List UInt8) (at_ : Int) (p : List UInt8) (j n : Nat) (h : ¬ (0 ≤ at_ + (j : Int) ∧ at_ + (j : Int) < n)) : (List.range n).map (plF l at_ p (j + 1)) = (List.range n).map (plF l at_ p j) := by
  apply List.map_congr_left
  intro i hi
  have := List.mem_range.1 hi
  unfold plF
  by_cases c : 0 ≤ (i : Int) - at_ ∧ (i : Int) - at_ < j
  · rw [if_pos c, if_pos (by omega)]
  · rw [if_neg c, if_neg (by omega)]
theorem plF_set (l : List UInt8) (at_ : Int) (p : List UInt8) (j n : Nat) (h0 : 0 ≤ at_ + (j : Int)) (h1 : at_ + (j : Int) < n) (hj : j < p.length) : ((List.range n).map (plF l at_ p j)).set (at_ + (j : Int)).toNat p[j] = (List.range n).map (plF l at_ p (j + 1)) := by
  apply List.ext_getElem
  · simp
  · intro i h2 h3
    have hi : i < n := by simpa using h3
    rw [List.getElem_set, List.getElem_map, List.getElem_map, List.getElem_range]
    by_cases e : (at_ + (j : Int)).toNat = i
    · rw [if_pos e]
      unfold plF
      rw [if_pos (by omega)]
      have e2 : ((i : Int) - at_).toNat = j := by omega
      rw [e2, getD_at hj]
    · rw [if_neg e]
      unfold plF
      by_cases c : 0 ≤ (i : Int) - at_ ∧ (i : Int) - at_ < j
      · rw [if_pos c, if_pos (by omega)]
      · rw [if_neg c, if_neg (by omega)]
theorem bytes_set (l : List UInt8) (q : Nat) (z : UInt8) : (Lib.byteCells l).set q (Value.int .u8 (z.toNat : Int)) = Lib.byteCells (l.set q z) := by
  unfold Lib.byteCells; rw [List.map_set]
theorem bytes_at (l : List UInt8) {q : Nat} (h : q < l.length) : (Lib.byteCells l)[q]? = some (Value.int .u8 (l[q].toNat : Int)) := by
  unfold Lib.byteCells; rw [List.getElem?_map, List.getElem?_eq_getElem h]; rfl
end Go.Proofs.YtodldcdfdjooaaaGreatDoor
