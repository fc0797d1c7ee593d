/- The reference's each over two lists of states, with a function that leaves the world alone. -/
import Derived.Test.YtdpmojkpfnkcdaaDoorResClo
import Derived.Test.YtdpmojkpfnkcdaaDoorRelC
namespace Go.Proofs.YtdpmojkpfnkcdaaDoor
open Go Go.RowKit Go.Sort
set_option linter.unusedVariables false
theorem zw_snoc (f : UInt8 → UInt8 → UInt8) {l m : List UInt8} {k : Nat} (h : k < l.length) (h' : k < m.length) : List.zipWith f (l.take (k + 1)) (m.take (k + 1)) = List.zipWith f (l.take k) (m.take k) ++ [f l[k] m[k]] := by
  rw [List.take_succ_eq_append_getElem h, List.take_succ_eq_append_getElem h', List.zipWith_append (by rw [List.length_take, List.length_take]; omega)]; rfl
theorem zw_len (f : UInt8 → UInt8 → UInt8) {l m : List UInt8} {k : Nat} (h : k ≤ l.length) (h' : k ≤ m.length) : (List.zipWith f (l.take k) (m.take k)).length = k := by
  rw [List.length_zipWith, List.length_take, List.length_take]; omega
set_option maxRecDepth 100000 in
set_option maxHeartbeats 4000000 in
theorem each_res (v u : Value) (l m : List UInt8) (hlm : l.length = m.length) (hl : l.length ≤ 1000000) (w : World) (h : Row8 w v l) (h' : Row8 w u m) :
    Calls Tryd.prog 49 #[v, u, .func (Fn.func 50) #[] #[]] w fun e w' => ∃ v, e = .returned v ∧ Row8 w' v (List.zipWith resB l m) ∧ Below w.heap.size w w' := by
  obtain ⟨i0, hi, hz0, hz1, hz2⟩ := info_parts info5
  obtain ⟨a, cap, rfl, h0⟩ := h.sh
  obtain ⟨b, capb, rfl, h0b⟩ := h'.sh
  have H0 := Lib.hid h0
  have H0b := Lib.hid h0b
  have HF := Lib.hid res1_ok
  clear h h0 h' h0b
  generalize hn : l.length = n at hl hlm ⊢
  have HM := Lib.hid hlm.symm
  rw [← hlm]
  have HN := Lib.hid hn
  clear hn hlm
  go_enter Tryd.func49, Tryd.ntmps49
  go_wp2_with fail
  go_loopw [7, 11] (fun v i wr => ∃ k : Nat, k ≤ n ∧ i = .int .i64 k ∧ wr.ownsRow w.heap.size 5 1 v k (Lib.byteCells (List.zipWith resB (l.take k) (m.take k))) ∧ Below w.heap.size w wr) (fun _ i _ => n - (intOf i).toNat)
  case atStart => exact ⟨0, Nat.zero_le _, rfl, World.ownsRow_nil _ _ _ _, Below.refl _ _⟩
  case round =>
    obtain ⟨k, hk, rfl, hown, hlo⟩ := hrel
    have Hlen := Lib.hid (zw_len resB (l := l) (m := m) (k := k) (by rw [HN.out]; exact hk) (by rw [HM.out]; exact hk))
    by_cases hlt : k < n
    · have hkl : k < l.length := by rw [HN.out]; exact hlt
      have hkm : k < m.length := by rw [HM.out]; exact hlt
      obtain ⟨bl, off, rfl, hc⟩ := Row8.nth (cap := cap) (n := n) H0.out hkl
      obtain ⟨bm, ofm, rfl, hcm⟩ := Row8.nth (cap := capb) (n := n) H0b.out hkm
      have hk0 : (0 : Int) ≤ (k : Int) := by omega
      have hk1 : (k : Int) < (n : Int) := by omega
      have HC : Lib.byteCells (List.zipWith resB (l.take (k + 1)) (m.take (k + 1))) = Lib.byteCells (List.zipWith resB (l.take k) (m.take k)) ++ [Value.int .u8 (resB l[k] m[k]).toNat] := by
        rw [zw_snoc resB hkl hkm]; unfold Lib.byteCells; simp
      have HCC := Lib.hid HC
      clear HC
      have hfc := fun w => HF.out l[k] m[k] w
      generalize resB l[k] m[k] = z at hfc HCC
      generalize l[k] = x at hc hfc
      generalize m[k] = y at hcm hfc
      have HFC := Lib.hid hfc
      clear hfc
      have pc := ((bcell hlo).1 _ _ (World.block_lt_of_cell? w _ hc)).trans hc
      have pcm := ((bcell hlo).1 _ _ (World.block_lt_of_cell? w _ hcm)).trans hcm
      clear hc hcm
      go_wp2_with fail
      have rc := cell_regrown pc
      have rcm := cell_regrown pcm
      refine wp_region_rel 12 (by kernel_rfl) (by kernel_rfl) ?_
      simp only [List.take_succ_cons, List.take_zero, List.drop_succ_cons, List.drop_zero]
      repeat (refine rel_fix0 (fun K hK => ?_); go_simp; first | (refine hK _ ?_; clear hK K) | (apply Exists.intro; refine ⟨fun _ _ => ?_, hK _ ?_⟩; (with_reducible exact ret_same (HFC.out _)); clear hK K))
      refine rel_fact [] (One8 z.toNat) 25 rfl (by simp) (one8_sta _) rfl rfl rfl ?_ ?_
      · intro d os
        go_simp
        exact ⟨⟨_, rfl, by go_simp⟩, (Below.refl _ _).alloc (Nat.le_of_eq Array.size_append.symm) _⟩
      refine rel_nil ?_
      intro d os
      simp only [relAll]
      rintro uz ⟨bz, rfl, hz⟩
      have hb9 := below_regrown wr d os
      have hown2 := own_below hown hb9
      have hlo2 : Below w.heap.size w (grow (redrawn wr d) os) := hlo.trans (hb9.mono hlo.size)
      clear rc rcm pc pcm hlo hown hb9
      generalize grow (redrawn wr d) os = wd at hlo2 hown2 hz ⊢
      go_wp2_with (at_builtin; refine wpList_append_own _ rfl _ _ 39 rfl w.heap.size 5 i0 (.int .u8 0) 1 1 Tryd.underlying39 hi hz0 hz1 hz2 rfl (by decide) _ _ _ rfl hown2 ⟨bz, 0, none⟩ 1 1 [.int .u8 z.toNat] rfl rfl ?d1 ?d2 ?d3 ?d4 ?d5 ?_)
      case d1 =>
        intro q u hq
        match q, hq with
        | 0, hq => simp at hq; subst hq; simpa [Addr.add] using hz
      case d2 => intro u hu; simp at hu; subst hu; rfl
      case d3 => unfold maxLen; omega
      case d4 => omega
      case d5 => exact hlo2.size
      intro v5 w5 hown5 hgr5 _
      have T : w5.ownsRow w.heap.size 5 1 v5 (k + 1) (Lib.byteCells (List.zipWith resB (l.take (k + 1)) (m.take (k + 1)))) ∧ Below w.heap.size w w5 := by
        rw [HCC.out]
        exact ⟨hown5, hlo2.grown hgr5 hlo2.size (fun k hk => (hown2.lt k hk).1)⟩
      clear hown5 hgr5
      go_wp2_with fail
      go_roundw
      case rel => exact ⟨k + 1, by omega, by go_num, T⟩
      case measure => simp [intOf]; omega
    · have hkn : k = n := by omega
      have Hkn := Lib.hid hkn
      clear hkn
      go_wp2_with fail
      go_ret
      refine ⟨_, rfl, ?_, hlo⟩
      have h := row8_own (B := w.heap.size) (v := _) (l := List.zipWith resB (l.take k) (m.take k)) (by rw [Hlen.out]; exact hown)
      have e1 : l.take k = l := List.take_of_length_le (by rw [HN.out, Hkn.out]; exact Nat.le_refl _)
      have e2 : m.take k = m := List.take_of_length_le (by rw [HM.out, Hkn.out]; exact Nat.le_refl _)
      rw [e1, e2] at h; exact h
set_option maxRecDepth 100000 in
set_option maxHeartbeats 4000000 in
theorem each_ch (v u : Value) (l m : List UInt8) (hlm : l.length = m.length) (hl : l.length ≤ 1000000) (w : World) (h : Row8 w v l) (h' : Row8 w u m) :
    Calls Tryd.prog 49 #[v, u, .func (Fn.func 51) #[] #[]] w fun e w' => ∃ v, e = .returned v ∧ Row8 w' v (List.zipWith chB l m) ∧ Below w.heap.size w w' := by
  obtain ⟨i0, hi, hz0, hz1, hz2⟩ := info_parts info5
  obtain ⟨a, cap, rfl, h0⟩ := h.sh
  obtain ⟨b, capb, rfl, h0b⟩ := h'.sh
  have H0 := Lib.hid h0
  have H0b := Lib.hid h0b
  have HF := Lib.hid ch1_ok
  clear h h0 h' h0b
  generalize hn : l.length = n at hl hlm ⊢
  have HM := Lib.hid hlm.symm
  rw [← hlm]
  have HN := Lib.hid hn
  clear hn hlm
  go_enter Tryd.func49, Tryd.ntmps49
  go_wp2_with fail
  go_loopw [7, 11] (fun v i wr => ∃ k : Nat, k ≤ n ∧ i = .int .i64 k ∧ wr.ownsRow w.heap.size 5 1 v k (Lib.byteCells (List.zipWith chB (l.take k) (m.take k))) ∧ Below w.heap.size w wr) (fun _ i _ => n - (intOf i).toNat)
  case atStart => exact ⟨0, Nat.zero_le _, rfl, World.ownsRow_nil _ _ _ _, Below.refl _ _⟩
  case round =>
    obtain ⟨k, hk, rfl, hown, hlo⟩ := hrel
    have Hlen := Lib.hid (zw_len chB (l := l) (m := m) (k := k) (by rw [HN.out]; exact hk) (by rw [HM.out]; exact hk))
    by_cases hlt : k < n
    · have hkl : k < l.length := by rw [HN.out]; exact hlt
      have hkm : k < m.length := by rw [HM.out]; exact hlt
      obtain ⟨bl, off, rfl, hc⟩ := Row8.nth (cap := cap) (n := n) H0.out hkl
      obtain ⟨bm, ofm, rfl, hcm⟩ := Row8.nth (cap := capb) (n := n) H0b.out hkm
      have hk0 : (0 : Int) ≤ (k : Int) := by omega
      have hk1 : (k : Int) < (n : Int) := by omega
      have HC : Lib.byteCells (List.zipWith chB (l.take (k + 1)) (m.take (k + 1))) = Lib.byteCells (List.zipWith chB (l.take k) (m.take k)) ++ [Value.int .u8 (chB l[k] m[k]).toNat] := by
        rw [zw_snoc chB hkl hkm]; unfold Lib.byteCells; simp
      have HCC := Lib.hid HC
      clear HC
      have hfc := fun w => HF.out l[k] m[k] w
      generalize chB l[k] m[k] = z at hfc HCC
      generalize l[k] = x at hc hfc
      generalize m[k] = y at hcm hfc
      have HFC := Lib.hid hfc
      clear hfc
      have pc := ((bcell hlo).1 _ _ (World.block_lt_of_cell? w _ hc)).trans hc
      have pcm := ((bcell hlo).1 _ _ (World.block_lt_of_cell? w _ hcm)).trans hcm
      clear hc hcm
      go_wp2_with fail
      have rc := cell_regrown pc
      have rcm := cell_regrown pcm
      refine wp_region_rel 12 (by kernel_rfl) (by kernel_rfl) ?_
      simp only [List.take_succ_cons, List.take_zero, List.drop_succ_cons, List.drop_zero]
      repeat (refine rel_fix0 (fun K hK => ?_); go_simp; first | (refine hK _ ?_; clear hK K) | (apply Exists.intro; refine ⟨fun _ _ => ?_, hK _ ?_⟩; (with_reducible exact ret_same (HFC.out _)); clear hK K))
      refine rel_fact [] (One8 z.toNat) 25 rfl (by simp) (one8_sta _) rfl rfl rfl ?_ ?_
      · intro d os
        go_simp
        exact ⟨⟨_, rfl, by go_simp⟩, (Below.refl _ _).alloc (Nat.le_of_eq Array.size_append.symm) _⟩
      refine rel_nil ?_
      intro d os
      simp only [relAll]
      rintro uz ⟨bz, rfl, hz⟩
      have hb9 := below_regrown wr d os
      have hown2 := own_below hown hb9
      have hlo2 : Below w.heap.size w (grow (redrawn wr d) os) := hlo.trans (hb9.mono hlo.size)
      clear rc rcm pc pcm hlo hown hb9
      generalize grow (redrawn wr d) os = wd at hlo2 hown2 hz ⊢
      go_wp2_with (at_builtin; refine wpList_append_own _ rfl _ _ 39 rfl w.heap.size 5 i0 (.int .u8 0) 1 1 Tryd.underlying39 hi hz0 hz1 hz2 rfl (by decide) _ _ _ rfl hown2 ⟨bz, 0, none⟩ 1 1 [.int .u8 z.toNat] rfl rfl ?d1 ?d2 ?d3 ?d4 ?d5 ?_)
      case d1 =>
        intro q u hq
        match q, hq with
        | 0, hq => simp at hq; subst hq; simpa [Addr.add] using hz
      case d2 => intro u hu; simp at hu; subst hu; rfl
      case d3 => unfold maxLen; omega
      case d4 => omega
      case d5 => exact hlo2.size
      intro v5 w5 hown5 hgr5 _
      have T : w5.ownsRow w.heap.size 5 1 v5 (k + 1) (Lib.byteCells (List.zipWith chB (l.take (k + 1)) (m.take (k + 1)))) ∧ Below w.heap.size w w5 := by
        rw [HCC.out]
        exact ⟨hown5, hlo2.grown hgr5 hlo2.size (fun k hk => (hown2.lt k hk).1)⟩
      clear hown5 hgr5
      go_wp2_with fail
      go_roundw
      case rel => exact ⟨k + 1, by omega, by go_num, T⟩
      case measure => simp [intOf]; omega
    · have hkn : k = n := by omega
      have Hkn := Lib.hid hkn
      clear hkn
      go_wp2_with fail
      go_ret
      refine ⟨_, rfl, ?_, hlo⟩
      have h := row8_own (B := w.heap.size) (v := _) (l := List.zipWith chB (l.take k) (m.take k)) (by rw [Hlen.out]; exact hown)
      have e1 : l.take k = l := List.take_of_length_le (by rw [HN.out, Hkn.out]; exact Nat.le_refl _)
      have e2 : m.take k = m := List.take_of_length_le (by rw [HM.out, Hkn.out]; exact Nat.le_refl _)
      rw [e1, e2] at h; exact h
theorem resolved_any (v u : Value) (l m : List UInt8) (hlm : l.length = m.length) (hl : l.length ≤ 1000000) (w : World) (h : Row8 w v l) (h' : Row8 w u m) :
    Calls Tryd.prog 21 #[v, u] w fun e w' => ∃ v, e = .returned v ∧ Row8 w' v (List.zipWith resB l m) ∧ Below w.heap.size w w' := by
  have c := Lib.hid (each_res v u l m hlm hl w h h')
  go_enter Tryd.func21, Tryd.ntmps21
  go_wp2_with fail
  refine c.out.mono ?_
  rintro e w1 ⟨r, rfl, hr, hb⟩
  go_wp2_with fail
  go_ret
  exact ⟨r, rfl, hr, hb⟩
/-- what a condition chooses of two lists -/
def choL (c l m : List UInt8) : List UInt8 := if truthL c = 116 then l else if truthL c = 102 then m else List.zipWith chB l m
theorem chosen_any (z v u : Value) (c l m : List UInt8) (hlm : l.length = m.length) (hl : l.length ≤ 1000000) (hcl : c.length ≤ 1000000) (w : World) (hz : Row8 w z c) (h : Row8 w v l) (h' : Row8 w u m) :
    Calls Tryd.prog 23 #[z, v, u] w fun e w' => ∃ v, e = .returned v ∧ Row8 w' v (choL c l m) ∧ Below w.heap.size w w' := by
  have cc := Lib.hid (each_ch v u l m hlm hl w h h')
  have ct := Lib.hid (refTruth_any z c hcl w hz)
  have HL : Hid (choL c l m = if truthL c = 116 then l else if truthL c = 102 then m else List.zipWith chB l m) := rfl
  generalize choL c l m = r at HL ⊢
  generalize truthL c = t at ct HL
  have H := Lib.hid h
  have H' := Lib.hid h'
  clear h h' hz
  by_cases t1 : t = 116
  · have e1 : ((t : Int) == 116) = true := by rw [t1]; rfl
    replace HL : Hid (r = l) := HL.out.trans (if_pos t1)
    clear t1
    go_enter Tryd.func23, Tryd.ntmps23
    go_wp2_with fail
    refine ct.out.mono ?_
    rintro e w1 ⟨rfl, rfl⟩
    go_wp2_with fail
    go_ret
    exact ⟨_, rfl, by rw [HL.out]; exact H.out, Below.refl _ _⟩
  have e1 : ((t : Int) == 116) = false := beq_eq_false_iff_ne.2 (fun e => t1 (by omega))
  by_cases t2 : t = 102
  · have e2 : ((t : Int) == 102) = true := by rw [t2]; rfl
    replace HL : Hid (r = m) := HL.out.trans ((if_neg t1).trans (if_pos t2))
    clear t1 t2
    go_enter Tryd.func23, Tryd.ntmps23
    go_wp2_with fail
    refine ct.out.mono ?_
    rintro e w1 ⟨rfl, rfl⟩
    go_wp2_with fail
    go_ret
    exact ⟨_, rfl, by rw [HL.out]; exact H'.out, Below.refl _ _⟩
  have e2 : ((t : Int) == 102) = false := beq_eq_false_iff_ne.2 (fun e => t2 (by omega))
  replace HL : Hid (r = List.zipWith chB l m) := HL.out.trans ((if_neg t1).trans (if_neg t2))
  clear t1 t2
  go_enter Tryd.func23, Tryd.ntmps23
  go_wp2_with fail
  refine ct.out.mono ?_
  rintro e w1 ⟨rfl, rfl⟩
  go_wp2_with fail
  refine cc.out.mono ?_
  rintro e w1 ⟨r2, rfl, hr, hb⟩
  go_wp2_with fail
  go_ret
  exact ⟨r2, rfl, by rw [HL.out]; exact hr, hb⟩
end Go.Proofs.YtdpmojkpfnkcdaaDoor
