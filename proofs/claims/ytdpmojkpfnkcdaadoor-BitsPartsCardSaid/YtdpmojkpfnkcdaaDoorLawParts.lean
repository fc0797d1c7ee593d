/- The law BitsParts: its walk. -/
import Derived.Test.YtdpmojkpfnkcdaaDoorPartAll
import Derived.Test.YtdpmojkpfnkcdaaDoorFitMath
namespace Go.Proofs.YtdpmojkpfnkcdaaDoor
open Go Go.RowKit Go.Sort
set_option linter.unusedVariables false
theorem row8_part {w : World} {g cap n an kn : Nat} {l : List UInt8} (hl : l.length = n) (h : Row8 w (.slice (some ⟨g, 0, none⟩) n cap) l) (h2 : an + kn ≤ n) (h1 : 1 ≤ kn) (cap' : Nat) : Row8 w (.slice (some ⟨g, an, none⟩) kn cap') ((l.drop an).take kn) := by
  obtain ⟨bl, off, e, e2, hc⟩ := row_nth h (k := 0) (by omega)
  injection e with e
  injection e with e3 e4
  subst e3 e4
  have hlen : ((l.drop an).take kn).length = kn := by rw [List.length_take, List.length_drop]; omega
  refine ⟨⟨some ⟨g, an, none⟩, cap', by rw [hlen], .inr ⟨g, an, rfl, fun q hq => ?_⟩⟩⟩
  rw [hlen] at hq
  rw [List.getElem_take, List.getElem_drop]
  have := hc (an + q) (by omega)
  rwa [Nat.zero_add] at this
theorem known_vl {n : Nat} {a : Vx} (ha : a.ok n) : knownL (vl a n) = (a.x == 0#64) := by
  rw [zero_all _ n ha.hi (fun i hi => ha.subx i hi)]
  unfold knownL vl
  rw [List.all_map]
  apply all_same
  intro i hi
  show (st a i == 48 || st a i == 49) = _
  unfold st
  cases a.v.getLsbD i <;> cases a.x.getLsbD i <;> decide
theorem placed_row {n q : Nat} (a c : Vx) (at_ : Int) (n1 : 1 ≤ n) (n2 : n ≤ 64) (q1 : 1 ≤ q) (q2 : q ≤ 64) (a1 : -1000000 ≤ at_) (a2 : at_ ≤ 1000000) (v u : Value) (w : World) (h : Row8 w v (vl a n)) (h' : Row8 w u (vl c q)) :
    Calls Tryd.prog 30 #[v, .int .i64 at_, u] w fun e w' => ∃ v, e = .returned v ∧ Row8 w' v ((List.range n).map (plF (vl a n) at_ (vl c q) q)) ∧ Below w.heap.size w w' := by
  have := placed_any v u (vl a n) (vl c q) at_ (by rw [vl_len]; omega) (by rw [vl_len]; omega) (by rw [vl_len]; omega) (by rw [vl_len]; omega) a1 a2 w h h'
  rw [vl_len, vl_len] at this; exact this
theorem stretched_row {n m : Nat} (a : Vx) (s : Bool) (n1 : 1 ≤ n) (n2 : n ≤ 64) (m2 : m ≤ 64) (v : Value) (w : World) (h : Row8 w v (vl a n)) :
    Calls Tryd.prog 31 #[v, .int .i64 m, .bool s] w fun e w' => ∃ v, e = .returned v ∧ Row8 w' v ((List.range m).map (strF (vl a n) s)) ∧ Below w.heap.size w w' :=
  stretched_any v (vl a n) m s (by rw [vl_len]; omega) (by rw [vl_len]; omega) (by omega) w h
theorem window_row {n m : Nat} (a : Vx) (at_ : Int) (n1 : 1 ≤ n) (n2 : n ≤ 64) (m2 : m ≤ 64) (a1 : -100 ≤ at_) (a2 : at_ ≤ 100) (v : Value) (w : World) (h : Row8 w v (vl a n)) :
    Calls Tryd.prog 33 #[v, .int .i64 at_, .int .i64 m] w fun e w' => ∃ v, e = .returned v ∧ Row8 w' v ((List.range m).map (winF (vl a n) at_)) ∧ Below w.heap.size w w' :=
  window_any v (vl a n) at_ m (by rw [vl_len]; omega) (by rw [vl_len]; omega) (by omega) (by omega) (by omega) w h
theorem known_row {n : Nat} {a : Vx} (ha : a.ok n) (t : Bool) (ht : (a.x == 0#64) = t) (v : Value) (w : World) (h : Row8 w v (vl a n)) :
    Calls Tryd.prog 32 #[v] w fun e w' => e = .returned (.bool t) ∧ w = w' := by
  have := refKnown_any v (vl a n) (by rw [vl_len]; have := ha.hi; omega) w h
  rwa [known_vl ha, ht] at this
theorem size_no {b c : Rb} {k : Int} (h : sizeB b k = false) : (sizeB b k && c.okB) = false := by rw [h]; rfl
set_option maxRecDepth 100000 in
set_option maxHeartbeats 2000000 in
theorem bitsParts_any {B : Nat} (b c : Rb) (at_ k : Int) (s : Bool) (w : World) (hG : Glob B w) (ha0 : Hid (-9223372036854775808 ≤ at_)) (hk0 : Hid (k ≤ 9223372036854775807)) : Calls Tryd.prog 6 #[.agg #[.int .i64 b.W, .int .u64 (U b.v), .int .u64 (U b.x)], .agg #[.int .i64 c.W, .int .u64 (U c.v), .int .u64 (U c.x)], .int .i64 at_, .int .i64 k, .bool s] w fun e w' => e = .returned (.bool true) ∧ Below w.heap.size w w' := by
  obtain ⟨SL, gSL, sl1, sl0⟩ := slice_spec b at_ k hk0
  obtain ⟨PT, gPT, pt1, pt0⟩ := part_spec b c s k
  obtain ⟨PU, gPU, pu1, pu0⟩ := put_spec b c at_ ha0
  obtain ⟨SZ, gSZ, sz1, sz0⟩ := size_spec b k s
  replace gSL := Lib.hid gSL
  replace gPT := Lib.hid gPT
  replace gPU := Lib.hid gPU
  replace gSZ := Lib.hid gSZ
  replace sl1 := Lib.hid sl1
  replace pt1 := Lib.hid pt1
  replace pu1 := Lib.hid pu1
  replace sz1 := Lib.hid sz1
  replace sl0 := Lib.hid sl0
  replace pt0 := Lib.hid pt0
  replace pu0 := Lib.hid pu0
  replace sz0 := Lib.hid sz0
  have HG := Lib.hid hG
  clear hG
  go_enter Tryd.func6, Tryd.ntmps6
  go_wp2_with fail
  obtain ⟨t1, t2, t4⟩ := two_new (w := w) b c
  generalize ((w.alloc (Obj.cells #[Value.int IntKind.i64 b.W, Value.int IntKind.u64 (U b.v), Value.int IntKind.u64 (U b.x)] 24)).alloc (Obj.cells #[Value.int IntKind.i64 c.W, Value.int IntKind.u64 (U c.v), Value.int IntKind.u64 (U c.x)] 24)) = w0 at t1 t2 t4 ⊢
  refine (vectors_ok _ (HG.out.here t4)).mono ?_
  rintro e w1 ⟨rfl, hb⟩
  replace t1 := t1.below hb
  replace t2 := t2.below hb
  replace t4 := t4.trans (hb.mono t4.size)
  clear hb HG w0
  go_upto_region 4 with fail
  have C := pb_new t1 t2 t4
  generalize w1.heap.size = g at C ⊢
  generalize ((((w1.alloc zObj).alloc zObj).alloc zObj).alloc zObj) = W at C ⊢
  clear t1 t2 t4 w1
  obtain ⟨⟨b0, b1, b2, bf⟩, ⟨c0, c1, c2, cf⟩, ⟨s0, s1, s2, sf⟩, ⟨p0, p1, p2, pf⟩, ⟨u0, u1, u2, uf⟩, ⟨z0, z1, z2, zf⟩, hlt, hlo⟩ := id C
  go_cut [40] (fun s40 wx => s40 = .bool (sliceB b at_ k) ∧ Below W.heap.size W wx)
  case first =>
    cases ho : b.okB
    · have hq := Lib.hid (show sliceB b at_ k = false from by unfold sliceB; rw [ho]; rfl)
      have vb := Lib.hid fun w => valid_at b false ho w
      clear ho
      go_wp2_with fail
      refine (vb.out _).mono ?_
      rintro e w2 ⟨rfl, hb⟩
      go_wp2_with fail
      go_meet
      exact ⟨by rw [hq.out], hb⟩
    · obtain ⟨n, e, o⟩ := Rb.ok_of ho
      have n1 := o.lo
      have n2 := o.hi
      have hq : sliceB b at_ k = decide (0 ≤ at_ ∧ at_ < (n : Int) ∧ 1 ≤ k ∧ k ≤ (n : Int) - at_) := by unfold sliceB; rw [ho, e]; rfl
      have vb := Lib.hid fun w => valid_at b true ho w
      rw [e] at vb
      have C' := Lib.hid C
      rw [e] at b0
      have E := Lib.hid e
      clear ho o e
      have h9 := hk0.out
      by_cases q1 : at_ < 0
      · have hq' := Lib.hid (hq.trans (decide_eq_false (by omega)))
        clear hq h9
        go_wp2_with fail
        refine (vb.out _).mono ?_
        rintro e w2 ⟨rfl, hb⟩
        go_wp2_with fail
        go_meet
        exact ⟨by rw [hq'.out], hb⟩
      have q1' : 0 ≤ at_ := by omega
      clear q1
      by_cases q2 : (n : Int) ≤ at_
      · have hq' := Lib.hid (hq.trans (decide_eq_false (by omega)))
        clear hq h9
        go_wp2_with fail
        refine (vb.out _).mono ?_
        rintro e w2 ⟨rfl, hb⟩
        obtain ⟨b0, b1, b2, bf⟩ := C'.out.bb.below hb
        rw [E.out] at b0
        go_wp2_with fail
        go_meet
        exact ⟨by rw [hq'.out], hb⟩
      have q2' : at_ < (n : Int) := by omega
      clear q2
      by_cases q3 : k < 1
      · have hq' := Lib.hid (hq.trans (decide_eq_false (by omega)))
        clear hq h9
        go_wp2_with fail
        refine (vb.out _).mono ?_
        rintro e w2 ⟨rfl, hb⟩
        obtain ⟨b0, b1, b2, bf⟩ := C'.out.bb.below hb
        rw [E.out] at b0
        go_wp2_with fail
        go_meet
        exact ⟨by rw [hq'.out], hb⟩
      have q3' : 1 ≤ k := by omega
      clear q3
      by_cases q4 : k ≤ (n : Int) - at_
      · have hq' := Lib.hid (hq.trans (decide_eq_true ⟨q1', q2', q3', q4⟩))
        clear hq h9
        go_wp2_with fail
        refine (vb.out _).mono ?_
        rintro e w2 ⟨rfl, hb⟩
        obtain ⟨b0, b1, b2, bf⟩ := C'.out.bb.below hb
        rw [E.out] at b0
        go_wp2_with fail
        go_meet
        exact ⟨by rw [hq'.out], hb⟩
      · have hq' := Lib.hid (hq.trans (decide_eq_false (by omega)))
        have q4' : (n : Int) - at_ < k := by omega
        clear hq h9 q4
        go_wp2_with fail
        refine (vb.out _).mono ?_
        rintro e w2 ⟨rfl, hb⟩
        obtain ⟨b0, b1, b2, bf⟩ := C'.out.bb.below hb
        rw [E.out] at b0
        go_wp2_with fail
        go_meet
        exact ⟨by rw [hq'.out, decide_eq_false (by omega)], hb⟩
  case rest =>
  obtain ⟨rfl, hb⟩ := hcut
  clear b0 b1 b2 bf c0 c1 c2 cf s0 s1 s2 sf p0 p1 p2 pf u0 u1 u2 uf z0 z1 z2 zf hlt hlo
  replace C := C.below hb
  clear hb
  obtain ⟨⟨b0, b1, b2, bf⟩, ⟨c0, c1, c2, cf⟩, ⟨s0, s1, s2, sf⟩, ⟨p0, p1, p2, pf⟩, ⟨u0, u1, u2, uf⟩, ⟨z0, z1, z2, zf⟩, hlt, hlo⟩ := id C
  go_upto_if 40 with fail
  go_cut [] (fun wx => PB w g b c SL Z0 Z0 Z0 wx)
  case first =>
    cases hq : sliceB b at_ k
    · obtain rfl : SL = Z0 := sl0.out hq
      go_wp2_with fail
      go_meet
      exact C
    · obtain ⟨n, an, kn, e1, o, e2, e3, h1, h2, hB⟩ := sl1.out hq
      subst e2 e3
      have hn := o.hi
      have V := Lib.hid fun w => refV_ok n ⟨b.v, b.x⟩ w o
      have HB := Lib.hid hB
      have E1 := Lib.hid e1
      rw [e1] at b0
      clear hB o hq e1
      go_wp2_with fail
      refine (V.out _).mono ?_
      rintro e w2 ⟨vv, rfl, ho, hb⟩
      rcases ho.2 with ⟨_, hz⟩ | ⟨gg, cap, cur, rfl, hgg, hcu, hcap, hcm, hcs, htk⟩
      · omega
      have hr : Row8 w2 (.slice (some ⟨gg, 0, none⟩) n cap) (vl ⟨b.v, b.x⟩ n) := row8_own (by rw [vl_len]; exact ho)
      replace hr := Lib.hid (row8_part (vl_len _ _) hr h2 h1 (cap - an))
      clear ho hgg hcu hcs htk
      clear b0 b1 b2 bf c0 c1 c2 cf s0 s1 s2 sf p0 p1 p2 pf u0 u1 u2 uf z0 z1 z2 zf hlt hlo
      replace C := C.below hb
      clear hb
      obtain ⟨⟨b0, b1, b2, bf⟩, ⟨c0, c1, c2, cf⟩, ⟨s0, s1, s2, sf⟩, ⟨p0, p1, p2, pf⟩, ⟨u0, u1, u2, uf⟩, ⟨z0, z1, z2, zf⟩, hlt, hlo⟩ := id C
      go_wp2_with fail
      refine (refB_is _ _ _ HB.out (by rw [List.length_take, List.length_drop, vl_len]; omega) _ hr.out).mono ?_
      rintro e w3 ⟨rfl, hb⟩
      clear b0 b1 b2 bf c0 c1 c2 cf s0 s1 s2 sf p0 p1 p2 pf u0 u1 u2 uf z0 z1 z2 zf hlt hlo
      replace C := C.below hb
      clear hb
      obtain ⟨⟨b0, b1, b2, bf⟩, ⟨c0, c1, c2, cf⟩, ⟨s0, s1, s2, sf⟩, ⟨p0, p1, p2, pf⟩, ⟨u0, u1, u2, uf⟩, ⟨z0, z1, z2, zf⟩, hlt, hlo⟩ := id C
      go_wp2_with fail
      replace C := C.puts SL
      go_meet
      exact C
  case rest =>
  clear b0 b1 b2 bf c0 c1 c2 cf s0 s1 s2 sf p0 p1 p2 pf u0 u1 u2 uf z0 z1 z2 zf hlt hlo
  clear C
  have C := hcut
  clear hcut
  obtain ⟨⟨b0, b1, b2, bf⟩, ⟨c0, c1, c2, cf⟩, ⟨s0, s1, s2, sf⟩, ⟨p0, p1, p2, pf⟩, ⟨u0, u1, u2, uf⟩, ⟨z0, z1, z2, zf⟩, hlt, hlo⟩ := id C
  go_upto_region 6 with fail
  go_cut [54] (fun s54 wx => s54 = .bool (b.okB && c.okB) ∧ PB w g b c SL Z0 Z0 Z0 wx)
  case first =>
    cases hb1 : b.okB
    · have vb := Lib.hid fun w => valid_at b false hb1 w
      have HO := Lib.hid hb1
      clear hb1
      go_wp2_with fail
      refine (vb.out _).mono ?_
      rintro e w2 ⟨rfl, hb⟩
      go_wp2_with fail
      go_meet
      exact ⟨by rw [HO.out]; rfl, C.below hb⟩
    · have vb := Lib.hid fun w => valid_at b true hb1 w
      obtain ⟨t, ht⟩ : ∃ t, c.okB = t := ⟨_, rfl⟩
      have vc := Lib.hid fun w => valid_at c t ht w
      have HT := Lib.hid ht
      have HO := Lib.hid hb1
      clear hb1 ht
      go_wp2_with fail
      refine (vb.out _).mono ?_
      rintro e w2 ⟨rfl, hb⟩
      clear b0 b1 b2 bf c0 c1 c2 cf s0 s1 s2 sf p0 p1 p2 pf u0 u1 u2 uf z0 z1 z2 zf hlt hlo
      replace C := C.below hb
      clear hb
      obtain ⟨⟨b0, b1, b2, bf⟩, ⟨c0, c1, c2, cf⟩, ⟨s0, s1, s2, sf⟩, ⟨p0, p1, p2, pf⟩, ⟨u0, u1, u2, uf⟩, ⟨z0, z1, z2, zf⟩, hlt, hlo⟩ := id C
      go_wp2_with fail
      refine (vc.out _).mono ?_
      rintro e w3 ⟨rfl, hb⟩
      clear b0 b1 b2 bf c0 c1 c2 cf s0 s1 s2 sf p0 p1 p2 pf u0 u1 u2 uf z0 z1 z2 zf hlt hlo
      replace C := C.below hb
      clear hb
      obtain ⟨⟨b0, b1, b2, bf⟩, ⟨c0, c1, c2, cf⟩, ⟨s0, s1, s2, sf⟩, ⟨p0, p1, p2, pf⟩, ⟨u0, u1, u2, uf⟩, ⟨z0, z1, z2, zf⟩, hlt, hlo⟩ := id C
      go_wp2_with fail
      go_meet
      exact ⟨by rw [HO.out, HT.out]; rfl, C⟩
  case rest =>
  clear b0 b1 b2 bf c0 c1 c2 cf s0 s1 s2 sf p0 p1 p2 pf u0 u1 u2 uf z0 z1 z2 zf hlt hlo
  clear C
  obtain ⟨rfl, C⟩ := hcut
  obtain ⟨⟨b0, b1, b2, bf⟩, ⟨c0, c1, c2, cf⟩, ⟨s0, s1, s2, sf⟩, ⟨p0, p1, p2, pf⟩, ⟨u0, u1, u2, uf⟩, ⟨z0, z1, z2, zf⟩, hlt, hlo⟩ := id C
  go_upto_if 54 with fail
  go_cut [] (fun wx => PB w g b c SL Z0 PU Z0 wx)
  case first =>
    cases hq : (b.okB && c.okB)
    · obtain rfl : PU = Z0 := pu0.out hq
      go_wp2_with fail
      go_meet
      exact C
    · obtain ⟨n, q, e1, e2, o, o2, hB⟩ := pu1.out hq
      have n2 := o.hi
      have q2 := o2.hi
      have n1 := o.lo
      have q1 := o2.lo
      have HA := Lib.hid o
      have HC := Lib.hid o2
      have HB := Lib.hid hB
      have E1 := Lib.hid e1
      have E2 := Lib.hid e2
      rw [e1] at b0
      rw [e2] at c0
      clear hB o o2 hq e1 e2
      go_wp2_with fail
      have gb0 := cell_regrown b0
      have gb1 := cell_regrown b1
      have gb2 := cell_regrown b2
      have gc0 := cell_regrown c0
      have gc1 := cell_regrown c1
      have gc2 := cell_regrown c2
      have gs0 := cell_regrown s0
      have gs1 := cell_regrown s1
      have gs2 := cell_regrown s2
      have gp0 := cell_regrown p0
      have gp1 := cell_regrown p1
      have gp2 := cell_regrown p2
      have gu0 := cell_regrown u0
      have gu1 := cell_regrown u1
      have gu2 := cell_regrown u2
      have gz0 := cell_regrown z0
      have gz1 := cell_regrown z1
      have gz2 := cell_regrown z2
      refine wp_region_rel 9 (by kernel_rfl) (by kernel_rfl) ?_
      simp only [List.take_succ_cons, List.take_zero, List.drop_succ_cons, List.drop_zero]
      (refine rel_fix0 (fun K hK => ?_); go_simp; refine hK _ ?_; clear hK K)
      refine rel_fact [] (fun v w => Row8 w v (vl ⟨b.v, b.x⟩ n)) 56 rfl (by simp [Act.put]) (row8_sta _) (by rfl) (by kernel_rfl) (by kernel_rfl) ?_ ?_
      · intro d os
        simp only [relAll]
        go_simp
        exact ret_fact (refV_row n ⟨b.v, b.x⟩ _ HA.out)
      (refine rel_fix (by kernel_rfl) (by kernel_rfl) (fun K hK => ?_); go_simp; refine hK _ ?_; clear hK K)
      (refine rel_fix (by kernel_rfl) (by kernel_rfl) (fun K hK => ?_); go_simp; refine hK _ ?_; clear hK K)
      (refine rel_fix (by kernel_rfl) (by kernel_rfl) (fun K hK => ?_); go_simp; refine hK _ ?_; clear hK K)
      (refine rel_fix (by kernel_rfl) (by kernel_rfl) (fun K hK => ?_); go_simp; refine hK _ ?_; clear hK K)
      refine rel_fact [] (fun v w => Row8 w v (vl ⟨c.v, c.x⟩ q)) 61 rfl (by simp [Act.put]) (row8_sta _) (by rfl) (by kernel_rfl) (by kernel_rfl) ?_ ?_
      · intro d os
        simp only [relAll]
        go_simp
        exact ret_fact (refV_row q ⟨c.v, c.x⟩ _ HC.out)
      refine rel_fact [(61, _), (56, _)] (fun v w => Row8 w v ((List.range n).map (plF (vl ⟨b.v, b.x⟩ n) (max (-100) (min at_ 100)) (vl ⟨c.v, c.x⟩ q) q))) 62 rfl (by simp [Act.put]) (row8_sta _) (by rfl) (by kernel_rfl) (by kernel_rfl) ?_ ?_
      · intro d os
        simp only [relAll]
        rintro v2 h2 v1 h1
        go_simp
        exact ret_fact (placed_row ⟨b.v, b.x⟩ ⟨c.v, c.x⟩ _ n1 n2 q1 q2 (by omega) (by omega) _ _ _ h1 h2)
      refine rel_use [(62, _)] (.agg #[.int .i64 PU.W, .int .u64 (U PU.v), .int .u64 (U PU.x)]) (by rfl) (by kernel_rfl) (by kernel_rfl) ?_ ?_
      · intro d os
        simp only [relAll]
        rintro v3 h3
        go_simp
        exact ret_fix (refB_is _ _ _ HB.out (by simp; omega) _ h3)
      refine rel_nil ?_
      intro d os
      simp only [relAll]
      rintro v3 - v2 - v1 -
      clear gb0 gb1 gb2 gc0 gc1 gc2 gs0 gs1 gs2 gp0 gp1 gp2 gu0 gu1 gu2 gz0 gz1 gz2
      clear b0 b1 b2 bf c0 c1 c2 cf s0 s1 s2 sf p0 p1 p2 pf u0 u1 u2 uf z0 z1 z2 zf hlt hlo
      replace C := C.below (below_regrown _ d os)
      generalize grow (redrawn _ d) os = W4 at C ⊢
      obtain ⟨⟨b0, b1, b2, bf⟩, ⟨c0, c1, c2, cf⟩, ⟨s0, s1, s2, sf⟩, ⟨p0, p1, p2, pf⟩, ⟨u0, u1, u2, uf⟩, ⟨z0, z1, z2, zf⟩, hlt, hlo⟩ := id C
      go_wp2_with fail
      replace C := C.putu PU
      go_meet
      exact C
  case rest =>
  clear b0 b1 b2 bf c0 c1 c2 cf s0 s1 s2 sf p0 p1 p2 pf u0 u1 u2 uf z0 z1 z2 zf hlt hlo
  clear C
  have C := hcut
  clear hcut
  obtain ⟨⟨b0, b1, b2, bf⟩, ⟨c0, c1, c2, cf⟩, ⟨s0, s1, s2, sf⟩, ⟨p0, p1, p2, pf⟩, ⟨u0, u1, u2, uf⟩, ⟨z0, z1, z2, zf⟩, hlt, hlo⟩ := id C
  go_upto_region 8 with fail
  go_cut [73] (fun s73 wx => s73 = .bool (sizeB b k) ∧ PB w g b c SL Z0 PU Z0 wx)
  case first =>
    cases ho : b.okB
    · have hq := Lib.hid (show sizeB b k = false from by unfold sizeB; rw [ho]; rfl)
      have vb := Lib.hid fun w => valid_at b false ho w
      clear ho
      go_wp2_with fail
      refine (vb.out _).mono ?_
      rintro e w2 ⟨rfl, hb⟩
      go_wp2_with fail
      go_meet
      exact ⟨by rw [hq.out], C.below hb⟩
    · have hq : sizeB b k = decide (1 ≤ k ∧ k ≤ 64) := by unfold sizeB; rw [ho]; rfl
      have vb := Lib.hid fun w => valid_at b true ho w
      clear ho
      by_cases k1 : k < 1
      · have hq' := Lib.hid (hq.trans (decide_eq_false (by omega)))
        clear hq
        go_wp2_with fail
        refine (vb.out _).mono ?_
        rintro e w2 ⟨rfl, hb⟩
        go_wp2_with fail
        go_meet
        exact ⟨by rw [hq'.out], C.below hb⟩
      have k1' : 1 ≤ k := by omega
      clear k1
      by_cases k2 : k ≤ 64
      · have hq' := Lib.hid (hq.trans (decide_eq_true ⟨k1', k2⟩))
        clear hq
        go_wp2_with fail
        refine (vb.out _).mono ?_
        rintro e w2 ⟨rfl, hb⟩
        go_wp2_with fail
        go_meet
        exact ⟨by rw [hq'.out], C.below hb⟩
      · have hq' := Lib.hid (hq.trans (decide_eq_false (by omega)))
        have k2' : 64 < k := by omega
        clear hq k2
        go_wp2_with fail
        refine (vb.out _).mono ?_
        rintro e w2 ⟨rfl, hb⟩
        go_wp2_with fail
        go_meet
        exact ⟨by first | (rw [hq'.out]; done) | rw [hq'.out, decide_eq_false (by omega)], C.below hb⟩
  case rest =>
  clear b0 b1 b2 bf c0 c1 c2 cf s0 s1 s2 sf p0 p1 p2 pf u0 u1 u2 uf z0 z1 z2 zf hlt hlo
  clear C
  obtain ⟨rfl, C⟩ := hcut
  obtain ⟨⟨b0, b1, b2, bf⟩, ⟨c0, c1, c2, cf⟩, ⟨s0, s1, s2, sf⟩, ⟨p0, p1, p2, pf⟩, ⟨u0, u1, u2, uf⟩, ⟨z0, z1, z2, zf⟩, hlt, hlo⟩ := id C
  go_upto_if 73 with fail
  go_cut [] (fun wx => PB w g b c SL PT PU SZ wx)
  case first =>
    cases hq : sizeB b k
    · obtain rfl : SZ = Z0 := sz0.out hq
      obtain rfl : PT = Z0 := pt0.out (size_no hq)
      go_wp2_with fail
      go_meet
      exact C
    · obtain ⟨n, kn, e1, e2, k1, k2, o, hB⟩ := sz1.out hq
      subst e2
      have n2 := o.hi
      have n1 := o.lo
      have HA := Lib.hid o
      have HB := Lib.hid hB
      have E1 := Lib.hid e1
      have HQ := Lib.hid hq
      rw [e1] at b0
      clear hB o hq e1
      go_wp2_with fail
      refine (refV_row n ⟨b.v, b.x⟩ _ HA.out).mono ?_
      rintro e w2 ⟨v1, rfl, h1, hb⟩
      clear b0 b1 b2 bf c0 c1 c2 cf s0 s1 s2 sf p0 p1 p2 pf u0 u1 u2 uf z0 z1 z2 zf hlt hlo
      replace C := C.below hb
      clear hb
      obtain ⟨⟨b0, b1, b2, bf⟩, ⟨c0, c1, c2, cf⟩, ⟨s0, s1, s2, sf⟩, ⟨p0, p1, p2, pf⟩, ⟨u0, u1, u2, uf⟩, ⟨z0, z1, z2, zf⟩, hlt, hlo⟩ := id C
      go_wp2_with fail
      refine (stretched_row ⟨b.v, b.x⟩ s n1 n2 k2 _ _ h1).mono ?_
      clear h1
      rintro e w3 ⟨v2, rfl, h2, hb⟩
      clear b0 b1 b2 bf c0 c1 c2 cf s0 s1 s2 sf p0 p1 p2 pf u0 u1 u2 uf z0 z1 z2 zf hlt hlo
      replace C := C.below hb
      clear hb
      obtain ⟨⟨b0, b1, b2, bf⟩, ⟨c0, c1, c2, cf⟩, ⟨s0, s1, s2, sf⟩, ⟨p0, p1, p2, pf⟩, ⟨u0, u1, u2, uf⟩, ⟨z0, z1, z2, zf⟩, hlt, hlo⟩ := id C
      go_wp2_with fail
      refine (refB_is _ _ _ HB.out (by simp; omega) _ h2).mono ?_
      clear h2
      rintro e w4 ⟨rfl, hb⟩
      clear b0 b1 b2 bf c0 c1 c2 cf s0 s1 s2 sf p0 p1 p2 pf u0 u1 u2 uf z0 z1 z2 zf hlt hlo
      replace C := C.below hb
      clear hb
      obtain ⟨⟨b0, b1, b2, bf⟩, ⟨c0, c1, c2, cf⟩, ⟨s0, s1, s2, sf⟩, ⟨p0, p1, p2, pf⟩, ⟨u0, u1, u2, uf⟩, ⟨z0, z1, z2, zf⟩, hlt, hlo⟩ := id C
      go_wp2_with fail
      replace C := C.putz SZ
      clear b0 b1 b2 bf c0 c1 c2 cf s0 s1 s2 sf p0 p1 p2 pf u0 u1 u2 uf z0 z1 z2 zf hlt hlo
      generalize (((w4.setCell _ _).setCell _ _).setCell _ _) = w5 at C ⊢
      obtain ⟨⟨b0, b1, b2, bf⟩, ⟨c0, c1, c2, cf⟩, ⟨s0, s1, s2, sf⟩, ⟨p0, p1, p2, pf⟩, ⟨u0, u1, u2, uf⟩, ⟨z0, z1, z2, zf⟩, hlt, hlo⟩ := id C
      cases hc : c.okB
      · have vc := Lib.hid fun w => valid_at c false hc w
        obtain rfl : PT = Z0 := pt0.out (by rw [hc, Bool.and_false])
        clear hc
        go_wp2_with fail
        refine (vc.out _).mono ?_
        rintro e w6 ⟨rfl, hb⟩
        go_wp2_with fail
        go_meet
        exact C.below hb
      · have vc := Lib.hid fun w => valid_at c true hc w
        obtain ⟨n', q, kn', e1, e2, e3, h1, h2, o, o2, g1, g2⟩ := pt1.out (by rw [HQ.out, hc]; rfl)
        obtain rfl : n' = n := by have := E1.out; omega
        obtain rfl : kn' = kn := by omega
        have q1 := o2.lo
        have q2 := o2.hi
        have HC := Lib.hid o2
        have E2 := Lib.hid e2
        have G1 := Lib.hid g1
        have G2 := Lib.hid g2
        clear hc e1 e2 e3 h1 h2 o o2 g1 g2
        go_wp2_with fail
        refine (vc.out _).mono ?_
        rintro e w6 ⟨rfl, hb⟩
        clear b0 b1 b2 bf c0 c1 c2 cf s0 s1 s2 sf p0 p1 p2 pf u0 u1 u2 uf z0 z1 z2 zf hlt hlo
        replace C := C.below hb
        clear hb
        obtain ⟨⟨b0, b1, b2, bf⟩, ⟨c0, c1, c2, cf⟩, ⟨s0, s1, s2, sf⟩, ⟨p0, p1, p2, pf⟩, ⟨u0, u1, u2, uf⟩, ⟨z0, z1, z2, zf⟩, hlt, hlo⟩ := id C
        go_wp2_with fail
        refine (refFill_any _ 120 (by omega) _).mono ?_
        rintro e w7 ⟨v7, rfl, h7, hb⟩
        clear b0 b1 b2 bf c0 c1 c2 cf s0 s1 s2 sf p0 p1 p2 pf u0 u1 u2 uf z0 z1 z2 zf hlt hlo
        replace C := C.below hb
        clear hb
        obtain ⟨⟨b0, b1, b2, bf⟩, ⟨c0, c1, c2, cf⟩, ⟨s0, s1, s2, sf⟩, ⟨p0, p1, p2, pf⟩, ⟨u0, u1, u2, uf⟩, ⟨z0, z1, z2, zf⟩, hlt, hlo⟩ := id C
        go_wp2_with fail
        obtain ⟨R0, hR0⟩ : ∃ r, Bl (List.replicate kn' 120) = r := ⟨_, rfl⟩
        refine (refB_is _ _ R0 hR0 (by rw [List.length_replicate]; omega) _ h7).mono ?_
        have HR0 := Lib.hid hR0
        clear h7 hR0
        rintro e w8 ⟨rfl, hb⟩
        clear b0 b1 b2 bf c0 c1 c2 cf s0 s1 s2 sf p0 p1 p2 pf u0 u1 u2 uf z0 z1 z2 zf hlt hlo
        replace C := C.below hb
        clear hb
        obtain ⟨⟨b0, b1, b2, bf⟩, ⟨c0, c1, c2, cf⟩, ⟨s0, s1, s2, sf⟩, ⟨p0, p1, p2, pf⟩, ⟨u0, u1, u2, uf⟩, ⟨z0, z1, z2, zf⟩, hlt, hlo⟩ := id C
        rw [E2.out] at c0
        go_wp2_with fail
        replace C := C.putp R0
        clear b0 b1 b2 bf c0 c1 c2 cf s0 s1 s2 sf p0 p1 p2 pf u0 u1 u2 uf z0 z1 z2 zf hlt hlo
        generalize (((w8.setCell _ _).setCell _ _).setCell _ _) = w9 at C ⊢
        obtain ⟨⟨b0, b1, b2, bf⟩, ⟨c0, c1, c2, cf⟩, ⟨s0, s1, s2, sf⟩, ⟨p0, p1, p2, pf⟩, ⟨u0, u1, u2, uf⟩, ⟨z0, z1, z2, zf⟩, hlt, hlo⟩ := id C
        refine (refV_row q ⟨c.v, c.x⟩ _ HC.out).mono ?_
        rintro e w10 ⟨v10, rfl, h10, hb⟩
        clear b0 b1 b2 bf c0 c1 c2 cf s0 s1 s2 sf p0 p1 p2 pf u0 u1 u2 uf z0 z1 z2 zf hlt hlo
        replace C := C.below hb
        clear hb
        obtain ⟨⟨b0, b1, b2, bf⟩, ⟨c0, c1, c2, cf⟩, ⟨s0, s1, s2, sf⟩, ⟨p0, p1, p2, pf⟩, ⟨u0, u1, u2, uf⟩, ⟨z0, z1, z2, zf⟩, hlt, hlo⟩ := id C
        go_wp2_with fail
        obtain ⟨t, ht⟩ : ∃ t, (c.x == 0#64) = t := ⟨_, rfl⟩
        refine (known_row HC.out t ht _ _ h10).mono ?_
        clear h10
        rintro e w11 ⟨rfl, rfl⟩
        go_upto_if 87 with fail
        cases t
        · obtain rfl : R0 = PT := HR0.out.symm.trans (G1.out ht)
          go_wp2_with fail
          go_meet
          exact C
        · obtain ⟨off, hoff, o1, o3, hP⟩ := G2.out ht
          have HO := Lib.hid hoff
          have HP := Lib.hid hP
          clear hoff hP ht
          rw [E1.out] at b0
          rw [E2.out] at c0
          go_wp2_with fail
          have gb0 := cell_regrown b0
          have gb1 := cell_regrown b1
          have gb2 := cell_regrown b2
          have gc0 := cell_regrown c0
          have gc1 := cell_regrown c1
          have gc2 := cell_regrown c2
          have gs0 := cell_regrown s0
          have gs1 := cell_regrown s1
          have gs2 := cell_regrown s2
          have gp0 := cell_regrown p0
          have gp1 := cell_regrown p1
          have gp2 := cell_regrown p2
          have gu0 := cell_regrown u0
          have gu1 := cell_regrown u1
          have gu2 := cell_regrown u2
          have gz0 := cell_regrown z0
          have gz1 := cell_regrown z1
          have gz2 := cell_regrown z2
          refine wp_region_rel 9 (by kernel_rfl) (by kernel_rfl) ?_
          simp only [List.take_succ_cons, List.take_zero, List.drop_succ_cons, List.drop_zero]
          (refine rel_fix0 (fun K hK => ?_); go_simp; refine hK _ ?_; clear hK K)
          refine rel_fact [] (fun v w => Row8 w v (vl ⟨b.v, b.x⟩ n')) 89 rfl (by simp [Act.put]) (row8_sta _) (by rfl) (by kernel_rfl) (by kernel_rfl) ?_ ?_
          · intro d os
            simp only [relAll]
            go_simp
            exact ret_fact (refV_row n' ⟨b.v, b.x⟩ _ HA.out)
          (refine rel_fix (by kernel_rfl) (by kernel_rfl) (fun K hK => ?_); go_simp; refine hK _ ?_; clear hK K)
          refine rel_fact [] (fun v w => Row8 w v (vl ⟨c.v, c.x⟩ q)) 91 rfl (by simp [Act.put]) (row8_sta _) (by rfl) (by kernel_rfl) (by kernel_rfl) ?_ ?_
          · intro d os
            simp only [relAll]
            go_simp
            exact ret_fact (refV_row q ⟨c.v, c.x⟩ _ HC.out)
          (refine rel_fix (by kernel_rfl) (by kernel_rfl) (fun K hK => ?_); go_simp; refine hK _ ?_; clear hK K)
          refine rel_use [(91, _)] (.int .i64 off) (by rfl) (by kernel_rfl) (by kernel_rfl) ?_ ?_
          · intro d os
            simp only [relAll]
            rintro v2 h2
            go_simp
            exact ret_fix (HO.out _ _ h2)
          (refine rel_fix (by kernel_rfl) (by kernel_rfl) (fun K hK => ?_); go_simp; refine hK _ ?_; clear hK K)
          refine rel_fact [(89, _)] (fun v w => Row8 w v ((List.range kn').map (winF (vl ⟨b.v, b.x⟩ n') off))) 95 rfl (by simp [Act.put]) (row8_sta _) (by rfl) (by kernel_rfl) (by kernel_rfl) ?_ ?_
          · intro d os
            simp only [relAll]
            rintro v1 h1
            go_simp
            exact ret_fact (window_row ⟨b.v, b.x⟩ off n1 n2 k2 o1 o3 _ _ h1)
          refine rel_use [(95, _)] (.agg #[.int .i64 PT.W, .int .u64 (U PT.v), .int .u64 (U PT.x)]) (by rfl) (by kernel_rfl) (by kernel_rfl) ?_ ?_
          · intro d os
            simp only [relAll]
            rintro v3 h3
            go_simp
            exact ret_fix (refB_is _ _ _ HP.out (by simp; omega) _ h3)
          refine rel_nil ?_
          intro d os
          simp only [relAll]
          rintro v3 - v2 - v1 -
          clear gb0 gb1 gb2 gc0 gc1 gc2 gs0 gs1 gs2 gp0 gp1 gp2 gu0 gu1 gu2 gz0 gz1 gz2
          clear b0 b1 b2 bf c0 c1 c2 cf s0 s1 s2 sf p0 p1 p2 pf u0 u1 u2 uf z0 z1 z2 zf hlt hlo
          replace C := C.below (below_regrown _ d os)
          generalize grow (redrawn _ d) os = W4 at C ⊢
          obtain ⟨⟨b0, b1, b2, bf⟩, ⟨c0, c1, c2, cf⟩, ⟨s0, s1, s2, sf⟩, ⟨p0, p1, p2, pf⟩, ⟨u0, u1, u2, uf⟩, ⟨z0, z1, z2, zf⟩, hlt, hlo⟩ := id C
          go_wp2_with fail
          replace C := C.putp PT
          go_meet
          exact C
  case rest =>
  clear b0 b1 b2 bf c0 c1 c2 cf s0 s1 s2 sf p0 p1 p2 pf u0 u1 u2 uf z0 z1 z2 zf hlt hlo
  clear C
  have C := hcut
  clear hcut
  obtain ⟨⟨b0, b1, b2, bf⟩, ⟨c0, c1, c2, cf⟩, ⟨s0, s1, s2, sf⟩, ⟨p0, p1, p2, pf⟩, ⟨u0, u1, u2, uf⟩, ⟨z0, z1, z2, zf⟩, hlt, hlo⟩ := id C
  go_upto_region 14 with fail
  have gb0 := cell_regrown b0
  have gb1 := cell_regrown b1
  have gb2 := cell_regrown b2
  have gc0 := cell_regrown c0
  have gc1 := cell_regrown c1
  have gc2 := cell_regrown c2
  have gs0 := cell_regrown s0
  have gs1 := cell_regrown s1
  have gs2 := cell_regrown s2
  have gp0 := cell_regrown p0
  have gp1 := cell_regrown p1
  have gp2 := cell_regrown p2
  have gu0 := cell_regrown u0
  have gu1 := cell_regrown u1
  have gu2 := cell_regrown u2
  have gz0 := cell_regrown z0
  have gz1 := cell_regrown z1
  have gz2 := cell_regrown z2
  refine wp_region_rel 32 (by kernel_rfl) (by kernel_rfl) ?_
  simp only [List.take_succ_cons, List.take_zero, List.drop_succ_cons, List.drop_zero]
  (refine rel_fix0 (fun K hK => ?_); go_simp; refine hK _ ?_; clear hK K)
  (refine rel_fix0 (fun K hK => ?_); go_simp; refine hK _ ?_; clear hK K)
  (refine rel_fix0 (fun K hK => ?_); go_simp; refine hK _ ?_; clear hK K)
  (refine rel_fix0 (fun K hK => ?_); go_simp; apply Exists.intro; refine ⟨fun _ _ => ?_, hK _ ?_⟩; (with_reducible exact ret_fix (gSL.out _)); clear hK K)
  (refine rel_fix0 (fun K hK => ?_); go_simp; refine hK _ ?_; clear hK K)
  (refine rel_fix0 (fun K hK => ?_); go_simp; refine hK _ ?_; clear hK K)
  (refine rel_fix0 (fun K hK => ?_); go_simp; refine hK _ ?_; clear hK K)
  (refine rel_fix0 (fun K hK => ?_); go_simp; refine hK _ ?_; clear hK K)
  (refine rel_fix0 (fun K hK => ?_); go_simp; refine hK _ ?_; clear hK K)
  (refine rel_fix0 (fun K hK => ?_); go_simp; refine hK _ ?_; clear hK K)
  (refine rel_fix0 (fun K hK => ?_); go_simp; refine hK _ ?_; clear hK K)
  (refine rel_fix0 (fun K hK => ?_); go_simp; apply Exists.intro; refine ⟨fun _ _ => ?_, hK _ ?_⟩; (with_reducible exact ret_fix (gPT.out _)); clear hK K)
  (refine rel_fix0 (fun K hK => ?_); go_simp; refine hK _ ?_; clear hK K)
  (refine rel_fix0 (fun K hK => ?_); go_simp; refine hK _ ?_; clear hK K)
  (refine rel_fix0 (fun K hK => ?_); go_simp; refine hK _ ?_; clear hK K)
  (refine rel_fix0 (fun K hK => ?_); go_simp; refine hK _ ?_; clear hK K)
  (refine rel_fix0 (fun K hK => ?_); go_simp; refine hK _ ?_; clear hK K)
  (refine rel_fix0 (fun K hK => ?_); go_simp; refine hK _ ?_; clear hK K)
  (refine rel_fix0 (fun K hK => ?_); go_simp; refine hK _ ?_; clear hK K)
  (refine rel_fix0 (fun K hK => ?_); go_simp; apply Exists.intro; refine ⟨fun _ _ => ?_, hK _ ?_⟩; (with_reducible exact ret_fix (gPU.out _)); clear hK K)
  (refine rel_fix0 (fun K hK => ?_); go_simp; refine hK _ ?_; clear hK K)
  (refine rel_fix0 (fun K hK => ?_); go_simp; refine hK _ ?_; clear hK K)
  (refine rel_fix0 (fun K hK => ?_); go_simp; refine hK _ ?_; clear hK K)
  (refine rel_fix0 (fun K hK => ?_); go_simp; refine hK _ ?_; clear hK K)
  (refine rel_fix0 (fun K hK => ?_); go_simp; refine hK _ ?_; clear hK K)
  (refine rel_fix0 (fun K hK => ?_); go_simp; refine hK _ ?_; clear hK K)
  (refine rel_fix0 (fun K hK => ?_); go_simp; refine hK _ ?_; clear hK K)
  (refine rel_fix0 (fun K hK => ?_); go_simp; apply Exists.intro; refine ⟨fun _ _ => ?_, hK _ ?_⟩; (with_reducible exact ret_fix (gSZ.out _)); clear hK K)
  (refine rel_fix0 (fun K hK => ?_); go_simp; refine hK _ ?_; clear hK K)
  (refine rel_fix0 (fun K hK => ?_); go_simp; refine hK _ ?_; clear hK K)
  (refine rel_fix0 (fun K hK => ?_); go_simp; refine hK _ ?_; clear hK K)
  (refine rel_fix0 (fun K hK => ?_); go_simp; refine hK _ ?_; clear hK K)
  refine rel_nil ?_
  intro d os
  simp only [relAll]
  clear gb0 gb1 gb2 gc0 gc1 gc2 gs0 gs1 gs2 gp0 gp1 gp2 gu0 gu1 gu2 gz0 gz1 gz2
  clear b0 b1 b2 bf c0 c1 c2 cf s0 s1 s2 sf p0 p1 p2 pf u0 u1 u2 uf z0 z1 z2 zf hlt
  have hb9 := hlo.trans ((below_regrown _ d os).mono hlo.size)
  generalize grow (redrawn _ d) os = W9 at hb9 ⊢
  go_wp2_with fail
  go_ret
  exact ⟨rfl, hb9⟩
end Go.Proofs.YtdpmojkpfnkcdaaDoor
