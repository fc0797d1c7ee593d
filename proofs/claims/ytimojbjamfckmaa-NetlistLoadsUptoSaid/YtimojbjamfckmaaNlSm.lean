/- Netlists that are equal: the program's Same and the reference's SameNetlist. Condition: the sizes of netlists that came in. -/
import Derived.Test.YtimojbjamfckmaaNlFf
import Derived.Test.YtimojbjamfckmaaGlEq
namespace Go.Proofs.Ytimojbjamfckmaa
open Go Go.RowKit Go.Sort
set_option linter.unusedVariables false
theorem fl_ext {r s : Fl} (h0 : r.nm = s.nm) (h1 : r.cell = s.cell) (h2 : r.d = s.d) (h3 : r.en = s.en) (h4 : r.it = s.it) : r = s := by cases r; cases s; simp_all
instance : DecidableEq Fl := fun r s => if h : r.nm = s.nm ∧ r.cell = s.cell ∧ r.d = s.d ∧ r.en = s.en ∧ r.it = s.it then isTrue (fl_ext h.1 h.2.1 h.2.2.1 h.2.2.2.1 h.2.2.2.2) else isFalse (fun e => h (by subst e; exact ⟨rfl, rfl, rfl, rfl, rfl⟩))
def gc (g : Ga) : Int × BitVec 64 × List Int := (g.cell, g.tab, g.ins)
theorem beqn2 {a b : Int} (h : ¬ a = b) : (a == b) = false ∧ (a != b) = true := by
  have q : (a == b) = false := beq_eq_false_iff_ne.2 h
  exact ⟨q, by simp [bne, q]⟩
set_option maxRecDepth 100000 in
set_option maxHeartbeats 8000000 in
theorem equalFl_any (l m : List Fl) (v1 v2 : Value) (h1n : l.length ≤ 4000000000) (h2n : m.length ≤ 4000000000) (w : World) (h1 : RowOf 5 encFl l v1 w) (h2 : RowOf 5 encFl m v2 w) : Calls Try.prog 77 #[v1, v2] w fun e w' => e = .returned (.bool (decide (l = m))) ∧ Below w.heap.size w w' := by
  obtain ⟨ad1, c1, rfl, k1, r1⟩ := h1.open'
  obtain ⟨ad2, c2, rfl, k2, r2⟩ := h2.open'
  clear h1 h2
  by_cases hlen : l.length = m.length
  rotate_left
  · have hli : ¬ (l.length : Int) = (m.length : Int) := by omega
    have hlb : ((l.length : Int) == (m.length : Int)) = false := beq_eq_false_iff_ne.2 hli
    have HF : Hid (decide (l = m) = false) := Lib.hid (decide_eq_false (fun e => hlen (by rw [e])))
    go_enter Try.func77, Try.ntmps77
    go_wp2_with fail
    go_ret
    exact ⟨ret_bool HF.out.symm, Below.refl _ _⟩
  · rw [← hlen]
    rw [← hlen] at k2 h2n
    go_enter Try.func77, Try.ntmps77
    go_wp2_with fail
    go_loopw [13] (fun i wr => ∃ j : Nat, j ≤ l.length ∧ i = .int .i64 (j : Int) ∧ Hid (l.take j = m.take j) ∧ Hid (Below w.heap.size w wr)) (fun i _ => l.length - (intOf i).toNat)
    case atStart => exact ⟨0, Nat.zero_le _, rfl, rfl, Lib.hid (Below.refl _ _)⟩
    case round =>
      obtain ⟨j, hj, rfl, hE, hB⟩ := hrel
      rename World => WR
      have hj0 : (0 : Int) ≤ (j : Int) := by omega
      by_cases hlt : j < l.length
      · have hji : (j : Int) < (l.length : Int) := by omega
        obtain ⟨b1, o1, rfl, q1⟩ := (r1.below hB.out).pick (by omega)
        obtain ⟨b2, o2, rfl, q2⟩ := (r2.below hB.out).pick (by omega)
        have a0 := q1 j hlt 0 _ rfl
        have d0 := q2 j (by omega) 0 _ rfl
        have a1 := q1 j hlt 1 _ rfl
        have d1 := q2 j (by omega) 1 _ rfl
        have a2 := q1 j hlt 2 _ rfl
        have d2 := q2 j (by omega) 2 _ rfl
        have a3 := q1 j hlt 3 _ rfl
        have d3 := q2 j (by omega) 3 _ rfl
        have a4 := q1 j hlt 4 _ rfl
        have d4 := q2 j (by omega) 4 _ rfl
        simp only [Nat.add_zero] at a0 d0
        clear q1 q2
        by_cases he : l[j]! = m[j]!
        · have HS : Hid (l.take (j + 1) = m.take (j + 1)) := Lib.hid (take_eq hE.out hlt (by omega) he)
          rw [he] at a0 a1 a2 a3 a4
          generalize m[j]! = x at a0 d0 a1 d1 a2 d2 a3 d3 a4 d4
          clear he hE
          go_upto_region 6 with fail
          go_region
          all_goals go_wp2_with fail
          all_goals go_roundw
          case rel => exact ⟨j + 1, by omega, by go_num, HS, Lib.hid (below_drewN hB.out 1)⟩
          all_goals first | done | (simp [intOf]; done) | (simp [intOf]; omega)
        · have HF : Hid (decide (l = m) = false) := Lib.hid (decide_eq_false (ne_at he))
          generalize l[j]! = x at *
          generalize m[j]! = y at *
          by_cases g0 : x.nm = y.nm
          rotate_left
          · have f0z : ¬ x.nm = y.nm := g0
            have f0a : ¬ x.nm.toList = y.nm.toList := fun e => f0z (tl_eq.2 e)
            have f0b : (x.nm.toList == y.nm.toList) = false := beq_eq_false_iff_ne.2 f0a
            have f0c : (x.nm.toList != y.nm.toList) = true := by simp [bne, f0b]
            clear he hE
            go_upto_region 6 with fail
            go_region
            all_goals go_wp2_with fail
            all_goals go_ret
            all_goals exact ⟨ret_bool HF.out.symm, below_drewN hB.out 1⟩
          rw [g0] at a0
          by_cases g1 : x.cell = y.cell
          rotate_left
          · have f1a : ¬ x.cell = y.cell := g1
            obtain ⟨f1b, f1c⟩ := beqn2 f1a
            clear he hE
            go_upto_region 6 with fail
            go_region
            all_goals go_wp2_with fail
            all_goals go_ret
            all_goals exact ⟨ret_bool HF.out.symm, below_drewN hB.out 1⟩
          rw [g1] at a1
          by_cases g2 : x.d = y.d
          rotate_left
          · have f2a : ¬ x.d = y.d := g2
            obtain ⟨f2b, f2c⟩ := beqn2 f2a
            clear he hE
            go_upto_region 6 with fail
            go_region
            all_goals go_wp2_with fail
            all_goals go_ret
            all_goals exact ⟨ret_bool HF.out.symm, below_drewN hB.out 1⟩
          rw [g2] at a2
          by_cases g3 : x.en = y.en
          rotate_left
          · have f3a : ¬ x.en = y.en := g3
            obtain ⟨f3b, f3c⟩ := beqn2 f3a
            clear he hE
            go_upto_region 6 with fail
            go_region
            all_goals go_wp2_with fail
            all_goals go_ret
            all_goals exact ⟨ret_bool HF.out.symm, below_drewN hB.out 1⟩
          rw [g3] at a3
          have f4a : ¬ x.it = y.it := fun e => he (fl_ext g0 g1 g2 g3 e)
          have f4b : (x.it == y.it) = false := beq_eq_false_iff_ne.2 f4a
          have f4c : (x.it != y.it) = true := by simp [bne, f4b]
          clear g0 g1 g2 g3
          clear he hE
          go_upto_region 6 with fail
          go_region
          all_goals go_wp2_with fail
          all_goals go_ret
          all_goals exact ⟨ret_bool HF.out.symm, below_drewN hB.out 1⟩
      · have hji : ¬ (j : Int) < (l.length : Int) := by omega
        have HF : Hid (decide (l = m) = true) := Lib.hid (decide_eq_true (by
          have := hE.out
          rwa [List.take_of_length_le (by omega), List.take_of_length_le (by omega)] at this))
        go_wp2_with fail
        go_ret
        exact ⟨ret_bool HF.out.symm, hB.out⟩
set_option maxRecDepth 100000 in
set_option maxHeartbeats 8000000 in
theorem sameGateP_any (g h : Ga) (hg : g.ins.length ≤ 1048576) (hh : h.ins.length ≤ 1048576) (w : World) (ig : GaIn g w) (ih : GaIn h w) : Calls Try.prog 79 #[.agg #[.int .i64 g.cell, .int .u64 (U g.tab), .slice g.ad g.ins.length g.cp], .agg #[.int .i64 h.cell, .int .u64 (U h.tab), .slice h.ad h.ins.length h.cp]] w fun e w' => e = .returned (.bool (decide (gc g = gc h))) ∧ Below w.heap.size w w' := by
  obtain ⟨y0, y1, y2, y3, y4⟩ := g
  obtain ⟨z0, z1, z2, z3, z4⟩ := h
  obtain ⟨hr, hcp, hnl⟩ := ig
  obtain ⟨kr, kcp, knl⟩ := ih
  simp only at hr hcp hnl kr kcp knl hg hh
  go_enter Try.func79, Try.ntmps79
  go_upto_region 1 with fail
  have bel := ((Below.refl w.heap.size w).alloc (Nat.le_refl _) (.cells #[.int .i64 y0, .int .u64 (U y1), .slice y3 y2.length y4] 82)).alloc (by simp) (.cells #[.int .i64 z0, .int .u64 (U z1), .slice z3 z2.length z4] 82)
  have u0 : ((w.alloc (.cells #[.int .i64 y0, .int .u64 (U y1), .slice y3 y2.length y4] 82)).alloc (.cells #[.int .i64 z0, .int .u64 (U z1), .slice z3 z2.length z4] 82)).cell? ⟨w.heap.size, 0, none⟩ = some (.int .i64 y0) := by go_simp
  have u1 : ((w.alloc (.cells #[.int .i64 y0, .int .u64 (U y1), .slice y3 y2.length y4] 82)).alloc (.cells #[.int .i64 z0, .int .u64 (U z1), .slice z3 z2.length z4] 82)).cell? ⟨w.heap.size, 1, none⟩ = some (.int .u64 (U y1)) := by go_simp
  have u2 : ((w.alloc (.cells #[.int .i64 y0, .int .u64 (U y1), .slice y3 y2.length y4] 82)).alloc (.cells #[.int .i64 z0, .int .u64 (U z1), .slice z3 z2.length z4] 82)).cell? ⟨w.heap.size, 2, none⟩ = some (.slice y3 y2.length y4) := by go_simp
  have v0 : ((w.alloc (.cells #[.int .i64 y0, .int .u64 (U y1), .slice y3 y2.length y4] 82)).alloc (.cells #[.int .i64 z0, .int .u64 (U z1), .slice z3 z2.length z4] 82)).cell? ⟨w.heap.size + 1, 0, none⟩ = some (.int .i64 z0) := by go_simp
  have v1 : ((w.alloc (.cells #[.int .i64 y0, .int .u64 (U y1), .slice y3 y2.length y4] 82)).alloc (.cells #[.int .i64 z0, .int .u64 (U z1), .slice z3 z2.length z4] 82)).cell? ⟨w.heap.size + 1, 1, none⟩ = some (.int .u64 (U z1)) := by go_simp
  have v2 : ((w.alloc (.cells #[.int .i64 y0, .int .u64 (U y1), .slice y3 y2.length y4] 82)).alloc (.cells #[.int .i64 z0, .int .u64 (U z1), .slice z3 z2.length z4] 82)).cell? ⟨w.heap.size + 1, 2, none⟩ = some (.slice z3 z2.length z4) := by go_simp
  generalize (w.alloc (.cells #[.int .i64 y0, .int .u64 (U y1), .slice y3 y2.length y4] 82)).alloc (.cells #[.int .i64 z0, .int .u64 (U z1), .slice z3 z2.length z4] 82) = W0 at u0 u1 u2 v0 v1 v2 bel ⊢
  generalize w.heap.size + 1 = q2 at v0 v1 v2 ⊢
  generalize hq : w.heap.size = q1 at u0 u1 u2 ⊢
  have HQ := Lib.hid hq
  clear hq
  have HEQ : Hid (decide (gc ⟨y0, y1, y2, y3, y4⟩ = gc ⟨z0, z1, z2, z3, z4⟩) = (decide (y0 = z0) && decide (y1 = z1) && decide (y2 = z2))) := Lib.hid (by
    unfold gc
    by_cases p0 : y0 = z0 <;> by_cases p1 : y1 = z1 <;> by_cases p2 : y2 = z2 <;> simp [p0, p1, p2])
  by_cases g0 : y0 = z0
  rotate_left
  · obtain ⟨e1, e2⟩ := beqn2 g0
    have HF := Lib.hid (HEQ.out.trans (by rw [decide_eq_false g0]; first | done | rfl))
    clear HEQ
    go_wp2_with fail
    go_ret
    exact ⟨ret_bool HF.out.symm, bel⟩
  subst g0
  by_cases g1 : y1 = z1
  rotate_left
  · have e1 : (y1 == z1) = false := beq_eq_false_iff_ne.2 g1
    have HF := Lib.hid (HEQ.out.trans (by rw [decide_eq_false g1]; first | done | simp))
    clear HEQ g1
    go_wp2_with fail
    go_ret
    exact ⟨ret_bool HF.out.symm, bel⟩
  subst g1
  have HE := Lib.hid (equalJ_any y2 z2 (.slice y3 y2.length y4) (.slice z3 z2.length z4) (by omega) (by omega) W0 (RowOf.mk hcp (hr.below (HQ.out ▸ bel))) (RowOf.mk kcp (kr.below (HQ.out ▸ bel))))
  have HF := Lib.hid (show decide (gc ⟨y0, y1, y2, y3, y4⟩ = gc ⟨y0, y1, z2, z3, z4⟩) = decide (y2 = z2) by rw [HEQ.out]; simp)
  generalize decide (y2 = z2) = dd at HE HF
  clear HEQ hr kr
  cases dd
  all_goals
    go_wp2_with (first | (go_at_call 47; refine HE.out.mono ?_; rintro ee w3 ⟨rfl, hb3⟩))
    go_ret
    exact ⟨ret_bool HF.out.symm, bel.trans (hb3.mono bel.size)⟩
set_option maxRecDepth 100000 in
set_option maxHeartbeats 8000000 in
theorem equalGaP_any (l m : List Ga) (v1 v2 : Value) (h1n : l.length ≤ 4000000000) (h2n : m.length ≤ 4000000000) (hl : ∀ j, j < l.length → l[j]!.ins.length ≤ 1048576) (hm : ∀ j, j < m.length → m[j]!.ins.length ≤ 1048576) (w : World) (h1 : RowOf 3 encGa l v1 w) (h2 : RowOf 3 encGa m v2 w) (i1 : ∀ j, j < l.length → GaIn l[j]! w) (i2 : ∀ j, j < m.length → GaIn m[j]! w) : Calls Try.prog 78 #[v1, v2, .func (.func 79) #[] #[]] w fun e w' => e = .returned (.bool (decide (l.map gc = m.map gc))) ∧ Below w.heap.size w w' := by
  obtain ⟨ad1, c1, rfl, k1, r1⟩ := h1.open'
  obtain ⟨ad2, c2, rfl, k2, r2⟩ := h2.open'
  clear h1 h2
  by_cases hlen : l.length = m.length
  rotate_left
  · have hli : ¬ (l.length : Int) = (m.length : Int) := by omega
    have hlb : ((l.length : Int) == (m.length : Int)) = false := beq_eq_false_iff_ne.2 hli
    have HF : Hid (decide (l.map gc = m.map gc) = false) := Lib.hid (decide_eq_false (fun e => hlen (by have := congrArg List.length e; simpa using this)))
    clear i1 i2 hl hm
    go_enter Try.func78, Try.ntmps78
    go_wp2_with fail
    go_ret
    exact ⟨ret_bool HF.out.symm, Below.refl _ _⟩
  · have HLN := Lib.hid hlen
    rw [← hlen]
    rw [← hlen] at k2 h2n
    have HI1 := Lib.hid (fun j (hj : j < l.length) W (hb : Below w.heap.size w W) => (i1 j hj).below hb)
    have HI2 := Lib.hid (fun j (hj : j < m.length) W (hb : Below w.heap.size w W) => (i2 j hj).below hb)
    have HL1 := Lib.hid hl
    have HL2 := Lib.hid hm
    clear hlen i1 i2 hl hm
    go_enter Try.func78, Try.ntmps78
    go_wp2_with fail
    go_loopw [17] (fun i wr => ∃ j : Nat, j ≤ l.length ∧ i = .int .i64 (j : Int) ∧ Hid ((l.map gc).take j = (m.map gc).take j) ∧ Hid (Below w.heap.size w wr)) (fun i _ => l.length - (intOf i).toNat)
    case atStart => exact ⟨0, Nat.zero_le _, rfl, rfl, Lib.hid (Below.refl _ _)⟩
    case round =>
      obtain ⟨j, hj, rfl, hE, hB⟩ := hrel
      rename World => WR
      have hj0 : (0 : Int) ≤ (j : Int) := by omega
      by_cases hlt : j < l.length
      · have hji : (j : Int) < (l.length : Int) := by omega
        have hlt2 : j < m.length := by have := HLN.out; omega
        have HGL := Lib.hid (show (l.map gc)[j]! = gc l[j]! by rw [getElem!_pos _ j (by simpa using hlt), getElem!_pos l j hlt, List.getElem_map])
        have HGM := Lib.hid (show (m.map gc)[j]! = gc m[j]! by rw [getElem!_pos _ j (by simpa using hlt2), getElem!_pos m j hlt2, List.getElem_map])
        have I1 := HI1.out j hlt WR hB.out
        have I2 := HI2.out j hlt2 WR hB.out
        have s1 := HL1.out j hlt
        have s2 := HL2.out j hlt2
        obtain ⟨b1, o1, hdd, q1⟩ := (r1.below hB.out).pick (by omega)
        subst hdd
        obtain ⟨b2, o2, hdd, q2⟩ := (r2.below hB.out).pick (by omega)
        subst hdd
        have a0 := q1 j hlt 0 _ rfl
        have a1 := q1 j hlt 1 _ rfl
        have a2 := q1 j hlt 2 _ rfl
        have d0 := q2 j hlt2 0 _ rfl
        have d1 := q2 j hlt2 1 _ rfl
        have d2 := q2 j hlt2 2 _ rfl
        simp only [Nat.add_zero] at a0 d0
        clear q1 q2
        have la := World.block_lt_of_cell? _ _ d1
        generalize l[j]! = y at a0 a1 a2 HGL I1 s1
        generalize m[j]! = z at d0 d1 d2 HGM I2 s2
        obtain ⟨y0, y1, y2, y3, y4⟩ := y
        obtain ⟨z0, z1, z2, z3, z4⟩ := z
        simp only at a0 a1 a2 d0 d1 d2 s1 s2
        go_upto_region 7 with fail
        have bA := ((Below.refl WR.heap.size WR).alloc (Nat.le_refl _) (.cells #[.int .i64 y0, .int .u64 (U y1), .slice y3 y2.length y4] 82)).alloc (by simp) (.cells #[.int .i64 z0, .int .u64 (U z1), .slice z3 z2.length z4] 82)
        have u0 : ((WR.alloc (.cells #[.int .i64 y0, .int .u64 (U y1), .slice y3 y2.length y4] 82)).alloc (.cells #[.int .i64 z0, .int .u64 (U z1), .slice z3 z2.length z4] 82)).cell? ⟨WR.heap.size, 0, none⟩ = some (.int .i64 y0) := by go_simp
        have u1 : ((WR.alloc (.cells #[.int .i64 y0, .int .u64 (U y1), .slice y3 y2.length y4] 82)).alloc (.cells #[.int .i64 z0, .int .u64 (U z1), .slice z3 z2.length z4] 82)).cell? ⟨WR.heap.size, 1, none⟩ = some (.int .u64 (U y1)) := by go_simp
        have u2 : ((WR.alloc (.cells #[.int .i64 y0, .int .u64 (U y1), .slice y3 y2.length y4] 82)).alloc (.cells #[.int .i64 z0, .int .u64 (U z1), .slice z3 z2.length z4] 82)).cell? ⟨WR.heap.size, 2, none⟩ = some (.slice y3 y2.length y4) := by go_simp
        have v0 : ((WR.alloc (.cells #[.int .i64 y0, .int .u64 (U y1), .slice y3 y2.length y4] 82)).alloc (.cells #[.int .i64 z0, .int .u64 (U z1), .slice z3 z2.length z4] 82)).cell? ⟨WR.heap.size + 1, 0, none⟩ = some (.int .i64 z0) := by go_simp
        have v1 : ((WR.alloc (.cells #[.int .i64 y0, .int .u64 (U y1), .slice y3 y2.length y4] 82)).alloc (.cells #[.int .i64 z0, .int .u64 (U z1), .slice z3 z2.length z4] 82)).cell? ⟨WR.heap.size + 1, 1, none⟩ = some (.int .u64 (U z1)) := by go_simp
        have v2 : ((WR.alloc (.cells #[.int .i64 y0, .int .u64 (U y1), .slice y3 y2.length y4] 82)).alloc (.cells #[.int .i64 z0, .int .u64 (U z1), .slice z3 z2.length z4] 82)).cell? ⟨WR.heap.size + 1, 2, none⟩ = some (.slice z3 z2.length z4) := by go_simp
        have J1 := I1.below bA
        have J2 := I2.below bA
        have hB6 := hB.out.trans (bA.mono hB.out.size)
        clear a0 a1 a2 d0 d1 d2 bA I1 I2 la
        generalize (WR.alloc (.cells #[.int .i64 y0, .int .u64 (U y1), .slice y3 y2.length y4] 82)).alloc (.cells #[.int .i64 z0, .int .u64 (U z1), .slice z3 z2.length z4] 82) = W0 at u0 u1 u2 v0 v1 v2 J1 J2 hB6 ⊢
        generalize WR.heap.size + 1 = p2 at v0 v1 v2 ⊢
        generalize WR.heap.size = p1 at u0 u1 u2 ⊢
        have HC := Lib.hid (sameGateP_any ⟨y0, y1, y2, y3, y4⟩ ⟨z0, z1, z2, z3, z4⟩ s1 s2 W0 J1 J2)
        by_cases hd : gc ⟨y0, y1, y2, y3, y4⟩ = gc ⟨z0, z1, z2, z3, z4⟩
        · rw [decide_eq_true hd] at HC
          have HS := Lib.hid (show (l.map gc).take (j + 1) = (m.map gc).take (j + 1) from take_eq hE.out (by simpa using hlt) (by simpa using hlt2) (by rw [HGL.out, HGM.out, hd]))
          clear hd hE
          go_wp2_with (first | (go_at_call 79; refine HC.out.mono ?_; rintro ee w3 ⟨rfl, hb3⟩; have HB7 := Lib.hid (hB6.trans (hb3.mono hB6.size))))
          go_roundw
          case rel => exact ⟨j + 1, by omega, by go_num, HS, HB7⟩
          all_goals first | done | (simp [intOf]; done) | (simp [intOf]; omega)
        · rw [decide_eq_false hd] at HC
          have HF : Hid (decide (l.map gc = m.map gc) = false) := Lib.hid (decide_eq_false (ne_at (i := j) (by rw [HGL.out, HGM.out]; exact hd)))
          clear hd hE
          go_wp2_with (first | (go_at_call 79; refine HC.out.mono ?_; rintro ee w3 ⟨rfl, hb3⟩))
          go_ret
          exact ⟨ret_bool HF.out.symm, hB6.trans (hb3.mono hB6.size)⟩
      · have hji : ¬ (j : Int) < (l.length : Int) := by omega
        have HF : Hid (decide (l.map gc = m.map gc) = true) := Lib.hid (decide_eq_true (by
          have := hE.out
          rwa [List.take_of_length_le (by simp; omega), List.take_of_length_le (by have := HLN.out; simp; omega)] at this))
        go_wp2_with fail
        go_ret
        exact ⟨ret_bool HF.out.symm, hB.out⟩
set_option maxRecDepth 100000 in
set_option maxHeartbeats 8000000 in
theorem sameGateR_any (g h : Ga) (hg : g.ins.length ≤ 1048576) (hh : h.ins.length ≤ 1048576) (w : World) (ig : GaIn g w) (ih : GaIn h w) : Calls Try.prog 80 #[.agg #[.int .i64 g.cell, .int .u64 (U g.tab), .slice g.ad g.ins.length g.cp], .agg #[.int .i64 h.cell, .int .u64 (U h.tab), .slice h.ad h.ins.length h.cp]] w fun e w' => e = .returned (.bool (decide (gc g = gc h))) ∧ Below w.heap.size w w' := by
  obtain ⟨y0, y1, y2, y3, y4⟩ := g
  obtain ⟨z0, z1, z2, z3, z4⟩ := h
  obtain ⟨hr, hcp, hnl⟩ := ig
  obtain ⟨kr, kcp, knl⟩ := ih
  simp only at hr hcp hnl kr kcp knl hg hh
  go_enter Try.func80, Try.ntmps80
  go_upto_region 1 with fail
  have bel := ((Below.refl w.heap.size w).alloc (Nat.le_refl _) (.cells #[.int .i64 y0, .int .u64 (U y1), .slice y3 y2.length y4] 82)).alloc (by simp) (.cells #[.int .i64 z0, .int .u64 (U z1), .slice z3 z2.length z4] 82)
  have u0 : ((w.alloc (.cells #[.int .i64 y0, .int .u64 (U y1), .slice y3 y2.length y4] 82)).alloc (.cells #[.int .i64 z0, .int .u64 (U z1), .slice z3 z2.length z4] 82)).cell? ⟨w.heap.size, 0, none⟩ = some (.int .i64 y0) := by go_simp
  have u1 : ((w.alloc (.cells #[.int .i64 y0, .int .u64 (U y1), .slice y3 y2.length y4] 82)).alloc (.cells #[.int .i64 z0, .int .u64 (U z1), .slice z3 z2.length z4] 82)).cell? ⟨w.heap.size, 1, none⟩ = some (.int .u64 (U y1)) := by go_simp
  have u2 : ((w.alloc (.cells #[.int .i64 y0, .int .u64 (U y1), .slice y3 y2.length y4] 82)).alloc (.cells #[.int .i64 z0, .int .u64 (U z1), .slice z3 z2.length z4] 82)).cell? ⟨w.heap.size, 2, none⟩ = some (.slice y3 y2.length y4) := by go_simp
  have v0 : ((w.alloc (.cells #[.int .i64 y0, .int .u64 (U y1), .slice y3 y2.length y4] 82)).alloc (.cells #[.int .i64 z0, .int .u64 (U z1), .slice z3 z2.length z4] 82)).cell? ⟨w.heap.size + 1, 0, none⟩ = some (.int .i64 z0) := by go_simp
  have v1 : ((w.alloc (.cells #[.int .i64 y0, .int .u64 (U y1), .slice y3 y2.length y4] 82)).alloc (.cells #[.int .i64 z0, .int .u64 (U z1), .slice z3 z2.length z4] 82)).cell? ⟨w.heap.size + 1, 1, none⟩ = some (.int .u64 (U z1)) := by go_simp
  have v2 : ((w.alloc (.cells #[.int .i64 y0, .int .u64 (U y1), .slice y3 y2.length y4] 82)).alloc (.cells #[.int .i64 z0, .int .u64 (U z1), .slice z3 z2.length z4] 82)).cell? ⟨w.heap.size + 1, 2, none⟩ = some (.slice z3 z2.length z4) := by go_simp
  generalize (w.alloc (.cells #[.int .i64 y0, .int .u64 (U y1), .slice y3 y2.length y4] 82)).alloc (.cells #[.int .i64 z0, .int .u64 (U z1), .slice z3 z2.length z4] 82) = W0 at u0 u1 u2 v0 v1 v2 bel ⊢
  generalize w.heap.size + 1 = q2 at v0 v1 v2 ⊢
  generalize hq : w.heap.size = q1 at u0 u1 u2 ⊢
  have HQ := Lib.hid hq
  clear hq
  have HEQ : Hid (decide (gc ⟨y0, y1, y2, y3, y4⟩ = gc ⟨z0, z1, z2, z3, z4⟩) = (decide (y0 = z0) && decide (y1 = z1) && decide (y2 = z2))) := Lib.hid (by
    unfold gc
    by_cases p0 : y0 = z0 <;> by_cases p1 : y1 = z1 <;> by_cases p2 : y2 = z2 <;> simp [p0, p1, p2])
  by_cases g0 : y0 = z0
  rotate_left
  · obtain ⟨e1, e2⟩ := beqn2 g0
    have HF := Lib.hid (HEQ.out.trans (by rw [decide_eq_false g0]; first | done | rfl))
    clear HEQ
    go_wp2_with fail
    go_ret
    exact ⟨ret_bool HF.out.symm, bel⟩
  subst g0
  by_cases g1 : y1 = z1
  rotate_left
  · have e1 : (y1 == z1) = false := beq_eq_false_iff_ne.2 g1
    have HF := Lib.hid (HEQ.out.trans (by rw [decide_eq_false g1]; first | done | simp))
    clear HEQ g1
    go_wp2_with fail
    go_ret
    exact ⟨ret_bool HF.out.symm, bel⟩
  subst g1
  have HE := Lib.hid (equalJ_any y2 z2 (.slice y3 y2.length y4) (.slice z3 z2.length z4) (by omega) (by omega) W0 (RowOf.mk hcp (hr.below (HQ.out ▸ bel))) (RowOf.mk kcp (kr.below (HQ.out ▸ bel))))
  have HF := Lib.hid (show decide (gc ⟨y0, y1, y2, y3, y4⟩ = gc ⟨y0, y1, z2, z3, z4⟩) = decide (y2 = z2) by rw [HEQ.out]; simp)
  generalize decide (y2 = z2) = dd at HE HF
  clear HEQ hr kr
  cases dd
  all_goals
    go_wp2_with (first | (go_at_call 47; refine HE.out.mono ?_; rintro ee w3 ⟨rfl, hb3⟩))
    go_ret
    exact ⟨ret_bool HF.out.symm, bel.trans (hb3.mono bel.size)⟩
set_option maxRecDepth 100000 in
set_option maxHeartbeats 8000000 in
theorem equalGaR_any (l m : List Ga) (v1 v2 : Value) (h1n : l.length ≤ 4000000000) (h2n : m.length ≤ 4000000000) (hl : ∀ j, j < l.length → l[j]!.ins.length ≤ 1048576) (hm : ∀ j, j < m.length → m[j]!.ins.length ≤ 1048576) (w : World) (h1 : RowOf 3 encGa l v1 w) (h2 : RowOf 3 encGa m v2 w) (i1 : ∀ j, j < l.length → GaIn l[j]! w) (i2 : ∀ j, j < m.length → GaIn m[j]! w) : Calls Try.prog 78 #[v1, v2, .func (.func 80) #[] #[]] w fun e w' => e = .returned (.bool (decide (l.map gc = m.map gc))) ∧ Below w.heap.size w w' := by
  obtain ⟨ad1, c1, rfl, k1, r1⟩ := h1.open'
  obtain ⟨ad2, c2, rfl, k2, r2⟩ := h2.open'
  clear h1 h2
  by_cases hlen : l.length = m.length
  rotate_left
  · have hli : ¬ (l.length : Int) = (m.length : Int) := by omega
    have hlb : ((l.length : Int) == (m.length : Int)) = false := beq_eq_false_iff_ne.2 hli
    have HF : Hid (decide (l.map gc = m.map gc) = false) := Lib.hid (decide_eq_false (fun e => hlen (by have := congrArg List.length e; simpa using this)))
    clear i1 i2 hl hm
    go_enter Try.func78, Try.ntmps78
    go_wp2_with fail
    go_ret
    exact ⟨ret_bool HF.out.symm, Below.refl _ _⟩
  · have HLN := Lib.hid hlen
    rw [← hlen]
    rw [← hlen] at k2 h2n
    have HI1 := Lib.hid (fun j (hj : j < l.length) W (hb : Below w.heap.size w W) => (i1 j hj).below hb)
    have HI2 := Lib.hid (fun j (hj : j < m.length) W (hb : Below w.heap.size w W) => (i2 j hj).below hb)
    have HL1 := Lib.hid hl
    have HL2 := Lib.hid hm
    clear hlen i1 i2 hl hm
    go_enter Try.func78, Try.ntmps78
    go_wp2_with fail
    go_loopw [17] (fun i wr => ∃ j : Nat, j ≤ l.length ∧ i = .int .i64 (j : Int) ∧ Hid ((l.map gc).take j = (m.map gc).take j) ∧ Hid (Below w.heap.size w wr)) (fun i _ => l.length - (intOf i).toNat)
    case atStart => exact ⟨0, Nat.zero_le _, rfl, rfl, Lib.hid (Below.refl _ _)⟩
    case round =>
      obtain ⟨j, hj, rfl, hE, hB⟩ := hrel
      rename World => WR
      have hj0 : (0 : Int) ≤ (j : Int) := by omega
      by_cases hlt : j < l.length
      · have hji : (j : Int) < (l.length : Int) := by omega
        have hlt2 : j < m.length := by have := HLN.out; omega
        have HGL := Lib.hid (show (l.map gc)[j]! = gc l[j]! by rw [getElem!_pos _ j (by simpa using hlt), getElem!_pos l j hlt, List.getElem_map])
        have HGM := Lib.hid (show (m.map gc)[j]! = gc m[j]! by rw [getElem!_pos _ j (by simpa using hlt2), getElem!_pos m j hlt2, List.getElem_map])
        have I1 := HI1.out j hlt WR hB.out
        have I2 := HI2.out j hlt2 WR hB.out
        have s1 := HL1.out j hlt
        have s2 := HL2.out j hlt2
        obtain ⟨b1, o1, hdd, q1⟩ := (r1.below hB.out).pick (by omega)
        subst hdd
        obtain ⟨b2, o2, hdd, q2⟩ := (r2.below hB.out).pick (by omega)
        subst hdd
        have a0 := q1 j hlt 0 _ rfl
        have a1 := q1 j hlt 1 _ rfl
        have a2 := q1 j hlt 2 _ rfl
        have d0 := q2 j hlt2 0 _ rfl
        have d1 := q2 j hlt2 1 _ rfl
        have d2 := q2 j hlt2 2 _ rfl
        simp only [Nat.add_zero] at a0 d0
        clear q1 q2
        have la := World.block_lt_of_cell? _ _ d1
        generalize l[j]! = y at a0 a1 a2 HGL I1 s1
        generalize m[j]! = z at d0 d1 d2 HGM I2 s2
        obtain ⟨y0, y1, y2, y3, y4⟩ := y
        obtain ⟨z0, z1, z2, z3, z4⟩ := z
        simp only at a0 a1 a2 d0 d1 d2 s1 s2
        go_upto_region 7 with fail
        have bA := ((Below.refl WR.heap.size WR).alloc (Nat.le_refl _) (.cells #[.int .i64 y0, .int .u64 (U y1), .slice y3 y2.length y4] 82)).alloc (by simp) (.cells #[.int .i64 z0, .int .u64 (U z1), .slice z3 z2.length z4] 82)
        have u0 : ((WR.alloc (.cells #[.int .i64 y0, .int .u64 (U y1), .slice y3 y2.length y4] 82)).alloc (.cells #[.int .i64 z0, .int .u64 (U z1), .slice z3 z2.length z4] 82)).cell? ⟨WR.heap.size, 0, none⟩ = some (.int .i64 y0) := by go_simp
        have u1 : ((WR.alloc (.cells #[.int .i64 y0, .int .u64 (U y1), .slice y3 y2.length y4] 82)).alloc (.cells #[.int .i64 z0, .int .u64 (U z1), .slice z3 z2.length z4] 82)).cell? ⟨WR.heap.size, 1, none⟩ = some (.int .u64 (U y1)) := by go_simp
        have u2 : ((WR.alloc (.cells #[.int .i64 y0, .int .u64 (U y1), .slice y3 y2.length y4] 82)).alloc (.cells #[.int .i64 z0, .int .u64 (U z1), .slice z3 z2.length z4] 82)).cell? ⟨WR.heap.size, 2, none⟩ = some (.slice y3 y2.length y4) := by go_simp
        have v0 : ((WR.alloc (.cells #[.int .i64 y0, .int .u64 (U y1), .slice y3 y2.length y4] 82)).alloc (.cells #[.int .i64 z0, .int .u64 (U z1), .slice z3 z2.length z4] 82)).cell? ⟨WR.heap.size + 1, 0, none⟩ = some (.int .i64 z0) := by go_simp
        have v1 : ((WR.alloc (.cells #[.int .i64 y0, .int .u64 (U y1), .slice y3 y2.length y4] 82)).alloc (.cells #[.int .i64 z0, .int .u64 (U z1), .slice z3 z2.length z4] 82)).cell? ⟨WR.heap.size + 1, 1, none⟩ = some (.int .u64 (U z1)) := by go_simp
        have v2 : ((WR.alloc (.cells #[.int .i64 y0, .int .u64 (U y1), .slice y3 y2.length y4] 82)).alloc (.cells #[.int .i64 z0, .int .u64 (U z1), .slice z3 z2.length z4] 82)).cell? ⟨WR.heap.size + 1, 2, none⟩ = some (.slice z3 z2.length z4) := by go_simp
        have J1 := I1.below bA
        have J2 := I2.below bA
        have hB6 := hB.out.trans (bA.mono hB.out.size)
        clear a0 a1 a2 d0 d1 d2 bA I1 I2 la
        generalize (WR.alloc (.cells #[.int .i64 y0, .int .u64 (U y1), .slice y3 y2.length y4] 82)).alloc (.cells #[.int .i64 z0, .int .u64 (U z1), .slice z3 z2.length z4] 82) = W0 at u0 u1 u2 v0 v1 v2 J1 J2 hB6 ⊢
        generalize WR.heap.size + 1 = p2 at v0 v1 v2 ⊢
        generalize WR.heap.size = p1 at u0 u1 u2 ⊢
        have HC := Lib.hid (sameGateR_any ⟨y0, y1, y2, y3, y4⟩ ⟨z0, z1, z2, z3, z4⟩ s1 s2 W0 J1 J2)
        by_cases hd : gc ⟨y0, y1, y2, y3, y4⟩ = gc ⟨z0, z1, z2, z3, z4⟩
        · rw [decide_eq_true hd] at HC
          have HS := Lib.hid (show (l.map gc).take (j + 1) = (m.map gc).take (j + 1) from take_eq hE.out (by simpa using hlt) (by simpa using hlt2) (by rw [HGL.out, HGM.out, hd]))
          clear hd hE
          go_wp2_with (first | (go_at_call 80; refine HC.out.mono ?_; rintro ee w3 ⟨rfl, hb3⟩; have HB7 := Lib.hid (hB6.trans (hb3.mono hB6.size))))
          go_roundw
          case rel => exact ⟨j + 1, by omega, by go_num, HS, HB7⟩
          all_goals first | done | (simp [intOf]; done) | (simp [intOf]; omega)
        · rw [decide_eq_false hd] at HC
          have HF : Hid (decide (l.map gc = m.map gc) = false) := Lib.hid (decide_eq_false (ne_at (i := j) (by rw [HGL.out, HGM.out]; exact hd)))
          clear hd hE
          go_wp2_with (first | (go_at_call 80; refine HC.out.mono ?_; rintro ee w3 ⟨rfl, hb3⟩))
          go_ret
          exact ⟨ret_bool HF.out.symm, hB6.trans (hb3.mono hB6.size)⟩
      · have hji : ¬ (j : Int) < (l.length : Int) := by omega
        have HF : Hid (decide (l.map gc = m.map gc) = true) := Lib.hid (decide_eq_true (by
          have := hE.out
          rwa [List.take_of_length_le (by simp; omega), List.take_of_length_le (by have := HLN.out; simp; omega)] at this))
        go_wp2_with fail
        go_ret
        exact ⟨ret_bool HF.out.symm, hB.out⟩
def sameNl (n h : Nl) : Bool := decide (n.ins = h.ins) && decide (n.outN = h.outN) && decide (n.flops = h.flops) && decide (n.gates.map gc = h.gates.map gc) && decide (n.outs = h.outs)
set_option maxRecDepth 100000 in
set_option maxHeartbeats 8000000 in
theorem sameN_any (n h : Nl) (v u : Value) (sg : SmN n) (sh : SmN h) (w : World) (hg : NO n v w) (hh : NO h u w) : Calls Try.prog 20 #[v, u] w fun e w' => e = .returned (.bool (sameNl n h)) ∧ Below w.heap.size w w' := by
  obtain ⟨a, b, c, d0, e, a', b', c', d', e', rfl, hC, hA⟩ := hg.all
  obtain ⟨za, zb, zc, zd, ze, za', zb', zc', zd', ze', rfl, zC, zA⟩ := hh.all
  have E1 := Lib.hid fun W (hb : Below w.heap.size w W) => equalT_any n.ins h.ins _ _ (by have := sg.ins; omega) (by have := sh.ins; omega) W (RowOf.mk hC.ins (hA.ins.below hb)) (RowOf.mk zC.ins (zA.ins.below hb))
  have E2 := Lib.hid fun W (hb : Below w.heap.size w W) => equalT_any n.outN h.outN _ _ (by have := sg.outN; omega) (by have := sh.outN; omega) W (RowOf.mk hC.outN (hA.outN.below hb)) (RowOf.mk zC.outN (zA.outN.below hb))
  have E3 := Lib.hid fun W (hb : Below w.heap.size w W) => equalFl_any n.flops h.flops _ _ (by have := sg.flops; omega) (by have := sh.flops; omega) W (RowOf.mk hC.flops (hA.flops.below hb)) (RowOf.mk zC.flops (zA.flops.below hb))
  have E4 := Lib.hid fun W (hb : Below w.heap.size w W) => equalGaP_any n.gates h.gates _ _ (by have := sg.gates; omega) (by have := sh.gates; omega) sg.gateI sh.gateI W (RowOf.mk hC.gates (hA.gates.below hb)) (RowOf.mk zC.gates (zA.gates.below hb)) (fun j hj => (hA.each j hj).below hb) (fun j hj => (zA.each j hj).below hb)
  have E5 := Lib.hid fun W (hb : Below w.heap.size w W) => equalJ_any n.outs h.outs _ _ (by have := sg.outs; omega) (by have := sh.outs; omega) W (RowOf.mk hC.outs (hA.outs.below hb)) (RowOf.mk zC.outs (zA.outs.below hb))
  have HS : Hid (sameNl n h = (decide (n.ins = h.ins) && decide (n.outN = h.outN) && decide (n.flops = h.flops) && decide (n.gates.map gc = h.gates.map gc) && decide (n.outs = h.outs))) := Lib.hid (by
    unfold sameNl
    cases decide (n.ins = h.ins) <;> cases decide (n.outN = h.outN) <;> cases decide (n.outs = h.outs) <;> cases decide (n.flops = h.flops) <;> cases decide (n.gates.map gc = h.gates.map gc) <;> rfl)
  generalize sameNl n h = S at HS ⊢
  generalize decide (n.ins = h.ins) = p1 at E1 HS
  generalize decide (n.outN = h.outN) = p2 at E2 HS
  generalize decide (n.flops = h.flops) = p3 at E3 HS
  generalize decide (n.gates.map gc = h.gates.map gc) = p4 at E4 HS
  generalize decide (n.outs = h.outs) = p5 at E5 HS
  clear hC hA zC zA hg hh sg sh
  generalize n.ins.length = n1 at *
  generalize n.outN.length = n2 at *
  generalize n.flops.length = n3 at *
  generalize n.gates.length = n4 at *
  generalize n.outs.length = n5 at *
  generalize h.ins.length = m1 at *
  generalize h.outN.length = m2 at *
  generalize h.flops.length = m3 at *
  generalize h.gates.length = m4 at *
  generalize h.outs.length = m5 at *
  go_enter Try.func20, Try.ntmps20
  go_upto_region 1 with fail
  have bel := ((Below.refl w.heap.size w).alloc (Nat.le_refl _) (.cells #[.slice a n1 a', .slice b n2 b', .slice c n3 c', .slice d0 n4 d', .slice e n5 e'] 27)).alloc (by simp) (.cells #[.slice za m1 za', .slice zb m2 zb', .slice zc m3 zc', .slice zd m4 zd', .slice ze m5 ze'] 27)
  have X := (GX.new w (.slice a n1 a') (.slice b n2 b') (.slice c n3 c') (.slice d0 n4 d') (.slice e n5 e') 27).below ((Below.refl _ _).alloc (Nat.le_refl _) (.cells #[.slice za m1 za', .slice zb m2 zb', .slice zc m3 zc', .slice zd m4 zd', .slice ze m5 ze'] 27))
  have Y := GX.new (w.alloc (.cells #[.slice a n1 a', .slice b n2 b', .slice c n3 c', .slice d0 n4 d', .slice e n5 e'] 27)) (.slice za m1 za') (.slice zb m2 zb') (.slice zc m3 zc') (.slice zd m4 zd') (.slice ze m5 ze') 27
  rw [show (w.alloc (.cells #[.slice a n1 a', .slice b n2 b', .slice c n3 c', .slice d0 n4 d', .slice e n5 e'] 27)).heap.size = w.heap.size + 1 by simp] at Y
  generalize (w.alloc (.cells #[.slice a n1 a', .slice b n2 b', .slice c n3 c', .slice d0 n4 d', .slice e n5 e'] 27)).alloc (.cells #[.slice za m1 za', .slice zb m2 zb', .slice zc m3 zc', .slice zd m4 zd', .slice ze m5 ze'] 27) = W0 at bel X Y ⊢
  have lx := X.lt
  have ly := Y.lt
  obtain ⟨x0, x1, x2, x3, x4⟩ := id X
  obtain ⟨y0, y1, y2, y3, y4⟩ := id Y
  cases p1 with
  | false =>
    have HR : Hid (S = false) := Lib.hid (HS.out.trans (by simp))
    clear HS
    go_wp2_with (first | (go_at_call 76; refine (E1.out _ bel).mono ?_; rintro ee ww ⟨rfl, hb⟩; replace bel := bel.trans (hb.mono bel.size); replace X := X.below hb; replace Y := Y.below hb; clear hb lx ly E1 x0 x1 x2 x3 x4 y0 y1 y2 y3 y4; have lx := X.lt; have ly := Y.lt; obtain ⟨x0, x1, x2, x3, x4⟩ := id X; obtain ⟨y0, y1, y2, y3, y4⟩ := id Y))
    go_ret
    exact ⟨ret_bool HR.out.symm, bel⟩
  | true =>
    cases p2 with
    | false =>
      have HR : Hid (S = false) := Lib.hid (HS.out.trans (by simp))
      clear HS
      go_wp2_with (first | (go_at_call 76; refine (E1.out _ bel).mono ?_; rintro ee ww ⟨rfl, hb⟩; replace bel := bel.trans (hb.mono bel.size); replace X := X.below hb; replace Y := Y.below hb; clear hb lx ly E1 x0 x1 x2 x3 x4 y0 y1 y2 y3 y4; have lx := X.lt; have ly := Y.lt; obtain ⟨x0, x1, x2, x3, x4⟩ := id X; obtain ⟨y0, y1, y2, y3, y4⟩ := id Y))
      go_wp2_with (first | (go_at_call 76; refine (E2.out _ bel).mono ?_; rintro ee ww ⟨rfl, hb⟩; replace bel := bel.trans (hb.mono bel.size); replace X := X.below hb; replace Y := Y.below hb; clear hb lx ly E2 x0 x1 x2 x3 x4 y0 y1 y2 y3 y4; have lx := X.lt; have ly := Y.lt; obtain ⟨x0, x1, x2, x3, x4⟩ := id X; obtain ⟨y0, y1, y2, y3, y4⟩ := id Y))
      go_ret
      exact ⟨ret_bool HR.out.symm, bel⟩
    | true =>
      cases p3 with
      | false =>
        have HR : Hid (S = false) := Lib.hid (HS.out.trans (by simp))
        clear HS
        go_wp2_with (first | (go_at_call 76; refine (E1.out _ bel).mono ?_; rintro ee ww ⟨rfl, hb⟩; replace bel := bel.trans (hb.mono bel.size); replace X := X.below hb; replace Y := Y.below hb; clear hb lx ly E1 x0 x1 x2 x3 x4 y0 y1 y2 y3 y4; have lx := X.lt; have ly := Y.lt; obtain ⟨x0, x1, x2, x3, x4⟩ := id X; obtain ⟨y0, y1, y2, y3, y4⟩ := id Y))
        go_wp2_with (first | (go_at_call 76; refine (E2.out _ bel).mono ?_; rintro ee ww ⟨rfl, hb⟩; replace bel := bel.trans (hb.mono bel.size); replace X := X.below hb; replace Y := Y.below hb; clear hb lx ly E2 x0 x1 x2 x3 x4 y0 y1 y2 y3 y4; have lx := X.lt; have ly := Y.lt; obtain ⟨x0, x1, x2, x3, x4⟩ := id X; obtain ⟨y0, y1, y2, y3, y4⟩ := id Y))
        go_wp2_with (first | (go_at_call 77; refine (E3.out _ bel).mono ?_; rintro ee ww ⟨rfl, hb⟩; replace bel := bel.trans (hb.mono bel.size); replace X := X.below hb; replace Y := Y.below hb; clear hb lx ly E3 x0 x1 x2 x3 x4 y0 y1 y2 y3 y4; have lx := X.lt; have ly := Y.lt; obtain ⟨x0, x1, x2, x3, x4⟩ := id X; obtain ⟨y0, y1, y2, y3, y4⟩ := id Y))
        go_ret
        exact ⟨ret_bool HR.out.symm, bel⟩
      | true =>
        cases p4 with
        | false =>
          have HR : Hid (S = false) := Lib.hid (HS.out.trans (by simp))
          clear HS
          go_wp2_with (first | (go_at_call 76; refine (E1.out _ bel).mono ?_; rintro ee ww ⟨rfl, hb⟩; replace bel := bel.trans (hb.mono bel.size); replace X := X.below hb; replace Y := Y.below hb; clear hb lx ly E1 x0 x1 x2 x3 x4 y0 y1 y2 y3 y4; have lx := X.lt; have ly := Y.lt; obtain ⟨x0, x1, x2, x3, x4⟩ := id X; obtain ⟨y0, y1, y2, y3, y4⟩ := id Y))
          go_wp2_with (first | (go_at_call 76; refine (E2.out _ bel).mono ?_; rintro ee ww ⟨rfl, hb⟩; replace bel := bel.trans (hb.mono bel.size); replace X := X.below hb; replace Y := Y.below hb; clear hb lx ly E2 x0 x1 x2 x3 x4 y0 y1 y2 y3 y4; have lx := X.lt; have ly := Y.lt; obtain ⟨x0, x1, x2, x3, x4⟩ := id X; obtain ⟨y0, y1, y2, y3, y4⟩ := id Y))
          go_wp2_with (first | (go_at_call 77; refine (E3.out _ bel).mono ?_; rintro ee ww ⟨rfl, hb⟩; replace bel := bel.trans (hb.mono bel.size); replace X := X.below hb; replace Y := Y.below hb; clear hb lx ly E3 x0 x1 x2 x3 x4 y0 y1 y2 y3 y4; have lx := X.lt; have ly := Y.lt; obtain ⟨x0, x1, x2, x3, x4⟩ := id X; obtain ⟨y0, y1, y2, y3, y4⟩ := id Y))
          go_wp2_with (first | (go_at_call 78; refine (E4.out _ bel).mono ?_; rintro ee ww ⟨rfl, hb⟩; replace bel := bel.trans (hb.mono bel.size); replace X := X.below hb; replace Y := Y.below hb; clear hb lx ly E4 x0 x1 x2 x3 x4 y0 y1 y2 y3 y4; have lx := X.lt; have ly := Y.lt; obtain ⟨x0, x1, x2, x3, x4⟩ := id X; obtain ⟨y0, y1, y2, y3, y4⟩ := id Y))
          go_ret
          exact ⟨ret_bool HR.out.symm, bel⟩
        | true =>
          cases p5 with
          | false =>
            have HR : Hid (S = false) := Lib.hid (HS.out.trans (by simp))
            clear HS
            go_wp2_with (first | (go_at_call 76; refine (E1.out _ bel).mono ?_; rintro ee ww ⟨rfl, hb⟩; replace bel := bel.trans (hb.mono bel.size); replace X := X.below hb; replace Y := Y.below hb; clear hb lx ly E1 x0 x1 x2 x3 x4 y0 y1 y2 y3 y4; have lx := X.lt; have ly := Y.lt; obtain ⟨x0, x1, x2, x3, x4⟩ := id X; obtain ⟨y0, y1, y2, y3, y4⟩ := id Y))
            go_wp2_with (first | (go_at_call 76; refine (E2.out _ bel).mono ?_; rintro ee ww ⟨rfl, hb⟩; replace bel := bel.trans (hb.mono bel.size); replace X := X.below hb; replace Y := Y.below hb; clear hb lx ly E2 x0 x1 x2 x3 x4 y0 y1 y2 y3 y4; have lx := X.lt; have ly := Y.lt; obtain ⟨x0, x1, x2, x3, x4⟩ := id X; obtain ⟨y0, y1, y2, y3, y4⟩ := id Y))
            go_wp2_with (first | (go_at_call 77; refine (E3.out _ bel).mono ?_; rintro ee ww ⟨rfl, hb⟩; replace bel := bel.trans (hb.mono bel.size); replace X := X.below hb; replace Y := Y.below hb; clear hb lx ly E3 x0 x1 x2 x3 x4 y0 y1 y2 y3 y4; have lx := X.lt; have ly := Y.lt; obtain ⟨x0, x1, x2, x3, x4⟩ := id X; obtain ⟨y0, y1, y2, y3, y4⟩ := id Y))
            go_wp2_with (first | (go_at_call 78; refine (E4.out _ bel).mono ?_; rintro ee ww ⟨rfl, hb⟩; replace bel := bel.trans (hb.mono bel.size); replace X := X.below hb; replace Y := Y.below hb; clear hb lx ly E4 x0 x1 x2 x3 x4 y0 y1 y2 y3 y4; have lx := X.lt; have ly := Y.lt; obtain ⟨x0, x1, x2, x3, x4⟩ := id X; obtain ⟨y0, y1, y2, y3, y4⟩ := id Y))
            go_wp2_with (first | (go_at_call 47; refine (E5.out _ bel).mono ?_; rintro ee ww ⟨rfl, hb⟩; replace bel := bel.trans (hb.mono bel.size); replace X := X.below hb; replace Y := Y.below hb; clear hb lx ly E5 x0 x1 x2 x3 x4 y0 y1 y2 y3 y4; have lx := X.lt; have ly := Y.lt; obtain ⟨x0, x1, x2, x3, x4⟩ := id X; obtain ⟨y0, y1, y2, y3, y4⟩ := id Y))
            go_ret
            exact ⟨ret_bool HR.out.symm, bel⟩
          | true =>
            have HR : Hid (S = true) := Lib.hid (HS.out.trans (by simp))
            clear HS
            go_wp2_with (first | (go_at_call 76; refine (E1.out _ bel).mono ?_; rintro ee ww ⟨rfl, hb⟩; replace bel := bel.trans (hb.mono bel.size); replace X := X.below hb; replace Y := Y.below hb; clear hb lx ly E1 x0 x1 x2 x3 x4 y0 y1 y2 y3 y4; have lx := X.lt; have ly := Y.lt; obtain ⟨x0, x1, x2, x3, x4⟩ := id X; obtain ⟨y0, y1, y2, y3, y4⟩ := id Y))
            go_wp2_with (first | (go_at_call 76; refine (E2.out _ bel).mono ?_; rintro ee ww ⟨rfl, hb⟩; replace bel := bel.trans (hb.mono bel.size); replace X := X.below hb; replace Y := Y.below hb; clear hb lx ly E2 x0 x1 x2 x3 x4 y0 y1 y2 y3 y4; have lx := X.lt; have ly := Y.lt; obtain ⟨x0, x1, x2, x3, x4⟩ := id X; obtain ⟨y0, y1, y2, y3, y4⟩ := id Y))
            go_wp2_with (first | (go_at_call 77; refine (E3.out _ bel).mono ?_; rintro ee ww ⟨rfl, hb⟩; replace bel := bel.trans (hb.mono bel.size); replace X := X.below hb; replace Y := Y.below hb; clear hb lx ly E3 x0 x1 x2 x3 x4 y0 y1 y2 y3 y4; have lx := X.lt; have ly := Y.lt; obtain ⟨x0, x1, x2, x3, x4⟩ := id X; obtain ⟨y0, y1, y2, y3, y4⟩ := id Y))
            go_wp2_with (first | (go_at_call 78; refine (E4.out _ bel).mono ?_; rintro ee ww ⟨rfl, hb⟩; replace bel := bel.trans (hb.mono bel.size); replace X := X.below hb; replace Y := Y.below hb; clear hb lx ly E4 x0 x1 x2 x3 x4 y0 y1 y2 y3 y4; have lx := X.lt; have ly := Y.lt; obtain ⟨x0, x1, x2, x3, x4⟩ := id X; obtain ⟨y0, y1, y2, y3, y4⟩ := id Y))
            go_wp2_with (first | (go_at_call 47; refine (E5.out _ bel).mono ?_; rintro ee ww ⟨rfl, hb⟩; replace bel := bel.trans (hb.mono bel.size); replace X := X.below hb; replace Y := Y.below hb; clear hb lx ly E5 x0 x1 x2 x3 x4 y0 y1 y2 y3 y4; have lx := X.lt; have ly := Y.lt; obtain ⟨x0, x1, x2, x3, x4⟩ := id X; obtain ⟨y0, y1, y2, y3, y4⟩ := id Y))
            go_ret
            exact ⟨ret_bool HR.out.symm, bel⟩
set_option maxRecDepth 100000 in
set_option maxHeartbeats 8000000 in
theorem sameNetlist_any (n h : Nl) (v u : Value) (sg : SmN n) (sh : SmN h) (w : World) (hg : NO n v w) (hh : NO h u w) : Calls Try.prog 21 #[v, u] w fun e w' => e = .returned (.bool (sameNl n h)) ∧ Below w.heap.size w w' := by
  obtain ⟨a, b, c, d0, e, a', b', c', d', e', rfl, hC, hA⟩ := hg.all
  obtain ⟨za, zb, zc, zd, ze, za', zb', zc', zd', ze', rfl, zC, zA⟩ := hh.all
  have E1 := Lib.hid fun W (hb : Below w.heap.size w W) => equalT_any n.ins h.ins _ _ (by have := sg.ins; omega) (by have := sh.ins; omega) W (RowOf.mk hC.ins (hA.ins.below hb)) (RowOf.mk zC.ins (zA.ins.below hb))
  have E2 := Lib.hid fun W (hb : Below w.heap.size w W) => equalT_any n.outN h.outN _ _ (by have := sg.outN; omega) (by have := sh.outN; omega) W (RowOf.mk hC.outN (hA.outN.below hb)) (RowOf.mk zC.outN (zA.outN.below hb))
  have E3 := Lib.hid fun W (hb : Below w.heap.size w W) => equalFl_any n.flops h.flops _ _ (by have := sg.flops; omega) (by have := sh.flops; omega) W (RowOf.mk hC.flops (hA.flops.below hb)) (RowOf.mk zC.flops (zA.flops.below hb))
  have E4 := Lib.hid fun W (hb : Below w.heap.size w W) => equalGaR_any n.gates h.gates _ _ (by have := sg.gates; omega) (by have := sh.gates; omega) sg.gateI sh.gateI W (RowOf.mk hC.gates (hA.gates.below hb)) (RowOf.mk zC.gates (zA.gates.below hb)) (fun j hj => (hA.each j hj).below hb) (fun j hj => (zA.each j hj).below hb)
  have E5 := Lib.hid fun W (hb : Below w.heap.size w W) => equalJ_any n.outs h.outs _ _ (by have := sg.outs; omega) (by have := sh.outs; omega) W (RowOf.mk hC.outs (hA.outs.below hb)) (RowOf.mk zC.outs (zA.outs.below hb))
  have HS : Hid (sameNl n h = (decide (n.ins = h.ins) && decide (n.outN = h.outN) && decide (n.outs = h.outs) && decide (n.flops = h.flops) && decide (n.gates.map gc = h.gates.map gc))) := Lib.hid (by
    unfold sameNl
    cases decide (n.ins = h.ins) <;> cases decide (n.outN = h.outN) <;> cases decide (n.outs = h.outs) <;> cases decide (n.flops = h.flops) <;> cases decide (n.gates.map gc = h.gates.map gc) <;> rfl)
  generalize sameNl n h = S at HS ⊢
  generalize decide (n.ins = h.ins) = p1 at E1 HS
  generalize decide (n.outN = h.outN) = p2 at E2 HS
  generalize decide (n.flops = h.flops) = p3 at E3 HS
  generalize decide (n.gates.map gc = h.gates.map gc) = p4 at E4 HS
  generalize decide (n.outs = h.outs) = p5 at E5 HS
  clear hC hA zC zA hg hh sg sh
  generalize n.ins.length = n1 at *
  generalize n.outN.length = n2 at *
  generalize n.flops.length = n3 at *
  generalize n.gates.length = n4 at *
  generalize n.outs.length = n5 at *
  generalize h.ins.length = m1 at *
  generalize h.outN.length = m2 at *
  generalize h.flops.length = m3 at *
  generalize h.gates.length = m4 at *
  generalize h.outs.length = m5 at *
  go_enter Try.func21, Try.ntmps21
  go_upto_region 1 with fail
  have bel := ((Below.refl w.heap.size w).alloc (Nat.le_refl _) (.cells #[.slice a n1 a', .slice b n2 b', .slice c n3 c', .slice d0 n4 d', .slice e n5 e'] 27)).alloc (by simp) (.cells #[.slice za m1 za', .slice zb m2 zb', .slice zc m3 zc', .slice zd m4 zd', .slice ze m5 ze'] 27)
  have X := (GX.new w (.slice a n1 a') (.slice b n2 b') (.slice c n3 c') (.slice d0 n4 d') (.slice e n5 e') 27).below ((Below.refl _ _).alloc (Nat.le_refl _) (.cells #[.slice za m1 za', .slice zb m2 zb', .slice zc m3 zc', .slice zd m4 zd', .slice ze m5 ze'] 27))
  have Y := GX.new (w.alloc (.cells #[.slice a n1 a', .slice b n2 b', .slice c n3 c', .slice d0 n4 d', .slice e n5 e'] 27)) (.slice za m1 za') (.slice zb m2 zb') (.slice zc m3 zc') (.slice zd m4 zd') (.slice ze m5 ze') 27
  rw [show (w.alloc (.cells #[.slice a n1 a', .slice b n2 b', .slice c n3 c', .slice d0 n4 d', .slice e n5 e'] 27)).heap.size = w.heap.size + 1 by simp] at Y
  generalize (w.alloc (.cells #[.slice a n1 a', .slice b n2 b', .slice c n3 c', .slice d0 n4 d', .slice e n5 e'] 27)).alloc (.cells #[.slice za m1 za', .slice zb m2 zb', .slice zc m3 zc', .slice zd m4 zd', .slice ze m5 ze'] 27) = W0 at bel X Y ⊢
  have lx := X.lt
  have ly := Y.lt
  obtain ⟨x0, x1, x2, x3, x4⟩ := id X
  obtain ⟨y0, y1, y2, y3, y4⟩ := id Y
  cases p1 with
  | false =>
    have HR : Hid (S = false) := Lib.hid (HS.out.trans (by simp))
    clear HS
    go_wp2_with (first | (go_at_call 76; refine (E1.out _ bel).mono ?_; rintro ee ww ⟨rfl, hb⟩; replace bel := bel.trans (hb.mono bel.size); replace X := X.below hb; replace Y := Y.below hb; clear hb lx ly E1 x0 x1 x2 x3 x4 y0 y1 y2 y3 y4; have lx := X.lt; have ly := Y.lt; obtain ⟨x0, x1, x2, x3, x4⟩ := id X; obtain ⟨y0, y1, y2, y3, y4⟩ := id Y))
    go_ret
    exact ⟨ret_bool HR.out.symm, bel⟩
  | true =>
    cases p2 with
    | false =>
      have HR : Hid (S = false) := Lib.hid (HS.out.trans (by simp))
      clear HS
      go_wp2_with (first | (go_at_call 76; refine (E1.out _ bel).mono ?_; rintro ee ww ⟨rfl, hb⟩; replace bel := bel.trans (hb.mono bel.size); replace X := X.below hb; replace Y := Y.below hb; clear hb lx ly E1 x0 x1 x2 x3 x4 y0 y1 y2 y3 y4; have lx := X.lt; have ly := Y.lt; obtain ⟨x0, x1, x2, x3, x4⟩ := id X; obtain ⟨y0, y1, y2, y3, y4⟩ := id Y))
      go_wp2_with (first | (go_at_call 76; refine (E2.out _ bel).mono ?_; rintro ee ww ⟨rfl, hb⟩; replace bel := bel.trans (hb.mono bel.size); replace X := X.below hb; replace Y := Y.below hb; clear hb lx ly E2 x0 x1 x2 x3 x4 y0 y1 y2 y3 y4; have lx := X.lt; have ly := Y.lt; obtain ⟨x0, x1, x2, x3, x4⟩ := id X; obtain ⟨y0, y1, y2, y3, y4⟩ := id Y))
      go_ret
      exact ⟨ret_bool HR.out.symm, bel⟩
    | true =>
      cases p5 with
      | false =>
        have HR : Hid (S = false) := Lib.hid (HS.out.trans (by simp))
        clear HS
        go_wp2_with (first | (go_at_call 76; refine (E1.out _ bel).mono ?_; rintro ee ww ⟨rfl, hb⟩; replace bel := bel.trans (hb.mono bel.size); replace X := X.below hb; replace Y := Y.below hb; clear hb lx ly E1 x0 x1 x2 x3 x4 y0 y1 y2 y3 y4; have lx := X.lt; have ly := Y.lt; obtain ⟨x0, x1, x2, x3, x4⟩ := id X; obtain ⟨y0, y1, y2, y3, y4⟩ := id Y))
        go_wp2_with (first | (go_at_call 76; refine (E2.out _ bel).mono ?_; rintro ee ww ⟨rfl, hb⟩; replace bel := bel.trans (hb.mono bel.size); replace X := X.below hb; replace Y := Y.below hb; clear hb lx ly E2 x0 x1 x2 x3 x4 y0 y1 y2 y3 y4; have lx := X.lt; have ly := Y.lt; obtain ⟨x0, x1, x2, x3, x4⟩ := id X; obtain ⟨y0, y1, y2, y3, y4⟩ := id Y))
        go_wp2_with (first | (go_at_call 47; refine (E5.out _ bel).mono ?_; rintro ee ww ⟨rfl, hb⟩; replace bel := bel.trans (hb.mono bel.size); replace X := X.below hb; replace Y := Y.below hb; clear hb lx ly E5 x0 x1 x2 x3 x4 y0 y1 y2 y3 y4; have lx := X.lt; have ly := Y.lt; obtain ⟨x0, x1, x2, x3, x4⟩ := id X; obtain ⟨y0, y1, y2, y3, y4⟩ := id Y))
        go_ret
        exact ⟨ret_bool HR.out.symm, bel⟩
      | true =>
        cases p3 with
        | false =>
          have HR : Hid (S = false) := Lib.hid (HS.out.trans (by simp))
          clear HS
          go_wp2_with (first | (go_at_call 76; refine (E1.out _ bel).mono ?_; rintro ee ww ⟨rfl, hb⟩; replace bel := bel.trans (hb.mono bel.size); replace X := X.below hb; replace Y := Y.below hb; clear hb lx ly E1 x0 x1 x2 x3 x4 y0 y1 y2 y3 y4; have lx := X.lt; have ly := Y.lt; obtain ⟨x0, x1, x2, x3, x4⟩ := id X; obtain ⟨y0, y1, y2, y3, y4⟩ := id Y))
          go_wp2_with (first | (go_at_call 76; refine (E2.out _ bel).mono ?_; rintro ee ww ⟨rfl, hb⟩; replace bel := bel.trans (hb.mono bel.size); replace X := X.below hb; replace Y := Y.below hb; clear hb lx ly E2 x0 x1 x2 x3 x4 y0 y1 y2 y3 y4; have lx := X.lt; have ly := Y.lt; obtain ⟨x0, x1, x2, x3, x4⟩ := id X; obtain ⟨y0, y1, y2, y3, y4⟩ := id Y))
          go_wp2_with (first | (go_at_call 47; refine (E5.out _ bel).mono ?_; rintro ee ww ⟨rfl, hb⟩; replace bel := bel.trans (hb.mono bel.size); replace X := X.below hb; replace Y := Y.below hb; clear hb lx ly E5 x0 x1 x2 x3 x4 y0 y1 y2 y3 y4; have lx := X.lt; have ly := Y.lt; obtain ⟨x0, x1, x2, x3, x4⟩ := id X; obtain ⟨y0, y1, y2, y3, y4⟩ := id Y))
          go_wp2_with (first | (go_at_call 77; refine (E3.out _ bel).mono ?_; rintro ee ww ⟨rfl, hb⟩; replace bel := bel.trans (hb.mono bel.size); replace X := X.below hb; replace Y := Y.below hb; clear hb lx ly E3 x0 x1 x2 x3 x4 y0 y1 y2 y3 y4; have lx := X.lt; have ly := Y.lt; obtain ⟨x0, x1, x2, x3, x4⟩ := id X; obtain ⟨y0, y1, y2, y3, y4⟩ := id Y))
          go_ret
          exact ⟨ret_bool HR.out.symm, bel⟩
        | true =>
          cases p4 with
          | false =>
            have HR : Hid (S = false) := Lib.hid (HS.out.trans (by simp))
            clear HS
            go_wp2_with (first | (go_at_call 76; refine (E1.out _ bel).mono ?_; rintro ee ww ⟨rfl, hb⟩; replace bel := bel.trans (hb.mono bel.size); replace X := X.below hb; replace Y := Y.below hb; clear hb lx ly E1 x0 x1 x2 x3 x4 y0 y1 y2 y3 y4; have lx := X.lt; have ly := Y.lt; obtain ⟨x0, x1, x2, x3, x4⟩ := id X; obtain ⟨y0, y1, y2, y3, y4⟩ := id Y))
            go_wp2_with (first | (go_at_call 76; refine (E2.out _ bel).mono ?_; rintro ee ww ⟨rfl, hb⟩; replace bel := bel.trans (hb.mono bel.size); replace X := X.below hb; replace Y := Y.below hb; clear hb lx ly E2 x0 x1 x2 x3 x4 y0 y1 y2 y3 y4; have lx := X.lt; have ly := Y.lt; obtain ⟨x0, x1, x2, x3, x4⟩ := id X; obtain ⟨y0, y1, y2, y3, y4⟩ := id Y))
            go_wp2_with (first | (go_at_call 47; refine (E5.out _ bel).mono ?_; rintro ee ww ⟨rfl, hb⟩; replace bel := bel.trans (hb.mono bel.size); replace X := X.below hb; replace Y := Y.below hb; clear hb lx ly E5 x0 x1 x2 x3 x4 y0 y1 y2 y3 y4; have lx := X.lt; have ly := Y.lt; obtain ⟨x0, x1, x2, x3, x4⟩ := id X; obtain ⟨y0, y1, y2, y3, y4⟩ := id Y))
            go_wp2_with (first | (go_at_call 77; refine (E3.out _ bel).mono ?_; rintro ee ww ⟨rfl, hb⟩; replace bel := bel.trans (hb.mono bel.size); replace X := X.below hb; replace Y := Y.below hb; clear hb lx ly E3 x0 x1 x2 x3 x4 y0 y1 y2 y3 y4; have lx := X.lt; have ly := Y.lt; obtain ⟨x0, x1, x2, x3, x4⟩ := id X; obtain ⟨y0, y1, y2, y3, y4⟩ := id Y))
            go_wp2_with (first | (go_at_call 78; refine (E4.out _ bel).mono ?_; rintro ee ww ⟨rfl, hb⟩; replace bel := bel.trans (hb.mono bel.size); replace X := X.below hb; replace Y := Y.below hb; clear hb lx ly E4 x0 x1 x2 x3 x4 y0 y1 y2 y3 y4; have lx := X.lt; have ly := Y.lt; obtain ⟨x0, x1, x2, x3, x4⟩ := id X; obtain ⟨y0, y1, y2, y3, y4⟩ := id Y))
            go_ret
            exact ⟨ret_bool HR.out.symm, bel⟩
          | true =>
            have HR : Hid (S = true) := Lib.hid (HS.out.trans (by simp))
            clear HS
            go_wp2_with (first | (go_at_call 76; refine (E1.out _ bel).mono ?_; rintro ee ww ⟨rfl, hb⟩; replace bel := bel.trans (hb.mono bel.size); replace X := X.below hb; replace Y := Y.below hb; clear hb lx ly E1 x0 x1 x2 x3 x4 y0 y1 y2 y3 y4; have lx := X.lt; have ly := Y.lt; obtain ⟨x0, x1, x2, x3, x4⟩ := id X; obtain ⟨y0, y1, y2, y3, y4⟩ := id Y))
            go_wp2_with (first | (go_at_call 76; refine (E2.out _ bel).mono ?_; rintro ee ww ⟨rfl, hb⟩; replace bel := bel.trans (hb.mono bel.size); replace X := X.below hb; replace Y := Y.below hb; clear hb lx ly E2 x0 x1 x2 x3 x4 y0 y1 y2 y3 y4; have lx := X.lt; have ly := Y.lt; obtain ⟨x0, x1, x2, x3, x4⟩ := id X; obtain ⟨y0, y1, y2, y3, y4⟩ := id Y))
            go_wp2_with (first | (go_at_call 47; refine (E5.out _ bel).mono ?_; rintro ee ww ⟨rfl, hb⟩; replace bel := bel.trans (hb.mono bel.size); replace X := X.below hb; replace Y := Y.below hb; clear hb lx ly E5 x0 x1 x2 x3 x4 y0 y1 y2 y3 y4; have lx := X.lt; have ly := Y.lt; obtain ⟨x0, x1, x2, x3, x4⟩ := id X; obtain ⟨y0, y1, y2, y3, y4⟩ := id Y))
            go_wp2_with (first | (go_at_call 77; refine (E3.out _ bel).mono ?_; rintro ee ww ⟨rfl, hb⟩; replace bel := bel.trans (hb.mono bel.size); replace X := X.below hb; replace Y := Y.below hb; clear hb lx ly E3 x0 x1 x2 x3 x4 y0 y1 y2 y3 y4; have lx := X.lt; have ly := Y.lt; obtain ⟨x0, x1, x2, x3, x4⟩ := id X; obtain ⟨y0, y1, y2, y3, y4⟩ := id Y))
            go_wp2_with (first | (go_at_call 78; refine (E4.out _ bel).mono ?_; rintro ee ww ⟨rfl, hb⟩; replace bel := bel.trans (hb.mono bel.size); replace X := X.below hb; replace Y := Y.below hb; clear hb lx ly E4 x0 x1 x2 x3 x4 y0 y1 y2 y3 y4; have lx := X.lt; have ly := Y.lt; obtain ⟨x0, x1, x2, x3, x4⟩ := id X; obtain ⟨y0, y1, y2, y3, y4⟩ := id Y))
            go_ret
            exact ⟨ret_bool HR.out.symm, bel⟩
end Go.Proofs.Ytimojbjamfckmaa
