/- The loop of masklaw1 over operations with two operands: it returns true, where each operation returns what the reference says. -/
import Derived.Test.YtodldcdfdjooaaaGreatDoorRefB2
import Derived.Test.YtodldcdfdjooaaaGreatDoorRefValid
import Derived.Deep.CutBlock
import Derived.Deep.DeepCutAuto
import Derived.LoopTactic
namespace Go.Proofs.YtodldcdfdjooaaaGreatDoor
open Go Go.RowKit Go.Sort
set_option linter.unusedVariables false
def looseB (op : Int) : Bool := op == 11 || op == 12 || op == 21 || op == 22 || op == 23
def okc (op : Int) (a b : Rb) : Bool := a.okB && b.okB && (looseB op || decide (a.W = b.W))
def vR (r : Rb) : List UInt8 := vl ⟨r.v, r.x⟩ r.W.toNat
def ZR : Rb := ⟨0, 0#64, 0#64⟩
/-- a slice of whole numbers that reads as a list -/
structure RowI (w : World) (v : Value) (l : List Int) : Prop where
  sh : ∃ bl off cap, v = .slice (some ⟨bl, off, none⟩) l.length cap ∧ ∀ q (hq : q < l.length), w.cell? ⟨bl, off + q, none⟩ = some (.int .i64 l[q])
theorem RowI.below {w w' : World} {v : Value} {l : List Int} (h : RowI w v l) (hb : Below w.heap.size w w') : RowI w' v l := by
  obtain ⟨bl, off, cap, rfl, hc⟩ := h.sh
  exact ⟨bl, off, cap, rfl, fun q hq => (hb.cell (p := ⟨bl, off + q, none⟩) (World.block_lt_of_cell? w _ (hc q hq))).trans (hc q hq)⟩
theorem rowI_sta (l : List Int) : Sta (fun v w => RowI w v l) := fun _ _ _ h hb => h.below hb
/-- what is known of one operation -/
structure OpFact (a b : Rb) (s : Bool) (op : Int) (P : Rb) : Prop where
  prog : ∀ w, Calls Tryz.prog 42 #[.int .i64 op, .agg #[.int .i64 a.W, .int .u64 (U a.v), .int .u64 (U a.x)], .agg #[.int .i64 b.W, .int .u64 (U b.v), .int .u64 (U b.x)], .bool s] w fun e w' => e = .returned (.agg #[.int .i64 P.W, .int .u64 (U P.v), .int .u64 (U P.x)]) ∧ Below w.heap.size w w'
  ref : okc op a b = true → ∀ w v u, Row8 w v (vR a) → Row8 w u (vR b) → Calls Tryz.prog 41 #[.int .i64 op, v, u, .bool s] w fun e w' => ∃ r, e = .returned r ∧ (∃ l, Row8 w' r l ∧ Bl l = P ∧ l.length ≤ 1000000) ∧ Below w.heap.size w w'
  ill : okc op a b = false → P = ZR
/-- a list of states that gives a vector -/
def LF (P : Rb) : Fa := fun v w => ∃ l, Row8 w v l ∧ Bl l = P ∧ l.length ≤ 1000000
theorem lf_sta (P : Rb) : Sta (LF P) := fun v w w' ⟨l, h1, h2, h3⟩ hb => ⟨l, h1.below hb, h2, h3⟩
theorem pvalid_is (r : Rb) (t : Bool) (h : r.okB = t) (w : World) : Calls Tryz.prog 13 #[.agg #[.int .i64 r.W, .int .u64 (U r.v), .int .u64 (U r.x)]] w fun e w' => e = .returned (.bool t) ∧ Below w.heap.size w w' := by
  rw [← h]; exact refValid_any r w
theorem pV_row (r : Rb) (h : r.okB = true) (w : World) : Calls Tryz.prog 16 #[.agg #[.int .i64 r.W, .int .u64 (U r.v), .int .u64 (U r.x)]] w fun e w' => ∃ v, e = .returned v ∧ Row8 w' v (vR r) ∧ Below w.heap.size w w' := by
  obtain ⟨n, e, o⟩ := Rb.ok_of h
  unfold vR
  rw [e, Int.toNat_natCast]; exact refV_row n ⟨r.v, r.x⟩ w o
theorem pB_is (P : Rb) (v : Value) (w : World) (h : LF P v w) : Calls Tryz.prog 14 #[v] w fun e w' => e = .returned (.agg #[.int .i64 P.W, .int .u64 (U P.v), .int .u64 (U P.x)]) ∧ Below w.heap.size w w' := by
  obtain ⟨l, h1, h2, h3⟩ := h
  exact refB_is v l P h2 h3 w h1
/-- what the loop's variables hold -/
structure PX (w : World) (a b : Rb) (W : World) : Prop where
  ba : Box W w.heap.size a.W (U a.v) (U a.x)
  bb : Box W (w.heap.size + 1) b.W (U b.v) (U b.x)
  lo : Below w.heap.size w W
theorem PX.below {w : World} {a b : Rb} {W W' : World} (h : PX w a b W) (hb : Below W.heap.size W W') : PX w a b W' :=
  ⟨h.ba.below hb, h.bb.below hb, h.lo.trans (hb.mono h.lo.size)⟩
structure PY (w : World) (g : Nat) (a b P : Rb) (W : World) : Prop where
  ba : Box W w.heap.size a.W (U a.v) (U a.x)
  bb : Box W (w.heap.size + 1) b.W (U b.v) (U b.x)
  bp : Box W g P.W (U P.v) (U P.x)
  lt : w.heap.size + 1 < g
  lo : Below w.heap.size w W
theorem PY.below {w : World} {g : Nat} {a b P : Rb} {W W' : World} (h : PY w g a b P W) (hb : Below W.heap.size W W') : PY w g a b P W' :=
  ⟨h.ba.below hb, h.bb.below hb, h.bp.below hb, h.lt, h.lo.trans (hb.mono h.lo.size)⟩
theorem PY.put {w : World} {g : Nat} {a b P : Rb} {W : World} (h : PY w g a b P W) (d : Rb) : PY w g a b d (((W.setCell ⟨g, 0, none⟩ (.int .i64 d.W)).setCell ⟨g, 1, none⟩ (.int .u64 (U d.v))).setCell ⟨g, 2, none⟩ (.int .u64 (U d.x))) := by
  have := h.lt
  exact ⟨h.ba.other (by omega) _ _ _, h.bb.other (by omega) _ _ _, h.bp.set _ _ _, h.lt, ((h.lo.setCell (by show w.heap.size ≤ g; omega) _).setCell (by show w.heap.size ≤ g; omega) _).setCell (by show w.heap.size ≤ g; omega) _⟩
abbrev zObjP : Obj := Obj.cells #[Value.int IntKind.i64 0, Value.int IntKind.u64 0, Value.int IntKind.u64 0] 24
theorem py_new {w W : World} {a b : Rb} (h : PX w a b W) : PY w W.heap.size a b ZR (W.alloc zObjP) := by
  have l := h.bb.lt
  have hb : Below W.heap.size W (W.alloc zObjP) := (Below.refl _ _).alloc (Nat.le_refl _) _
  refine ⟨h.ba.below hb, h.bb.below hb, ?_, l, h.lo.trans (hb.mono h.lo.size)⟩
  simp only [ZR, show U 0#64 = 0 from by decide]; exact ⟨by go_simp, by go_simp, by go_simp, fun o => by go_simp⟩
abbrev aObjP (a : Rb) : Obj := Obj.cells #[Value.int IntKind.i64 a.W, Value.int IntKind.u64 (U a.v), Value.int IntKind.u64 (U a.x)] 24
theorem px_new {w : World} (a b : Rb) : PX w a b ((w.alloc (aObjP a)).alloc (aObjP b)) :=
  ⟨⟨by go_simp, by go_simp, by go_simp, fun o => by go_simp⟩, ⟨by go_simp, by go_simp, by go_simp, fun o => by go_simp⟩, ((Below.refl _ _).alloc (Nat.le_refl _) _).alloc (by simp) _⟩
set_option maxRecDepth 100000 in
set_option maxHeartbeats 8000000 in
theorem pair_ok (l : List Int) (hl : l.length ≤ 1000) (v : Value) (a b : Rb) (s : Bool) (w : World) (hv : RowI w v l) (hf : ∀ op ∈ l, ∃ P, OpFact a b s op P) : Calls Tryz.prog 18 #[v, .agg #[.int .i64 a.W, .int .u64 (U a.v), .int .u64 (U a.x)], .agg #[.int .i64 b.W, .int .u64 (U b.v), .int .u64 (U b.x)], .bool s] w fun e w' => e = .returned (.bool true) ∧ Below w.heap.size w w' := by
  obtain ⟨bl, off, cap, rfl, hc0⟩ := hv.sh
  have HC := Lib.hid hc0
  have HFF := Lib.hid hf
  clear hv hc0 hf
  generalize hn : l.length = n at hl ⊢
  have HN := Lib.hid hn
  clear hn
  go_enter Tryz.func18, Tryz.ntmps18
  go_wp2_with fail
  have T0 := px_new (w := w) a b
  go_loopw [15] (fun s15 wr => ∃ k : Nat, k ≤ n ∧ s15 = .int .i64 k ∧ PX w a b wr) (fun s15 _ => n - (intOf s15).toNat)
  case atStart => exact ⟨0, Nat.zero_le _, rfl, T0⟩
  case round =>
    obtain ⟨k, hk, rfl, T⟩ := hrel
    clear T0
    by_cases hlt : k < n
    · have hkl : k < l.length := by rw [HN.out]; exact hlt
      have hc1 := HC.out k hkl
      have hc := ((bcell T.lo).1 _ _ (World.block_lt_of_cell? w _ hc1)).trans hc1
      obtain ⟨P, hP⟩ := HFF.out _ (List.getElem_mem hkl)
      generalize l[k] = op at hc hP
      have HP := Lib.hid hP
      have hk0 : (0 : Int) ≤ (k : Int) := by omega
      have hk1 : (k : Int) < (n : Int) := by omega
      clear hc1 hP hkl
      go_upto_region 4 with fail
      go_cut [11] (fun s11 wx => ∃ wy : World, wy = wx ∧ s11 = .bool (looseB op) ∧ PX w a b wx)
      case first =>
        by_cases e11 : op = 11
        · subst e11
          go_wp2_with fail
          go_meet
          exact ⟨_, rfl, rfl, T⟩
        by_cases e12 : op = 12
        · subst e12
          go_wp2_with fail
          go_meet
          exact ⟨_, rfl, rfl, T⟩
        by_cases e21 : op = 21
        · subst e21
          go_wp2_with fail
          go_meet
          exact ⟨_, rfl, rfl, T⟩
        by_cases e22 : op = 22
        · subst e22
          go_wp2_with fail
          go_meet
          exact ⟨_, rfl, rfl, T⟩
        by_cases e23 : op = 23
        · subst e23
          go_wp2_with fail
          go_meet
          exact ⟨_, rfl, rfl, T⟩
        have t11 : (op == 11) = false := by simpa using e11
        have t12 : (op == 12) = false := by simpa using e12
        have t21 : (op == 21) = false := by simpa using e21
        have t22 : (op == 22) = false := by simpa using e22
        have t23 : (op == 23) = false := by simpa using e23
        have HLo := Lib.hid (show looseB op = false from by unfold looseB; rw [t11, t12, t21, t22, t23]; rfl)
        clear e11 e12 e21 e22 e23
        go_wp2_with fail
        go_meet
        exact ⟨_, rfl, by rw [HLo.out], T⟩
      case rest =>
      clear hc T
      obtain ⟨wy, hwy, rfl, T⟩ := hcut
      subst hwy
      obtain ⟨lo9, hlo9⟩ : ∃ t, looseB op = t := ⟨_, rfl⟩
      rw [hlo9]
      have HLo := Lib.hid hlo9
      clear hlo9
      go_upto_region 6 with fail
      have C := py_new T
      clear T
      generalize wy.heap.size = g at C ⊢
      generalize wy.alloc zObjP = W at C ⊢
      obtain ⟨⟨a0, a1, a2, af⟩, ⟨b0, b1, b2, bf⟩, ⟨p0, p1, p2, pf⟩, hlt2, hlo2⟩ := id C
      go_cut [52] (fun s52 wx => ∃ wq : World, wq = wx ∧ s52 = .bool (okc op a b) ∧ PY w g a b ZR wx)
      case first =>
        have HN2 : Hid (okc op a b = (a.okB && b.okB && (lo9 || decide (a.W = b.W)))) := by unfold okc; rw [HLo.out]; exact rfl
        cases ha : a.okB
        · rw [ha] at HN2
          have HN3 : Hid (okc op a b = false) := HN2
          have va := Lib.hid fun w => pvalid_is a false ha w
          clear ha HN2
          go_wp2_with fail
          refine (va.out _).mono ?_
          rintro e W1 ⟨rfl, hb⟩
          go_wp2_with fail
          go_meet
          exact ⟨_, rfl, by rw [HN3.out], C.below hb⟩
        have va := Lib.hid fun w => pvalid_is a true ha w
        cases hb : b.okB
        · rw [ha, hb] at HN2
          have HN3 : Hid (okc op a b = false) := HN2
          have vb := Lib.hid fun w => pvalid_is b false hb w
          clear ha hb HN2
          go_wp2_with fail
          refine (va.out _).mono ?_
          rintro e W1 ⟨rfl, hb⟩
          replace C := C.below hb
          clear a0 a1 a2 af b0 b1 b2 bf p0 p1 p2 pf hlt2 hlo2 hb
          obtain ⟨⟨a0, a1, a2, af⟩, ⟨b0, b1, b2, bf⟩, ⟨p0, p1, p2, pf⟩, hlt2, hlo2⟩ := id C
          go_wp2_with fail
          refine (vb.out _).mono ?_
          rintro e W2 ⟨rfl, hb⟩
          go_wp2_with fail
          go_meet
          exact ⟨_, rfl, by rw [HN3.out], C.below hb⟩
        have vb := Lib.hid fun w => pvalid_is b true hb w
        rw [ha, hb] at HN2
        have HN3 : Hid (okc op a b = (lo9 || decide (a.W = b.W))) := HN2
        clear HN2 ha hb
        have WAY : ∀ t, (a.W == b.W) = t → Hid (okc op a b = (lo9 || t)) := fun t ht => by
          have : decide (a.W = b.W) = t := by rw [← ht]; rw [Bool.eq_iff_iff]; simp
          rw [this] at HN3; exact HN3
        clear HN3
        cases lo9
        · obtain ⟨t9, ht9⟩ : ∃ t, (a.W == b.W) = t := ⟨_, rfl⟩
          have HN3 := WAY t9 ht9
          clear WAY
          cases t9 <;>
          · go_wp2_with fail
            refine (va.out _).mono ?_
            rintro e W1 ⟨rfl, hb⟩
            replace C := C.below hb
            clear a0 a1 a2 af b0 b1 b2 bf p0 p1 p2 pf hlt2 hlo2 hb
            obtain ⟨⟨a0, a1, a2, af⟩, ⟨b0, b1, b2, bf⟩, ⟨p0, p1, p2, pf⟩, hlt2, hlo2⟩ := id C
            go_wp2_with fail
            refine (vb.out _).mono ?_
            rintro e W2 ⟨rfl, hb⟩
            replace C := C.below hb
            clear a0 a1 a2 af b0 b1 b2 bf p0 p1 p2 pf hlt2 hlo2 hb
            obtain ⟨⟨a0, a1, a2, af⟩, ⟨b0, b1, b2, bf⟩, ⟨p0, p1, p2, pf⟩, hlt2, hlo2⟩ := id C
            go_wp2_with fail
            go_meet
            exact ⟨_, rfl, by rw [HN3.out]; rfl, C⟩
        · have HN3 := WAY _ rfl
          clear WAY
          go_wp2_with fail
          refine (va.out _).mono ?_
          rintro e W1 ⟨rfl, hb⟩
          replace C := C.below hb
          clear a0 a1 a2 af b0 b1 b2 bf p0 p1 p2 pf hlt2 hlo2 hb
          obtain ⟨⟨a0, a1, a2, af⟩, ⟨b0, b1, b2, bf⟩, ⟨p0, p1, p2, pf⟩, hlt2, hlo2⟩ := id C
          go_wp2_with fail
          refine (vb.out _).mono ?_
          rintro e W2 ⟨rfl, hb⟩
          go_wp2_with fail
          go_meet
          exact ⟨_, rfl, by rw [HN3.out]; rfl, C.below hb⟩
      case rest =>
      clear a0 a1 a2 af b0 b1 b2 bf p0 p1 p2 pf hlt2 hlo2 C
      obtain ⟨wq, hwq, rfl, C⟩ := hcut
      subst hwq
      obtain ⟨⟨a0, a1, a2, af⟩, ⟨b0, b1, b2, bf⟩, ⟨p0, p1, p2, pf⟩, hlt2, hlo2⟩ := id C
      obtain ⟨t9, ht9⟩ : ∃ t, okc op a b = t := ⟨_, rfl⟩
      rw [ht9]
      have HT9 := Lib.hid ht9
      clear ht9 HLo
      go_upto_if 52 with fail
      go_cut [] (fun wx => ∃ wq : World, wq = wx ∧ PY w g a b P wx)
      case first =>
        cases t9
        · have e := HP.out.ill HT9.out
          go_wp2_with fail
          go_meet
          exact ⟨_, rfl, by rw [e]; exact C⟩
        · have HR := Lib.hid (HP.out.ref HT9.out)
          have hab : a.okB = true ∧ b.okB = true := by
            have := HT9.out
            unfold okc at this
            rw [Bool.and_eq_true, Bool.and_eq_true] at this
            exact this.1
          have VA := Lib.hid fun w => pV_row a hab.1 w
          have VB := Lib.hid fun w => pV_row b hab.2 w
          clear hab
          have ga0 := cell_regrown a0
          have ga1 := cell_regrown a1
          have ga2 := cell_regrown a2
          have gb0 := cell_regrown b0
          have gb1 := cell_regrown b1
          have gb2 := cell_regrown b2
          go_wp2_with fail
          refine wp_region_rel 8 (by kernel_rfl) (by kernel_rfl) ?_
          simp only [List.take_succ_cons, List.take_zero, List.drop_succ_cons, List.drop_zero]
          (refine rel_fix0 (fun K hK => ?_); go_simp; refine hK _ ?_; clear hK K)
          (refine rel_fix0 (fun K hK => ?_); go_simp; refine hK _ ?_; clear hK K)
          refine rel_fact [] (fun v w => Row8 w v (vR a)) 55 rfl (by simp [Act.put]) (row8_sta _) (by rfl) (by kernel_rfl) (by kernel_rfl) ?_ ?_
          · intro d os
            simp only [relAll]
            go_simp
            exact ret_fact (VA.out _)
          (refine rel_fix (by kernel_rfl) (by kernel_rfl) (fun K hK => ?_); go_simp; refine hK _ ?_; clear hK K)
          refine rel_fact [] (fun v w => Row8 w v (vR b)) 57 rfl (by simp [Act.put]) (row8_sta _) (by rfl) (by kernel_rfl) (by kernel_rfl) ?_ ?_
          · intro d os
            simp only [relAll]
            go_simp
            exact ret_fact (VB.out _)
          (refine rel_fix (by kernel_rfl) (by kernel_rfl) (fun K hK => ?_); go_simp; refine hK _ ?_; clear hK K)
          refine rel_fact [(57, _), (55, _)] (LF P) 59 rfl (by simp [Act.put]) (lf_sta _) (by rfl) (by kernel_rfl) (by kernel_rfl) ?_ ?_
          · intro d os
            simp only [relAll]
            rintro v2 h2' v1 h1'
            go_simp
            exact ret_fact (HR.out _ _ _ h1' h2')
          refine rel_use [(59, _)] (.agg #[.int .i64 P.W, .int .u64 (U P.v), .int .u64 (U P.x)]) (by rfl) (by kernel_rfl) (by kernel_rfl) ?_ ?_
          · intro d os
            simp only [relAll]
            rintro v3 h3'
            go_simp
            exact ret_fix (pB_is P _ _ h3')
          refine rel_nil ?_
          intro d os
          simp only [relAll]
          rintro v3 - v2 - v1 -
          clear ga0 ga1 ga2 gb0 gb1 gb2
          clear a0 a1 a2 af b0 b1 b2 bf p0 p1 p2 pf hlt2 hlo2
          replace C := C.below (below_regrown _ d os)
          generalize grow (redrawn _ d) os = W4 at C ⊢
          obtain ⟨⟨a0, a1, a2, af⟩, ⟨b0, b1, b2, bf⟩, ⟨p0, p1, p2, pf⟩, hlt2, hlo2⟩ := id C
          go_wp2_with fail
          go_meet
          exact ⟨_, rfl, C.put P⟩
      case rest =>
      clear a0 a1 a2 af b0 b1 b2 bf p0 p1 p2 pf hlt2 hlo2 C
      obtain ⟨wq, hwq, C⟩ := hcut
      subst hwq
      obtain ⟨⟨a0, a1, a2, af⟩, ⟨b0, b1, b2, bf⟩, ⟨p0, p1, p2, pf⟩, hlt2, hlo2⟩ := id C
      have HPP := Lib.hid HP.out.prog
      have ga0 := cell_regrown a0
      have ga1 := cell_regrown a1
      have ga2 := cell_regrown a2
      have gb0 := cell_regrown b0
      have gb1 := cell_regrown b1
      have gb2 := cell_regrown b2
      have gp0 := cell_regrown p0
      have gp1 := cell_regrown p1
      have gp2 := cell_regrown p2
      go_upto_region 8 with fail
      refine wp_region_rel 7 (by kernel_rfl) (by kernel_rfl) ?_
      simp only [List.take_succ_cons, List.take_zero, List.drop_succ_cons, List.drop_zero]
      (refine rel_fix0 (fun K hK => ?_); go_simp; refine hK _ ?_; clear hK K)
      (refine rel_fix0 (fun K hK => ?_); go_simp; refine hK _ ?_; clear hK K)
      (refine rel_fix0 (fun K hK => ?_); go_simp; refine hK _ ?_; clear hK K)
      (refine rel_fix0 (fun K hK => ?_); go_simp; refine hK _ ?_; clear hK K)
      (refine rel_fix0 (fun K hK => ?_); go_simp; apply Exists.intro; refine ⟨fun _ _ => ?_, hK _ ?_⟩; (with_reducible exact ret_fix (HPP.out _)); clear hK K)
      (refine rel_fix0 (fun K hK => ?_); go_simp; refine hK _ ?_; clear hK K)
      (refine rel_fix0 (fun K hK => ?_); go_simp; refine hK _ ?_; clear hK K)
      refine rel_nil ?_
      intro d os
      simp only [relAll]
      clear ga0 ga1 ga2 gb0 gb1 gb2 gp0 gp1 gp2 a0 a1 a2 af b0 b1 b2 bf p0 p1 p2 pf hlt2 hlo2
      replace C := C.below (below_regrown _ d os)
      generalize grow (redrawn _ d) os = W4 at C ⊢
      go_wp2_with fail
      go_roundw
      case rel => exact ⟨k + 1, by omega, by go_num, ⟨C.ba, C.bb, C.lo⟩⟩
      case measure => simp [intOf]; omega
    · go_wp2_with fail
      go_ret
      exact ⟨rfl, T.lo⟩
end Go.Proofs.YtodldcdfdjooaaaGreatDoor
