/- The law BitsCat: its walk. -/
import Derived.Test.YtdpmojkpfnkcdaaDoorCatMath
import Derived.Test.YtdpmojkpfnkcdaaDoorVectors
import Derived.Deep.CutBlock
import Derived.Deep.DeepCutAuto
import Derived.LoopTactic
namespace Go.Proofs.YtdpmojkpfnkcdaaDoor
open Go Go.RowKit Go.Sort
set_option linter.unusedVariables false
theorem valid_c (r : Rb) (t : Bool) (h : r.okB = t) (w : World) : Calls Tryd.prog 9 #[.agg #[.int .i64 r.W, .int .u64 (U r.v), .int .u64 (U r.x)]] w fun e w' => e = .returned (.bool t) ∧ Below w.heap.size w w' := by
  rw [← h]; exact refValid_any r w
theorem all_take (l : List Rb) (i : Nat) (h : i < l.length) : ((l.take (i + 1)).all fun q => q.okB) = (((l.take i).all fun q => q.okB) && (l.getD i ⟨0, 0#64, 0#64⟩).okB) := by
  rw [List.take_add_one, List.all_append, List.getElem?_eq_getElem h, List.getD_eq_getElem?_getD, List.getElem?_eq_getElem h]
  simp
theorem all_no {l : List Rb} {j : Nat} (hj : j < l.length) (h : (l.getD j ⟨0, 0#64, 0#64⟩).okB = false) : (l.all fun q => q.okB) = false := by
  rw [Bool.eq_false_iff]
  intro ha
  rw [List.getD_eq_getElem?_getD, List.getElem?_eq_getElem hj] at h
  have := List.all_eq_true.1 ha _ (List.getElem_mem hj)
  rw [show (some l[j]).getD ⟨0, 0#64, 0#64⟩ = l[j] from rfl] at h
  rw [h] at this; cases this
theorem all_yes {l : List Rb} (h : (l.all fun q => q.okB) = true) : ∀ j, j < l.length → (l.getD j ⟨0, 0#64, 0#64⟩).okB = true := by
  intro j hj
  rw [List.getD_eq_getElem?_getD, List.getElem?_eq_getElem hj]
  exact List.all_eq_true.1 h _ (List.getElem_mem hj)
def ZC : Rb := ⟨0, 0#64, 0#64⟩
/-- what the law's variables hold -/
structure QB (w : World) (g : Nat) (r c p : Rb) (W : World) : Prop where
  br : Box W w.heap.size r.W (U r.v) (U r.x)
  bc : Box W g c.W (U c.v) (U c.x)
  bp : Box W (g + 1) p.W (U p.v) (U p.x)
  lt : w.heap.size < g
  lo : Below w.heap.size w W
theorem QB.below {w : World} {g : Nat} {r c p : Rb} {W W' : World} (h : QB w g r c p W) (hb : Below W.heap.size W W') : QB w g r c p W' :=
  ⟨h.br.below hb, h.bc.below hb, h.bp.below hb, h.lt, h.lo.trans (hb.mono h.lo.size)⟩
theorem QB.low {w : World} {g q : Nat} {r c p : Rb} {W : World} (h : QB w g r c p W) (hq : g ≤ q) (x y z : Value) : Below w.heap.size w (((W.setCell ⟨q, 0, none⟩ x).setCell ⟨q, 1, none⟩ y).setCell ⟨q, 2, none⟩ z) := by
  have := h.lt
  exact ((h.lo.setCell (by show w.heap.size ≤ q; omega) _).setCell (by show w.heap.size ≤ q; omega) _).setCell (by show w.heap.size ≤ q; omega) _
theorem QB.putc {w : World} {g : Nat} {r c p : Rb} {W : World} (h : QB w g r c p W) (d : Rb) : QB w g r d p (((W.setCell ⟨g, 0, none⟩ (.int .i64 d.W)).setCell ⟨g, 1, none⟩ (.int .u64 (U d.v))).setCell ⟨g, 2, none⟩ (.int .u64 (U d.x))) := by
  have := h.lt
  exact ⟨h.br.other (by omega) _ _ _, h.bc.set _ _ _, h.bp.other (by omega) _ _ _, h.lt, h.low (Nat.le_refl _) _ _ _⟩
theorem QB.putp {w : World} {g : Nat} {r c p : Rb} {W : World} (h : QB w g r c p W) (d : Rb) : QB w g r c d (((W.setCell ⟨g + 1, 0, none⟩ (.int .i64 d.W)).setCell ⟨g + 1, 1, none⟩ (.int .u64 (U d.v))).setCell ⟨g + 1, 2, none⟩ (.int .u64 (U d.x))) := by
  have := h.lt
  exact ⟨h.br.other (by omega) _ _ _, h.bc.other (by omega) _ _ _, h.bp.set _ _ _, h.lt, h.low (by omega) _ _ _⟩
abbrev zObj1 : Obj := Obj.cells #[Value.int IntKind.i64 0, Value.int IntKind.u64 0, Value.int IntKind.u64 0] 24
theorem qb_new {w w1 : World} {r : Rb} (br : Box w1 w.heap.size r.W (U r.v) (U r.x)) (lo : Below w.heap.size w w1) : QB w w1.heap.size r ZC ZC ((w1.alloc zObj1).alloc zObj1) := by
  have l := br.lt
  have hb : Below w1.heap.size w1 ((w1.alloc zObj1).alloc zObj1) := ((Below.refl _ _).alloc (Nat.le_refl _) _).alloc (by simp) _
  refine ⟨br.below hb, ?_, ?_, l, lo.trans (hb.mono lo.size)⟩ <;> simp only [ZC, show U 0#64 = 0 from by decide] <;> exact ⟨by go_simp, by go_simp, by go_simp, fun o => by go_simp⟩
theorem catV_bad' {l : List Rb} (h : (l.all fun q => q.okB) = false) : catV l = ZC := by
  have : ∃ j, j < l.length ∧ (l.getD j ⟨0, 0#64, 0#64⟩).okB = false := by
    obtain ⟨q, hq, hb⟩ := List.all_eq_false.1 h
    obtain ⟨j, hj, rfl⟩ := List.mem_iff_getElem.1 hq
    refine ⟨j, hj, ?_⟩
    rw [List.getD_eq_getElem?_getD, List.getElem?_eq_getElem hj]
    simpa using hb
  obtain ⟨j, hj, hb⟩ := this
  exact catV_no hj hb
def repB (r : Rb) (n : Int) : Bool := r.okB && decide (1 ≤ n ∧ n ≤ 64)
theorem repV_bad {r : Rb} {n : Int} (h : repB r n = false) : repV r n = ZC := by
  unfold repV
  by_cases c : 1 ≤ n ∧ n ≤ 64
  · rw [if_pos c]
    unfold repB at h
    rw [decide_eq_true c, Bool.and_true] at h
    obtain ⟨m, rfl⟩ : ∃ m : Nat, n = m := ⟨n.toNat, by omega⟩
    rw [Int.toNat_natCast]
    refine catV_no (j := 0) (by rw [List.length_replicate]; omega) ?_
    rw [List.getD_eq_getElem?_getD, List.getElem?_replicate, if_pos (by omega)]; exact h
  · rw [if_neg c]; rfl
theorem flat_len (v : List UInt8) : ∀ k, (List.replicate k v).flatten.length = k * v.length
  | 0 => by simp
  | k + 1 => by rw [rep_snoc, List.length_append, flat_len v k, Nat.succ_mul]
theorem cat_is (p : Option Addr) (cap : Nat) (l : List Rb) (q : Rb) (w : World) (hq : catV l = q) (hl : Vs p l w) :
    Calls Tryd.prog 28 #[.slice p l.length cap] w fun e w' => e = .returned (.agg #[.int .i64 q.W, .int .u64 (U q.v), .int .u64 (U q.x)]) ∧ Below w.heap.size w w' := by
  rw [← hq]; exact cat_any p cap l w hl
theorem rep_is (n : Int) (r q : Rb) (w : World) (hq : repV r n = q) :
    Calls Tryd.prog 29 #[.agg #[.int .i64 r.W, .int .u64 (U r.v), .int .u64 (U r.x)], .int .i64 n] w fun e w' => e = .returned (.agg #[.int .i64 q.W, .int .u64 (U q.v), .int .u64 (U q.x)]) ∧ Below w.heap.size w w' := by
  rw [← hq]; exact rep_any n r w
def repL (r : Rb) (k : Nat) : List UInt8 := (List.replicate k (vlR r)).flatten
theorem repL_snoc (r : Rb) (k : Nat) : repL r (k + 1) = repL r k ++ vlR r := rep_snoc _ _
theorem repL_len (r : Rb) (k : Nat) : (repL r k).length = k * (vlR r).length := flat_len _ _
theorem repL_ok {r : Rb} {n : Nat} (ho : r.okB = true) (n1 : 1 ≤ n) (n2 : n ≤ 64) : Bl (repL r n) = repV r n := repV_ok ho n1 n2
theorem own_slice {w : World} {base : Nat} {e : TypeId} {v : Value} {n : Nat} {xs : List Value} (h : w.ownsRow base e 1 v n xs) : ∃ ad cap, v = .slice ad n cap := by
  rcases h.2 with ⟨rfl, rfl⟩ | ⟨g, cap, cur, rfl, _⟩
  · exact ⟨none, 0, rfl⟩
  · exact ⟨_, _, rfl⟩
set_option maxRecDepth 100000 in
set_option maxHeartbeats 2000000 in
theorem bitsCat_any {B : Nat} (l : List Rb) (a0 : Option Addr) (cap0 : Nat) (r : Rb) (n : Int) (w : World) (hG : Glob B w) (hl : Vs a0 l w) : Calls Tryd.prog 5 #[.slice a0 l.length cap0, .agg #[.int .i64 r.W, .int .u64 (U r.v), .int .u64 (U r.x)], .int .i64 n] w fun e w' => e = .returned (.bool true) ∧ Below w.heap.size w w' := by
  obtain ⟨t0, hti, hz0, hz1, hz2⟩ := info_parts info5
  have HG := Lib.hid hG
  have HL := Lib.hid hl
  have HLW := Lib.hid hl
  have hle := hl.le
  clear hG hl
  go_enter Tryd.func5, Tryd.ntmps5
  go_wp2_with fail
  have t4 : Below w.heap.size w (w.alloc (Obj.cells #[Value.int IntKind.i64 r.W, Value.int IntKind.u64 (U r.v), Value.int IntKind.u64 (U r.x)] 24)) := (Below.refl _ _).alloc (Nat.le_refl _) _
  have t1 : Box (w.alloc (Obj.cells #[Value.int IntKind.i64 r.W, Value.int IntKind.u64 (U r.v), Value.int IntKind.u64 (U r.x)] 24)) w.heap.size r.W (U r.v) (U r.x) := ⟨by go_simp, by go_simp, by go_simp, fun o => by go_simp⟩
  generalize (w.alloc (Obj.cells #[Value.int IntKind.i64 r.W, Value.int IntKind.u64 (U r.v), Value.int IntKind.u64 (U r.x)] 24)) = w0 at t1 t4 ⊢
  refine (vectors_ok _ (HG.out.here t4)).mono ?_
  rintro e w1 ⟨rfl, hb⟩
  replace t1 := t1.below hb
  replace t4 := t4.trans (hb.mono t4.size)
  replace HL := Lib.hid (HL.out.below t4)
  clear hb HG w0
  go_upto_block 0 with fail
  have HB0 := Lib.hid (Below.refl w1.heap.size w1)
  go_cut [7, 8] (fun s7 s8 wx => ∃ (R : List UInt8) (ok : Bool), s8 = .bool ok ∧ wx.ownsRow w1.heap.size 5 1 s7 R.length (Lib.byteCells R) ∧ Below w1.heap.size w1 wx ∧ R.length ≤ 200 ∧ (ok = true → (∀ j, j < l.length → (l.getD j ⟨0, 0#64, 0#64⟩).okB = true) → Bl R = catV l) ∧ (ok = false → ∃ j, j < l.length ∧ (l.getD j ⟨0, 0#64, 0#64⟩).okB = false))
  case first =>
    go_wp2_with fail
    go_loopw [7, 8, 9] (fun s7 s8 s9 wr => ∃ (k : Nat) (i : Int), i + 1 + k = l.length ∧ -1 ≤ i ∧ s9 = .int .i64 i ∧ s8 = .bool true ∧ wr.ownsRow w1.heap.size 5 1 s7 (sufV l k).length (Lib.byteCells (sufV l k)) ∧ Below w1.heap.size w1 wr ∧ (sufV l k).length ≤ 200) (fun _ _ s9 _ => (intOf s9 + 1).toNat)
    case atStart => exact ⟨0, (l.length : Int) - 1, by omega, by omega, by first | rfl | go_num, rfl, ⟨rfl, .inl ⟨rfl, rfl⟩⟩, HB0.out, Nat.zero_le _⟩
    case round =>
      obtain ⟨k, i, hk, hi, rfl, rfl, ho, hlo, hlen⟩ := hrel
      have HO := Lib.hid ho
      obtain ⟨ad, cap, rfl⟩ := own_slice ho
      clear ho
      by_cases i0 : i < 0
      · go_wp2_with fail
        go_meet
        exact ⟨sufV l k, true, rfl, HO.out, hlo, hlen, fun _ h => by rw [show k = l.length from by omega, suf_full]; exact catV_ok h, (fun h => by cases h)⟩
      have i0' : 0 ≤ i := by omega
      clear i0
      by_cases c64 : 64 < (sufV l k).length
      · go_wp2_with fail
        go_meet
        exact ⟨sufV l k, true, rfl, HO.out, hlo, hlen, fun _ h => by rw [suf_long (by omega) c64]; exact catV_ok h, (fun h => by cases h)⟩
      obtain ⟨j, rfl⟩ : ∃ j : Nat, i = j := ⟨i.toNat, by omega⟩
      obtain ⟨bl, off, rfl, q0, q1, q2⟩ := (HL.out.below hlo).el j (by omega)
      obtain ⟨q, hq⟩ : ∃ q, l.getD j ⟨0, 0#64, 0#64⟩ = q := ⟨_, rfl⟩
      rw [hq] at q0 q1 q2
      have HQ := Lib.hid hq
      have hj : j < l.length := by omega
      have hk2 := Lib.hid hk
      clear hq
      cases hv : q.okB
      · have vb := Lib.hid fun w => valid_c q false hv w
        have HV := Lib.hid hv
        clear hv
        go_wp2_with fail
        refine (vb.out _).mono ?_
        rintro e w2 ⟨rfl, hb⟩
        go_wp2_with fail
        go_meet
        exact ⟨sufV l k, false, rfl, own_below HO.out hb, hlo.trans (hb.mono hlo.size), hlen, (fun h => by cases h), fun _ => ⟨j, hj, by rw [HQ.out, HV.out]⟩⟩
      · have vb := Lib.hid fun w => valid_c q true hv w
        obtain ⟨m, e, o⟩ := Rb.ok_of hv
        have m2 := o.hi
        have o1 := o.lo
        have V := Lib.hid fun w => refV_ok m ⟨q.v, q.x⟩ w o
        have HE := Lib.hid e
        have HS := Lib.hid (show sufV l (k + 1) = sufV l k ++ vl ⟨q.v, q.x⟩ m from by
          show sufV l k ++ vlR (l.getD (l.length - 1 - k) ⟨0, 0#64, 0#64⟩) = _
          rw [show l.length - 1 - k = j from by omega, HQ.out]; unfold vlR; rw [e, Int.toNat_natCast])
        rw [e] at q0 vb
        clear hv o e
        go_wp2_with fail
        refine (vb.out _).mono ?_
        rintro e w2 ⟨rfl, hb⟩
        have hlo2 := hlo.trans (hb.mono hlo.size)
        have HO2 := Lib.hid (own_below HO.out hb)
        obtain ⟨bl', off', e', p0, p1, p2⟩ := (HL.out.below hlo2).el j (by omega)
        injection e' with e'
        injection e' with e1' e2'
        subst e1' e2'
        rw [HQ.out] at p0 p1 p2
        rw [HE.out] at p0
        clear q0 q1 q2 hb hlo
        go_wp2_with fail
        refine (V.out _).mono ?_
        rintro e w3 ⟨vv, rfl, ho, hb⟩
        have hlo3 := hlo2.trans (hb.mono hlo2.size)
        have HO3 := Lib.hid (own_below HO2.out hb)
        rcases ho.2 with ⟨_, hz⟩ | ⟨gg, cap', cur, rfl, hgg, hcu, hcap, hcm, hcs, htk⟩
        · have := o1; omega
        have hsrc := Lib.hid (rw_src (g := gg) (k := m * 1) (cur := cur.toList) (w := w3) (by rw [Array.toArray_toList]; exact hcu))
        rw [htk] at hsrc
        clear hlo2 hb ho hgg hcu hcs htk p0 p1 p2
        go_wp2_with (at_builtin; refine wpList_append_own _ rfl _ _ 39 rfl w1.heap.size 5 t0 (.int .u8 0) 1 1 Tryd.underlying39 hti hz0 hz1 hz2 rfl (by decide) _ _ _ rfl HO3.out ⟨gg, 0, none⟩ m cap' (Lib.byteCells (vl ⟨q.v, q.x⟩ m)) rfl (by unfold Lib.byteCells; rw [List.length_map, vl_len, Nat.mul_one]) hsrc.out ?d2 ?d3 ?d4 ?d5 ?_)
        case d2 =>
          intro u hu
          unfold Lib.byteCells at hu
          obtain ⟨x, _, rfl⟩ := List.mem_map.1 hu
          rfl
        case d3 => unfold maxLen; omega
        case d4 => omega
        case d5 => exact hlo3.size
        intro v5 w5 hown5 hgr5 _
        have T : w5.ownsRow w1.heap.size 5 1 v5 (sufV l (k + 1)).length (Lib.byteCells (sufV l (k + 1))) ∧ Below w1.heap.size w1 w5 ∧ (sufV l (k + 1)).length ≤ 200 := by
          rw [HS.out, List.length_append, vl_len]
          refine ⟨?_, hlo3.grown hgr5 hlo3.size (fun k hk => (HO3.out.lt k hk).1), by omega⟩
          have e : Lib.byteCells (sufV l k ++ vl ⟨q.v, q.x⟩ m) = Lib.byteCells (sufV l k) ++ Lib.byteCells (vl ⟨q.v, q.x⟩ m) := by unfold Lib.byteCells; rw [List.map_append]
          rw [e]; exact hown5
        clear hown5 hgr5
        go_wp2_with fail
        go_roundw
        case rel => exact ⟨k + 1, (j : Int) - 1, by omega, by omega, by go_num, rfl, T.1, T.2.1, T.2.2⟩
        case measure => simp [intOf]
  case rest =>
  obtain ⟨R, ok, rfl, ho, hlo, hR, htr, hfa⟩ := hcut
  have HO := Lib.hid ho
  obtain ⟨ad7, cap7, rfl⟩ := own_slice ho
  have HT := Lib.hid htr
  have HF := Lib.hid hfa
  clear ho htr hfa HB0
  go_upto_block 2 with fail
  go_cut [8] (fun s8 wx => ∃ wy : World, wy = wx ∧ s8 = .bool (l.all fun q => q.okB) ∧ wx.ownsRow w1.heap.size 5 1 (.slice ad7 R.length cap7) R.length (Lib.byteCells R) ∧ Below w1.heap.size w1 wx)
  case first =>
    go_wp2_with fail
    go_loopw [8, 44] (fun s8 s44 wr => ∃ i : Nat, i ≤ l.length ∧ s44 = .int .i64 i ∧ s8 = .bool (ok && (l.take i).all fun q => q.okB) ∧ wr.ownsRow w1.heap.size 5 1 (.slice ad7 R.length cap7) R.length (Lib.byteCells R) ∧ Below w1.heap.size w1 wr) (fun _ s44 _ => l.length - (intOf s44).toNat)
    case atStart => exact ⟨0, Nat.zero_le _, rfl, by simp, HO.out, hlo⟩
    case round =>
      clear hlo HO
      obtain ⟨i, hi, rfl, rfl, ho, hlo⟩ := hrel
      have HO := Lib.hid ho
      clear ho
      by_cases hlt : i < l.length
      · obtain ⟨bl, off, rfl, q0, q1, q2⟩ := (HL.out.below hlo).el i hlt
        obtain ⟨q, hq⟩ : ∃ q, l.getD i ⟨0, 0#64, 0#64⟩ = q := ⟨_, rfl⟩
        rw [hq] at q0 q1 q2
        have HA := Lib.hid (all_take l i hlt)
        rw [hq] at HA
        clear hq
        obtain ⟨b8, hb8⟩ : ∃ b8, (ok && (l.take i).all fun q => q.okB) = b8 := ⟨_, rfl⟩
        have HB8 := Lib.hid hb8
        rw [hb8]
        clear hb8
        cases b8
        · go_wp2_with fail
          go_roundw
          case rel => exact ⟨i + 1, by omega, by go_num, by rw [HA.out, ← Bool.and_assoc, HB8.out]; rfl, HO.out.alloc _, hlo.alloc hlo.size _⟩
          case measure => simp [intOf]; omega
        · go_wp2_with fail
          refine (refValid_any q _).mono ?_
          rintro e w2 ⟨rfl, hb⟩
          go_wp2_with fail
          go_roundw
          case rel => exact ⟨i + 1, by omega, by go_num, by rw [HA.out, ← Bool.and_assoc, HB8.out]; rfl, own_below (HO.out.alloc _) hb, (hlo.alloc hlo.size _).trans (hb.mono (hlo.alloc hlo.size _).size)⟩
          case measure => simp [intOf]; omega
      · go_wp2_with fail
        go_meet
        refine ⟨_, rfl, ?_, HO.out, hlo⟩
        rw [show i = l.length from by omega, List.take_of_length_le (Nat.le_refl _)]
        cases ok
        · obtain ⟨j, hj, hjb⟩ := HF.out rfl
          rw [all_no hj hjb]; rfl
        · rfl
  case rest =>
  clear hlo HO
  obtain ⟨wy, hwy, rfl, ho, hlo⟩ := hcut
  subst hwy
  obtain ⟨A, hA⟩ : ∃ A, (l.all fun q => q.okB) = A := ⟨_, rfl⟩
  rw [hA]
  have HA := Lib.hid hA
  clear hA
  have HR : Hid ((∀ j, j < l.length → (l.getD j ⟨0, 0#64, 0#64⟩).okB = true) → Bl R = catV l) := by
    refine Lib.hid fun h => ?_
    cases ok
    · obtain ⟨j, hj, hjb⟩ := HF.out rfl
      rw [h j hj] at hjb; cases hjb
    · exact HT.out rfl h
  have C := qb_new (t1.below hlo) (t4.trans (hlo.mono t4.size))
  have HO := Lib.hid (row8_own ((ho.alloc zObj1).alloc zObj1))
  clear ho hlo t1 t4 HL HT HF
  go_upto_if 54 with fail
  generalize wy.heap.size = g at C ⊢
  generalize ((wy.alloc zObj1).alloc zObj1) = W at C HO ⊢
  obtain ⟨CV, hCV⟩ : ∃ c, catV l = c := ⟨_, rfl⟩
  rw [hCV] at HR
  have HCV := Lib.hid hCV
  clear hCV
  obtain ⟨⟨r0, r1, r2, rf⟩, ⟨c0, c1, c2, cf⟩, ⟨p0, p1, p2, pf⟩, hlt, hlo⟩ := id C
  go_cut [] (fun wx => QB w g r CV ZC wx)
  case first =>
    cases A
    · have e := catV_bad' HA.out
      rw [HCV.out] at e
      subst e
      go_wp2_with fail
      go_meet
      exact C
    · have hB := Lib.hid (HR.out (all_yes HA.out))
      go_wp2_with fail
      refine (refB_is _ R _ hB.out (by omega) _ HO.out).mono ?_
      rintro e W2 ⟨rfl, hb⟩
      clear r0 r1 r2 rf c0 c1 c2 cf p0 p1 p2 pf hlt hlo
      replace C := C.below hb
      clear hb
      obtain ⟨⟨r0, r1, r2, rf⟩, ⟨c0, c1, c2, cf⟩, ⟨p0, p1, p2, pf⟩, hlt, hlo⟩ := id C
      go_wp2_with fail
      replace C := C.putc CV
      go_meet
      exact C
  case rest =>
  clear r0 r1 r2 rf c0 c1 c2 cf p0 p1 p2 pf hlt hlo
  clear C HO HR
  have C := hcut
  clear hcut
  obtain ⟨⟨r0, r1, r2, rf⟩, ⟨c0, c1, c2, cf⟩, ⟨p0, p1, p2, pf⟩, hlt, hlo⟩ := id C
  go_upto_region 19 with fail
  go_cut [66] (fun s66 wx => ∃ wq : World, wq = wx ∧ s66 = .bool (repB r n) ∧ QB w g r CV ZC wx)
  case first =>
    cases ho : r.okB
    · have hq := Lib.hid (show repB r n = false from by unfold repB; rw [ho]; rfl)
      have vb := Lib.hid fun w => valid_c r false ho w
      clear ho
      go_wp2_with fail
      refine (vb.out _).mono ?_
      rintro e w2 ⟨rfl, hb⟩
      go_wp2_with fail
      go_meet
      exact ⟨_, rfl, by rw [hq.out], C.below hb⟩
    · have hq : repB r n = decide (1 ≤ n ∧ n ≤ 64) := by unfold repB; rw [ho]; rfl
      have vb := Lib.hid fun w => valid_c r true ho w
      clear ho
      by_cases k1 : n < 1
      · have hq' := Lib.hid (hq.trans (decide_eq_false (by omega)))
        clear hq
        go_wp2_with fail
        refine (vb.out _).mono ?_
        rintro e w2 ⟨rfl, hb⟩
        go_wp2_with fail
        go_meet
        exact ⟨_, rfl, by rw [hq'.out], C.below hb⟩
      have k1' : 1 ≤ n := by omega
      clear k1
      by_cases k2 : n ≤ 64
      · have hq' := Lib.hid (hq.trans (decide_eq_true ⟨k1', k2⟩))
        clear hq
        go_wp2_with fail
        refine (vb.out _).mono ?_
        rintro e w2 ⟨rfl, hb⟩
        go_wp2_with fail
        go_meet
        exact ⟨_, rfl, by rw [hq'.out], C.below hb⟩
      · have hq' := Lib.hid (hq.trans (decide_eq_false (by omega)))
        have k2' : 64 < n := by omega
        clear hq k2
        go_wp2_with fail
        refine (vb.out _).mono ?_
        rintro e w2 ⟨rfl, hb⟩
        go_wp2_with fail
        go_meet
        exact ⟨_, rfl, by first | (rw [hq'.out]; done) | rw [hq'.out, decide_eq_false (by omega)], C.below hb⟩
  case rest =>
  clear r0 r1 r2 rf c0 c1 c2 cf p0 p1 p2 pf hlt hlo
  clear C
  obtain ⟨wq, hwq, rfl, C⟩ := hcut
  subst hwq
  obtain ⟨RV, hRV⟩ : ∃ c, repV r n = c := ⟨_, rfl⟩
  have HRV := Lib.hid hRV
  clear hRV
  obtain ⟨⟨r0, r1, r2, rf⟩, ⟨c0, c1, c2, cf⟩, ⟨p0, p1, p2, pf⟩, hlt, hlo⟩ := id C
  go_upto_if 66 with fail
  go_cut [] (fun wx => QB w g r CV RV wx)
  case first =>
    cases hq : repB r n
    · have e := repV_bad hq
      rw [HRV.out] at e
      subst e
      go_wp2_with fail
      go_meet
      exact C
    · obtain ⟨m, rfl, m1, m2, hro⟩ : ∃ m : Nat, n = m ∧ 1 ≤ m ∧ m ≤ 64 ∧ r.okB = true := by
        unfold repB at hq
        rw [Bool.and_eq_true, decide_eq_true_eq] at hq
        exact ⟨n.toNat, by omega, by omega, by omega, hq.1⟩
      obtain ⟨qn, e, o⟩ := Rb.ok_of hro
      have HB := Lib.hid ((repL_ok hro m1 m2).trans HRV.out)
      have o1 := o.lo
      have o2 := o.hi
      have V := Lib.hid fun w => refV_ok qn ⟨r.v, r.x⟩ w o
      have HE := Lib.hid e
      have HVL := Lib.hid (show vlR r = vl ⟨r.v, r.x⟩ qn from by unfold vlR; rw [e, Int.toNat_natCast])
      have HLN := Lib.hid (vlR_len e)
      clear hq hro e o
      go_wp2_with fail
      go_loopw [14, 68] (fun s14 s68 wr => ∃ k : Nat, k ≤ m ∧ s68 = .int .i64 k ∧ wr.ownsRow wq.heap.size 5 1 s14 (repL r k).length (Lib.byteCells (repL r k)) ∧ Below wq.heap.size wq wr) (fun _ s68 _ => m - (intOf s68).toNat)
      case atStart => exact ⟨0, Nat.zero_le _, rfl, ⟨rfl, .inl ⟨rfl, rfl⟩⟩, Below.refl _ _⟩
      case round =>
        clear r0 r1 r2 rf c0 c1 c2 cf p0 p1 p2 pf hlt hlo
        obtain ⟨k, hk, rfl, ho, hl9⟩ := hrel
        have D := C.below hl9
        have HO := Lib.hid ho
        obtain ⟨ad, cap, rfl⟩ := own_slice ho
        have hfl := repL_len r k
        rw [HLN.out] at hfl
        have hfl2 : (repL r k).length ≤ 4096 := by rw [hfl]; exact Nat.le_trans (Nat.mul_le_mul (Nat.le_trans hk m2) o2) (by decide)
        clear ho hfl
        obtain ⟨⟨r0, r1, r2, rf⟩, ⟨c0, c1, c2, cf⟩, ⟨p0, p1, p2, pf⟩, hlt, hlo⟩ := id D
        rw [HE.out] at r0
        by_cases hkm : k < m
        · go_wp2_with fail
          refine (V.out _).mono ?_
          rintro e w3 ⟨vv, rfl, ho, hb⟩
          have hlo3 := hl9.trans (hb.mono hl9.size)
          have HO3 := Lib.hid (own_below HO.out hb)
          rcases ho.2 with ⟨_, hz⟩ | ⟨gg, cap', cur, rfl, hgg, hcu, hcap, hcm, hcs, htk⟩
          · omega
          have hsrc := Lib.hid (rw_src (g := gg) (k := qn * 1) (cur := cur.toList) (w := w3) (by rw [Array.toArray_toList]; exact hcu))
          rw [htk] at hsrc
          clear hb ho hgg hcu hcs htk r0 r1 r2 rf c0 c1 c2 cf p0 p1 p2 pf hlt hlo hl9 D
          go_wp2_with (at_builtin; refine wpList_append_own _ rfl _ _ 39 rfl wq.heap.size 5 t0 (.int .u8 0) 1 1 Tryd.underlying39 hti hz0 hz1 hz2 rfl (by decide) _ _ _ rfl HO3.out ⟨gg, 0, none⟩ qn cap' (Lib.byteCells (vl ⟨r.v, r.x⟩ qn)) rfl (by unfold Lib.byteCells; rw [List.length_map, vl_len, Nat.mul_one]) hsrc.out ?e2 ?e3 ?e4 ?e5 ?_)
          case e2 =>
            intro u hu
            unfold Lib.byteCells at hu
            obtain ⟨x, _, rfl⟩ := List.mem_map.1 hu
            rfl
          case e3 => unfold maxLen; omega
          case e4 => omega
          case e5 => exact hlo3.size
          intro v5 w5 hown5 hgr5 _
          have T : w5.ownsRow wq.heap.size 5 1 v5 (repL r (k + 1)).length (Lib.byteCells (repL r (k + 1))) ∧ Below wq.heap.size wq w5 := by
            rw [repL_snoc, List.length_append, HLN.out]
            refine ⟨?_, hlo3.grown hgr5 hlo3.size (fun k hk => (HO3.out.lt k hk).1)⟩
            have e : Lib.byteCells ((repL r k) ++ vlR r) = Lib.byteCells (repL r k) ++ Lib.byteCells (vl ⟨r.v, r.x⟩ qn) := by rw [HVL.out]; unfold Lib.byteCells; rw [List.map_append]
            rw [e]; exact hown5
          clear hown5 hgr5
          go_wp2_with fail
          go_roundw
          case rel => exact ⟨k + 1, by omega, by go_num, T.1, T.2⟩
          case measure => simp [intOf]; omega
        · go_wp2_with fail
          obtain rfl : k = m := by omega
          refine (refB_is _ _ RV HB.out (by omega) _ (row8_own HO.out)).mono ?_
          rintro e w3 ⟨rfl, hb⟩
          clear r0 r1 r2 rf c0 c1 c2 cf p0 p1 p2 pf hlt hlo
          replace D := D.below hb
          obtain ⟨⟨r0, r1, r2, rf⟩, ⟨c0, c1, c2, cf⟩, ⟨p0, p1, p2, pf⟩, hlt, hlo⟩ := id D
          go_wp2_with fail
          replace D := D.putp RV
          go_meet
          exact D
  case rest =>
  clear r0 r1 r2 rf c0 c1 c2 cf p0 p1 p2 pf hlt hlo
  clear C
  have C := hcut
  clear hcut
  obtain ⟨⟨r0, r1, r2, rf⟩, ⟨c0, c1, c2, cf⟩, ⟨p0, p1, p2, pf⟩, hlt, hlo⟩ := id C
  have gcat := Lib.hid fun w hl => cat_is a0 cap0 l CV w HCV.out hl
  have grep := Lib.hid fun w => rep_is n r RV w HRV.out
  have HLV := Lib.hid (HLW.out.below hlo)
  go_upto_region 26 with fail
  have gr0 := cell_regrown r0
  have gr1 := cell_regrown r1
  have gr2 := cell_regrown r2
  have gc0 := cell_regrown c0
  have gc1 := cell_regrown c1
  have gc2 := cell_regrown c2
  have gp0 := cell_regrown p0
  have gp1 := cell_regrown p1
  have gp2 := cell_regrown p2
  refine wp_region_rel 12 (by kernel_rfl) (by kernel_rfl) ?_
  simp only [List.take_succ_cons, List.take_zero, List.drop_succ_cons, List.drop_zero]
  (refine rel_fix0 (fun K hK => ?_); go_simp; refine hK _ ?_; clear hK K)
  (refine rel_fix0 (fun K hK => ?_); go_simp; apply Exists.intro; refine ⟨fun _ _ => ?_, hK _ ?_⟩; (with_reducible exact ret_fix (gcat.out _ (HLV.out.below (below_regrown _ _ _)))); clear hK K)
  (refine rel_fix0 (fun K hK => ?_); go_simp; refine hK _ ?_; clear hK K)
  (refine rel_fix0 (fun K hK => ?_); go_simp; refine hK _ ?_; clear hK K)
  (refine rel_fix0 (fun K hK => ?_); go_simp; refine hK _ ?_; clear hK K)
  (refine rel_fix0 (fun K hK => ?_); go_simp; refine hK _ ?_; clear hK K)
  (refine rel_fix0 (fun K hK => ?_); go_simp; refine hK _ ?_; clear hK K)
  (refine rel_fix0 (fun K hK => ?_); go_simp; apply Exists.intro; refine ⟨fun _ _ => ?_, hK _ ?_⟩; (with_reducible exact ret_fix (grep.out _)); clear hK K)
  (refine rel_fix0 (fun K hK => ?_); go_simp; refine hK _ ?_; clear hK K)
  (refine rel_fix0 (fun K hK => ?_); go_simp; refine hK _ ?_; clear hK K)
  (refine rel_fix0 (fun K hK => ?_); go_simp; refine hK _ ?_; clear hK K)
  (refine rel_fix0 (fun K hK => ?_); go_simp; refine hK _ ?_; clear hK K)
  refine rel_nil ?_
  intro d os
  simp only [relAll]
  clear gr0 gr1 gr2 gc0 gc1 gc2 gp0 gp1 gp2
  clear r0 r1 r2 rf c0 c1 c2 cf p0 p1 p2 pf hlt
  have hb9 := hlo.trans ((below_regrown _ d os).mono hlo.size)
  generalize grow (redrawn _ d) os = W9 at hb9 ⊢
  go_wp2_with fail
  go_ret
  exact ⟨rfl, hb9⟩
end Go.Proofs.YtdpmojkpfnkcdaaDoor
