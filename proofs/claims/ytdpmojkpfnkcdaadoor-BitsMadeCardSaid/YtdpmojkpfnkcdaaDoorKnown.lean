/- The law BitsMade: what valid vectors tell. -/
import Derived.Test.YtdpmojkpfnkcdaaDoorMadeP
import Derived.Test.YtdpmojkpfnkcdaaDoorResMath
import Derived.Maps.OwnOps
import Derived.Deep.DeepCutAuto
namespace Go.Proofs.YtdpmojkpfnkcdaaDoor
open Go Go.RowKit Go.Sort Go.Maps
set_option linter.unusedVariables false
/-- an entry of a map literal -/
theorem wpList_insert_own {H : Type} {P : Program} (w : World) {ops : Array Oper} {rest : List Oper} {o : Oper} {a : Act} {Q : Exit → Act → World → Prop}
    (hg : o.guard = none) (m x v : Operand) (t : TypeId) (hop : o.op = Op.insert t m x v)
    (k e : TypeId) (K : Keyed P k) (ht : P.underlying t = some (.map k e)) (R : Value → Option (DataW H × List MemPlace)) (b n : Nat) (D : DataW H)
    (hm : a.eval m = .map (some b)) (hown : w.ownsMap P k R b n D) (hn : n < maxLen) (key val : Value) (kl : Lit) (hx : a.eval x = key) (hv : a.eval v = val) (hkey : keyOf P k key = some kl)
    (d : DataW H) (ps : List MemPlace) (hval : R val = some (d, ps))
    (hK : ∀ w', w'.ownsMap P k R b (n + 1) (D.put kl d) → w.grownBy w' (some b) → wpList P ops Q rest (a.put o.dst undef) w') :
    wpList P ops Q (o :: rest) a w := by
  refine wpList_plain hg fun K' hK' => ?_
  obtain ⟨w', hrun, r1, r2⟩ := hown.update K ht hn hkey hval
  unfold Oper.wp
  simp [execOp, hop, hm, hx, hv, hrun, Result.andThen]
  exact hK' _ _ (hK w' r1 r2)
theorem law8 : Keyed Tryd.prog 5 := int_keyed Tryd.underlying5
theorem zero8 (w : World) : (zeroValue 3).run Tryd.prog w = .ok (.int .i64 0) w := by kernel_rfl
/-- the law's table of truth values -/
def tabT : DataW Unit := (((DataW.map []).put (.int .u8 116) (.lit (.int .i64 1))).put (.int .u8 102) (.lit (.int .i64 0))).put (.int .u8 117) (.lit (.int .i64 (-1)))
theorem tab_t : tabT.atKey (.int .u8 116) (.lit (.int .i64 0)) = .lit (.int .i64 1) := by kernel_rfl
theorem tab_f : tabT.atKey (.int .u8 102) (.lit (.int .i64 0)) = .lit (.int .i64 0) := by kernel_rfl
theorem tab_u : tabT.atKey (.int .u8 117) (.lit (.int .i64 0)) = .lit (.int .i64 (-1)) := by kernel_rfl
theorem known_vl {n : Nat} {a : Vx} (ha : a.ok n) : knownL (vl a n) = (a.x == 0#64) := by
  rw [zero_all _ n ha.hi (fun i hi => ha.subx i hi)]
  unfold knownL vl
  rw [List.all_map]
  apply all_same
  intro i hi
  show (st a i == 48 || st a i == 49) = _
  unfold st
  cases a.v.getLsbD i <;> cases a.x.getLsbD i <;> decide
theorem S_and_one (a : BitVec 64) : bits .and .i64 (S a) 1 = S (a &&& 1#64) := by
  show IntKind.i64.wrap (((BitVec.ofInt 64 (S a) &&& BitVec.ofInt 64 1).toNat : Nat) : Int) = _
  have e : BitVec.ofInt 64 (S a) = a := by unfold S; exact BitVec.ofInt_toInt
  rw [e]
  exact S_of_U (a &&& 1#64)
theorem S_beq_one (a : BitVec 64) : (S a == 1) = (a == 1#64) := by
  rw [Bool.eq_iff_iff]
  have h1 : S 1#64 = 1 := by decide
  rw [beq_iff_eq, beq_iff_eq, ← h1, S_inj]
theorem S_beq_zero (a : BitVec 64) : (S a == 0) = (a == 0#64) := by
  rw [Bool.eq_iff_iff]
  have h1 : S 0#64 = 0 := by decide
  rw [beq_iff_eq, beq_iff_eq, ← h1, S_inj]
theorem sshr_nat (a : BitVec 64) (yk : IntKind) (n : Nat) (h : n ≤ 64) : Op.shift .shr .i64 (S a) yk (n : Int) = pure (.int .i64 (S (a.sshiftRight n))) := by
  have h0 : ¬ (n : Int) < 0 := by omega
  have hp : ∀ k : Nat, (0 : Int) ≤ 2 ^ k := fun k => Int.pow_nonneg (by decide)
  simp only [Op.shift, h0, ↓reduceIte, Int.toNat_natCast]
  rw [Int.fdiv_eq_ediv_of_nonneg _ (hp _), S_shr, show min n IntKind.i64.bits = n from Nat.min_eq_left h]
attribute [go_sem] S_and_one S_beq_one S_beq_zero sshr_nat
theorem and_one (x : BitVec 64) : x &&& 1#64 = if x.getLsbD 0 then 1#64 else 0#64 := by
  apply BitVec.eq_of_getLsbD_eq
  intro j hj
  rw [BitVec.getLsbD_and, BitVec.getLsbD_one]
  by_cases h0 : j = 0
  · subst h0; cases h : x.getLsbD 0 <;> simp
  · cases h : x.getLsbD 0 <;> simp [h0]
theorem ext_bit {n : Nat} (h1 : 1 ≤ n) (h2 : n ≤ 64) (v : BitVec 64) {i : Nat} (hi : i < 64) : (ext n v).getLsbD i = v.getLsbD (min i (n - 1)) := by
  unfold ext
  rw [BitVec.getLsbD_sshiftRight]
  have e1 : decide (64 ≤ i) = false := by simp; omega
  rw [e1]
  by_cases h : i < n
  · rw [if_pos (by omega), BitVec.getLsbD_shiftLeft, Nat.min_eq_left (by omega)]
    have e2 : decide (64 - n + i < 64) = true := by simp; omega
    have e3 : decide (64 - n + i < 64 - n) = false := by simp
    rw [e2, e3, show 64 - n + i - (64 - n) = i by omega]; simp
  · rw [if_neg (by omega), BitVec.msb_eq_getLsbD_last, BitVec.getLsbD_shiftLeft, Nat.min_eq_right (by omega)]
    have e2 : decide (64 - 1 < 64) = true := by decide
    have e3 : decide (64 - 1 < 64 - n) = false := by simp; omega
    rw [e2, e3, show 64 - 1 - (64 - n) = n - 1 by omega]; simp
theorem ext_one {n : Nat} (h1 : 1 ≤ n) (h2 : n ≤ 64) (v : BitVec 64) {j : Nat} (hj : j < 64) : (ext n v).sshiftRight j &&& 1#64 = if v.getLsbD (min j (n - 1)) then 1#64 else 0#64 := by
  have e1 : decide (64 ≤ 0) = false := by decide
  have e2 : ((ext n v).sshiftRight j).getLsbD 0 = (ext n v).getLsbD j := by
    rw [BitVec.getLsbD_sshiftRight, e1, if_pos (by omega), Nat.add_zero]; simp
  rw [and_one, e2, ext_bit h1 h2 v hj]
theorem shr_one (v : BitVec 64) (j : Nat) : v >>> j &&& 1#64 = if v.getLsbD j then 1#64 else 0#64 := by
  rw [and_one, BitVec.getLsbD_ushiftRight, Nat.add_zero]
theorem row_at {w : World} {bl off m cap : Nat} {l : List UInt8} (h : Row8 w (.slice (some ⟨bl, off, none⟩) m cap) l) {k : Nat} (hk : k < l.length) : w.cell? ⟨bl, off + k, none⟩ = some (.int .u8 (l[k].toNat : Int)) := by
  obtain ⟨a, c, he, h0 | ⟨b, o, ha, hc⟩⟩ := h.sh
  · omega
  · injection he with e1 e2 e3
    rw [ha] at e1
    injection e1 with e1
    injection e1 with e4 e5
    subst e4 e5
    exact hc k hk
theorem trutT (n : Nat) (a : Vx) (t : Int) (w : World) (ha : a.ok n) (h : tru a = t) : Calls Tryd.prog 15 #[.agg #[.int .i64 n, .int .u64 (U a.v), .int .u64 (U a.x)]] w fun e w' => e = .returned (.int .i64 t) ∧ Below w.heap.size w w' := by
  rw [← h]; exact true_ok n a w ha
theorem known_is (n : Nat) (a : Vx) (t : Bool) (w : World) (ha : a.ok n) (h : (a.x == 0#64) = t) : Calls Tryd.prog 14 #[.agg #[.int .i64 n, .int .u64 (U a.v), .int .u64 (U a.x)]] w fun e w' => e = .returned (.bool t) ∧ Below w.heap.size w w' := by
  cases t
  · exact known_no n a w ha h
  · exact known_yes n a w ha h
theorem uint_is (n : Nat) (a : Vx) (t : Bool) (w : World) (ha : a.ok n) (h : (a.x == 0#64) = t) : Calls Tryd.prog 11 #[.agg #[.int .i64 n, .int .u64 (U a.v), .int .u64 (U a.x)]] w fun e w' => e = .returned (.tuple #[.int .u64 (U (if t then a.v else 0#64)), .bool t]) ∧ Below w.heap.size w w' := by
  cases t
  · exact uint_no n a w ha h
  · exact uint_yes n a w ha h
theorem int_is (n : Nat) (a : Vx) (t : Bool) (w : World) (ha : a.ok n) (h : (a.x == 0#64) = t) : Calls Tryd.prog 12 #[.agg #[.int .i64 n, .int .u64 (U a.v), .int .u64 (U a.x)]] w fun e w' => e = .returned (.tuple #[.int .i64 (S (if t then ext n a.v else 0#64)), .bool t]) ∧ Below w.heap.size w w' := by
  cases t
  · exact int_no n a w ha h
  · exact int_yes n a w ha h
/-- the state of bit i, 0 if there is none -/
def stI (n : Nat) (a : Vx) (i : Int) : UInt8 := if 0 ≤ i ∧ i < n then st a i.toNat else 0
theorem bit_is (n : Nat) (a : Vx) (i : Int) (w : World) (ha : a.ok n) : Calls Tryd.prog 13 #[.agg #[.int .i64 n, .int .u64 (U a.v), .int .u64 (U a.x)], .int .i64 i] w fun e w' => e = .returned (.int .u8 ((stI n a i).toNat : Int)) ∧ Below w.heap.size w w' := by
  unfold stI
  by_cases h : 0 ≤ i ∧ i < n
  · rw [if_pos h]
    obtain ⟨k, rfl⟩ : ∃ k : Nat, i = k := ⟨i.toNat, by omega⟩
    rw [Int.toNat_natCast]
    exact bit_ok n a k w ha (by omega)
  · rw [if_neg h]
    by_cases h1 : i < 0
    · exact bit_lo n a i w ha h1
    · exact bit_hi n a i w ha (by omega)
set_option maxRecDepth 100000 in
set_option maxHeartbeats 4000000 in
theorem law_known (n : Nat) (a : Vx) (i : Int) (w : World) (ha : a.ok n) : Calls Tryd.prog 16 #[.agg #[.int .i64 n, .int .u64 (U a.v), .int .u64 (U a.x)], .int .i64 i] w fun e w' => e = .returned (.bool true) ∧ Below w.heap.size w w' := by
  have h1 := ha.lo
  have h2 := ha.hi
  obtain ⟨K, hK⟩ : ∃ K, (a.x == 0#64) = K := ⟨_, rfl⟩
  have cU := Lib.hid fun w => uint_is n a K w ha hK
  have cI := Lib.hid fun w => int_is n a K w ha hK
  have cK := Lib.hid fun w => known_is n a K w ha hK
  have cB := Lib.hid fun w => bit_is n a i w ha
  have cT := Lib.hid fun w => true_ok n a w ha
  have ht : tru a = 1 ∨ tru a = 0 ∨ tru a = -1 := by
    unfold tru
    split
    · exact .inr (.inl rfl)
    · split
      · exact .inr (.inr rfl)
      · exact .inl rfl
  have HT := Lib.hid ht
  clear ht
  have cTr := Lib.hid fun (t : Nat) (hq : truthL (vl a n) = t) (v : Value) (w : World) (hv : Row8 w v (vl a n)) => show Calls Tryd.prog 47 #[v] w (fun e w' => e = .returned (.int .u8 (t : Nat)) ∧ w = w') from by have := refTruth_any v (vl a n) (by rw [vl_len]; omega) w hv; rw [hq] at this; exact this
  have HTV := Lib.hid (truth_vl ha)
  have HK := Lib.hid hK
  have HA := Lib.hid ha
  have cR := Lib.hid fun (v : Value) (w : World) (hv : Row8 w v (vl a n)) => show Calls Tryd.prog 32 #[v] w (fun e w' => e = .returned (.bool K) ∧ w = w') from by have := refKnown_any v (vl a n) (by rw [vl_len]; omega) w hv; rw [known_vl ha, hK] at this; exact this
  clear hK ha
  obtain ⟨uu, huu⟩ : ∃ uu, (if K then a.v else 0#64) = uu := ⟨_, rfl⟩
  obtain ⟨mm, hmm⟩ : ∃ mm, (if K then ext n a.v else 0#64) = mm := ⟨_, rfl⟩
  rw [huu] at cU
  rw [hmm] at cI
  have HU := Lib.hid huu
  have HM := Lib.hid hmm
  clear huu hmm
  have hmk := @run_makeMap Tryd.prog
  go_enter Tryd.func16, Tryd.ntmps16
  go_wp2_with fail
  refine (refV_row n a _ HA.out).mono ?_
  rintro e w1 ⟨v, rfl, hv, hb⟩
  obtain ⟨ad, cap, rfl, h0⟩ := id hv.sh
  rw [vl_len] at hv ⊢
  have bx : Box w1 w.heap.size n (U a.v) (U a.x) := Box.below (w := w.alloc (Obj.cells #[Value.int IntKind.i64 n, Value.int IntKind.u64 (U a.v), Value.int IntKind.u64 (U a.x)] 24)) ⟨by go_simp, by go_simp, by go_simp, fun o => by go_simp⟩ hb
  have lo : Below w.heap.size w w1 := ((Below.refl _ _).alloc (Nat.le_refl _) _).trans (hb.mono (by simp))
  clear hb
  have HV := Lib.hid hv
  clear hv
  obtain ⟨x0, x1, x2, xf⟩ := id bx
  go_upto_region 3 with fail
  go_cut [23] (fun s23 wx => s23 = .bool (decide (0 ≤ i ∧ i < n)) ∧ w1 = wx)
  case first =>
    by_cases hi : 0 ≤ i ∧ i < n
    · have hq := Lib.hid (decide_eq_true hi)
      obtain ⟨hi0, hi1⟩ := hi
      go_wp2_with fail
      go_meet
      exact ⟨congrArg Value.bool hq.out.symm, rfl⟩
    · by_cases hi0 : i < 0
      · have hq : Hid (decide (0 ≤ i ∧ i < n) = false) := decide_eq_false hi
        clear hi
        go_wp2_with fail
        go_meet
        exact ⟨congrArg Value.bool hq.out.symm, rfl⟩
      · have hi1 : (n : Int) ≤ i := by omega
        have hi2 : 0 ≤ i := by omega
        have hq : Hid (decide (0 ≤ i ∧ i < n) = false) := decide_eq_false hi
        clear hi hi0
        go_wp2_with fail
        go_meet
        exact ⟨congrArg Value.bool (by rw [hq.out]; exact decide_eq_false (by omega)), rfl⟩
  case rest =>
  obtain ⟨rfl, rfl⟩ := hcut
  go_upto_if 23 with fail
  go_cut [6] (fun s6 wx => s6 = .int .u8 ((stI n a i).toNat : Int) ∧ w1 = wx)
  case first =>
    by_cases hi : 0 ≤ i ∧ i < n
    · have hq := Lib.hid (decide_eq_true hi)
      rw [hq.out]
      obtain ⟨hi0, hi1⟩ := hi
      obtain ⟨k, rfl⟩ : ∃ k : Nat, i = k := ⟨i.toNat, by omega⟩
      have hz : stI n a (k : Int) = (vl a n)[k]'(by rw [vl_len]; omega) := by
        unfold stI; rw [if_pos ⟨hi0, hi1⟩, Int.toNat_natCast]
        have := vl_get a n k (by omega)
        rw [List.getD_eq_getElem?_getD, List.getElem?_eq_getElem (by rw [vl_len]; omega)] at this
        exact this.symm
      obtain ⟨bl, off, rfl, hc⟩ := Row8.nth (cap := cap) (n := n) h0 (k := k) (by rw [vl_len]; omega)
      rw [← hz] at hc
      clear hz h0
      go_wp2_with fail
      go_meet
      exact ⟨rfl, rfl⟩
    · have hz : Hid (stI n a i = 0) := by show _ = _; unfold stI; rw [if_neg hi]
      have hq := Lib.hid (decide_eq_false hi)
      rw [hq.out]
      clear hi
      go_wp2_with fail
      go_meet
      exact ⟨by rw [hz.out]; rfl, rfl⟩
  case rest =>
  obtain ⟨rfl, rfl⟩ := hcut
  obtain ⟨bl, off, rfl⟩ : ∃ bl off, ad = some ⟨bl, off, none⟩ := by
    obtain ⟨bl, off, he, _⟩ := Row8.nth (cap := cap) (n := n) h0 (k := 0) (by rw [vl_len]; omega)
    exact ⟨bl, off, he⟩
  clear h0
  generalize stI n a i = z at cB ⊢
  clear x0 x1 x2 xf
  obtain ⟨x0, x1, x2, xf⟩ := id bx
  go_wp2_with fail
  refine (cU.out _).mono ?_
  rintro e w2 ⟨rfl, hb⟩
  replace bx := bx.below hb
  replace HV := Lib.hid (HV.out.below hb)
  replace lo := lo.trans (hb.mono lo.size)
  clear hb x0 x1 x2 xf
  obtain ⟨x0, x1, x2, xf⟩ := id bx
  go_wp2_with fail
  refine (cI.out _).mono ?_
  rintro e w3 ⟨rfl, hb⟩
  replace bx := bx.below hb
  replace HV := Lib.hid (HV.out.below hb)
  replace lo := lo.trans (hb.mono lo.size)
  clear hb x0 x1 x2 xf
  obtain ⟨x0, x1, x2, xf⟩ := id bx
  go_wp2_with fail
  refine (cB.out _).mono ?_
  rintro e w4 ⟨rfl, hb⟩
  replace bx := bx.below hb
  replace HV := Lib.hid (HV.out.below hb)
  replace lo := lo.trans (hb.mono lo.size)
  clear hb x0 x1 x2 xf
  obtain ⟨x0, x1, x2, xf⟩ := id bx
  go_wp2_with fail
  refine (cK.out _).mono ?_
  rintro e w5 ⟨rfl, hb⟩
  replace bx := bx.below hb
  replace HV := Lib.hid (HV.out.below hb)
  replace lo := lo.trans (hb.mono lo.size)
  clear hb x0 x1 x2 xf
  obtain ⟨x0, x1, x2, xf⟩ := id bx
  go_wp2_with fail
  refine (cR.out _ _ HV.out).mono ?_
  rintro e w' ⟨rfl, rfl⟩
  go_wp2_with fail
  refine (cR.out _ _ HV.out).mono ?_
  rintro e w' ⟨rfl, rfl⟩
  go_wp2_with fail
  refine (cR.out _ _ HV.out).mono ?_
  rintro e w' ⟨rfl, rfl⟩
  go_upto_region 9 with fail
  go_cut [11] (fun s11 wx => s11 = .int .i64 (tru a) ∧ Below w5.heap.size w5 wx)
  case first =>
    rcases HT.out with h9 | h9 | h9
    · have hq : Hid (truthL (vl a n) = 116) := by show _ = _; rw [HTV.out, h9]; decide
      have h9' := Lib.hid h9
      clear h9
      go_wp2_with (first | (refine wpList_insert_own _ rfl (Operand.tmp 62) (Operand.const (Value.int IntKind.u8 116)) (Operand.const (Value.int IntKind.i64 (1))) 71 rfl 5 3 law8 Tryd.underlying71 (plainElem (H := Unit) Tryd.prog 3) w5.heap.size 0 _ rfl (World.ownsMap_made _ _ _ _) (by unfold maxLen; omega) _ _ (.int .u8 116) rfl rfl (keyOf_int_mk Tryd.underlying5 (by decide)) (.lit (.int .i64 (1))) [] (plainElem_int Tryd.underlying3 (by decide)) ?_; intro m1 hownm1 hgrm1) | (refine wpList_insert_own _ rfl (Operand.tmp 62) (Operand.const (Value.int IntKind.u8 102)) (Operand.const (Value.int IntKind.i64 (0))) 71 rfl 5 3 law8 Tryd.underlying71 (plainElem (H := Unit) Tryd.prog 3) w5.heap.size 1 _ rfl hownm1 (by unfold maxLen; omega) _ _ (.int .u8 102) rfl rfl (keyOf_int_mk Tryd.underlying5 (by decide)) (.lit (.int .i64 (0))) [] (plainElem_int Tryd.underlying3 (by decide)) ?_; intro m2 hownm2 hgrm2) | (refine wpList_insert_own _ rfl (Operand.tmp 62) (Operand.const (Value.int IntKind.u8 117)) (Operand.const (Value.int IntKind.i64 (-1))) 71 rfl 5 3 law8 Tryd.underlying71 (plainElem (H := Unit) Tryd.prog 3) w5.heap.size 2 _ rfl hownm2 (by unfold maxLen; omega) _ _ (.int .u8 117) rfl rfl (keyOf_int_mk Tryd.underlying5 (by decide)) (.lit (.int .i64 (-1))) [] (plainElem_int Tryd.underlying3 (by decide)) ?_; intro m3 hownm3 hgrm3) | fail)
      have bm : Below w5.heap.size w5 m3 := ((((Below.refl _ _).alloc (Nat.le_refl _) _).grown hgrm1 (by simp) (fun k hk => by cases hk; exact Nat.le_refl _)).grown hgrm2 (by have := hgrm1.size; simp at this; omega) (fun k hk => by cases hk; exact Nat.le_refl _)).grown hgrm3 (by have s1 := hgrm1.size; have s2 := hgrm2.size; simp at s1; omega) (fun k hk => by cases hk; exact Nat.le_refl _)
      have hown : m3.ownsMap Tryd.prog 5 (plainElem (H := Unit) Tryd.prog 3) w5.heap.size 3 tabT := hownm3
      clear hownm1 hownm2 hownm3 hgrm1 hgrm2 hgrm3
      refine (cTr.out 116 hq.out _ _ (HV.out.below bm)).mono ?_
      rintro e w' ⟨rfl, rfl⟩
      go_wp2_with (first | (at_lookup; refine wpList_lookup_own_int _ rfl _ _ 71 rfl 5 3 .i64 law8 Tryd.underlying71 Tryd.underlying3 (zero8 _) w5.heap.size 3 _ rfl hown _ (.int .u8 116) rfl (keyOf_int_mk Tryd.underlying5 (by decide)) ?_; intro c hat hwc) | fail)
      obtain rfl : c = 1 := by rw [tab_t] at hat; injection hat with h; injection h with _ h; exact h.symm
      go_meet
      exact ⟨by rw [h9'.out], bm⟩
    · have hq : Hid (truthL (vl a n) = 102) := by show _ = _; rw [HTV.out, h9]; decide
      have h9' := Lib.hid h9
      clear h9
      go_wp2_with (first | (refine wpList_insert_own _ rfl (Operand.tmp 62) (Operand.const (Value.int IntKind.u8 116)) (Operand.const (Value.int IntKind.i64 (1))) 71 rfl 5 3 law8 Tryd.underlying71 (plainElem (H := Unit) Tryd.prog 3) w5.heap.size 0 _ rfl (World.ownsMap_made _ _ _ _) (by unfold maxLen; omega) _ _ (.int .u8 116) rfl rfl (keyOf_int_mk Tryd.underlying5 (by decide)) (.lit (.int .i64 (1))) [] (plainElem_int Tryd.underlying3 (by decide)) ?_; intro m1 hownm1 hgrm1) | (refine wpList_insert_own _ rfl (Operand.tmp 62) (Operand.const (Value.int IntKind.u8 102)) (Operand.const (Value.int IntKind.i64 (0))) 71 rfl 5 3 law8 Tryd.underlying71 (plainElem (H := Unit) Tryd.prog 3) w5.heap.size 1 _ rfl hownm1 (by unfold maxLen; omega) _ _ (.int .u8 102) rfl rfl (keyOf_int_mk Tryd.underlying5 (by decide)) (.lit (.int .i64 (0))) [] (plainElem_int Tryd.underlying3 (by decide)) ?_; intro m2 hownm2 hgrm2) | (refine wpList_insert_own _ rfl (Operand.tmp 62) (Operand.const (Value.int IntKind.u8 117)) (Operand.const (Value.int IntKind.i64 (-1))) 71 rfl 5 3 law8 Tryd.underlying71 (plainElem (H := Unit) Tryd.prog 3) w5.heap.size 2 _ rfl hownm2 (by unfold maxLen; omega) _ _ (.int .u8 117) rfl rfl (keyOf_int_mk Tryd.underlying5 (by decide)) (.lit (.int .i64 (-1))) [] (plainElem_int Tryd.underlying3 (by decide)) ?_; intro m3 hownm3 hgrm3) | fail)
      have bm : Below w5.heap.size w5 m3 := ((((Below.refl _ _).alloc (Nat.le_refl _) _).grown hgrm1 (by simp) (fun k hk => by cases hk; exact Nat.le_refl _)).grown hgrm2 (by have := hgrm1.size; simp at this; omega) (fun k hk => by cases hk; exact Nat.le_refl _)).grown hgrm3 (by have s1 := hgrm1.size; have s2 := hgrm2.size; simp at s1; omega) (fun k hk => by cases hk; exact Nat.le_refl _)
      have hown : m3.ownsMap Tryd.prog 5 (plainElem (H := Unit) Tryd.prog 3) w5.heap.size 3 tabT := hownm3
      clear hownm1 hownm2 hownm3 hgrm1 hgrm2 hgrm3
      refine (cTr.out 102 hq.out _ _ (HV.out.below bm)).mono ?_
      rintro e w' ⟨rfl, rfl⟩
      go_wp2_with (first | (at_lookup; refine wpList_lookup_own_int _ rfl _ _ 71 rfl 5 3 .i64 law8 Tryd.underlying71 Tryd.underlying3 (zero8 _) w5.heap.size 3 _ rfl hown _ (.int .u8 102) rfl (keyOf_int_mk Tryd.underlying5 (by decide)) ?_; intro c hat hwc) | fail)
      obtain rfl : c = 0 := by rw [tab_f] at hat; injection hat with h; injection h with _ h; exact h.symm
      go_meet
      exact ⟨by rw [h9'.out], bm⟩
    · have hq : Hid (truthL (vl a n) = 117) := by show _ = _; rw [HTV.out, h9]; decide
      have h9' := Lib.hid h9
      clear h9
      go_wp2_with (first | (refine wpList_insert_own _ rfl (Operand.tmp 62) (Operand.const (Value.int IntKind.u8 116)) (Operand.const (Value.int IntKind.i64 (1))) 71 rfl 5 3 law8 Tryd.underlying71 (plainElem (H := Unit) Tryd.prog 3) w5.heap.size 0 _ rfl (World.ownsMap_made _ _ _ _) (by unfold maxLen; omega) _ _ (.int .u8 116) rfl rfl (keyOf_int_mk Tryd.underlying5 (by decide)) (.lit (.int .i64 (1))) [] (plainElem_int Tryd.underlying3 (by decide)) ?_; intro m1 hownm1 hgrm1) | (refine wpList_insert_own _ rfl (Operand.tmp 62) (Operand.const (Value.int IntKind.u8 102)) (Operand.const (Value.int IntKind.i64 (0))) 71 rfl 5 3 law8 Tryd.underlying71 (plainElem (H := Unit) Tryd.prog 3) w5.heap.size 1 _ rfl hownm1 (by unfold maxLen; omega) _ _ (.int .u8 102) rfl rfl (keyOf_int_mk Tryd.underlying5 (by decide)) (.lit (.int .i64 (0))) [] (plainElem_int Tryd.underlying3 (by decide)) ?_; intro m2 hownm2 hgrm2) | (refine wpList_insert_own _ rfl (Operand.tmp 62) (Operand.const (Value.int IntKind.u8 117)) (Operand.const (Value.int IntKind.i64 (-1))) 71 rfl 5 3 law8 Tryd.underlying71 (plainElem (H := Unit) Tryd.prog 3) w5.heap.size 2 _ rfl hownm2 (by unfold maxLen; omega) _ _ (.int .u8 117) rfl rfl (keyOf_int_mk Tryd.underlying5 (by decide)) (.lit (.int .i64 (-1))) [] (plainElem_int Tryd.underlying3 (by decide)) ?_; intro m3 hownm3 hgrm3) | fail)
      have bm : Below w5.heap.size w5 m3 := ((((Below.refl _ _).alloc (Nat.le_refl _) _).grown hgrm1 (by simp) (fun k hk => by cases hk; exact Nat.le_refl _)).grown hgrm2 (by have := hgrm1.size; simp at this; omega) (fun k hk => by cases hk; exact Nat.le_refl _)).grown hgrm3 (by have s1 := hgrm1.size; have s2 := hgrm2.size; simp at s1; omega) (fun k hk => by cases hk; exact Nat.le_refl _)
      have hown : m3.ownsMap Tryd.prog 5 (plainElem (H := Unit) Tryd.prog 3) w5.heap.size 3 tabT := hownm3
      clear hownm1 hownm2 hownm3 hgrm1 hgrm2 hgrm3
      refine (cTr.out 117 hq.out _ _ (HV.out.below bm)).mono ?_
      rintro e w' ⟨rfl, rfl⟩
      go_wp2_with (first | (at_lookup; refine wpList_lookup_own_int _ rfl _ _ 71 rfl 5 3 .i64 law8 Tryd.underlying71 Tryd.underlying3 (zero8 _) w5.heap.size 3 _ rfl hown _ (.int .u8 117) rfl (keyOf_int_mk Tryd.underlying5 (by decide)) ?_; intro c hat hwc) | fail)
      obtain rfl : c = -1 := by rw [tab_u] at hat; injection hat with h; injection h with _ h; exact h.symm
      go_meet
      exact ⟨by rw [h9'.out], bm⟩
  case rest =>
  obtain ⟨rfl, bm⟩ := hcut
  replace bx := bx.below bm
  replace HV := Lib.hid (HV.out.below bm)
  replace lo := lo.trans (bm.mono lo.size)
  clear bm x0 x1 x2 xf hmk
  obtain ⟨x0, x1, x2, xf⟩ := id bx
  generalize tru a = T at cT ⊢
  go_wp2_with fail
  refine (cT.out _).mono ?_
  rintro e w6 ⟨rfl, hb⟩
  replace bx := bx.below hb
  replace HV := Lib.hid (HV.out.below hb)
  replace lo := lo.trans (hb.mono lo.size)
  clear hb x0 x1 x2 xf
  obtain ⟨x0, x1, x2, xf⟩ := id bx
  go_wp2_with fail
  refine (cR.out _ _ HV.out).mono ?_
  rintro e w' ⟨rfl, rfl⟩
  cases K
  · obtain rfl : 0#64 = uu := HU.out
    obtain rfl : 0#64 = mm := HM.out
    have s0 : S 0#64 = 0 := by decide
    have u0 : U 0#64 = 0 := by decide
    go_wp2_with fail
    go_ret
    exact ⟨rfl, lo⟩
  obtain rfl : a.v = uu := HU.out
  obtain rfl : ext n a.v = mm := HM.out
  go_wp2_with fail
  go_loopw [80] (fun i wr => ∃ k : Nat, k ≤ 64 ∧ i = .int .i64 k ∧ Below w6.heap.size w6 wr) (fun i _ => 64 - (intOf i).toNat)
  case atStart => exact ⟨0, by omega, rfl, Below.refl _ _⟩
  case round =>
    obtain ⟨j, hj, rfl, hlo⟩ := hrel
    by_cases hlt : j < 64
    · have hmn : (min (j : Int) ((n : Int) - 1)).toNat = min j (n - 1) := by omega
      have hcm : wr.cell? ⟨bl, off + (min (j : Int) ((n : Int) - 1)).toNat, none⟩ = some (.int .u8 ((st a (min j (n - 1))).toNat : Int)) := by
        rw [hmn]
        have h9 := row_at (HV.out.below hlo) (k := min j (n - 1)) (by rw [vl_len]; omega)
        have h8 := vl_get a n (min j (n - 1)) (by omega)
        rw [List.getD_eq_getElem?_getD, List.getElem?_eq_getElem (by rw [vl_len]; omega)] at h8
        have h7 : (vl a n)[min j (n - 1)]'(by rw [vl_len]; omega) = st a (min j (n - 1)) := h8
        rw [h7] at h9; exact h9
      have hx0 : a.x = 0#64 := by simpa using HK.out
      have hst : ((st a (min j (n - 1))).toNat : Int) = if a.v.getLsbD (min j (n - 1)) then 49 else 48 := by
        unfold st; rw [hx0]; cases a.v.getLsbD (min j (n - 1)) <;> simp
      have hone := ext_one h1 h2 a.v hlt
      have hsh := shr_one a.v j
      have q1 : ((ext n a.v).sshiftRight j &&& 1#64 == 1#64) = a.v.getLsbD (min j (n - 1)) := by rw [hone]; cases a.v.getLsbD (min j (n - 1)) <;> decide
      have q2 : (((st a (min j (n - 1))).toNat : Int) == 49) = a.v.getLsbD (min j (n - 1)) := by rw [hst]; cases a.v.getLsbD (min j (n - 1)) <;> decide
      have q3 : j < n → (a.v >>> j &&& 1#64 != (ext n a.v).sshiftRight j &&& 1#64) = false := fun hjn => by rw [hone, hsh, Nat.min_eq_left (by omega)]; simp
      have q4 : n ≤ j → (a.v >>> j &&& 1#64 != 0#64) = false := fun hjn => by rw [hsh, HA.out.subv j hjn]; decide
      clear hx0 hst hone hsh hmn
      generalize (st a (min j (n - 1))).toNat = y at hcm q2
      generalize a.v.getLsbD (min j (n - 1)) = tq at q1 q2
      by_cases hjn : j < n
      · have q5 := q3 hjn
        have hl : decide ((j : Int) < (n : Int)) = true := by simpa using hjn
        have hl2 : decide (j < n) = true := by simpa using hjn
        have hl3 : decide ((n : Int) ≤ (j : Int)) = false := by simp; omega
        have hl4 : decide (n ≤ j) = false := by simp; omega
        clear q3 q4
        go_wp2_with fail
        refine wp_region_rel 39 (by kernel_rfl) (by kernel_rfl) ?_
        simp only [List.take_succ_cons, List.take_zero, List.drop_succ_cons, List.drop_zero]
        (refine rel_fix0 (fun K hK => ?_); go_simp; refine hK _ ?_; clear hK K)
        (refine rel_fix0 (fun K hK => ?_); go_simp; refine hK _ ?_; clear hK K)
        (refine rel_fix0 (fun K hK => ?_); go_simp; refine hK _ ?_; clear hK K)
        (refine rel_fix0 (fun K hK => ?_); go_simp; refine hK _ ?_; clear hK K)
        (refine rel_fix0 (fun K hK => ?_); go_simp; refine hK _ ?_; clear hK K)
        (refine rel_fix0 (fun K hK => ?_); go_simp; refine hK _ ?_; clear hK K)
        (refine rel_fix0 (fun K hK => ?_); go_simp; refine hK _ ?_; clear hK K)
        (refine rel_fix0 (fun K hK => ?_); go_simp; refine hK _ ?_; clear hK K)
        (refine rel_fix0 (fun K hK => ?_); go_simp; refine hK _ ?_; clear hK K)
        (refine rel_fix0 (fun K hK => ?_); go_simp; refine hK _ ?_; clear hK K)
        (refine rel_fix0 (fun K hK => ?_); go_simp; refine hK _ ?_; clear hK K)
        (refine rel_fix0 (fun K hK => ?_); go_simp; refine hK _ ?_; clear hK K)
        (refine rel_fix0 (fun K hK => ?_); go_simp; refine hK _ ?_; clear hK K)
        (refine rel_fix0 (fun K hK => ?_); go_simp; refine hK _ ?_; clear hK K)
        (refine rel_fix0 (fun K hK => ?_); go_simp; refine hK _ ?_; clear hK K)
        (refine rel_fix0 (fun K hK => ?_); go_simp; refine hK _ ?_; clear hK K)
        (refine rel_fix0 (fun K hK => ?_); go_simp; refine hK _ ?_; clear hK K)
        (refine rel_fix0 (fun K hK => ?_); go_simp; refine hK _ ?_; clear hK K)
        (refine rel_fix0 (fun K hK => ?_); go_simp; refine hK _ ?_; clear hK K)
        (refine rel_fix0 (fun K hK => ?_); go_simp; refine hK _ ?_; clear hK K)
        (refine rel_fix0 (fun K hK => ?_); go_simp; refine hK _ ?_; clear hK K)
        (refine rel_fix0 (fun K hK => ?_); go_simp; refine hK _ ?_; clear hK K)
        (refine rel_fix0 (fun K hK => ?_); go_simp; refine hK _ ?_; clear hK K)
        (refine rel_fix0 (fun K hK => ?_); go_simp; refine hK _ ?_; clear hK K)
        (refine rel_fix0 (fun K hK => ?_); go_simp; refine hK _ ?_; clear hK K)
        (refine rel_fix0 (fun K hK => ?_); go_simp; refine hK _ ?_; clear hK K)
        (refine rel_fix0 (fun K hK => ?_); go_simp; refine hK _ ?_; clear hK K)
        (refine rel_fix0 (fun K hK => ?_); go_simp; refine hK _ ?_; clear hK K)
        (refine rel_fix0 (fun K hK => ?_); go_simp; refine hK _ ?_; clear hK K)
        (refine rel_fix0 (fun K hK => ?_); go_simp; refine hK _ ?_; clear hK K)
        (refine rel_fix0 (fun K hK => ?_); go_simp; refine hK _ ?_; clear hK K)
        (refine rel_fix0 (fun K hK => ?_); go_simp; refine hK _ ?_; clear hK K)
        (refine rel_fix0 (fun K hK => ?_); go_simp; refine hK _ ?_; clear hK K)
        (refine rel_fix0 (fun K hK => ?_); go_simp; refine hK _ ?_; clear hK K)
        (refine rel_fix0 (fun K hK => ?_); go_simp; refine hK _ ?_; clear hK K)
        (refine rel_fix0 (fun K hK => ?_); go_simp; refine hK _ ?_; clear hK K)
        (refine rel_fix0 (fun K hK => ?_); go_simp; refine hK _ ?_; clear hK K)
        (refine rel_fix0 (fun K hK => ?_); go_simp; refine hK _ ?_; clear hK K)
        (refine rel_fix0 (fun K hK => ?_); go_simp; refine hK _ ?_; clear hK K)
        refine rel_nil ?_
        intro d os
        simp only [relAll]
        have hb3 := hlo.trans ((below_regrown wr d os).mono hlo.size)
        go_wp2_with fail
        go_roundw
        case rel => exact ⟨j + 1, by omega, by go_num, hb3⟩
        case measure => simp [intOf]; omega
      · have q5 := q4 (by omega)
        clear q3 q4
        have hl : decide ((j : Int) < (n : Int)) = false := by simp; omega
        have hl2 : decide (j < n) = false := by simp; omega
        have hl3 : decide ((n : Int) ≤ (j : Int)) = true := by simp; omega
        have hl4 : decide (n ≤ j) = true := by simp; omega
        go_wp2_with fail
        refine wp_region_rel 39 (by kernel_rfl) (by kernel_rfl) ?_
        simp only [List.take_succ_cons, List.take_zero, List.drop_succ_cons, List.drop_zero]
        (refine rel_fix0 (fun K hK => ?_); go_simp; refine hK _ ?_; clear hK K)
        (refine rel_fix0 (fun K hK => ?_); go_simp; refine hK _ ?_; clear hK K)
        (refine rel_fix0 (fun K hK => ?_); go_simp; refine hK _ ?_; clear hK K)
        (refine rel_fix0 (fun K hK => ?_); go_simp; refine hK _ ?_; clear hK K)
        (refine rel_fix0 (fun K hK => ?_); go_simp; refine hK _ ?_; clear hK K)
        (refine rel_fix0 (fun K hK => ?_); go_simp; refine hK _ ?_; clear hK K)
        (refine rel_fix0 (fun K hK => ?_); go_simp; refine hK _ ?_; clear hK K)
        (refine rel_fix0 (fun K hK => ?_); go_simp; refine hK _ ?_; clear hK K)
        (refine rel_fix0 (fun K hK => ?_); go_simp; refine hK _ ?_; clear hK K)
        (refine rel_fix0 (fun K hK => ?_); go_simp; refine hK _ ?_; clear hK K)
        (refine rel_fix0 (fun K hK => ?_); go_simp; refine hK _ ?_; clear hK K)
        (refine rel_fix0 (fun K hK => ?_); go_simp; refine hK _ ?_; clear hK K)
        (refine rel_fix0 (fun K hK => ?_); go_simp; refine hK _ ?_; clear hK K)
        (refine rel_fix0 (fun K hK => ?_); go_simp; refine hK _ ?_; clear hK K)
        (refine rel_fix0 (fun K hK => ?_); go_simp; refine hK _ ?_; clear hK K)
        (refine rel_fix0 (fun K hK => ?_); go_simp; refine hK _ ?_; clear hK K)
        (refine rel_fix0 (fun K hK => ?_); go_simp; refine hK _ ?_; clear hK K)
        (refine rel_fix0 (fun K hK => ?_); go_simp; refine hK _ ?_; clear hK K)
        (refine rel_fix0 (fun K hK => ?_); go_simp; refine hK _ ?_; clear hK K)
        (refine rel_fix0 (fun K hK => ?_); go_simp; refine hK _ ?_; clear hK K)
        (refine rel_fix0 (fun K hK => ?_); go_simp; refine hK _ ?_; clear hK K)
        (refine rel_fix0 (fun K hK => ?_); go_simp; refine hK _ ?_; clear hK K)
        (refine rel_fix0 (fun K hK => ?_); go_simp; refine hK _ ?_; clear hK K)
        (refine rel_fix0 (fun K hK => ?_); go_simp; refine hK _ ?_; clear hK K)
        (refine rel_fix0 (fun K hK => ?_); go_simp; refine hK _ ?_; clear hK K)
        (refine rel_fix0 (fun K hK => ?_); go_simp; refine hK _ ?_; clear hK K)
        (refine rel_fix0 (fun K hK => ?_); go_simp; refine hK _ ?_; clear hK K)
        (refine rel_fix0 (fun K hK => ?_); go_simp; refine hK _ ?_; clear hK K)
        (refine rel_fix0 (fun K hK => ?_); go_simp; refine hK _ ?_; clear hK K)
        (refine rel_fix0 (fun K hK => ?_); go_simp; refine hK _ ?_; clear hK K)
        (refine rel_fix0 (fun K hK => ?_); go_simp; refine hK _ ?_; clear hK K)
        (refine rel_fix0 (fun K hK => ?_); go_simp; refine hK _ ?_; clear hK K)
        (refine rel_fix0 (fun K hK => ?_); go_simp; refine hK _ ?_; clear hK K)
        (refine rel_fix0 (fun K hK => ?_); go_simp; refine hK _ ?_; clear hK K)
        (refine rel_fix0 (fun K hK => ?_); go_simp; refine hK _ ?_; clear hK K)
        (refine rel_fix0 (fun K hK => ?_); go_simp; refine hK _ ?_; clear hK K)
        (refine rel_fix0 (fun K hK => ?_); go_simp; refine hK _ ?_; clear hK K)
        (refine rel_fix0 (fun K hK => ?_); go_simp; refine hK _ ?_; clear hK K)
        (refine rel_fix0 (fun K hK => ?_); go_simp; refine hK _ ?_; clear hK K)
        refine rel_nil ?_
        intro d os
        simp only [relAll]
        have hb3 := hlo.trans ((below_regrown wr d os).mono hlo.size)
        go_wp2_with fail
        go_roundw
        case rel => exact ⟨j + 1, by omega, by go_num, hb3⟩
        case measure => simp [intOf]; omega
    · go_wp2_with fail
      go_ret
      exact ⟨rfl, lo.trans (hlo.mono lo.size)⟩
end Go.Proofs.YtdpmojkpfnkcdaaDoor
