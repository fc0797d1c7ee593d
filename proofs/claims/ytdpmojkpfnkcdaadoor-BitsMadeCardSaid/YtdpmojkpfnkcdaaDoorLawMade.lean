/- The law BitsMade: its walk. -/
import Derived.Test.YtdpmojkpfnkcdaaDoorKnown
import Derived.Deep.CutBlock
import Derived.Outline
namespace Go.Proofs.YtdpmojkpfnkcdaaDoor
open Go Go.RowKit Go.Sort
set_option linter.unusedVariables false
theorem valid_t (r : Rb) (t : Bool) (h : r.okB = t) (w : World) : Calls Tryd.prog 9 #[.agg #[.int .i64 r.W, .int .u64 (U r.v), .int .u64 (U r.x)]] w fun e w' => e = .returned (.bool t) ∧ Below w.heap.size w w' := by
  rw [← h]; exact refValid_any r w
theorem chk_bne (r : Rb) : (r.chk != 0) = !r.okB := by rw [← r.chk_ok]; rfl
theorem chk_out {r : Rb} (h : ¬ (1 ≤ r.W ∧ r.W ≤ 64)) : r.chk = 2 := if_neg h
theorem chk_in {r : Rb} (h : 1 ≤ r.W ∧ r.W ≤ 64) : r.chk = if r.okB then 0 else 4 := by
  unfold Rb.chk Rb.okB
  rw [if_pos h]
  by_cases h2 : (r.v ||| r.x) &&& ~~~msk r.W.toNat = 0#64
  · simp [h, h2]
  · simp [h2]
theorem kv_bit {n : Nat} (h : n ≤ 64) (v : BitVec 64) {k : Nat} (hk : k < n) : (kv n v).v >>> k &&& 1#64 = v >>> k &&& 1#64 := by
  rw [shr_one, shr_one]
  have : (kv n v).v.getLsbD k = v.getLsbD k := by
    show (v &&& msk n).getLsbD k = _
    rw [BitVec.getLsbD_and, msk_bit h]; simp [hk]
  rw [this]
/-- the words of a vector of one state -/
def flS (n : Nat) (c : UInt8) : Vx := ⟨if isV c then msk n else 0#64, if isX c then msk n else 0#64⟩
theorem flS_ok {n : Nat} (h1 : 1 ≤ n) (h2 : n ≤ 64) (c : UInt8) : (flS n c).ok n := by
  unfold flS
  refine ok_mk h1 h2 ?_ ?_
  · show Sub n (if isV c then msk n else 0#64)
    split
    · exact sub_msk h2
    · exact sub_zero n
  · show Sub n (if isX c then msk n else 0#64)
    split
    · exact sub_msk h2
    · exact sub_zero n
theorem fill_vl {n : Nat} (h2 : n ≤ 64) {c : UInt8} (hc : isSt c = true) : List.replicate n c = vl (flS n c) n := by
  unfold vl
  apply List.ext_getElem
  · rw [List.length_replicate, List.length_map, List.length_range]
  · intro i h3 h4
    rw [List.getElem_replicate]
    rw [List.getElem_map, List.getElem_range]
    have hi : i < n := by simpa using h3
    have em : (msk n).getLsbD i = true := by rw [msk_bit h2]; simpa using hi
    simp only [isSt, Bool.or_eq_true, beq_iff_eq] at hc
    unfold st flS
    rcases hc with ((rfl | rfl) | rfl) | rfl <;> simp [isV, isX, em]
theorem all_is (n : Nat) (c : UInt8) (w : World) (h1 : 1 ≤ n) (h2 : n ≤ 64) (hc : isSt c = true) : Calls Tryd.prog 18 #[.int .i64 n, .int .u8 (c.toNat : Int)] w fun e w' => e = .returned (.agg #[.int .i64 n, .int .u64 (U (flS n c).v), .int .u64 (U (flS n c).x)]) ∧ Below w.heap.size w w' := by
  simp only [isSt, Bool.or_eq_true, beq_iff_eq] at hc
  rcases hc with ((rfl | rfl) | rfl) | rfl
  · exact all_0 n w h1 h2
  · exact all_1 n w h1 h2
  · exact all_x n w h1 h2
  · exact all_z n w h1 h2
set_option maxRecDepth 100000 in
set_option maxHeartbeats 8000000 in
theorem bitsMade_any {B : Nat} (b : Rb) (i wd : Int) (v : BitVec 64) (c : UInt8) (w : World) (hG : Glob B w) : Calls Tryd.prog 3 #[.agg #[.int .i64 b.W, .int .u64 (U b.v), .int .u64 (U b.x)], .int .i64 i, .int .i64 wd, .int .u64 (U v), .int .u8 (c.toNat : Int)] w fun e w' => e = .returned (.bool true) ∧ Below w.heap.size w w' := by
  have HG := Lib.hid hG
  clear hG
  go_enter Tryd.func3, Tryd.ntmps3
  go_wp2_with fail
  refine (vectors_ok _ (HG.out.here ((Below.refl _ _).alloc (Nat.le_refl _) _))).mono ?_
  rintro e w1 ⟨rfl, hb⟩
  have bx : Box w1 w.heap.size b.W (U b.v) (U b.x) := Box.below (w := w.alloc (Obj.cells #[Value.int IntKind.i64 b.W, Value.int IntKind.u64 (U b.v), Value.int IntKind.u64 (U b.x)] 24)) ⟨by go_simp, by go_simp, by go_simp, fun o => by go_simp⟩ hb
  have lo : Below w.heap.size w w1 := ((Below.refl _ _).alloc (Nat.le_refl _) _).trans (hb.mono (by simp))
  clear hb
  obtain ⟨x0, x1, x2, xf⟩ := id bx
  go_upto_block 0 with fail
  go_cut [11] (fun s11 wx => s11 = .int .i64 b.chk ∧ Below w1.heap.size w1 wx)
  case first =>
    by_cases hi : 1 ≤ b.W ∧ b.W ≤ 64
    · have hk := Lib.hid (chk_in hi)
      obtain ⟨hi0, hi1⟩ := hi
      cases ho : b.okB
      · have ho' := Lib.hid ho
        clear ho
        go_wp2_with fail
        refine (valid_t b false ho'.out _).mono ?_
        rintro e w2 ⟨rfl, hb⟩
        go_wp2_with fail
        go_meet
        exact ⟨by rw [hk.out, ho'.out]; rfl, hb⟩
      · have ho' := Lib.hid ho
        clear ho
        go_wp2_with fail
        refine (valid_t b true ho'.out _).mono ?_
        rintro e w2 ⟨rfl, hb⟩
        go_wp2_with fail
        go_meet
        exact ⟨by rw [hk.out, ho'.out]; rfl, hb⟩
    · have hk := Lib.hid (chk_out hi)
      by_cases hi0 : b.W < 1
      · clear hi
        go_wp2_with fail
        go_meet
        exact ⟨by rw [hk.out], Below.refl _ _⟩
      · have hi1 : 64 < b.W := by omega
        clear hi
        go_wp2_with fail
        go_meet
        exact ⟨by rw [hk.out], Below.refl _ _⟩
  case rest =>
  obtain ⟨rfl, hb⟩ := hcut
  replace bx := bx.below hb
  replace lo := lo.trans (hb.mono lo.size)
  clear hb x0 x1 x2 xf
  obtain ⟨x0, x1, x2, xf⟩ := id bx
  go_wp2_with fail
  refine (check_any b _).mono ?_
  rintro e w3 ⟨rfl, hb⟩
  replace bx := bx.below hb
  replace lo := lo.trans (hb.mono lo.size)
  clear hb x0 x1 x2 xf
  obtain ⟨x0, x1, x2, xf⟩ := id bx
  go_upto_if 38 with fail
  go_cut [11] (fun s11 wx => s11 = .int .i64 b.chk ∧ Below w3.heap.size w3 wx)
  case first =>
    cases ho : b.okB
    · have hne : (b.chk != 0) = true := by rw [chk_bne, ho]; rfl
      have ci := Lib.hid fun w => known_ill b w ho
      have cu := Lib.hid fun w => uint_ill b w ho
      have cn := Lib.hid fun w => int_ill b w ho
      have cb := Lib.hid fun w => bit_ill b i w ho
      have ct := Lib.hid fun w => true_ill b w ho
      clear ho
      have lo3 := Below.refl w3.heap.size w3
      go_wp2_with fail
      refine (cu.out _).mono ?_
      rintro e w4 ⟨rfl, hb⟩
      replace bx := bx.below hb
      replace lo3 := lo3.trans (hb.mono lo3.size)
      clear hb x0 x1 x2 xf
      obtain ⟨x0, x1, x2, xf⟩ := id bx
      go_wp2_with fail
      refine (cn.out _).mono ?_
      rintro e w5 ⟨rfl, hb⟩
      replace bx := bx.below hb
      replace lo3 := lo3.trans (hb.mono lo3.size)
      clear hb x0 x1 x2 xf
      obtain ⟨x0, x1, x2, xf⟩ := id bx
      go_wp2_with fail
      refine (cb.out _).mono ?_
      rintro e w6 ⟨rfl, hb⟩
      replace bx := bx.below hb
      replace lo3 := lo3.trans (hb.mono lo3.size)
      clear hb x0 x1 x2 xf
      obtain ⟨x0, x1, x2, xf⟩ := id bx
      go_wp2_with fail
      refine (ci.out _).mono ?_
      rintro e w7 ⟨rfl, hb⟩
      replace bx := bx.below hb
      replace lo3 := lo3.trans (hb.mono lo3.size)
      clear hb x0 x1 x2 xf
      obtain ⟨x0, x1, x2, xf⟩ := id bx
      go_wp2_with fail
      refine (ct.out _).mono ?_
      rintro e w8 ⟨rfl, hb⟩
      replace bx := bx.below hb
      replace lo3 := lo3.trans (hb.mono lo3.size)
      clear hb x0 x1 x2 xf
      obtain ⟨x0, x1, x2, xf⟩ := id bx
      go_wp2_with fail
      go_meet
      exact ⟨rfl, lo3⟩
    · have hne : (b.chk != 0) = false := by rw [chk_bne, ho]; rfl
      obtain ⟨n, e, o⟩ := Rb.ok_of ho
      have ck := Lib.hid fun w => law_known n ⟨b.v, b.x⟩ i w o
      have he := Lib.hid e
      rw [e] at x0
      clear ho e
      go_wp2_with fail
      refine (ck.out _).mono ?_
      rintro e w4 ⟨rfl, hb⟩
      go_wp2_with fail
      go_meet
      exact ⟨rfl, hb⟩
  case rest =>
  obtain ⟨rfl, hb⟩ := hcut
  replace lo := lo.trans (hb.mono lo.size)
  clear hb x0 x1 x2 xf bx HG
  by_cases hw : 1 ≤ wd ∧ wd ≤ 64
  · obtain ⟨hw0, hw1⟩ := hw
    obtain ⟨n, rfl⟩ : ∃ n : Nat, wd = n := ⟨wd.toNat, by omega⟩
    have n1 : 1 ≤ n := by omega
    have n2 : n ≤ 64 := by omega
    go_wp2_with fail
    refine (of_ok n v _ n1 n2).mono ?_
    rintro e w5 ⟨rfl, hb⟩
    replace lo := lo.trans (hb.mono lo.size)
    clear hb
    go_wp2_with fail
    have bo : Box (w5.alloc (Obj.cells #[Value.int IntKind.i64 n, Value.int IntKind.u64 (U (kv n v).v), Value.int IntKind.u64 (U (kv n v).x)] 24)) w5.heap.size n (U (kv n v).v) (U (kv n v).x) := ⟨by go_simp, by go_simp, by go_simp, fun o => by go_simp⟩
    replace lo : Below w.heap.size w (w5.alloc (Obj.cells #[Value.int IntKind.i64 n, Value.int IntKind.u64 (U (kv n v).v), Value.int IntKind.u64 (U (kv n v).x)] 24)) := lo.alloc lo.size _
    generalize (w5.alloc (Obj.cells #[Value.int IntKind.i64 n, Value.int IntKind.u64 (U (kv n v).v), Value.int IntKind.u64 (U (kv n v).x)] 24)) = w6 at bo lo ⊢
    have hx0 : ((kv n v).x != 0#64) = false := rfl
    go_loopw [102] (fun i wr => ∃ k : Nat, k ≤ n ∧ i = .int .i64 k ∧ Below w6.heap.size w6 wr) (fun i _ => n - (intOf i).toNat)
    case atStart => exact ⟨0, Nat.zero_le _, rfl, Below.refl _ _⟩
    case round =>
      obtain ⟨k, hk, rfl, hlo⟩ := hrel
      obtain ⟨y0, y1, y2, yf⟩ := bo.below hlo
      by_cases hlt : k < n
      · have g0 := cell_regrown y0
        have g1 := cell_regrown y1
        have g2 := cell_regrown y2
        have q1 : ((kv n v).v >>> k &&& 1#64 != v >>> k &&& 1#64) = false := by rw [kv_bit n2 v hlt]; simp
        go_wp2_with fail
        refine wp_region_rel 21 (by kernel_rfl) (by kernel_rfl) ?_
        simp only [List.take_succ_cons, List.take_zero, List.drop_succ_cons, List.drop_zero]
        (refine rel_fix0 (fun K hK => ?_); go_simp; refine hK _ ?_; clear hK K)
        (refine rel_fix0 (fun K hK => ?_); go_simp; refine hK _ ?_; clear hK K)
        (refine rel_fix0 (fun K hK => ?_); go_simp; refine hK _ ?_; clear hK K)
        (refine rel_fix0 (fun K hK => ?_); go_simp; refine hK _ ?_; clear hK K)
        (refine rel_fix0 (fun K hK => ?_); go_simp; refine hK _ ?_; clear hK K)
        (refine rel_fix0 (fun K hK => ?_); go_simp; refine hK _ ?_; clear hK K)
        (refine rel_fix0 (fun K hK => ?_); go_simp; refine hK _ ?_; clear hK K)
        (refine rel_fix0 (fun K hK => ?_); go_simp; refine hK _ ?_; clear hK K)
        (refine rel_fix0 (fun K hK => ?_); go_simp; refine hK _ ?_; clear hK K)
        (refine rel_fix0 (fun K hK => ?_); go_simp; refine hK _ ?_; clear hK K)
        (refine rel_fix0 (fun K hK => ?_); go_simp; refine hK _ ?_; clear hK K)
        (refine rel_fix0 (fun K hK => ?_); go_simp; refine hK _ ?_; clear hK K)
        (refine rel_fix0 (fun K hK => ?_); go_simp; refine hK _ ?_; clear hK K)
        (refine rel_fix0 (fun K hK => ?_); go_simp; refine hK _ ?_; clear hK K)
        (refine rel_fix0 (fun K hK => ?_); go_simp; refine hK _ ?_; clear hK K)
        (refine rel_fix0 (fun K hK => ?_); go_simp; refine hK _ ?_; clear hK K)
        (refine rel_fix0 (fun K hK => ?_); go_simp; refine hK _ ?_; clear hK K)
        (refine rel_fix0 (fun K hK => ?_); go_simp; refine hK _ ?_; clear hK K)
        (refine rel_fix0 (fun K hK => ?_); go_simp; refine hK _ ?_; clear hK K)
        (refine rel_fix0 (fun K hK => ?_); go_simp; refine hK _ ?_; clear hK K)
        (refine rel_fix0 (fun K hK => ?_); go_simp; refine hK _ ?_; clear hK K)
        refine rel_nil ?_
        intro d os
        simp only [relAll]
        have hb3 := hlo.trans ((below_regrown wr d os).mono hlo.size)
        go_wp2_with fail
        go_roundw
        case rel => exact ⟨k + 1, by omega, by go_num, hb3⟩
        case measure => simp [intOf]; omega
      · have hkn : k = n := by omega
        clear hkn hx0
        replace lo := lo.trans (hlo.mono lo.size)
        clear hlo bo
        have HB := Lib.hid fun hc => Bl_map (flS_ok n1 n2 c) (fill_vl n2 (c := c) hc)
        by_cases e48 : c = 48
        · have t48 : ((c.toNat : Int) != 48) = false := by rw [e48]; rfl
          have HC := Lib.hid (show isSt c = true from by rw [e48]; rfl)
          replace HB := Lib.hid (HB.out HC.out)
          clear e48
          go_wp2_with fail
          refine (valid_t ⟨(n : Int), (kv n v).v, (kv n v).x⟩ true (Rb.okB_of (kv_ok n1 n2 v)) _).mono ?_
          rintro e w7 ⟨rfl, hb⟩
          replace lo := lo.trans (hb.mono lo.size)
          clear hb
          go_wp2_with fail
          refine (all_is n c _ n1 n2 HC.out).mono ?_
          rintro e w8 ⟨rfl, hb⟩
          replace lo := lo.trans (hb.mono lo.size)
          clear hb
          go_wp2_with fail
          refine (refFill_any n c (by omega) _).mono ?_
          rintro e w9 ⟨vf, rfl, hf, hb⟩
          replace lo := lo.trans (hb.mono lo.size)
          clear hb
          have HF := Lib.hid hf
          clear hf
          go_wp2_with fail
          refine (refB_is vf _ _ HB.out (by rw [List.length_replicate]; omega) _ HF.out).mono ?_
          rintro e w10 ⟨rfl, hb⟩
          replace lo := lo.trans (hb.mono lo.size)
          go_wp2_with fail
          go_ret
          exact ⟨rfl, lo⟩
        have t48 : ((c.toNat : Int) != 48) = true := bne_iff_ne.2 (fun e => e48 (UInt8.toNat_inj.1 (by simpa using Int.ofNat_inj.1 e)))
        by_cases e49 : c = 49
        · have t49 : ((c.toNat : Int) != 49) = false := by rw [e49]; rfl
          have HC := Lib.hid (show isSt c = true from by rw [e49]; rfl)
          replace HB := Lib.hid (HB.out HC.out)
          clear e49 e48
          go_wp2_with fail
          refine (valid_t ⟨(n : Int), (kv n v).v, (kv n v).x⟩ true (Rb.okB_of (kv_ok n1 n2 v)) _).mono ?_
          rintro e w7 ⟨rfl, hb⟩
          replace lo := lo.trans (hb.mono lo.size)
          clear hb
          go_wp2_with fail
          refine (all_is n c _ n1 n2 HC.out).mono ?_
          rintro e w8 ⟨rfl, hb⟩
          replace lo := lo.trans (hb.mono lo.size)
          clear hb
          go_wp2_with fail
          refine (refFill_any n c (by omega) _).mono ?_
          rintro e w9 ⟨vf, rfl, hf, hb⟩
          replace lo := lo.trans (hb.mono lo.size)
          clear hb
          have HF := Lib.hid hf
          clear hf
          go_wp2_with fail
          refine (refB_is vf _ _ HB.out (by rw [List.length_replicate]; omega) _ HF.out).mono ?_
          rintro e w10 ⟨rfl, hb⟩
          replace lo := lo.trans (hb.mono lo.size)
          go_wp2_with fail
          go_ret
          exact ⟨rfl, lo⟩
        have t49 : ((c.toNat : Int) != 49) = true := bne_iff_ne.2 (fun e => e49 (UInt8.toNat_inj.1 (by simpa using Int.ofNat_inj.1 e)))
        by_cases e120 : c = 120
        · have t120 : ((c.toNat : Int) != 120) = false := by rw [e120]; rfl
          have HC := Lib.hid (show isSt c = true from by rw [e120]; rfl)
          replace HB := Lib.hid (HB.out HC.out)
          clear e120 e48 e49
          go_wp2_with fail
          refine (valid_t ⟨(n : Int), (kv n v).v, (kv n v).x⟩ true (Rb.okB_of (kv_ok n1 n2 v)) _).mono ?_
          rintro e w7 ⟨rfl, hb⟩
          replace lo := lo.trans (hb.mono lo.size)
          clear hb
          go_wp2_with fail
          refine (all_is n c _ n1 n2 HC.out).mono ?_
          rintro e w8 ⟨rfl, hb⟩
          replace lo := lo.trans (hb.mono lo.size)
          clear hb
          go_wp2_with fail
          refine (refFill_any n c (by omega) _).mono ?_
          rintro e w9 ⟨vf, rfl, hf, hb⟩
          replace lo := lo.trans (hb.mono lo.size)
          clear hb
          have HF := Lib.hid hf
          clear hf
          go_wp2_with fail
          refine (refB_is vf _ _ HB.out (by rw [List.length_replicate]; omega) _ HF.out).mono ?_
          rintro e w10 ⟨rfl, hb⟩
          replace lo := lo.trans (hb.mono lo.size)
          go_wp2_with fail
          go_ret
          exact ⟨rfl, lo⟩
        have t120 : ((c.toNat : Int) != 120) = true := bne_iff_ne.2 (fun e => e120 (UInt8.toNat_inj.1 (by simpa using Int.ofNat_inj.1 e)))
        by_cases e122 : c = 122
        · have t122 : ((c.toNat : Int) != 122) = false := by rw [e122]; rfl
          have HC := Lib.hid (show isSt c = true from by rw [e122]; rfl)
          replace HB := Lib.hid (HB.out HC.out)
          clear e122 e48 e49 e120
          go_wp2_with fail
          refine (valid_t ⟨(n : Int), (kv n v).v, (kv n v).x⟩ true (Rb.okB_of (kv_ok n1 n2 v)) _).mono ?_
          rintro e w7 ⟨rfl, hb⟩
          replace lo := lo.trans (hb.mono lo.size)
          clear hb
          go_wp2_with fail
          refine (all_is n c _ n1 n2 HC.out).mono ?_
          rintro e w8 ⟨rfl, hb⟩
          replace lo := lo.trans (hb.mono lo.size)
          clear hb
          go_wp2_with fail
          refine (refFill_any n c (by omega) _).mono ?_
          rintro e w9 ⟨vf, rfl, hf, hb⟩
          replace lo := lo.trans (hb.mono lo.size)
          clear hb
          have HF := Lib.hid hf
          clear hf
          go_wp2_with fail
          refine (refB_is vf _ _ HB.out (by rw [List.length_replicate]; omega) _ HF.out).mono ?_
          rintro e w10 ⟨rfl, hb⟩
          replace lo := lo.trans (hb.mono lo.size)
          go_wp2_with fail
          go_ret
          exact ⟨rfl, lo⟩
        have t122 : ((c.toNat : Int) != 122) = true := bne_iff_ne.2 (fun e => e122 (UInt8.toNat_inj.1 (by simpa using Int.ofNat_inj.1 e)))
        have HC := Lib.hid (show isSt c = false from by simp [isSt, e48, e49, e120, e122])
        clear e48 e49 e120 e122
        go_wp2_with fail
        refine (valid_t ⟨(n : Int), (kv n v).v, (kv n v).x⟩ true (Rb.okB_of (kv_ok n1 n2 v)) _).mono ?_
        rintro e w7 ⟨rfl, hb⟩
        replace lo := lo.trans (hb.mono lo.size)
        clear hb
        go_wp2_with fail
        refine (all_no c n _ HC.out).mono ?_
        rintro e w8 ⟨rfl, hb⟩
        replace lo := lo.trans (hb.mono lo.size)
        go_wp2_with fail
        go_ret
        exact ⟨rfl, lo⟩
  · have co := Lib.hid fun w => of_out wd v w hw
    have ca := Lib.hid fun w => all_out c wd w hw
    by_cases hw0 : wd < 1
    · clear hw
      go_wp2_with fail
      refine (co.out _).mono ?_
      rintro e w5 ⟨rfl, hb⟩
      replace lo := lo.trans (hb.mono lo.size)
      clear hb
      go_wp2_with fail
      refine (ca.out _).mono ?_
      rintro e w6 ⟨rfl, hb⟩
      replace lo := lo.trans (hb.mono lo.size)
      go_wp2_with fail
      go_ret
      exact ⟨rfl, lo⟩
    · have hw1 : 64 < wd := by omega
      clear hw
      go_wp2_with fail
      refine (co.out _).mono ?_
      rintro e w5 ⟨rfl, hb⟩
      replace lo := lo.trans (hb.mono lo.size)
      clear hb
      go_wp2_with fail
      refine (ca.out _).mono ?_
      rintro e w6 ⟨rfl, hb⟩
      replace lo := lo.trans (hb.mono lo.size)
      go_wp2_with fail
      go_ret
      exact ⟨rfl, lo⟩
end Go.Proofs.YtdpmojkpfnkcdaaDoor
