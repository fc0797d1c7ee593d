/- The reference's lists of states: V of a valid vector. -/
import Derived.Test.YtgmgmkhcadimjaaDoorTextA
import Derived.Test.YtgmgmkhcadimjaaDoorPut3
namespace Go.Proofs.YtgmgmkhcadimjaaDoor
open Go Go.RowKit
set_option linter.unusedVariables false
/-- the states of the first k bits, the lowest first -/
def vl (a : Vx) (k : Nat) : List UInt8 := (List.range k).map (st a)
theorem vl_succ (a : Vx) (k : Nat) : vl a (k + 1) = vl a k ++ [st a k] := by unfold vl; rw [List.range_succ]; simp
theorem vl_len (a : Vx) (k : Nat) : (vl a k).length = k := by unfold vl; simp
theorem bit_one (v : BitVec 64) (i : Nat) (hi : i < 64) : (v >>> i &&& 1#64 == 1#64) = v.getLsbD i := by
  have e : v >>> i &&& 1#64 = if v.getLsbD i then 1#64 else 0#64 := by
    apply BitVec.eq_of_getLsbD_eq
    intro j hj
    rw [BitVec.getLsbD_and, BitVec.getLsbD_ushiftRight]
    by_cases h0 : j = 0
    · subst h0; cases h : v.getLsbD i <;> simp []
    · have h1 : (1#64).getLsbD j = false := by
        rw [BitVec.getLsbD_one]; simp [h0]
      rw [h1, Bool.and_false]
      split
      · exact h1.symm
      · simp
  rw [e]; cases v.getLsbD i <;> decide
set_option maxRecDepth 100000 in
set_option maxHeartbeats 4000000 in
theorem refV_ok (n : Nat) (a : Vx) (w : World) (ha : a.ok n) :
    Calls Tryd.prog 18 #[.agg #[.int .i64 n, .int .u64 (U a.v), .int .u64 (U a.x)]] w fun e w' => ∃ v, e = .returned v ∧ w'.ownsRow (w.heap.size + 1) 5 1 v n (Lib.byteCells (vl a n)) ∧ Below w.heap.size w w' := by
  have h1 := ha.lo
  have h2 := ha.hi
  obtain ⟨i0, hi, hz0, hz1, hz2⟩ := info_parts info5
  go_enter Tryd.func18, Tryd.ntmps18
  go_wp2_with fail
  have X : (w.alloc (Obj.cells #[Value.int IntKind.i64 n, Value.int IntKind.u64 (U a.v), Value.int IntKind.u64 (U a.x)] 24)).cell? ⟨w.heap.size, 0, none⟩ = some (.int .i64 n) ∧ (w.alloc (Obj.cells #[Value.int IntKind.i64 n, Value.int IntKind.u64 (U a.v), Value.int IntKind.u64 (U a.x)] 24)).cell? ⟨w.heap.size, 1, none⟩ = some (.int .u64 (U a.v)) ∧ (w.alloc (Obj.cells #[Value.int IntKind.i64 n, Value.int IntKind.u64 (U a.v), Value.int IntKind.u64 (U a.x)] 24)).cell? ⟨w.heap.size, 2, none⟩ = some (.int .u64 (U a.x)) ∧ (w.alloc (Obj.cells #[Value.int IntKind.i64 n, Value.int IntKind.u64 (U a.v), Value.int IntKind.u64 (U a.x)] 24)).heap.size = w.heap.size + 1 ∧ Below w.heap.size w (w.alloc (Obj.cells #[Value.int IntKind.i64 n, Value.int IntKind.u64 (U a.v), Value.int IntKind.u64 (U a.x)] 24)) := ⟨by go_simp, by go_simp, by go_simp, by simp, (Below.refl _ _).alloc (Nat.le_refl _) _⟩
  generalize hW : (w.alloc (Obj.cells #[Value.int IntKind.i64 n, Value.int IntKind.u64 (U a.v), Value.int IntKind.u64 (U a.x)] 24)) = w1 at X ⊢
  clear hW
  obtain ⟨x0, x1, x2, hs1, b1⟩ := X
  have HS1 := Lib.hid hs1
  clear hs1
  go_loopw [3, 8] (fun v i wr => ∃ k : Nat, k ≤ n ∧ i = .int .i64 k ∧ wr.ownsRow w1.heap.size 5 1 v (vl a k).length (Lib.byteCells (vl a k)) ∧ Below w1.heap.size w1 wr) (fun _ i _ => n - (intOf i).toNat)
  case atStart => exact ⟨0, Nat.zero_le _, rfl, World.ownsRow_nil _ _ _ _, Below.refl _ _⟩
  case round =>
    obtain ⟨k, hk, rfl, hown, hlo⟩ := hrel
    have y0 := kcell0 hlo x0
    have y1 := kcell0 hlo x1
    have y2 := kcell0 hlo x2
    have Hlen := Lib.hid (vl_len a k)
    by_cases hlt : k < n
    · have fv := bit_one a.v k (by omega)
      have fx := bit_one a.x k (by omega)
      cases hxb : a.x.getLsbD k
      · cases hvb : a.v.getLsbD k
        · rw [hvb] at fv
          rw [hxb] at fx
          have HC : Lib.byteCells (vl a (k + 1)) = Lib.byteCells (vl a k) ++ [Value.int .u8 48] ∧ (vl a (k + 1)).length = (vl a k).length + 1 := by
            rw [vl_succ]
            have e : st a k = 48 := by unfold st; rw [hxb, hvb]; rfl
            rw [e]; unfold Lib.byteCells; simp
          have HCC := Lib.hid HC
          clear hvb hxb HC
          go_wp2_with (at_builtin; refine wpList_append_own _ rfl _ _ 45 rfl w1.heap.size 5 i0 (.int .u8 0) 1 1 Tryd.underlying45 hi hz0 hz1 hz2 rfl (by decide) _ _ _ rfl (hown.alloc _) ⟨wr.heap.size, 0, none⟩ 1 1 [.int .u8 48] rfl rfl ?d1 ?d2 ?d3 ?d4 ?d5 ?_)
          case d1 =>
            intro q u hq
            match q, hq with
            | 0, hq => simp at hq; subst hq; simp [Addr.add]
          case d2 => intro u hu; simp at hu; subst hu; rfl
          case d3 => unfold maxLen; rw [Hlen.out]; omega
          case d4 => rw [Hlen.out]; omega
          case d5 => have := hlo.size; simp; omega
          intro v5 w5 hown5 hgr5 _
          have T : w5.ownsRow w1.heap.size 5 1 v5 (vl a (k + 1)).length (Lib.byteCells (vl a (k + 1))) ∧ Below w1.heap.size w1 w5 := by
            rw [HCC.out.1, HCC.out.2]
            exact ⟨hown5, (hlo.alloc hlo.size _).grown hgr5 (by have := hlo.size; simp; omega) (fun k hk => (hown.lt k hk).1)⟩
          clear hown5 hgr5
          go_wp2_with fail
          go_roundw
          case rel => exact ⟨k + 1, by omega, by go_num, T⟩
          case measure => simp [intOf]; omega
        · rw [hvb] at fv
          rw [hxb] at fx
          have HC : Lib.byteCells (vl a (k + 1)) = Lib.byteCells (vl a k) ++ [Value.int .u8 49] ∧ (vl a (k + 1)).length = (vl a k).length + 1 := by
            rw [vl_succ]
            have e : st a k = 49 := by unfold st; rw [hxb, hvb]; rfl
            rw [e]; unfold Lib.byteCells; simp
          have HCC := Lib.hid HC
          clear hvb hxb HC
          go_wp2_with (at_builtin; refine wpList_append_own _ rfl _ _ 45 rfl w1.heap.size 5 i0 (.int .u8 0) 1 1 Tryd.underlying45 hi hz0 hz1 hz2 rfl (by decide) _ _ _ rfl (hown.alloc _) ⟨wr.heap.size, 0, none⟩ 1 1 [.int .u8 49] rfl rfl ?d1 ?d2 ?d3 ?d4 ?d5 ?_)
          case d1 =>
            intro q u hq
            match q, hq with
            | 0, hq => simp at hq; subst hq; simp [Addr.add]
          case d2 => intro u hu; simp at hu; subst hu; rfl
          case d3 => unfold maxLen; rw [Hlen.out]; omega
          case d4 => rw [Hlen.out]; omega
          case d5 => have := hlo.size; simp; omega
          intro v5 w5 hown5 hgr5 _
          have T : w5.ownsRow w1.heap.size 5 1 v5 (vl a (k + 1)).length (Lib.byteCells (vl a (k + 1))) ∧ Below w1.heap.size w1 w5 := by
            rw [HCC.out.1, HCC.out.2]
            exact ⟨hown5, (hlo.alloc hlo.size _).grown hgr5 (by have := hlo.size; simp; omega) (fun k hk => (hown.lt k hk).1)⟩
          clear hown5 hgr5
          go_wp2_with fail
          go_roundw
          case rel => exact ⟨k + 1, by omega, by go_num, T⟩
          case measure => simp [intOf]; omega
      · cases hvb : a.v.getLsbD k
        · rw [hvb] at fv
          rw [hxb] at fx
          have HC : Lib.byteCells (vl a (k + 1)) = Lib.byteCells (vl a k) ++ [Value.int .u8 122] ∧ (vl a (k + 1)).length = (vl a k).length + 1 := by
            rw [vl_succ]
            have e : st a k = 122 := by unfold st; rw [hxb, hvb]; rfl
            rw [e]; unfold Lib.byteCells; simp
          have HCC := Lib.hid HC
          clear hvb hxb HC
          go_wp2_with (at_builtin; refine wpList_append_own _ rfl _ _ 45 rfl w1.heap.size 5 i0 (.int .u8 0) 1 1 Tryd.underlying45 hi hz0 hz1 hz2 rfl (by decide) _ _ _ rfl (hown.alloc _) ⟨wr.heap.size, 0, none⟩ 1 1 [.int .u8 122] rfl rfl ?d1 ?d2 ?d3 ?d4 ?d5 ?_)
          case d1 =>
            intro q u hq
            match q, hq with
            | 0, hq => simp at hq; subst hq; simp [Addr.add]
          case d2 => intro u hu; simp at hu; subst hu; rfl
          case d3 => unfold maxLen; rw [Hlen.out]; omega
          case d4 => rw [Hlen.out]; omega
          case d5 => have := hlo.size; simp; omega
          intro v5 w5 hown5 hgr5 _
          have T : w5.ownsRow w1.heap.size 5 1 v5 (vl a (k + 1)).length (Lib.byteCells (vl a (k + 1))) ∧ Below w1.heap.size w1 w5 := by
            rw [HCC.out.1, HCC.out.2]
            exact ⟨hown5, (hlo.alloc hlo.size _).grown hgr5 (by have := hlo.size; simp; omega) (fun k hk => (hown.lt k hk).1)⟩
          clear hown5 hgr5
          go_wp2_with fail
          go_roundw
          case rel => exact ⟨k + 1, by omega, by go_num, T⟩
          case measure => simp [intOf]; omega
        · rw [hvb] at fv
          rw [hxb] at fx
          have HC : Lib.byteCells (vl a (k + 1)) = Lib.byteCells (vl a k) ++ [Value.int .u8 120] ∧ (vl a (k + 1)).length = (vl a k).length + 1 := by
            rw [vl_succ]
            have e : st a k = 120 := by unfold st; rw [hxb, hvb]; rfl
            rw [e]; unfold Lib.byteCells; simp
          have HCC := Lib.hid HC
          clear hvb hxb HC
          go_wp2_with (at_builtin; refine wpList_append_own _ rfl _ _ 45 rfl w1.heap.size 5 i0 (.int .u8 0) 1 1 Tryd.underlying45 hi hz0 hz1 hz2 rfl (by decide) _ _ _ rfl (hown.alloc _) ⟨wr.heap.size, 0, none⟩ 1 1 [.int .u8 120] rfl rfl ?d1 ?d2 ?d3 ?d4 ?d5 ?_)
          case d1 =>
            intro q u hq
            match q, hq with
            | 0, hq => simp at hq; subst hq; simp [Addr.add]
          case d2 => intro u hu; simp at hu; subst hu; rfl
          case d3 => unfold maxLen; rw [Hlen.out]; omega
          case d4 => rw [Hlen.out]; omega
          case d5 => have := hlo.size; simp; omega
          intro v5 w5 hown5 hgr5 _
          have T : w5.ownsRow w1.heap.size 5 1 v5 (vl a (k + 1)).length (Lib.byteCells (vl a (k + 1))) ∧ Below w1.heap.size w1 w5 := by
            rw [HCC.out.1, HCC.out.2]
            exact ⟨hown5, (hlo.alloc hlo.size _).grown hgr5 (by have := hlo.size; simp; omega) (fun k hk => (hown.lt k hk).1)⟩
          clear hown5 hgr5
          go_wp2_with fail
          go_roundw
          case rel => exact ⟨k + 1, by omega, by go_num, T⟩
          case measure => simp [intOf]; omega
    · have hkn : k = n := by omega
      have Hkn := Lib.hid hkn
      clear hkn
      go_wp2_with fail
      go_ret
      refine ⟨_, rfl, ?_, b1.trans (hlo.mono (by have := HS1.out; omega))⟩
      have h := hown
      rw [Hlen.out, HS1.out, Hkn.out] at h
      exact h
end Go.Proofs.YtgmgmkhcadimjaaDoor
