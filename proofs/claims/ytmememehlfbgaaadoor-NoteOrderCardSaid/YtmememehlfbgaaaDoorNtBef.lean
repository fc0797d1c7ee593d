/- The reference's NoteBefore. No condition. -/
import Derived.Test.YtmememehlfbgaaaDoorNtOrd
import Derived.Sort.Walk0
namespace Go.Proofs.YtmememehlfbgaaaDoor
open Go Go.RowKit Go.Sort Go.Lib
set_option linter.unusedVariables false
theorem bytes_self (a : List UInt8) : Lib.compareBytes a a = 0 := bytes_tc.self a
theorem int_zero {x y : Int} (h : Lib.compareInt x y = 0) : x = y := int_tc.zero _ _ h
theorem int_self (x : Int) : Lib.compareInt x x = 0 := int_tc.self x
theorem ltN_is_if (x y : Nt) : ltN x y = if x.f = y.f then (if x.l = y.l then (if x.c = y.c then (if x.e = y.e then decide (Lib.compareBytes x.t.data.toList y.t.data.toList < 0) else decide (x.e < y.e)) else decide (x.c < y.c)) else decide (x.l < y.l)) else decide (Lib.compareBytes x.f.data.toList y.f.data.toList < 0) := by
  unfold ltN
  rw [cmpN_x]
  unfold cmpX lexC
  show decide ((if Lib.compareBytes x.f.data.toList y.f.data.toList = 0 then (if Lib.compareInt x.l y.l = 0 then (if Lib.compareInt x.c y.c = 0 then (if Lib.compareInt x.e y.e = 0 then Lib.compareBytes x.t.data.toList y.t.data.toList else Lib.compareInt x.e y.e) else Lib.compareInt x.c y.c) else Lib.compareInt x.l y.l) else Lib.compareBytes x.f.data.toList y.f.data.toList) < 0) = _
  by_cases h1 : x.f = y.f
  · rw [if_pos h1, h1, if_pos (bytes_self _)]
    by_cases h2 : x.l = y.l
    · rw [if_pos h2, h2, if_pos (int_self _)]
      by_cases h3 : x.c = y.c
      · rw [if_pos h3, h3, if_pos (int_self _)]
        by_cases h4 : x.e = y.e
        · rw [if_pos h4, h4, if_pos (int_self _)]
        · rw [if_neg h4, if_neg (fun e => h4 (int_zero e))]
          exact decide_eq_decide.2 (int_lt _ _)
      · rw [if_neg h3, if_neg (fun e => h3 (int_zero e))]
        exact decide_eq_decide.2 (int_lt _ _)
    · rw [if_neg h2, if_neg (fun e => h2 (int_zero e))]
      exact decide_eq_decide.2 (int_lt _ _)
  · rw [if_neg h1, if_neg (fun e => h1 (bytes_ext (bytes_tc.zero _ _ e)))]
theorem less_is : ∀ a b : List UInt8, Op.bytesLess a b = decide (Lib.compareBytes a b < 0)
  | [], [] => rfl
  | [], _ :: _ => rfl
  | _ :: _, [] => rfl
  | x :: a, y :: b => by
    unfold Op.bytesLess Lib.compareBytes
    by_cases h1 : x < y
    · simp [h1]
    · by_cases h2 : y < x
      · have ne : ¬ x = y := fun e => by subst e; exact h1 h2
        simp [h1, h2, ne]
      · have e : x = y := by
          apply UInt8.toNat_inj.1
          rw [u8_lt] at h1 h2; omega
        subst e
        simp [h1, less_is a b]
set_option maxHeartbeats 1000000 in
theorem before_ok (x y : Nt) (w : World) : Calls Tryd.prog 12 #[.agg (encN x).toArray, .agg (encN y).toArray] w fun e w' => e = .returned (.bool (ltN x y)) ∧ Below w.heap.size w w' := by
  have HR := Lib.hid (ltN_is_if x y)
  generalize ltN x y = r at HR ⊢
  obtain ⟨xf, xl, xc, xe, xt⟩ := x
  obtain ⟨yf, yl, yc, ye, yt⟩ := y
  show Calls Tryd.prog 12 #[.agg #[.string xf, .int .i64 xl, .int .i64 xc, .int .i64 xe, .string xt], .agg #[.string yf, .int .i64 yl, .int .i64 yc, .int .i64 ye, .string yt]] w _
  by_cases h1 : xf = yf
  rotate_left
  · have g1 : (xf.toList == yf.toList) = false := by
      rw [ByteArray.toList_eq, ByteArray.toList_eq, beq_eq_false_iff_ne]; exact fun e => h1 (bytes_ext e)
    have e : r = decide (Lib.compareBytes xf.data.toList yf.data.toList < 0) := HR.out.trans (if_neg h1)
    clear HR
    go_enter Tryd.func12, Tryd.ntmps12
    go_wp2_with fail
    go_ret
    exact ⟨by rw [e, ← less_is, ← ByteArray.toList_eq, ← ByteArray.toList_eq]; rfl, ((Below.refl _ _).alloc (Nat.le_refl _) _).alloc (by simp) _⟩
  subst h1
  by_cases h2 : xl = yl
  rotate_left
  · have e : r = decide (xl < yl) := HR.out.trans ((if_pos rfl).trans (if_neg h2))
    clear HR
    go_enter Tryd.func12, Tryd.ntmps12
    go_wp2_with fail
    go_ret
    exact ⟨by rw [e]; rfl, ((Below.refl _ _).alloc (Nat.le_refl _) _).alloc (by simp) _⟩
  subst h2
  by_cases h3 : xc = yc
  rotate_left
  · have e : r = decide (xc < yc) := HR.out.trans ((if_pos rfl).trans ((if_pos rfl).trans (if_neg h3)))
    clear HR
    go_enter Tryd.func12, Tryd.ntmps12
    go_wp2_with fail
    go_ret
    exact ⟨by rw [e]; rfl, ((Below.refl _ _).alloc (Nat.le_refl _) _).alloc (by simp) _⟩
  subst h3
  by_cases h4 : xe = ye
  rotate_left
  · have e : r = decide (xe < ye) := HR.out.trans ((if_pos rfl).trans ((if_pos rfl).trans ((if_pos rfl).trans (if_neg h4))))
    clear HR
    go_enter Tryd.func12, Tryd.ntmps12
    go_wp2_with fail
    go_ret
    exact ⟨by rw [e]; rfl, ((Below.refl _ _).alloc (Nat.le_refl _) _).alloc (by simp) _⟩
  subst h4
  have e : r = decide (Lib.compareBytes xt.data.toList yt.data.toList < 0) := HR.out.trans ((if_pos rfl).trans ((if_pos rfl).trans ((if_pos rfl).trans (if_pos rfl))))
  clear HR
  go_enter Tryd.func12, Tryd.ntmps12
  go_wp2_with fail
  go_ret
  exact ⟨by rw [e, ← less_is, ← ByteArray.toList_eq, ← ByteArray.toList_eq]; rfl, ((Below.refl _ _).alloc (Nat.le_refl _) _).alloc (by simp) _⟩
end Go.Proofs.YtmememehlfbgaaaDoor
