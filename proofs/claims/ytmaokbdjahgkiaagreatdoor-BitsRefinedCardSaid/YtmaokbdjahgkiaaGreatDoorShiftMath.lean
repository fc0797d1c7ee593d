/- Shifts of vectors: the states of what is moved. No condition. -/
import Derived.Test.YtmaokbdjahgkiaaGreatDoorRefB2

namespace Go.Proofs.YtmaokbdjahgkiaaGreatDoor
open Go Go.RowKit
set_option linter.unusedVariables false
/-- the states that are moved by k -/
def movF (l : List UInt8) (k : Nat) (up : Bool) (f : UInt8) (i : Nat) : UInt8 :=
  if up then (if k ≤ i then l.getD (i - k) 0 else f) else (if i + k < l.length then l.getD (i + k) 0 else f)
def movL (l : List UInt8) (k : Nat) (up : Bool) (f : UInt8) : List UInt8 := (List.range l.length).map (movF l k up f)
def vshr (n : Nat) (a : Vx) (k : Nat) : Vx := ⟨a.v >>> k &&& msk n, a.x >>> k &&& msk n⟩
def vsar (n : Nat) (a : Vx) (k : Nat) : Vx := ⟨(ext n a.v).sshiftRight k &&& msk n, (ext n a.x).sshiftRight k &&& msk n⟩
theorem vshr_ok {n : Nat} (h1 : 1 ≤ n) (h2 : n ≤ 64) (a : Vx) (k : Nat) : (vshr n a k).ok n := ok_mk h1 h2 (sub_and' (sub_msk h2)) (sub_and' (sub_msk h2))
theorem vsar_ok {n : Nat} (h1 : 1 ≤ n) (h2 : n ≤ 64) (a : Vx) (k : Nat) : (vsar n a k).ok n := ok_mk h1 h2 (sub_and' (sub_msk h2)) (sub_and' (sub_msk h2))
theorem vshl_okv {n : Nat} (h1 : 1 ≤ n) (h2 : n ≤ 64) (a : Vx) (k : Nat) : (vshl n a k).ok n := ok_mk h1 h2 (sub_and' (sub_msk h2)) (sub_and' (sub_msk h2))
theorem st_eq {a b : Vx} {i j : Nat} (h1 : a.v.getLsbD i = b.v.getLsbD j) (h2 : a.x.getLsbD i = b.x.getLsbD j) : st a i = st b j := by unfold st; rw [h1, h2]
theorem map_vl2 {n : Nat} {b : Vx} {f : Nat → UInt8} (h : ∀ i, i < n → f i = st b i) : (List.range n).map f = vl b n := by
  unfold vl; exact List.map_congr_left fun i hi => h i (List.mem_range.1 hi)
theorem st_zero {a : Vx} {i : Nat} (h1 : a.v.getLsbD i = false) (h2 : a.x.getLsbD i = false) : st a i = 48 := by unfold st; rw [h1, h2]; rfl
theorem shl_vl {n : Nat} (a : Vx) (h2 : n ≤ 64) (k : Nat) : movL (vl a n) (min k 64) true 48 = vl (vshl n a k) n := by
  unfold movL; rw [vl_len]
  refine map_vl2 fun i hi => ?_
  have e : ∀ w : BitVec 64, (w <<< k &&& msk n).getLsbD i = (!decide (i < k) && w.getLsbD (i - k)) := fun w => by
    rw [BitVec.getLsbD_and, msk_bit h2, BitVec.getLsbD_shiftLeft, decide_eq_true hi, decide_eq_true (show i < 64 by omega)]; simp
  unfold movF
  rw [if_pos rfl]
  by_cases h : min k 64 ≤ i
  · rw [if_pos h, vl_get a n _ (by omega)]
    have hk : min k 64 = k := by omega
    rw [hk] at h ⊢
    refine st_eq ?_ ?_
    · show _ = (a.v <<< k &&& msk n).getLsbD i
      rw [e, decide_eq_false (by omega)]; rfl
    · show _ = (a.x <<< k &&& msk n).getLsbD i
      rw [e, decide_eq_false (by omega)]; rfl
  · rw [if_neg h]
    refine (st_zero ?_ ?_).symm
    · show (a.v <<< k &&& msk n).getLsbD i = false
      rw [e, decide_eq_true (by omega)]; rfl
    · show (a.x <<< k &&& msk n).getLsbD i = false
      rw [e, decide_eq_true (by omega)]; rfl
theorem shr_vl {n : Nat} {a : Vx} (ha : a.ok n) (k : Nat) : movL (vl a n) (min k 64) false 48 = vl (vshr n a k) n := by
  have h2 := ha.hi
  unfold movL; rw [vl_len]
  refine map_vl2 fun i hi => ?_
  have e : ∀ w : BitVec 64, (w >>> k &&& msk n).getLsbD i = w.getLsbD (k + i) := fun w => by
    rw [BitVec.getLsbD_and, msk_bit h2, BitVec.getLsbD_ushiftRight, decide_eq_true hi]; simp
  unfold movF
  rw [if_neg (by decide), vl_len]
  by_cases h : i + min k 64 < n
  · rw [if_pos h, vl_get a n _ h]
    have hk : min k 64 = k := by omega
    rw [hk, Nat.add_comm i k]
    exact st_eq (e a.v).symm (e a.x).symm
  · rw [if_neg h]
    refine (st_zero ?_ ?_).symm
    · show (a.v >>> k &&& msk n).getLsbD i = false
      rw [e]; exact ha.subv _ (by omega)
    · show (a.x >>> k &&& msk n).getLsbD i = false
      rw [e]; exact ha.subx _ (by omega)
theorem ext_sgn {n : Nat} (h1 : 1 ≤ n) (h2 : n ≤ 64) (v : BitVec 64) {i : Nat} (hi : i < 64) : (ext n v).getLsbD i = v.getLsbD (min i (n - 1)) := by
  unfold ext
  rw [BitVec.getLsbD_sshiftRight, decide_eq_false (show ¬ 64 ≤ i by omega)]
  by_cases h : i < n
  · rw [if_pos (show 64 - n + i < 64 by omega), BitVec.getLsbD_shiftLeft, decide_eq_true (show 64 - n + i < 64 by omega), decide_eq_false (show ¬ 64 - n + i < 64 - n by omega), show min i (n - 1) = i by omega, show 64 - n + i - (64 - n) = i by omega]; rfl
  · rw [if_neg (show ¬ 64 - n + i < 64 by omega), BitVec.msb_eq_getLsbD_last, BitVec.getLsbD_shiftLeft, decide_eq_true (show 64 - 1 < 64 by omega), decide_eq_false (show ¬ 64 - 1 < 64 - n by omega), show min i (n - 1) = n - 1 by omega, show 64 - 1 - (64 - n) = n - 1 by omega]; rfl
theorem sar_vl {n : Nat} (a : Vx) (h1 : 1 ≤ n) (h2 : n ≤ 64) (k : Nat) : movL (vl a n) (min k 64) false (st a (n - 1)) = vl (vsar n a k) n := by
  unfold movL; rw [vl_len]
  refine map_vl2 fun i hi => ?_
  have e : ∀ w : BitVec 64, ((ext n w).sshiftRight k &&& msk n).getLsbD i = w.getLsbD (min (k + i) (n - 1)) := fun w => by
    rw [BitVec.getLsbD_and, msk_bit h2, BitVec.getLsbD_sshiftRight, decide_eq_true hi, decide_eq_false (show ¬ 64 ≤ i by omega)]
    by_cases h : k + i < 64
    · rw [if_pos h, ext_sgn h1 h2 w h]; simp
    · rw [if_neg h, BitVec.msb_eq_getLsbD_last, ext_sgn h1 h2 w (by omega), show min (64 - 1) (n - 1) = n - 1 by omega, show min (k + i) (n - 1) = n - 1 by omega]; simp
  unfold movF
  rw [if_neg (by decide), vl_len]
  by_cases h : i + min k 64 < n
  · rw [if_pos h, vl_get a n _ h]
    have hk : min k 64 = k := by omega
    rw [hk, show i + k = min (k + i) (n - 1) by omega]
    exact st_eq (e a.v).symm (e a.x).symm
  · rw [if_neg h]
    have hm : n - 1 = min (k + i) (n - 1) := by omega
    rw [hm]
    exact st_eq (e a.v).symm (e a.x).symm
end Go.Proofs.YtmaokbdjahgkiaaGreatDoor
