/- Parts of vectors: cutting, joining, putting. No program here. -/
import Derived.Test.YtmaokbdjahgkiaaGreatDoorArith
namespace Go.Proofs.YtmaokbdjahgkiaaGreatDoor
open Go Go.RowKit
set_option linter.unusedVariables false
def vslice (at_ k : Nat) (a : Vx) : Vx := ⟨a.v >>> at_ &&& msk k, a.x >>> at_ &&& msk k⟩
def vcut (m : Nat) (a : Vx) : Vx := ⟨a.v &&& msk m, a.x &&& msk m⟩
def vext (n m : Nat) (a : Vx) : Vx := ⟨ext n a.v &&& msk m, ext n a.x &&& msk m⟩
def vcat (m : Nat) (c b : Vx) : Vx := ⟨c.v <<< m ||| b.v, c.x <<< m ||| b.x⟩
def plcd (n m k : Nat) : BitVec 64 := msk m >>> k &&& msk n
def vputd (n m : Nat) (a : Vx) (k : Nat) (p : Vx) : Vx := ⟨a.v &&& ~~~plcd n m k ||| p.v >>> k &&& plcd n m k, a.x &&& ~~~plcd n m k ||| p.x >>> k &&& plcd n m k⟩
theorem vslice_ok {k : Nat} (h1 : 1 ≤ k) (h : k ≤ 64) (at_ : Nat) (a : Vx) : (vslice at_ k a).ok k := ok_mk h1 h (sub_and' (sub_msk h)) (sub_and' (sub_msk h))
theorem vcut_ok {m : Nat} (h1 : 1 ≤ m) (h : m ≤ 64) (a : Vx) : (vcut m a).ok m := ok_mk h1 h (sub_and' (sub_msk h)) (sub_and' (sub_msk h))
theorem vext_ok {m : Nat} (h1 : 1 ≤ m) (h : m ≤ 64) (n : Nat) (a : Vx) : (vext n m a).ok m := ok_mk h1 h (sub_and' (sub_msk h)) (sub_and' (sub_msk h))
theorem vputd_ok {n m : Nat} {a : Vx} (ha : a.ok n) (k : Nat) (p : Vx) : (vputd n m a k p).ok n :=
  ok_mk ha.lo ha.hi (sub_or (sub_and ha.subv) (sub_and' (sub_and' (sub_msk ha.hi)))) (sub_or (sub_and ha.subx) (sub_and' (sub_and' (sub_msk ha.hi))))
theorem sub_shl {m k n : Nat} {o : BitVec 64} (h : Sub k o) (hm : k + m ≤ n) : Sub n (o <<< m) := fun i hi => by
  rw [BitVec.getLsbD_shiftLeft, h (i - m) (by omega), Bool.and_false]
theorem sub_le {m n : Nat} {o : BitVec 64} (h : Sub m o) (hm : m ≤ n) : Sub n o := fun i hi => h i (by omega)
theorem vcat_ok {m k n : Nat} {c b : Vx} (hc : Sub k c.v) (hc' : Sub k c.x) (hb : b.ok m) (hn : k + m = n) (h : n ≤ 64) : (vcat m c b).ok n := by
  have h1 := hb.lo
  exact ok_mk (by omega) h (sub_or (sub_shl hc (by omega)) (sub_le hb.subv (by omega))) (sub_or (sub_shl hc' (by omega)) (sub_le hb.subx (by omega)))
theorem whole_one {n : Nat} {a : Vx} : vcat n ⟨0#64, 0#64⟩ a = a := by
  unfold vcat; simp
theorem whole_cut {n : Nat} {a : Vx} (h : a.ok n) : vcut n a = a := by
  refine Vx.same (vcut_ok h.lo h.hi _) h ?_
  intro i hi; simp [vcut, msk_bit h.hi, hi]
theorem ext_bit {n : Nat} (h1 : 1 ≤ n) (h : n ≤ 64) (v : BitVec 64) (i : Nat) (hi : i < n) : (ext n v).getLsbD i = v.getLsbD i := by
  have := congrArg (fun a : Vx => a.v.getLsbD i) (kv_ext h1 h v)
  simpa [kv, msk_bit h, hi] using this
theorem whole_ext {n : Nat} {a : Vx} (h : a.ok n) : vext n n a = a := by
  refine Vx.same (vext_ok h.lo h.hi _ _) h ?_
  intro i hi; simp [vext, msk_bit h.hi, hi, ext_bit h.lo h.hi _ i hi]
theorem whole_two {n k : Nat} {a : Vx} (h : a.ok n) (h1 : 1 ≤ k) (h2 : k < n) : vcat k (vslice k (n - k) a) (vslice 0 k a) = a := by
  have h64 := h.hi
  have s := vslice_ok (k := n - k) (by omega) (by omega) k a
  refine Vx.same (vcat_ok s.subv s.subx (vslice_ok h1 (by omega) 0 a) (by omega) h.hi) h ?_
  intro i hi
  have hk : k ≤ 64 := by omega
  have hk2 : n - k ≤ 64 := by omega
  by_cases c : i < k
  · simp [vcat, vslice, msk_bit hk, c]
  · simp only [vcat, vslice, BitVec.getLsbD_or, BitVec.getLsbD_and, BitVec.getLsbD_shiftLeft, BitVec.getLsbD_ushiftRight, msk_bit hk, msk_bit hk2, c, show i < 64 by omega, show i - k < n - k by omega, show k + (i - k) = i by omega, decide_true, decide_false, Bool.true_and, Bool.and_true, Bool.and_false, Bool.or_false, Bool.not_false, and_self]
theorem whole_low {k : Nat} {a : Vx} : vcut k a = vslice 0 k a := by
  unfold vcut vslice; simp
theorem whole_high {n k : Nat} {a : Vx} (h : a.ok n) (h1 : 1 ≤ k) (h2 : k < n) : vputd (n - k) n (fl (n - k) 3) k a = vslice k (n - k) a := by
  have h64 := h.hi
  have hk2 : n - k ≤ 64 := by omega
  refine Vx.same (vputd_ok (fl_ok (by omega) hk2 3) k a) (vslice_ok (by omega) hk2 k a) ?_
  intro i hi
  simp [vputd, plcd, vslice, fl, msk_bit h.hi, msk_bit hk2, hi, show k + i < n by omega, show i < 64 by omega]
end Go.Proofs.YtmaokbdjahgkiaaGreatDoor
