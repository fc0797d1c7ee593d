/- The reference's B: the vector of a list of states. -/
import Derived.Test.YtmaokbdjahgkiaaGreatDoorRefs
import Derived.RegionTactic
namespace Go.Proofs.YtmaokbdjahgkiaaGreatDoor
open Go Go.RowKit
set_option linter.unusedVariables false
def isV (c : UInt8) : Bool := c == 49 || c == 120
def isX (c : UInt8) : Bool := c == 120 || c == 122
/-- the words of the first k states -/
def bvw (l : List UInt8) : Nat → BitVec 64
  | 0 => 0#64
  | k + 1 => if isV (l.getD k 0) then bvw l k ||| (1#64 <<< k) else bvw l k
def bxw (l : List UInt8) : Nat → BitVec 64
  | 0 => 0#64
  | k + 1 => if isX (l.getD k 0) then bxw l k ||| (1#64 <<< k) else bxw l k
theorem one_shl_bit (k i : Nat) : (1#64 <<< k).getLsbD i = (decide (i < 64) && decide (i = k)) := by
  rw [BitVec.getLsbD_shiftLeft]
  by_cases hi : i < 64
  · by_cases hk : i = k
    · subst hk; simp [hi]
    · by_cases h2 : i < k
      · simp [hi, h2, hk]
      · have h3 : i - k ≠ 0 := by omega
        simp [hi, h2, hk, h3]
  · simp [hi]
theorem bvw_bit (l : List UInt8) (k i : Nat) : (bvw l k).getLsbD i = (decide (i < 64) && decide (i < k) && isV (l.getD i 0)) := by
  induction k with
  | zero => simp [bvw]
  | succ k ih =>
    simp only [bvw]
    split
    · rename_i h
      rw [BitVec.getLsbD_or, ih, one_shl_bit]
      by_cases e : i = k
      · subst e; rw [h]; simp
      · have : decide (i < k + 1) = decide (i < k) := by apply decide_eq_decide.2; omega
        rw [this]; simp [e]
    · rename_i h
      rw [ih]
      by_cases e : i = k
      · subst e
        have : isV (l.getD i 0) = false := by simpa using h
        rw [this]; simp
      · have : decide (i < k + 1) = decide (i < k) := by apply decide_eq_decide.2; omega
        rw [this]
theorem bxw_bit (l : List UInt8) (k i : Nat) : (bxw l k).getLsbD i = (decide (i < 64) && decide (i < k) && isX (l.getD i 0)) := by
  induction k with
  | zero => simp [bxw]
  | succ k ih =>
    simp only [bxw]
    split
    · rename_i h
      rw [BitVec.getLsbD_or, ih, one_shl_bit]
      by_cases e : i = k
      · subst e; rw [h]; simp
      · have : decide (i < k + 1) = decide (i < k) := by apply decide_eq_decide.2; omega
        rw [this]; simp [e]
    · rename_i h
      rw [ih]
      by_cases e : i = k
      · subst e
        have : isX (l.getD i 0) = false := by simpa using h
        rw [this]; simp
      · have : decide (i < k + 1) = decide (i < k) := by apply decide_eq_decide.2; omega
        rw [this]
theorem vl_get (a : Vx) (n i : Nat) (h : i < n) : (vl a n).getD i 0 = st a i := by
  unfold vl; rw [List.getD_eq_getElem?_getD, List.getElem?_map, List.getElem?_range h]; rfl
theorem st_V (a : Vx) (i : Nat) : isV (st a i) = a.v.getLsbD i := by
  unfold st isV; cases a.x.getLsbD i <;> cases a.v.getLsbD i <;> decide
theorem st_X (a : Vx) (i : Nat) : isX (st a i) = a.x.getLsbD i := by
  unfold st isX; cases a.x.getLsbD i <;> cases a.v.getLsbD i <;> decide
/-- a valid vector's list of states gives the vector again -/
theorem bvw_vl {n : Nat} {a : Vx} (ha : a.ok n) : bvw (vl a n) n = a.v := by
  apply BitVec.eq_of_getLsbD_eq
  intro i hi
  rw [bvw_bit]
  by_cases h : i < n
  · rw [vl_get a n i h, st_V]; simp [hi, h]
  · rw [ha.subv i (by omega)]; simp [h]
theorem bxw_vl {n : Nat} {a : Vx} (ha : a.ok n) : bxw (vl a n) n = a.x := by
  apply BitVec.eq_of_getLsbD_eq
  intro i hi
  rw [bxw_bit]
  by_cases h : i < n
  · rw [vl_get a n i h, st_X]; simp [hi, h]
  · rw [ha.subx i (by omega)]; simp [h]
theorem one_wrap (k : Nat) : IntKind.u64.wrap (2 ^ k) = U (1#64 <<< k) := by
  have := U_shl 1#64 k
  rw [← this]; congr 1; show _ = 1 * _; omega
theorem Box.put1 {w : World} {p : Nat} {n v x : Int} (h : Box w p n v x) (u : Int) : Box (w.setCell ⟨p, 1, none⟩ (.int .u64 u)) p n u x := by
  obtain ⟨h0, h1, h2, hf⟩ := h
  exact ⟨by go_simp, by go_simp, by go_simp, fun o => by go_simp⟩
theorem Box.put2 {w : World} {p : Nat} {n v x : Int} (h : Box w p n v x) (u : Int) : Box (w.setCell ⟨p, 2, none⟩ (.int .u64 u)) p n v u := by
  obtain ⟨h0, h1, h2, hf⟩ := h
  exact ⟨by go_simp, by go_simp, by go_simp, fun o => by go_simp⟩
theorem Box.far {w : World} {p q o : Nat} {n v x : Int} (h : Box w p n v x) (hne : p ≠ q) (u : Value) : Box (w.setCell ⟨q, o, none⟩ u) p n v x := by
  obtain ⟨h0, h1, h2, hf⟩ := h
  exact ⟨by go_simp, by go_simp, by go_simp, fun o => by go_simp⟩
theorem Box.drew {w : World} {p : Nat} {n v x : Int} (h : Box w p n v x) : Box w.drew p n v x := by
  obtain ⟨h0, h1, h2, hf⟩ := h
  exact ⟨by go_simp, by go_simp, by go_simp, fun o => by go_simp⟩
/-- what the loop of B knows -/
structure BB (w : World) (n : Nat) (v x : BitVec 64) (wr : World) : Prop where
  g : Box wr (w.heap.size + 1) n (U v) (U x)
  r : Box wr w.heap.size 0 0 0
  lo : Below w.heap.size w wr
theorem BB.putV {w wr : World} {n : Nat} {v x v' : BitVec 64} (h : BB w n v x wr) : BB w n v' x (wr.setCell ⟨w.heap.size + 1, 1, none⟩ (.int .u64 (U v'))).drew :=
  ⟨(h.g.put1 _).drew, (h.r.far (by omega) _).drew, (h.lo.setCell (Nat.le_succ _) _).drew⟩
theorem BB.putX {w wr : World} {n : Nat} {v x x' : BitVec 64} (h : BB w n v x wr) : BB w n v x' (wr.setCell ⟨w.heap.size + 1, 2, none⟩ (.int .u64 (U x'))).drew :=
  ⟨(h.g.put2 _).drew, (h.r.far (by omega) _).drew, (h.lo.setCell (Nat.le_succ _) _).drew⟩
end Go.Proofs.YtmaokbdjahgkiaaGreatDoor
