/- The text of a vector.
   The text of a vector: the whole function.
   Three stores into one block; what lay below a call keeps standing.
   The reference's lists of states: V of a valid vector. -/
import Derived.Test.YtpjnjcljaoaceaaApart
import Derived.Lib.AppendStr
import Derived.Laws.IdiomStrings
import Derived.Test.YtpjnjcljaoaceaaVec
namespace Go.Proofs.Ytpjnjcljaoaceaa
open Go Go.RowKit
set_option linter.unusedVariables false
/-- the state of bit i, as a character -/
def st (a : Vx) (i : Nat) : UInt8 := if a.x.getLsbD i then (if a.v.getLsbD i then 120 else 122) else (if a.v.getLsbD i then 49 else 48)
theorem bit_word (a : BitVec 64) (i : Nat) : a >>> i &&& 1#64 = if a.getLsbD i then 1#64 else 0#64 := by
  apply BitVec.eq_of_getLsbD_eq
  intro j hj
  rw [BitVec.getLsbD_and, BitVec.getLsbD_ushiftRight]
  by_cases h0 : j = 0
  · subst h0; cases h : a.getLsbD i <;> simp
  · have : (1#64).getLsbD j = false := by
      rw [BitVec.getLsbD_one]; simp [h0]
    rw [this, Bool.and_false]
    cases a.getLsbD i <;> simp [this]
/-- the states of the highest j bits, the highest one first -/
def hib (n : Nat) (a : Vx) (j : Nat) : List UInt8 := (List.range j).map fun k => st a (n - 1 - k)
theorem hib_succ (n : Nat) (a : Vx) (j : Nat) : hib n a (j + 1) = hib n a j ++ [st a (n - 1 - j)] := by
  unfold hib; rw [List.range_succ, List.map_append]; rfl
theorem hib_len (n : Nat) (a : Vx) (j : Nat) : (hib n a j).length = j := by unfold hib; simp
def txt (n : Nat) (a : Vx) (j : Nat) : List UInt8 := Lib.itoa n ++ [39, 98] ++ hib n a j
theorem info5 : (Try.prog.info? 5).map (fun i => (i.zero, i.size, i.bytes)) = some (some (.int .u8 0), 1, 1) := by kernel_rfl
end Go.Proofs.Ytpjnjcljaoaceaa
namespace Go.Proofs.Ytpjnjcljaoaceaa
open Go Go.RowKit
set_option linter.unusedVariables false
theorem txt_succ (n : Nat) (a : Vx) (j : Nat) : txt n a (j + 1) = txt n a j ++ [st a (n - 1 - j)] := by unfold txt; rw [hib_succ]; simp only [List.append_assoc]
theorem txt_len (n : Nat) (a : Vx) (j : Nat) : (txt n a j).length = (Lib.itoa n).length + 2 + j := by unfold txt; simp [hib_len]; omega
/-- what the loop knows of the bytes that it has collected -/
structure TX (w1 wr : World) (v : Value) (l : List UInt8) : Prop where
  own : wr.ownsRow w1.heap.size 5 1 v l.length (Lib.byteCells l)
  lo : Below w1.heap.size w1 wr
theorem own_below2 {w w' : World} {B : Nat} {e : TypeId} {size : Nat} {v : Value} {n : Nat} {xs : List Value} (h : w.ownsRow B e size v n xs) (hb : Below w.heap.size w w') : w'.ownsRow B e size v n xs :=
  h.kept (row := none) ⟨hb.os, hb.tape, hb.output, hb.size, fun k hk _ => hb.block k hk⟩ (by cases v.ownBlock <;> simp)
theorem own_bytes {w : World} {B : Nat} {v : Value} {l : List UInt8} (h : w.ownsRow B 5 1 v l.length (Lib.byteCells l)) (hl : 0 < l.length) :
    ∃ g cap, v = .slice (some ⟨g, 0, none⟩) l.length cap ∧ ∀ q (hq : q < l.length), w.cell? ((⟨g, 0, none⟩ : Addr).add q) = some (.int .u8 (l[q].toNat : Int)) := by
  have hc := fun g (hg : v.ownBlock = some g) => h.cells hg
  rcases h.2 with ⟨_, h0⟩ | ⟨g, cap, cur, hv, _⟩
  · omega
  · subst hv
    exact ⟨g, cap, rfl, fun q hq => hc g rfl q _ (by simp [Lib.byteCells, hq])⟩
end Go.Proofs.Ytpjnjcljaoaceaa
namespace Go.Proofs.Ytpjnjcljaoaceaa
open Go Go.RowKit
set_option linter.unusedVariables false
theorem ne_off {p o o' : Nat} (h : o ≠ o') : (⟨p, o, none⟩ : Addr) ≠ ⟨p, o', none⟩ := fun e => h (by injection e)
theorem ne_blk {p q o o' : Nat} (h : p ≠ q) : (⟨p, o, none⟩ : Addr) ≠ ⟨q, o', none⟩ := fun e => h (by injection e)
theorem put3 {W : World} {p : Nat} {u0 u1 u2 : Value} (v0 v1 v2 : Value) (h0 : W.cell? ⟨p, 0, none⟩ = some u0) (h1 : W.cell? ⟨p, 1, none⟩ = some u1) (h2 : W.cell? ⟨p, 2, none⟩ = some u2) :
    (((W.setCell ⟨p, 0, none⟩ v0).setCell ⟨p, 1, none⟩ v1).setCell ⟨p, 2, none⟩ v2).cell? ⟨p, 0, none⟩ = some v0 ∧ (((W.setCell ⟨p, 0, none⟩ v0).setCell ⟨p, 1, none⟩ v1).setCell ⟨p, 2, none⟩ v2).cell? ⟨p, 1, none⟩ = some v1 ∧ (((W.setCell ⟨p, 0, none⟩ v0).setCell ⟨p, 1, none⟩ v1).setCell ⟨p, 2, none⟩ v2).cell? ⟨p, 2, none⟩ = some v2 ∧
    (∀ q o, q ≠ p → (((W.setCell ⟨p, 0, none⟩ v0).setCell ⟨p, 1, none⟩ v1).setCell ⟨p, 2, none⟩ v2).cell? ⟨q, o, none⟩ = W.cell? ⟨q, o, none⟩) ∧ (∀ q o, (((W.setCell ⟨p, 0, none⟩ v0).setCell ⟨p, 1, none⟩ v1).setCell ⟨p, 2, none⟩ v2).frozen? ⟨q, o, none⟩ = W.frozen? ⟨q, o, none⟩) := by
  refine ⟨?_, ?_, ?_, fun q o hq => ?_, fun q o => ?_⟩
  · rw [World.cell?_setCell_other _ _ _ _ (ne_off (by decide)), World.cell?_setCell_other _ _ _ _ (ne_off (by decide)), World.cell?_setCell_same _ _ _ h0]
  · rw [World.cell?_setCell_other _ _ _ _ (ne_off (by decide)), World.cell?_setCell_same (u := u1) _ _ _ (by rw [World.cell?_setCell_other _ _ _ _ (ne_off (by decide)), h1])]
  · rw [World.cell?_setCell_same (u := u2) _ _ _ (by rw [World.cell?_setCell_other _ _ _ _ (ne_off (by decide)), World.cell?_setCell_other _ _ _ _ (ne_off (by decide)), h2])]
  · rw [World.cell?_setCell_other _ _ _ _ (ne_blk (Ne.symm hq)), World.cell?_setCell_other _ _ _ _ (ne_blk (Ne.symm hq)), World.cell?_setCell_other _ _ _ _ (ne_blk (Ne.symm hq))]
  · rw [World.frozen?_setCell, World.frozen?_setCell, World.frozen?_setCell]
theorem kcell0 {W w' : World} {p o : Nat} {v : Value} (hb : Below W.heap.size W w') (h : W.cell? ⟨p, o, none⟩ = some v) : w'.cell? ⟨p, o, none⟩ = some v :=
  (hb.cell (p := ⟨p, o, none⟩) (World.block_lt_of_cell? W _ h)).trans h
theorem kfree {W w' : World} {p : Nat} (hb : Below W.heap.size W w') (hp : p < W.heap.size) (h : ∀ o, W.frozen? ⟨p, o, none⟩ = false) : ∀ o, w'.frozen? ⟨p, o, none⟩ = false :=
  fun o => (hb.frozen (p := ⟨p, o, none⟩) hp).trans (h o)
end Go.Proofs.Ytpjnjcljaoaceaa
namespace Go.Proofs.Ytpjnjcljaoaceaa
open Go Go.RowKit
set_option linter.unusedVariables false
/-- the states of the first k bits, the lowest first -/
def vl (a : Vx) (k : Nat) : List UInt8 := (List.range k).map (st a)
theorem vl_succ (a : Vx) (k : Nat) : vl a (k + 1) = vl a k ++ [st a k] := by unfold vl; rw [List.range_succ]; simp
theorem vl_len (a : Vx) (k : Nat) : (vl a k).length = k := by unfold vl; simp
theorem bit_one (v : BitVec 64) (i : Nat) (hi : i < 64) : (v >>> i &&& 1#64 == 1#64) = v.getLsbD i := by
  have e : v >>> i &&& 1#64 = if v.getLsbD i then 1#64 else 0#64 := by
    apply BitVec.eq_of_getLsbD_eq
    intro j hj
    rw [BitVec.getLsbD_and, BitVec.getLsbD_ushiftRight]
    by_cases h0 : j = 0
    · subst h0; cases h : v.getLsbD i <;> simp [h]
    · have h1 : (1#64).getLsbD j = false := by
        rw [BitVec.getLsbD_one]; simp [h0]
      rw [h1, Bool.and_false]
      split
      · exact h1.symm
      · simp
  rw [e]; cases v.getLsbD i <;> decide
end Go.Proofs.Ytpjnjcljaoaceaa
