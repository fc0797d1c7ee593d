/- A lane of words, the faults of a trace: the reference.
   The faults of a trace: the reference. -/
import Derived.Test.YtcpifmhcebfglaaGrAp
import Derived.Test.YtcpifmhcebfglaaGrHt
namespace Go.Proofs.Ytcpifmhcebfglaa
open Go Go.RowKit Go.Sort
set_option linter.unusedVariables false
/-- the bit of a word -/
def colB (k : Nat) (n : Int) : Bool := decide (n / 2 ^ k % 2 = 1)
theorem bandu (n : Int) (k : Nat) (h0 : 0 ≤ n) (h1 : n < 18446744073709551616) : (bits BinOp.and IntKind.u64 (n / 2 ^ k) 1 == 1) = colB k n := by
  have hp : (0 : Int) < 2 ^ k := Int.pow_pos (by decide)
  have hm0 : 0 ≤ n / 2 ^ k := Int.ediv_nonneg h0 (by omega)
  have hm1 : n / 2 ^ k ≤ n := Int.ediv_le_self _ h0
  unfold colB
  generalize n / 2 ^ k = m at hm0 hm1
  have e : bits BinOp.and IntKind.u64 m 1 = m % 2 := by
    show IntKind.u64.wrap (((BitVec.ofInt 64 m &&& BitVec.ofInt 64 1).toNat : Nat) : Int) = _
    rw [BitVec.toNat_and, show (BitVec.ofInt 64 1).toNat = 1 from rfl, Nat.and_one_is_mod, BitVec.toNat_ofInt, IntKind.wrap_u64]
    omega
  rw [e]
  by_cases h : m % 2 = 1 <;> simp [h]
end Go.Proofs.Ytcpifmhcebfglaa
namespace Go.Proofs.Ytcpifmhcebfglaa
open Go Go.RowKit Go.Sort
set_option linter.unusedVariables false
/-- a row of rows of bits -/
def TR (l : List (List Bool)) (v : Value) (w : World) : Prop :=
  ∃ ad cap, ∃ vs : List Value, v = .slice ad l.length cap ∧ l.length ≤ cap ∧ (ad = none → cap = 0) ∧ vs.length = l.length ∧ RowAt 1 (fun v => [v]) vs ad w ∧ ∀ j, j < l.length → RowC (fun b => Value.bool b) l[j]! vs[j]! w
theorem TR.below {l : List (List Bool)} {v : Value} {w w' : World} (h : TR l v w) (hb : Below w.heap.size w w') : TR l v w' := by
  obtain ⟨ad, cap, vs, h1, h2, h3, h4, h5, h6⟩ := h
  exact ⟨ad, cap, vs, h1, h2, h3, h4, h5.below hb, fun j hj => (h6 j hj).below hb⟩
def tfR (n : Nat) : List (List Bool) → Int
  | [] => 0
  | r :: l => if r.length = n then tfR n l else 20
def tfL (l : List (List Bool)) (n : Nat) : Int := if 64 < l.length then 3 else tfR n l
theorem drop_get {α : Type} [Inhabited α] (l : List α) {j : Nat} (h : j < l.length) : l.drop j = l[j]! :: l.drop (j + 1) := by
  rw [getElem!_pos l j h]; exact List.drop_eq_getElem_cons h
set_option maxRecDepth 100000 in
set_option maxHeartbeats 4000000 in
theorem traceFault_any (l : List (List Bool)) (v : Value) (n : Nat) (hn : l.length ≤ 4000000000) (w : World) (h : TR l v w) : Calls Try.prog 57 #[v, .int .i64 (n : Int)] w fun e w' => e = .returned (.int .i64 (tfL l n)) ∧ Below w.heap.size w w' := by
  obtain ⟨ad1, c1, vs, rfl, k1, m1, hvl, r1, hrow⟩ := h
  by_cases hbig : 64 < l.length
  · have HT := Lib.hid (show tfL l n = 3 by unfold tfL; rw [if_pos hbig])
    have hbi : (64 : Int) < (l.length : Int) := by omega
    go_enter Try.func57, Try.ntmps57
    go_wp2_with fail
    go_ret
    exact ⟨by rw [HT.out]; rfl, Below.refl _ _⟩
  · have HT := Lib.hid (show tfL l n = tfR n l by unfold tfL; rw [if_neg hbig])
    have hbi : ¬ (64 : Int) < (l.length : Int) := by omega
    go_enter Try.func57, Try.ntmps57
    go_upto_block 0 with fail
    go_wp2_with fail
    go_loopw [12] (fun i wr => ∃ j : Nat, j ≤ l.length ∧ i = .int .i64 (j : Int) ∧ Hid (tfR n (l.drop j) = tfR n l) ∧ Hid (Below w.heap.size w wr)) (fun i _ => l.length - (intOf i).toNat)
    case atStart => exact ⟨0, Nat.zero_le _, rfl, Lib.hid rfl, Lib.hid (Below.refl _ _)⟩
    case round =>
      obtain ⟨j, hj, rfl, hE, hB⟩ := hrel
      rename World => WR
      have hj0 : (0 : Int) ≤ (j : Int) := by omega
      by_cases hlt : j < l.length
      · have hji : (j : Int) < (l.length : Int) := by omega
        have HD := Lib.hid (show tfR n (l.drop j) = if l[j]!.length = n then tfR n (l.drop (j + 1)) else 20 by rw [drop_get l hlt]; rfl)
        obtain ⟨adj, cpj, hv, _⟩ := hrow j hlt
        obtain ⟨bb, oo, rfl, hcell⟩ := (r1.below hB.out).pick (by omega)
        have c0 := hcell j (by omega) 0 _ rfl
        simp only [Nat.mul_one, Nat.add_zero] at c0
        rw [hv] at c0
        clear hcell hrow hv
        generalize l[j]!.length = m at c0 HD
        by_cases hm : m = n
        · have HE := Lib.hid (show tfR n (l.drop (j + 1)) = tfR n l by rw [← hE.out, HD.out, if_pos hm])
          subst hm
          go_wp2_with fail
          go_roundw
          case rel => exact ⟨j + 1, by omega, by go_num, HE, hB⟩
          all_goals first | done | (simp [intOf]; done) | (simp [intOf]; omega)
        · have HE := Lib.hid (show tfL l n = 20 by rw [HT.out, ← hE.out, HD.out, if_neg hm])
          have hm1 : ¬ (m : Int) = (n : Int) := by omega
          have hm2 : ((m : Int) == (n : Int)) = false := beq_eq_false_iff_ne.2 hm1
          have hm3 : ((m : Int) != (n : Int)) = true := by simp [bne, hm2]
          clear hm
          go_wp2_with fail
          go_ret
          exact ⟨by rw [HE.out]; rfl, hB.out⟩
      · have hji : ¬ (j : Int) < (l.length : Int) := by omega
        have HE := Lib.hid (show tfL l n = 0 by rw [HT.out, ← hE.out, List.drop_of_length_le (by omega)]; rfl)
        go_wp2_with fail
        go_ret
        exact ⟨by rw [HE.out]; rfl, hB.out⟩
end Go.Proofs.Ytcpifmhcebfglaa
