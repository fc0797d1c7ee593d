/- The program's Look: in each lane the bit of the table that the inputs choose. Condition: at most 4,000,000,000 inputs. -/
import Derived.Test.YtimojbjamfckmaaNlRm
import Derived.Test.YtimojbjamfckmaaGrAr
namespace Go.Proofs.Ytimojbjamfckmaa
open Go Go.RowKit Go.Sort
set_option linter.unusedVariables false
abbrev encW : BitVec 64 → List Value := fun b => [.int .u64 (U b)]
/-- the number that the lane k of the inputs makes -/
def numL (k : Nat) : List (BitVec 64) → Nat
  | [] => 0
  | b :: l => (if b.getLsbD k = true then 1 else 0) + 2 * numL k l
def bitsW (f : Nat → Bool) : Nat → BitVec 64
  | 0 => 0#64
  | k + 1 => bitsW f k ||| (if f k = true then 1#64 <<< k else 0#64)
theorem bitsW_get (f : Nat → Bool) (i : Nat) (hi : i < 64) : ∀ n, (bitsW f n).getLsbD i = (decide (i < n) && f i)
  | 0 => by simp [bitsW]
  | k + 1 => by
    have ih := bitsW_get f i hi k
    unfold bitsW
    rw [BitVec.getLsbD_or, ih]
    have h1 : (if f k = true then 1#64 <<< k else 0#64).getLsbD i = (decide (i = k) && f k) := by
      by_cases hf : f k = true
      · rw [if_pos hf, hf, Bool.and_true, BitVec.getLsbD_shiftLeft, decide_eq_true hi, Bool.true_and]
        by_cases e : i = k
        · subst e; simp
        · rw [decide_eq_false e]
          by_cases l : i < k
          · simp [l]
          · have : i - k ≠ 0 := by omega
            simp [this]
      · have hf2 : f k = false := by simpa using hf
        rw [if_neg hf, hf2, Bool.and_false]; simp
    rw [h1]
    by_cases e : i = k
    · subst e; simp
    · by_cases l : i < k
      · have : i < k + 1 := by omega
        simp [e, l, this]
      · have : ¬ i < k + 1 := by omega
        simp [e, l, this]
/-- the value of a gate's output -/
def lookW (t : BitVec 64) (l : List (BitVec 64)) : BitVec 64 := if 6 < l.length then 0#64 else bitsW (fun k => t.getLsbD (numL k l)) 64
theorem numL_app (k : Nat) (b : BitVec 64) : ∀ l : List (BitVec 64), numL k (l ++ [b]) = numL k l + (if b.getLsbD k = true then 2 ^ l.length else 0)
  | [] => by simp [numL]
  | x :: l => by
    rw [List.cons_append, numL, numL_app k b l, numL, List.length_cons, Nat.pow_succ]
    by_cases h : b.getLsbD k = true <;> simp [h] <;> omega
/-- after some inputs: row j holds, in each lane, the bit that these inputs choose among those of the rows from j * 2 ^ (their number) on -/
def LkP (t : BitVec 64) (l : List (BitVec 64)) (N : Nat) (V : List (BitVec 64)) : Prop := ∀ j, j < N → ∀ k, k < 64 → V[j]!.getLsbD k = t.getLsbD (j * 2 ^ l.length + numL k l)
/-- from the row q on they are the same -/
def EqF (q : Nat) (V2 V : List (BitVec 64)) : Prop := ∀ p, q ≤ p → p < 64 → V2[p]! = V[p]!
theorem LkP.step {t : BitVec 64} {l : List (BitVec 64)} {N : Nat} {V : List (BitVec 64)} (h : LkP t l (2 * N) V) (b : BitVec 64) {j k : Nat} (hj : j < N) (hk : k < 64) : ((b &&& V[2 * j + 1]!) ||| (~~~ b &&& V[2 * j]!)).getLsbD k = t.getLsbD (j * 2 ^ (l ++ [b]).length + numL k (l ++ [b])) := by
  have h1 := h (2 * j + 1) (by omega) k hk
  have h0 := h (2 * j) (by omega) k hk
  rw [BitVec.getLsbD_or, BitVec.getLsbD_and, BitVec.getLsbD_and, BitVec.getLsbD_not, h1, h0, numL_app, List.length_append]
  simp only [List.length_singleton, Nat.pow_succ, decide_eq_true hk, Bool.true_and]
  generalize numL k l = n
  generalize 2 ^ l.length = A
  have e : j * (A * 2) = 2 * (j * A) := by rw [Nat.mul_comm A 2, Nat.mul_left_comm]
  have e2 : 2 * j * A = 2 * (j * A) := Nat.mul_assoc ..
  rw [Nat.add_mul, e2, e]
  by_cases hb : b.getLsbD k = true
  · simp only [hb, if_true, Bool.true_and, Bool.not_true, Bool.false_and, Bool.or_false]
    congr 1
    omega
  · simp only [hb, Bool.false_and, Bool.not_false, Bool.true_and, Bool.false_or, Nat.add_zero, Bool.false_eq_true, if_false]
/-- the rows are so in the array of the block g -/
structure LkI (w : World) (t : BitVec 64) (l : List (BitVec 64)) (g N : Nat) (V : List (BitVec 64)) (wr : World) : Prop where
  len : V.length = 64
  lk : LkP t l N V
  arr : Arr 133 (fun b : BitVec 64 => Value.int .u64 (U b)) g V wr
  bel : Below w.heap.size w wr
theorem LkP.look {t : BitVec 64} {l : List (BitVec 64)} {V : List (BitVec 64)} (hl : ¬ 6 < l.length) (h : LkP t l 1 V) : V[0]! = lookW t l := by
  unfold lookW
  rw [if_neg hl]
  apply BitVec.eq_of_getLsbD_eq
  intro i hi
  rw [h 0 (by omega) i hi, bitsW_get _ i hi, decide_eq_true hi, Bool.true_and, Nat.zero_mul, Nat.zero_add]
/-- all bits, or none -/
def allB (b : Bool) : BitVec 64 := if b = true then BitVec.allOnes 64 else 0#64
theorem bit_one (t : BitVec 64) (k : Nat) : (t >>> k) &&& 1#64 = if t.getLsbD k = true then 1#64 else 0#64 := by
  apply BitVec.eq_of_getLsbD_eq
  intro i hi
  rw [BitVec.getLsbD_and, BitVec.getLsbD_ushiftRight]
  by_cases h0 : i = 0
  · subst h0; by_cases hb : t.getLsbD k = true <;> simp [hb]
  · have : (1#64).getLsbD i = false := by simp [h0]
    rw [this, Bool.and_false]
    by_cases hb : t.getLsbD k = true <;> simp [hb, h0]
theorem neg_bit (t : BitVec 64) (k : Nat) : -((t >>> k) &&& 1#64) = allB (t.getLsbD k) := by
  rw [bit_one]
  unfold allB
  by_cases hb : t.getLsbD k = true
  · rw [if_pos hb, if_pos hb]; decide
  · rw [if_neg hb, if_neg hb]; decide
theorem allB_get (b : Bool) (k : Nat) (hk : k < 64) : (allB b).getLsbD k = b := by
  unfold allB
  cases b
  · simp
  · rw [if_pos rfl, BitVec.getLsbD_allOnes, decide_eq_true hk]
theorem U_neg (a : BitVec 64) : IntKind.u64.wrap (-(U a)) = U (-a) := by
  have ha := a.isLt
  unfold U
  rw [IntKind.wrap_u64, BitVec.toNat_neg]
  omega
theorem set_get (V : List (BitVec 64)) (k j : Nat) (x : BitVec 64) (hk : k < V.length) (hj : j < V.length) : (V.set k x)[j]! = if j = k then x else V[j]! := by
  rw [getElem!_pos _ j (by simpa using hj), getElem!_pos V j hj, List.getElem_set]
  by_cases e : k = j
  · rw [if_pos e, if_pos e.symm]
  · rw [if_neg e, if_neg (fun h => e h.symm)]
theorem notU2 (a : BitVec 64) : bits BinOp.xor IntKind.u64 18446744073709551615 (U a) = U (~~~ a) := by
  have h := U_xor (BitVec.allOnes 64) a
  rw [show U (BitVec.allOnes 64) = 18446744073709551615 from rfl, BitVec.allOnes_xor] at h
  exact h
set_option maxRecDepth 100000 in
set_option maxHeartbeats 4000000 in
theorem look_any (t : BitVec 64) (l : List (BitVec 64)) (v : Value) (hn : l.length ≤ 4000000000) (w : World) (hR : RowOf 1 encW l v w) : Calls Try.prog 27 #[.int .u64 (U t), v] w fun e w' => e = .returned (.int .u64 (U (lookW t l))) ∧ Below w.heap.size w w' := by
  obtain ⟨ad, cp, rfl, hcp, R⟩ := hR.open'
  clear hR
  by_cases q6 : 6 < l.length
  · have HE : Hid (lookW t l = 0#64) := Lib.hid (if_pos q6)
    have q7 : (6 : Int) < (l.length : Int) := by omega
    go_enter Try.func27, Try.ntmps27
    go_wp2_with fail
    go_ret
    exact ⟨ret_u (by rw [HE.out]; rfl), Below.refl _ _⟩
  have q7 : ¬ (6 : Int) < (l.length : Int) := by omega
  have key : ∀ M N : Nat, M = l.length → M ≤ 6 → N = 2 ^ M → N ≤ 64 → wrap64 (2 ^ M) = (N : Int) → Calls Try.prog 27 #[.int .u64 (U t), .slice ad M cp] w fun e w' => e = .returned (.int .u64 (U (lookW t l))) ∧ Below w.heap.size w w' := by
    intro M N hM hM6 hN hN64 hs
    have HM := Lib.hid hM
    have HN := Lib.hid hN
    have q8 : ¬ (6 : Int) < (M : Int) := by omega
    have HL := Lib.hid (fun V h => LkP.look (t := t) (l := l) (V := V) q6 h)
    clear q6 q7 hM hN
    go_enter Try.func27, Try.ntmps27
    go_upto_region 4 with fail
    have A0 : Arr 133 (fun b : BitVec 64 => Value.int .u64 (U b)) w.heap.size (List.replicate 64 0#64) (w.alloc (.cells #[.int .u64 0, .int .u64 0, .int .u64 0, .int .u64 0, .int .u64 0, .int .u64 0, .int .u64 0, .int .u64 0, .int .u64 0, .int .u64 0, .int .u64 0, .int .u64 0, .int .u64 0, .int .u64 0, .int .u64 0, .int .u64 0, .int .u64 0, .int .u64 0, .int .u64 0, .int .u64 0, .int .u64 0, .int .u64 0, .int .u64 0, .int .u64 0, .int .u64 0, .int .u64 0, .int .u64 0, .int .u64 0, .int .u64 0, .int .u64 0, .int .u64 0, .int .u64 0, .int .u64 0, .int .u64 0, .int .u64 0, .int .u64 0, .int .u64 0, .int .u64 0, .int .u64 0, .int .u64 0, .int .u64 0, .int .u64 0, .int .u64 0, .int .u64 0, .int .u64 0, .int .u64 0, .int .u64 0, .int .u64 0, .int .u64 0, .int .u64 0, .int .u64 0, .int .u64 0, .int .u64 0, .int .u64 0, .int .u64 0, .int .u64 0, .int .u64 0, .int .u64 0, .int .u64 0, .int .u64 0, .int .u64 0, .int .u64 0, .int .u64 0, .int .u64 0] 133)) := ⟨by show (w.heap.push _)[w.heap.size]? = _; simp [U]⟩
    have bel := (Below.refl w.heap.size w).alloc (Nat.le_refl _) (.cells #[.int .u64 0, .int .u64 0, .int .u64 0, .int .u64 0, .int .u64 0, .int .u64 0, .int .u64 0, .int .u64 0, .int .u64 0, .int .u64 0, .int .u64 0, .int .u64 0, .int .u64 0, .int .u64 0, .int .u64 0, .int .u64 0, .int .u64 0, .int .u64 0, .int .u64 0, .int .u64 0, .int .u64 0, .int .u64 0, .int .u64 0, .int .u64 0, .int .u64 0, .int .u64 0, .int .u64 0, .int .u64 0, .int .u64 0, .int .u64 0, .int .u64 0, .int .u64 0, .int .u64 0, .int .u64 0, .int .u64 0, .int .u64 0, .int .u64 0, .int .u64 0, .int .u64 0, .int .u64 0, .int .u64 0, .int .u64 0, .int .u64 0, .int .u64 0, .int .u64 0, .int .u64 0, .int .u64 0, .int .u64 0, .int .u64 0, .int .u64 0, .int .u64 0, .int .u64 0, .int .u64 0, .int .u64 0, .int .u64 0, .int .u64 0, .int .u64 0, .int .u64 0, .int .u64 0, .int .u64 0, .int .u64 0, .int .u64 0, .int .u64 0, .int .u64 0] 133)
    have R0 := Lib.hid (fun W (hb : Below w.heap.size w W) => R.below hb)
    generalize w.alloc (.cells #[.int .u64 0, .int .u64 0, .int .u64 0, .int .u64 0, .int .u64 0, .int .u64 0, .int .u64 0, .int .u64 0, .int .u64 0, .int .u64 0, .int .u64 0, .int .u64 0, .int .u64 0, .int .u64 0, .int .u64 0, .int .u64 0, .int .u64 0, .int .u64 0, .int .u64 0, .int .u64 0, .int .u64 0, .int .u64 0, .int .u64 0, .int .u64 0, .int .u64 0, .int .u64 0, .int .u64 0, .int .u64 0, .int .u64 0, .int .u64 0, .int .u64 0, .int .u64 0, .int .u64 0, .int .u64 0, .int .u64 0, .int .u64 0, .int .u64 0, .int .u64 0, .int .u64 0, .int .u64 0, .int .u64 0, .int .u64 0, .int .u64 0, .int .u64 0, .int .u64 0, .int .u64 0, .int .u64 0, .int .u64 0, .int .u64 0, .int .u64 0, .int .u64 0, .int .u64 0, .int .u64 0, .int .u64 0, .int .u64 0, .int .u64 0, .int .u64 0, .int .u64 0, .int .u64 0, .int .u64 0, .int .u64 0, .int .u64 0, .int .u64 0, .int .u64 0] 133) = W1 at A0 bel ⊢
    generalize hg : w.heap.size = g at A0 ⊢
    have HG := Lib.hid hg
    clear hg R
    go_upto_block 0 with fail
    rw [hs]
    clear hs
    go_wp2_with fail
    go_loopw [18] (fun i wr => ∃ (j : Nat) (V : List (BitVec 64)), j ≤ N ∧ i = .int .i64 (j : Int) ∧ Hid (V.length = 64) ∧ Hid (∀ q, q < j → V[q]! = allB (t.getLsbD q)) ∧ Hid (Arr 133 (fun b : BitVec 64 => Value.int .u64 (U b)) g V wr) ∧ Hid (Below w.heap.size w wr)) (fun i _ => N - (intOf i).toNat)
    case atStart => exact ⟨0, _, Nat.zero_le _, rfl, Lib.hid (by simp), Lib.hid (fun q hq => by omega), Lib.hid A0, Lib.hid bel⟩
    case round =>
      clear A0
      obtain ⟨j, V, hj, rfl, hV, hP, hA, hB⟩ := hrel
      rename World => WR
      have hj0 : (0 : Int) ≤ (j : Int) := by omega
      by_cases hlt : j < N
      · have hji : (j : Int) < (N : Int) := by omega
        have hj64 : (j : Int) < 64 := by omega
        have c0 := hA.out.cell (j := j) (by rw [hV.out]; omega)
        have f0 := hA.out.free j
        have A2 : Arr 133 (fun b : BitVec 64 => Value.int .u64 (U b)) g (V.set j (allB (t.getLsbD j))) (WR.setCell ⟨g, j, none⟩ (.int .u64 (IntKind.u64.wrap (-U (t >>> j &&& 1#64))))) := by
          rw [U_neg, neg_bit]; exact hA.out.set j _
        have B2 := hB.out.setCell (p := ⟨g, j, none⟩) (by have := HG.out; show w.heap.size ≤ g; omega) (.int .u64 (IntKind.u64.wrap (-U (t >>> j &&& 1#64))))
        have HA2 := Lib.hid A2
        have HB2 := Lib.hid B2
        have HV2 := Lib.hid (show (V.set j (allB (t.getLsbD j))).length = 64 by rw [List.length_set]; exact hV.out)
        have HP2 := Lib.hid (show ∀ q, q < j + 1 → (V.set j (allB (t.getLsbD j)))[q]! = allB (t.getLsbD q) by
          intro q hq
          rw [set_get V j q _ (by rw [hV.out]; omega) (by rw [hV.out]; omega)]
          by_cases e : q = j
          · rw [if_pos e, e]
          · rw [if_neg e]; exact hP.out q (by omega))
        clear A2 B2 hA hB hP hV
        go_wp2_with fail
        go_roundw
        case rel => exact ⟨j + 1, _, by omega, by go_num, HV2, HP2, HA2, HB2⟩
        all_goals first | done | (simp [intOf]; done) | (simp [intOf]; omega)
      · have hji : ¬ (j : Int) < (N : Int) := by omega
        have HP0 := Lib.hid (show LkP t [] N V by
          intro q hq k hk
          rw [hP.out q (by omega), allB_get _ k hk]
          simp [numL])
        have hNM := HN.out
        clear hP
        have H1 := Lib.hid (show ∃ V : List (BitVec 64), V.length = 64 ∧ LkP t [] N V ∧ Arr 133 (fun b : BitVec 64 => Value.int .u64 (U b)) g V WR from ⟨V, hV.out, HP0.out, hA.out⟩)
        have HB1 := Lib.hid hB.out
        clear hA hB HP0 hV
        have hr : N = 2 ^ (M - 0) := by rw [hNM]; rfl
        have HR0 := Lib.hid hr
        clear hr hNM
        go_upto_block 2 with fail
        go_wp2_with fail
        go_loopw [6, 31] (fun u i wr => ∃ (j r : Nat), j ≤ M ∧ r ≤ 64 ∧ u = .int .i64 (r : Int) ∧ i = .int .i64 (j : Int) ∧ Hid (r = 2 ^ (M - j)) ∧ Hid (∃ V, LkI w t (l.take j) g r V wr)) (fun _ i _ => M - (intOf i).toNat)
        case atStart =>
          obtain ⟨V, h1, h2, h3⟩ := H1.out
          exact ⟨0, N, Nat.zero_le _, hN64, rfl, rfl, HR0, Lib.hid ⟨V, h1, h2, h3, HB1.out⟩⟩
        case round =>
          clear H1 HB1 HR0
          obtain ⟨j, r, hj, hr64, rfl, rfl, hR, hI⟩ := hrel
          obtain ⟨V, hV0, hP0, hA0, hB0⟩ := hI.out
          have hV := Lib.hid hV0
          have hP := Lib.hid hP0
          have hA := Lib.hid hA0
          have hB := Lib.hid hB0
          clear hI hV0 hP0 hA0 hB0
          rename World => WR
          have hj0 : (0 : Int) ≤ (j : Int) := by omega
          by_cases hlt : j < M
          · have hji : (j : Int) < (M : Int) := by omega
            have hjl : j < l.length := by have := HM.out; omega
            obtain ⟨s, hs⟩ : ∃ s, r = 2 * s ∧ s = 2 ^ (M - (j + 1)) := ⟨2 ^ (M - (j + 1)), by rw [hR.out, show M - j = M - (j + 1) + 1 by omega, Nat.pow_succ, Nat.mul_comm], rfl⟩
            obtain ⟨hs1, hs2⟩ := hs
            have HS := Lib.hid hs2
            have hs32 : s ≤ 32 := by omega
            obtain ⟨bb, oo, hdd, hcell⟩ := (R0.out _ hB.out).pick (by omega)
            subst hdd
            have c0 := hcell j hjl 0 _ rfl
            simp only [Nat.mul_one, Nat.add_zero] at c0
            clear hcell hs2
            have HT := Lib.hid (tk1 l hjl)
            generalize l[j]! = b at c0 HT
            subst hs1
            go_upto_block 4 with fail
            clear c0
            go_wp2_with fail
            go_loopw [38] (fun i wr => ∃ (q : Nat), q ≤ s ∧ i = .int .i64 (q : Int) ∧ Hid (∃ V2, LkI w t (l.take (j + 1)) g q V2 wr ∧ EqF q V2 V)) (fun i _ => s - (intOf i).toNat)
            case atStart => exact ⟨0, Nat.zero_le _, rfl, Lib.hid ⟨V, ⟨hV.out, fun p hp => by omega, hA.out, hB.out⟩, fun p _ _ => rfl⟩⟩
            case round =>
              clear hA hB
              obtain ⟨q, hq, rfl, hI⟩ := hrel
              obtain ⟨V2, ⟨hV0, hP0, hA0, hB0⟩, hE0⟩ := hI.out
              have hV2 := Lib.hid hV0
              have hL2 := Lib.hid hP0
              have hA := Lib.hid hA0
              have hB := Lib.hid hB0
              have hE2 := Lib.hid hE0
              clear hI hV0 hP0 hA0 hB0 hE0
              rename World => WS
              have hq0 : (0 : Int) ≤ (q : Int) := by omega
              by_cases hlq : q < s
              · have hqi : (q : Int) < (s : Int) := by omega
                have hq64 : 2 * (q : Int) + 1 < 64 := by omega
                have w1 : IntKind.i64.wrap (2 * (q : Int)) = 2 * (q : Int) := IntWalk.i64_in _ (by omega)
                have w2 : IntKind.i64.wrap (2 * (q : Int) + 1) = 2 * (q : Int) + 1 := IntWalk.i64_in _ (by omega)
                have c1 := hA.out.cell (j := 2 * q + 1) (by rw [hV2.out]; omega)
                have c2 := hA.out.cell (j := 2 * q) (by rw [hV2.out]; omega)
                have f0 := hA.out.free q
                have HX := Lib.hid (show ∀ k, k < 64 → ((b &&& V2[2 * q + 1]!) ||| (~~~ b &&& V2[2 * q]!)).getLsbD k = t.getLsbD (q * 2 ^ (l.take (j + 1)).length + numL k (l.take (j + 1))) by
                  intro k hk
                  rw [hE2.out _ (by omega) (by omega), hE2.out _ (by omega) (by omega), HT.out]
                  exact LkP.step hP.out b hlq hk)
                have hn : bits BinOp.xor IntKind.u64 IntKind.u64.max (U b) = U (~~~ b) := notU2 b
                generalize V2[2 * q + 1]! = y1 at c1 HX
                generalize V2[2 * q]! = y0 at c2 HX
                rw [show 2 * q + 1 = (2 * (q : Int) + 1).toNat by omega] at c1
                rw [show 2 * q = (2 * (q : Int)).toNat by omega] at c2
                have p1 : 0 ≤ 2 * (q : Int) + 1 := by omega
                have p0 : 0 ≤ 2 * (q : Int) := by omega
                have p2 : 2 * (q : Int) < 64 := by omega
                have p3 : (q : Int) < 64 := by omega
                go_upto_region 17 with fail
                have HBS := Lib.hid (fun d os => below_regrown WS d os)
                have g1 := cell_regrown c1
                have g2 := cell_regrown c2
                have HA3 := Lib.hid (fun W (hb : Below WS.heap.size WS W) => hA.out.below hb)
                have HB3 := Lib.hid (fun W (hb : Below WS.heap.size WS W) => hB.out.trans (hb.mono hB.out.size))
                clear c1 c2 f0 hA hB
                refine wp_region_rel 17 (by kernel_rfl) (by kernel_rfl) ?_
                simp only [List.take_succ_cons, List.take_zero, List.drop_succ_cons, List.drop_zero]
                (refine rel_fix0 (fun K hK => ?_); go_simp; refine hK _ ?_; clear hK K)
                (refine rel_fix0 (fun K hK => ?_); go_simp; refine hK _ ?_; clear hK K)
                (refine rel_fix0 (fun K hK => ?_); go_simp; refine hK _ ?_; clear hK K)
                (refine rel_fix0 (fun K hK => ?_); go_simp; refine hK _ ?_; clear hK K)
                (refine rel_fix0 (fun K hK => ?_); go_simp; refine hK _ ?_; clear hK K)
                (refine rel_fix0 (fun K hK => ?_); go_simp; refine hK _ ?_; clear hK K)
                (refine rel_fix0 (fun K hK => ?_); go_simp; refine hK _ ?_; clear hK K)
                (refine rel_fix0 (fun K hK => ?_); go_simp; refine hK _ ?_; clear hK K)
                (refine rel_fix0 (fun K hK => ?_); go_simp; refine hK _ ?_; clear hK K)
                (refine rel_fix0 (fun K hK => ?_); go_simp; refine hK _ ?_; clear hK K)
                (refine rel_fix0 (fun K hK => ?_); go_simp; refine hK _ ?_; clear hK K)
                (refine rel_fix0 (fun K hK => ?_); go_simp; refine hK _ ?_; clear hK K)
                (refine rel_fix0 (fun K hK => ?_); go_simp; refine hK _ ?_; clear hK K)
                (refine rel_fix0 (fun K hK => ?_); go_simp; refine hK _ ?_; clear hK K)
                (refine rel_fix0 (fun K hK => ?_); go_simp; refine hK _ ?_; clear hK K)
                (refine rel_fix0 (fun K hK => ?_); go_simp; refine hK _ ?_; clear hK K)
                (refine rel_fix0 (fun K hK => ?_); go_simp; refine hK _ ?_; clear hK K)
                refine rel_nil ?_
                intro d os
                simp only [relAll]
                have HA4 := Lib.hid (HA3.out _ (HBS.out d os))
                have HB4 := Lib.hid (HB3.out _ (HBS.out d os))
                clear g1 g2 HBS HA3 HB3
                generalize grow (redrawn WS d) os = W5 at HA4 HB4 ⊢
                have c0 := HA4.out.cell (j := q) (by rw [hV2.out]; omega)
                have f0 := HA4.out.free q
                have A2 := HA4.out.set q ((b &&& y1) ||| (~~~ b &&& y0))
                have B2 := HB4.out.setCell (p := ⟨g, q, none⟩) (by have := HG.out; show w.heap.size ≤ g; omega) (.int .u64 (U ((b &&& y1) ||| (~~~ b &&& y0))))
                have HA2 := Lib.hid A2
                have HB2 := Lib.hid B2
                have HV3 := Lib.hid (show (V2.set q ((b &&& y1) ||| (~~~ b &&& y0))).length = 64 by rw [List.length_set]; exact hV2.out)
                have HL3 := Lib.hid (show LkP t (l.take (j + 1)) (q + 1) (V2.set q ((b &&& y1) ||| (~~~ b &&& y0))) by
                  intro p hp k hk
                  rw [set_get V2 q p _ (by rw [hV2.out]; omega) (by rw [hV2.out]; omega)]
                  by_cases e : p = q
                  · rw [if_pos e, e]; exact HX.out k hk
                  · rw [if_neg e]; exact hL2.out p (by omega) k hk)
                have HE3 := Lib.hid (show EqF (q + 1) (V2.set q ((b &&& y1) ||| (~~~ b &&& y0))) V by
                  intro p h1 h2
                  rw [set_get V2 q p _ (by rw [hV2.out]; omega) (by rw [hV2.out]; omega), if_neg (by omega)]
                  exact hE2.out p (by omega) h2)
                have HI3 := Lib.hid (show ∃ V2, LkI w t (l.take (j + 1)) g (q + 1) V2 _ ∧ EqF (q + 1) V2 V from ⟨_, ⟨HV3.out, HL3.out, A2, B2⟩, HE3.out⟩)
                clear A2 B2 HA4 HB4 hV2 hL2 hE2 HX HV3 HL3 HE3 HA2 HB2
                go_wp2_with fail
                go_roundw
                case rel => exact ⟨q + 1, by omega, by go_num, HI3⟩
                all_goals first | done | (simp [intOf]; done) | (simp [intOf]; omega)
              · have hqi : ¬ (q : Int) < (s : Int) := by omega
                obtain rfl : q = s := by omega
                have hsr : q ≤ 64 := by omega
                clear hP hV hE2
                go_wp2_with fail
                go_roundw
                case rel => exact ⟨j + 1, q, by omega, hsr, rfl, by go_num, HS, Lib.hid ⟨V2, hV2.out, hL2.out, hA.out, hB.out⟩⟩
                all_goals first | done | (simp [intOf]; done) | (simp [intOf]; omega)
          · have hji : ¬ (j : Int) < (M : Int) := by omega
            have hr1 := Lib.hid (show r = 1 by rw [hR.out, show M - j = 0 by omega])
            have hP2 := hP.out
            rw [hr1.out, List.take_of_length_le (by have := HM.out; omega)] at hP2
            have HE := Lib.hid (HL.out V hP2)
            have c0 := hA.out.cell (j := 0) (by rw [hV.out]; omega)
            rw [HE.out] at c0
            clear hP2
            go_wp2_with fail
            go_ret
            exact ⟨rfl, hB.out⟩
  have hc : l.length = 0 ∨ l.length = 1 ∨ l.length = 2 ∨ l.length = 3 ∨ l.length = 4 ∨ l.length = 5 ∨ l.length = 6 := by omega
  rcases hc with h | h | h | h | h | h | h
  · exact h ▸ key 0 1 h.symm (by decide) (by decide) (by decide) (by unfold wrap64; decide)
  · exact h ▸ key 1 2 h.symm (by decide) (by decide) (by decide) (by unfold wrap64; decide)
  · exact h ▸ key 2 4 h.symm (by decide) (by decide) (by decide) (by unfold wrap64; decide)
  · exact h ▸ key 3 8 h.symm (by decide) (by decide) (by decide) (by unfold wrap64; decide)
  · exact h ▸ key 4 16 h.symm (by decide) (by decide) (by decide) (by unfold wrap64; decide)
  · exact h ▸ key 5 32 h.symm (by decide) (by decide) (by decide) (by unfold wrap64; decide)
  · exact h ▸ key 6 64 h.symm (by decide) (by decide) (by decide) (by unfold wrap64; decide)
end Go.Proofs.Ytimojbjamfckmaa
