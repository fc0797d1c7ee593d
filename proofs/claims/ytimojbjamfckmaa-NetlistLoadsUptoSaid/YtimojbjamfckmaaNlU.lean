/- Rows of words as numbers and as bit vectors; the fact of the laws on netlists. No condition. -/
import Derived.Test.YtimojbjamfckmaaNlLk
import Derived.Test.YtimojbjamfckmaaGrCo
namespace Go.Proofs.Ytimojbjamfckmaa
open Go Go.RowKit Go.Sort
set_option linter.unusedVariables false
/-- the fact of the laws -/
def NfC : Prop := ∀ w : World, Calls Try.prog 15 #[] w fun e w' => e = .returned (.bool true) ∧ Below w.heap.size w w'
abbrev encV : Int → List Value := fun n => [.int .u64 n]
theorem lenV (x : BitVec 64) : (encW x).length = 1 := rfl
def isV (L : List Int) : Prop := ∀ n ∈ L, 0 ≤ n ∧ n < 18446744073709551616
theorem colB_V (k : Nat) (b : BitVec 64) : colB k (U b) = b.getLsbD k := by
  unfold colB U
  rw [show (2 : Int) ^ k = ((2 ^ k : Nat) : Int) by push_cast; rfl]
  rw [BitVec.getLsbD, Nat.testBit_eq_decide_div_mod_eq]
  have h : ((b.toNat : Int) / ((2 ^ k : Nat) : Int) % 2 = 1) ↔ b.toNat / 2 ^ k % 2 = 1 := by
    rw [← Int.natCast_ediv]
    omega
  exact decide_eq_decide.2 h
theorem isV_map {L : List Int} (h : isV L) : ∃ V : List (BitVec 64), L = V.map U := by
  refine ⟨L.map (fun n => BitVec.ofInt 64 n), ?_⟩
  rw [List.map_map]
  conv => lhs; rw [← List.map_id L]
  apply List.map_congr_left
  intro n hn
  have := h n hn
  show n = ((BitVec.ofInt 64 n).toNat : Int)
  rw [BitVec.toNat_ofInt]
  omega
theorem isV_U (V : List (BitVec 64)) : isV (V.map U) := by
  intro n hn
  obtain ⟨b, _, rfl⟩ := List.mem_map.1 hn
  have := b.isLt
  unfold U; omega
theorem rowAt_V {V : List (BitVec 64)} {ad : Option Addr} {w : World} : RowAt 1 encV (V.map U) ad w ↔ RowAt 1 encW V ad w := by
  unfold RowAt
  rw [List.length_map]
  have e : ∀ j, j < V.length → encV (V.map U)[j]! = encW V[j]! := fun j hj => by
    rw [getElem!_pos (V.map U) j (by simpa using hj), getElem!_pos V j hj, List.getElem_map]
  constructor
  · rintro (h | ⟨b, o, h1, h2⟩)
    · exact .inl h
    · exact .inr ⟨b, o, h1, fun j hj c x hx => h2 j hj c x (by rw [e j hj]; exact hx)⟩
  · rintro (h | ⟨b, o, h1, h2⟩)
    · exact .inl h
    · exact .inr ⟨b, o, h1, fun j hj c x hx => h2 j hj c x (by rw [← e j hj]; exact hx)⟩
theorem row_V {V : List (BitVec 64)} {v : Value} {w : World} (h : RowOf 1 encW V v w) : RowOf 1 encV (V.map U) v w := by
  obtain ⟨ad, cp, rfl, h1, h2⟩ := h.open'
  exact ⟨ad, cp, by rw [List.length_map], by rw [List.length_map]; exact h1, rowAt_V.2 h2⟩
theorem rowC_V {V : List (BitVec 64)} {v : Value} {w : World} (h : RowC (fun n => Value.int .u64 n) (V.map U) v w) : RowC (fun b => Value.int .u64 (U b)) V v w := by
  obtain ⟨ad, cp, rfl, h1, h2, h3⟩ := h
  exact ⟨ad, cp, by rw [List.length_map], by rw [List.length_map] at h1; exact h1, h2, rowAt_V.1 h3⟩
/-- a lane of words -/
theorem columnW_any (l : List (BitVec 64)) (v : Value) (k : Nat) (hk : k < 64) (hn : l.length ≤ 4000000000) (w : World) (h : RowOf 1 encW l v w) : Calls Try.prog 28 #[v, .int .i64 (k : Int)] w fun e w' => ∃ vo, e = .returned vo ∧ Own w.heap.size 4 (fun b => Value.bool b) w' vo (l.map (·.getLsbD k)) ∧ Below w.heap.size w w' := by
  have H := column_any (l.map U) v k hk (by rw [List.length_map]; exact hn) (isV_U l) w (row_V h)
  have e : (l.map U).map (colB k) = l.map (·.getLsbD k) := by
    rw [List.map_map]
    exact List.map_congr_left (fun b _ => colB_V k b)
  rw [e] at H
  exact H
theorem numL_le (k : Nat) : ∀ l : List (BitVec 64), numL k l < 2 ^ l.length
  | [] => by simp [numL]
  | b :: l => by
    have := numL_le k l
    rw [numL, List.length_cons, Nat.pow_succ]
    split <;> omega
theorem numL_take (k : Nat) (l : List (BitVec 64)) {j : Nat} (hj : j < l.length) : numL k (l.take (j + 1)) = numL k (l.take j) + (if l[j]!.getLsbD k = true then 2 ^ j else 0) := by
  rw [tk1 l hj, numL_app, List.length_take, Nat.min_eq_left (by omega)]
theorem numL_bound (k : Nat) (l : List (BitVec 64)) {j : Nat} (hj : j ≤ l.length) (h : l.length ≤ 6) : numL k (l.take j) < 64 := by
  have := numL_le k (l.take j)
  have e : (l.take j).length ≤ 6 := by rw [List.length_take]; omega
  have : 2 ^ (l.take j).length ≤ 2 ^ 6 := Nat.pow_le_pow_right (by decide) e
  omega
end Go.Proofs.Ytimojbjamfckmaa
