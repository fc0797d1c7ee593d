/- The reference's functions on lists of states: Known, Truth, Fill. -/
import Derived.Test.YtmaokbdjahgkiaaGreatDoorRefV
import Derived.ChangeAlike
namespace Go.Proofs.YtmaokbdjahgkiaaGreatDoor
open Go Go.RowKit
set_option linter.unusedVariables false
/-- a slice of bytes that reads as a list -/
structure Row8 (w : World) (v : Value) (l : List UInt8) : Prop where
  sh : ∃ a cap, v = .slice a l.length cap ∧ (l.length = 0 ∨ ∃ bl off, a = some ⟨bl, off, none⟩ ∧ ∀ q (hq : q < l.length), w.cell? ⟨bl, off + q, none⟩ = some (.int .u8 (l[q].toNat : Int)))
  cp : ∀ a n c, v = .slice a n c → n ≤ c
theorem Row8.below {w w' : World} {v : Value} {l : List UInt8} (h : Row8 w v l) (hb : Below w.heap.size w w') : Row8 w' v l := by
  refine ⟨?_, h.cp⟩
  obtain ⟨a, cap, rfl, h0 | ⟨bl, off, rfl, hc⟩⟩ := h.sh
  · exact ⟨a, cap, rfl, Or.inl h0⟩
  · exact ⟨_, cap, rfl, Or.inr ⟨bl, off, rfl, fun q hq => (hb.cell (p := ⟨bl, off + q, none⟩) (World.block_lt_of_cell? w _ (hc q hq))).trans (hc q hq)⟩⟩
theorem own_cap {w : World} {B n : Nat} {e : TypeId} {v : Value} {xs : List Value} (h : w.ownsRow B e 1 v n xs) : ∀ a m c, v = .slice a m c → m ≤ c := by
  rintro a m c rfl
  rcases h.2 with ⟨he, _⟩ | ⟨g, cap, cur, he, _, _, hc, _⟩
  · injection he with _ e2 e3; omega
  · injection he with _ e2 e3; omega
theorem row8_own {w : World} {B : Nat} {v : Value} {l : List UInt8} (h : w.ownsRow B 5 1 v l.length (Lib.byteCells l)) : Row8 w v l := by
  refine ⟨?_, own_cap h⟩
  rcases Nat.eq_zero_or_pos l.length with h0 | hl
  · rcases h.2 with ⟨rfl, _⟩ | ⟨g, cap, cur, hv, _⟩
    · exact ⟨none, 0, by rw [h0], Or.inl h0⟩
    · exact ⟨_, _, hv, Or.inl h0⟩
  · obtain ⟨g, cap, rfl, hc⟩ := own_bytes h hl
    refine ⟨_, cap, rfl, Or.inr ⟨g, 0, rfl, fun q hq => ?_⟩⟩
    have h2 := hc q hq
    by_cases hq0 : q = 0
    · subst hq0; simpa [Addr.add] using h2
    · simpa [Addr.add, hq0] using h2
def knownL (l : List UInt8) : Bool := l.all fun c => c == 48 || c == 49
theorem knownL_out {l : List UInt8} {k : Nat} (h : k < l.length) (h1 : l[k] ≠ 48) (h2 : l[k] ≠ 49) : knownL l = false := by
  cases e : knownL l
  · rfl
  · unfold knownL at e
    have := List.all_eq_true.1 e l[k] (List.getElem_mem h)
    simp at this
    rcases this with h3 | h3
    · exact absurd h3 h1
    · exact absurd h3 h2
theorem knownL_snoc {l : List UInt8} {k : Nat} (h : k < l.length) (h0 : knownL (l.take k) = true) (h1 : l[k] = 48 ∨ l[k] = 49) : knownL (l.take (k + 1)) = true := by
  rw [List.take_succ_eq_append_getElem h]
  unfold knownL at h0 ⊢
  rw [List.all_append, h0]
  rcases h1 with h1 | h1 <;> simp [h1]
theorem Row8.nth {w : World} {a : Option Addr} {n cap : Nat} {l : List UInt8} (h : l.length = 0 ∨ ∃ bl off, a = some ⟨bl, off, none⟩ ∧ ∀ q (hq : q < l.length), w.cell? ⟨bl, off + q, none⟩ = some (.int .u8 (l[q].toNat : Int))) {k : Nat} (hk : k < l.length) :
    ∃ bl off, a = some ⟨bl, off, none⟩ ∧ w.cell? ⟨bl, off + k, none⟩ = some (.int .u8 (l[k].toNat : Int)) := by
  rcases h with h1 | ⟨bl, off, ha, hc⟩
  · omega
  · exact ⟨bl, off, ha, hc k hk⟩
/-- 't', 'f' or 'u' -/
def truthL (l : List UInt8) : Nat := if l.contains 49 then 116 else if l.all (· == 48) then 102 else 117
/-- what Truth has found in the first states, none of which is 1 -/
def truthT (l : List UInt8) : Nat := if l.all (· == 48) then 102 else 117
theorem truthT_snoc {l : List UInt8} {k : Nat} (h : k < l.length) : truthT (l.take (k + 1)) = if l[k] = 48 then truthT (l.take k) else 117 := by
  rw [List.take_succ_eq_append_getElem h]
  unfold truthT
  rw [List.all_append]
  by_cases e : l[k] = 48
  · simp [e]
  · simp [e]
theorem no1_snoc {l : List UInt8} {k : Nat} (h : k < l.length) (h0 : ∀ x ∈ l.take k, x ≠ 49) (h1 : l[k] ≠ 49) : ∀ x ∈ l.take (k + 1), x ≠ 49 := by
  intro x hx
  rw [List.take_succ_eq_append_getElem h] at hx
  rcases List.mem_append.1 hx with h2 | h2
  · exact h0 x h2
  · simp at h2; rw [h2]; exact h1
theorem ret_u8 {a b : Int} (h : a = b) : Ending.returned (.int .u8 a) = .returned (.int .u8 b) := by rw [h]
end Go.Proofs.YtmaokbdjahgkiaaGreatDoor
