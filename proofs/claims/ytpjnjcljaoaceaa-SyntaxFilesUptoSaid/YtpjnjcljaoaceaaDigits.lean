/- Reading digits of some bits each into a vector. -/
import Derived.Test.YtpjnjcljaoaceaaMgOps
namespace Go.Proofs.Ytpjnjcljaoaceaa
open Go Go.RowKit
set_option linter.unusedVariables false
/-- a vector's cells in block p -/
structure Box (w : World) (p : Nat) (n : Int) (v x : Int) : Prop where
  c0 : w.cell? ⟨p, 0, none⟩ = some (.int .i64 n)
  c1 : w.cell? ⟨p, 1, none⟩ = some (.int .u64 v)
  c2 : w.cell? ⟨p, 2, none⟩ = some (.int .u64 x)
  fz : ∀ o, w.frozen? ⟨p, o, none⟩ = false
theorem Box.lt {w : World} {p : Nat} {n v x : Int} (h : Box w p n v x) : p < w.heap.size := World.block_lt_of_cell? w _ h.c0
theorem Box.below {w w' : World} {p : Nat} {n v x : Int} (h : Box w p n v x) (hb : Below w.heap.size w w') : Box w' p n v x :=
  ⟨(hb.cell (p := ⟨p, 0, none⟩) h.lt).trans h.c0, (hb.cell (p := ⟨p, 1, none⟩) h.lt).trans h.c1, (hb.cell (p := ⟨p, 2, none⟩) h.lt).trans h.c2, fun o => (hb.frozen (p := ⟨p, o, none⟩) h.lt).trans (h.fz o)⟩
theorem Box.set {w : World} {p : Nat} {n v x : Int} (h : Box w p n v x) (n' v' x' : Int) : Box (((w.setCell ⟨p, 0, none⟩ (.int .i64 n')).setCell ⟨p, 1, none⟩ (.int .u64 v')).setCell ⟨p, 2, none⟩ (.int .u64 x')) p n' v' x' := by
  obtain ⟨h0, h1, h2, hf⟩ := h
  exact ⟨by go_simp, by go_simp, by go_simp, fun o => by go_simp⟩
theorem Box.other {w : World} {p q : Nat} {n v x : Int} (h : Box w p n v x) (hne : p ≠ q) (a b c : Value) : Box (((w.setCell ⟨q, 0, none⟩ a).setCell ⟨q, 1, none⟩ b).setCell ⟨q, 2, none⟩ c) p n v x := by
  obtain ⟨h0, h1, h2, hf⟩ := h
  exact ⟨by go_simp, by go_simp, by go_simp, fun o => by go_simp⟩
theorem Box.new (w : World) (n v x : Int) : Box (w.alloc (.cells #[.int .i64 n, .int .u64 v, .int .u64 x] 32)) w.heap.size n v x :=
  ⟨by go_simp, by go_simp, by go_simp, fun o => by go_simp⟩
/-- the digit at place i from the end -/
def dgt (s : ByteArray) (i : Nat) : Nat := (s.data.toList.getD (s.size - 1 - i) 0).toNat
def rdI (n : Nat) (s : ByteArray) : Vx := if dgt s (s.size - 1) = 120 then fl n 3 else if dgt s (s.size - 1) = 122 then fl n 2 else kv n 0#64
def rdB (n size : Nat) (s : ByteArray) : Nat → Vx
  | 0 => rdI n s
  | i + 1 => vput n size (rdB n size s i) (i * size) (dbits size (dgt s i))
def rdE (n size : Nat) (s : ByteArray) (i : Nat) : Bool := excB (dbits size (dgt s i)) ((n : Int) - (i : Int) * (size : Int))
theorem rdI_ok {n : Nat} (h1 : 1 ≤ n) (h2 : n ≤ 64) (s : ByteArray) : (rdI n s).ok n := by
  unfold rdI; split
  · exact fl_ok h1 h2 3
  · split
    · exact fl_ok h1 h2 2
    · exact kv_ok h1 h2 _
theorem rdB_ok {n : Nat} (h1 : 1 ≤ n) (h2 : n ≤ 64) (size : Nat) (s : ByteArray) (i : Nat) : (rdB n size s i).ok n := by
  cases i with
  | zero => exact rdI_ok h1 h2 s
  | succ i => exact vput_ok (rdB_ok h1 h2 size s i)
theorem dgt_at (s : ByteArray) (i : Nat) (h : s.size - 1 - i < s.size) : dgt s i = (s[s.size - 1 - i]'h).toNat := by
  unfold dgt; rw [List.getD_eq_getElem?_getD, List.getElem?_eq_getElem (by simpa using h)]; rfl
theorem dgt_first (s : ByteArray) (h : 0 < s.size) : dgt s (s.size - 1) = s[0].toNat := by
  have e : s.size - 1 - (s.size - 1) = 0 := by omega
  unfold dgt; rw [e, List.getD_eq_getElem?_getD, List.getElem?_eq_getElem (by simpa using h)]; rfl
/-- what the loop over the digits knows of memory -/
structure RD (w : World) (p q n size : Nat) (s : ByteArray) (k : Nat) (wr : World) : Prop where
  b : Box wr q n (U (rdB n size s k).v) (U (rdB n size s k).x)
  r : Box wr p 0 0 0
  lo : Below w.heap.size w wr
end Go.Proofs.Ytpjnjcljaoaceaa
