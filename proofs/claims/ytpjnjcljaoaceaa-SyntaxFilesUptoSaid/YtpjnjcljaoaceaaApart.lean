/- Taking a vector's text apart, and reading it. -/
import Derived.Test.YtpjnjcljaoaceaaDigits
import Derived.Deep.DeepCutAuto
import Derived.Lib.AppendIntMem
namespace Go.Proofs.Ytpjnjcljaoaceaa
open Go Go.RowKit
set_option linter.unusedVariables false
/-- what the calls lean on of package-level variables: they lie below block B -/
structure Glob (B : Nat) (w : World) : Prop where
  mx : ∃ m : Int, w.cell? ⟨0, 0, none⟩ = some (.int .i64 m)
  pos : 0 < B
  tab : Lib.TabBelow Try.prog B w "internal/strconv.uint64pow10" .u64 Lib.pow10Tab
  le : B ≤ w.heap.size
theorem Glob.on {B B' : Nat} {w w' : World} (h : Glob B w) (hb : Below B' w w') (hB : B ≤ B') : Glob B w' := by
  obtain ⟨m, hm⟩ := h.mx
  exact ⟨⟨m, (hb.cell (p := ⟨0, 0, none⟩) (Nat.lt_of_lt_of_le h.pos hB)).trans hm⟩, h.pos, h.tab.on (hb.mono hB), Nat.le_trans h.le hb.size⟩
theorem Glob.here {B : Nat} {w w' : World} (h : Glob B w) (hb : Below w.heap.size w w') : Glob B w' := h.on hb h.le
def dw (c : Nat) : Nat := if c = 98 then 1 else if c = 111 then 3 else if c = 104 then 4 else 0
/-- the number of a width; more than 64 for all that are -/
def rwd (s : ByteArray) : Nat → Nat
  | 0 => 0
  | k + 1 => if rwd s k ≤ 64 then rwd s k * 10 + dv (s.data.toList.getD k 0).toNat else rwd s k
theorem rwd_le (s : ByteArray) (k : Nat) : rwd s k ≤ 656 := by
  induction k with
  | zero => simp [rwd]
  | succ k ih =>
    have := dv_le (s.data.toList.getD k 0).toNat
    simp only [rwd]; split <;> omega
theorem rwd_stop {s : ByteArray} {k : Nat} (h : 64 < rwd s k) : ∀ j, k ≤ j → rwd s j = rwd s k := by
  intro j hj
  induction j with
  | zero => obtain rfl : k = 0 := by omega
            rfl
  | succ j ih =>
    rcases Nat.lt_or_ge j k with h' | h'
    · obtain rfl : k = j + 1 := by omega
      rfl
    · simp only [rwd]; rw [ih h', if_neg (by omega)]
theorem byte_at (s : ByteArray) (k : Nat) (h : k < s.size) : (s.data.toList.getD k 0).toNat = s[k].toNat := by
  rw [List.getD_eq_getElem?_getD, List.getElem?_eq_getElem (by simpa using h)]; rfl
/-- the literal that lies in block g, the result's block, and the rest of memory -/
structure ApW (w : World) (g : Nat) (n base : Int) (dg : ByteArray) (wx : World) : Prop where
  c0 : wx.cell? ⟨g, 0, none⟩ = some (.int .i64 n)
  c1 : wx.cell? ⟨g, 1, none⟩ = some (.int .u8 base)
  c2 : wx.cell? ⟨g, 2, none⟩ = some (.string dg)
  cf : ∀ o, wx.frozen? ⟨g, o, none⟩ = false
  r0 : wx.cell? ⟨w.heap.size, 0, none⟩ = some (.int .i64 0)
  r1 : wx.cell? ⟨w.heap.size, 1, none⟩ = some (.int .u8 0)
  r2 : wx.cell? ⟨w.heap.size, 2, none⟩ = some (.string ⟨#[]⟩)
  rf : ∀ o, wx.frozen? ⟨w.heap.size, o, none⟩ = false
  gp : w.heap.size < g
  lo : Below w.heap.size w wx
theorem ba_eta (b : ByteArray) : (⟨b.data⟩ : ByteArray) = b := rfl
theorem toList_ne {b : ByteArray} (h : 0 < b.size) : ¬ b.toList = [] := by
  intro e
  rw [Lib.toList_data] at e
  have h2 := congrArg List.length e
  rw [Array.length_toList] at h2
  have h3 : b.size = 0 := h2
  omega
end Go.Proofs.Ytpjnjcljaoaceaa
