/- The loop of masklaw1 over operations with two operands: it returns true, where each operation returns what the reference says. -/
import Derived.Test.YtmaokbdjahgkiaaGreatDoorRefB2
import Derived.Test.YtmaokbdjahgkiaaGreatDoorRefValid
import Derived.Deep.CutBlock
import Derived.Deep.DeepCutAuto
import Derived.LoopTactic
namespace Go.Proofs.YtmaokbdjahgkiaaGreatDoor
open Go Go.RowKit Go.Sort
set_option linter.unusedVariables false
def looseB (op : Int) : Bool := op == 11 || op == 12 || op == 21 || op == 22 || op == 23
def okc (op : Int) (a b : Rb) : Bool := a.okB && b.okB && (looseB op || decide (a.W = b.W))
def vR (r : Rb) : List UInt8 := vl ⟨r.v, r.x⟩ r.W.toNat
def ZR : Rb := ⟨0, 0#64, 0#64⟩
/-- a slice of whole numbers that reads as a list -/
structure RowI (w : World) (v : Value) (l : List Int) : Prop where
  sh : ∃ bl off cap, v = .slice (some ⟨bl, off, none⟩) l.length cap ∧ ∀ q (hq : q < l.length), w.cell? ⟨bl, off + q, none⟩ = some (.int .i64 l[q])
theorem RowI.below {w w' : World} {v : Value} {l : List Int} (h : RowI w v l) (hb : Below w.heap.size w w') : RowI w' v l := by
  obtain ⟨bl, off, cap, rfl, hc⟩ := h.sh
  exact ⟨bl, off, cap, rfl, fun q hq => (hb.cell (p := ⟨bl, off + q, none⟩) (World.block_lt_of_cell? w _ (hc q hq))).trans (hc q hq)⟩
theorem rowI_sta (l : List Int) : Sta (fun v w => RowI w v l) := fun _ _ _ h hb => h.below hb
/-- a list of states that gives a vector -/
def LF (P : Rb) : Fa := fun v w => ∃ l, Row8 w v l ∧ Bl l = P ∧ l.length ≤ 1000000
theorem lf_sta (P : Rb) : Sta (LF P) := fun v w w' ⟨l, h1, h2, h3⟩ hb => ⟨l, h1.below hb, h2, h3⟩
/-- what the loop's variables hold -/
structure PX (w : World) (a b : Rb) (W : World) : Prop where
  ba : Box W w.heap.size a.W (U a.v) (U a.x)
  bb : Box W (w.heap.size + 1) b.W (U b.v) (U b.x)
  lo : Below w.heap.size w W
theorem PX.below {w : World} {a b : Rb} {W W' : World} (h : PX w a b W) (hb : Below W.heap.size W W') : PX w a b W' :=
  ⟨h.ba.below hb, h.bb.below hb, h.lo.trans (hb.mono h.lo.size)⟩
structure PY (w : World) (g : Nat) (a b P : Rb) (W : World) : Prop where
  ba : Box W w.heap.size a.W (U a.v) (U a.x)
  bb : Box W (w.heap.size + 1) b.W (U b.v) (U b.x)
  bp : Box W g P.W (U P.v) (U P.x)
  lt : w.heap.size + 1 < g
  lo : Below w.heap.size w W
theorem PY.below {w : World} {g : Nat} {a b P : Rb} {W W' : World} (h : PY w g a b P W) (hb : Below W.heap.size W W') : PY w g a b P W' :=
  ⟨h.ba.below hb, h.bb.below hb, h.bp.below hb, h.lt, h.lo.trans (hb.mono h.lo.size)⟩
theorem PY.put {w : World} {g : Nat} {a b P : Rb} {W : World} (h : PY w g a b P W) (d : Rb) : PY w g a b d (((W.setCell ⟨g, 0, none⟩ (.int .i64 d.W)).setCell ⟨g, 1, none⟩ (.int .u64 (U d.v))).setCell ⟨g, 2, none⟩ (.int .u64 (U d.x))) := by
  have := h.lt
  exact ⟨h.ba.other (by omega) _ _ _, h.bb.other (by omega) _ _ _, h.bp.set _ _ _, h.lt, ((h.lo.setCell (by show w.heap.size ≤ g; omega) _).setCell (by show w.heap.size ≤ g; omega) _).setCell (by show w.heap.size ≤ g; omega) _⟩
abbrev zObjP : Obj := Obj.cells #[Value.int IntKind.i64 0, Value.int IntKind.u64 0, Value.int IntKind.u64 0] 29
theorem py_new {w W : World} {a b : Rb} (h : PX w a b W) : PY w W.heap.size a b ZR (W.alloc zObjP) := by
  have l := h.bb.lt
  have hb : Below W.heap.size W (W.alloc zObjP) := (Below.refl _ _).alloc (Nat.le_refl _) _
  refine ⟨h.ba.below hb, h.bb.below hb, ?_, l, h.lo.trans (hb.mono h.lo.size)⟩
  simp only [ZR, show U 0#64 = 0 from by decide]; exact ⟨by go_simp, by go_simp, by go_simp, fun o => by go_simp⟩
abbrev aObjP (a : Rb) : Obj := Obj.cells #[Value.int IntKind.i64 a.W, Value.int IntKind.u64 (U a.v), Value.int IntKind.u64 (U a.x)] 29
theorem px_new {w : World} (a b : Rb) : PX w a b ((w.alloc (aObjP a)).alloc (aObjP b)) :=
  ⟨⟨by go_simp, by go_simp, by go_simp, fun o => by go_simp⟩, ⟨by go_simp, by go_simp, by go_simp, fun o => by go_simp⟩, ((Below.refl _ _).alloc (Nat.le_refl _) _).alloc (by simp) _⟩
end Go.Proofs.YtmaokbdjahgkiaaGreatDoor
