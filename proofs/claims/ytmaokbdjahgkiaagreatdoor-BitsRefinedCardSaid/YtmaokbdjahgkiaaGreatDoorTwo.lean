/- Functions with one or two vectors in boxes and a vector as their result: what their boxes hold. No condition. -/
import Derived.Test.YtmaokbdjahgkiaaGreatDoorDigits
import Derived.Test.YtmaokbdjahgkiaaGreatDoorRaw
namespace Go.Proofs.YtmaokbdjahgkiaaGreatDoor
open Go Go.RowKit Go.Sort
set_option linter.unusedVariables false
abbrev bObj (a : Rb) : Obj := Obj.cells #[Value.int IntKind.i64 a.W, Value.int IntKind.u64 (U a.v), Value.int IntKind.u64 (U a.x)] 29
abbrev zObj : Obj := Obj.cells #[Value.int IntKind.i64 0, Value.int IntKind.u64 0, Value.int IntKind.u64 0] 29
structure TB (w : World) (a b : Rb) (rn rv rx : Int) (W : World) : Prop where
  ba : Box W w.heap.size a.W (U a.v) (U a.x)
  bb : Box W (w.heap.size + 1) b.W (U b.v) (U b.x)
  bp : Box W (w.heap.size + 1 + 1) rn rv rx
  lo : Below w.heap.size w W
theorem TB.below {w : World} {a b : Rb} {rn rv rx : Int} {W W' : World} (h : TB w a b rn rv rx W) (hb : Below W.heap.size W W') : TB w a b rn rv rx W' :=
  ⟨h.ba.below hb, h.bb.below hb, h.bp.below hb, h.lo.trans (hb.mono h.lo.size)⟩
theorem TB.put {w : World} {a b : Rb} {rn rv rx : Int} {W : World} (h : TB w a b rn rv rx W) (n v x : Int) : TB w a b n v x (((W.setCell ⟨w.heap.size + 1 + 1, 0, none⟩ (.int .i64 n)).setCell ⟨w.heap.size + 1 + 1, 1, none⟩ (.int .u64 v)).setCell ⟨w.heap.size + 1 + 1, 2, none⟩ (.int .u64 x)) :=
  ⟨h.ba.other (by omega) _ _ _, h.bb.other (by omega) _ _ _, h.bp.set _ _ _, ((h.lo.setCell (by show w.heap.size ≤ w.heap.size + 1 + 1; omega) _).setCell (by show w.heap.size ≤ w.heap.size + 1 + 1; omega) _).setCell (by show w.heap.size ≤ w.heap.size + 1 + 1; omega) _⟩
theorem tb_new {w : World} (a b : Rb) : TB w a b 0 0 0 (((w.alloc (bObj a)).alloc (bObj b)).alloc zObj) :=
  ⟨⟨by go_simp, by go_simp, by go_simp, fun o => by go_simp⟩, ⟨by go_simp, by go_simp, by go_simp, fun o => by go_simp⟩, ⟨by go_simp, by go_simp, by go_simp, fun o => by go_simp⟩, (((Below.refl _ _).alloc (Nat.le_refl _) _).alloc (by simp) _).alloc (by simp; omega) _⟩
structure SB (w : World) (a : Rb) (rn rv rx : Int) (W : World) : Prop where
  ba : Box W w.heap.size a.W (U a.v) (U a.x)
  bp : Box W (w.heap.size + 1) rn rv rx
  lo : Below w.heap.size w W
theorem SB.below {w : World} {a : Rb} {rn rv rx : Int} {W W' : World} (h : SB w a rn rv rx W) (hb : Below W.heap.size W W') : SB w a rn rv rx W' :=
  ⟨h.ba.below hb, h.bp.below hb, h.lo.trans (hb.mono h.lo.size)⟩
theorem SB.put {w : World} {a : Rb} {rn rv rx : Int} {W : World} (h : SB w a rn rv rx W) (n v x : Int) : SB w a n v x (((W.setCell ⟨w.heap.size + 1, 0, none⟩ (.int .i64 n)).setCell ⟨w.heap.size + 1, 1, none⟩ (.int .u64 v)).setCell ⟨w.heap.size + 1, 2, none⟩ (.int .u64 x)) :=
  ⟨h.ba.other (by omega) _ _ _, h.bp.set _ _ _, ((h.lo.setCell (by show w.heap.size ≤ w.heap.size + 1; omega) _).setCell (by show w.heap.size ≤ w.heap.size + 1; omega) _).setCell (by show w.heap.size ≤ w.heap.size + 1; omega) _⟩
theorem sb_new {w : World} (a : Rb) : SB w a 0 0 0 ((w.alloc (bObj a)).alloc zObj) :=
  ⟨⟨by go_simp, by go_simp, by go_simp, fun o => by go_simp⟩, ⟨by go_simp, by go_simp, by go_simp, fun o => by go_simp⟩, ((Below.refl _ _).alloc (Nat.le_refl _) _).alloc (by simp) _⟩
end Go.Proofs.YtmaokbdjahgkiaaGreatDoor
