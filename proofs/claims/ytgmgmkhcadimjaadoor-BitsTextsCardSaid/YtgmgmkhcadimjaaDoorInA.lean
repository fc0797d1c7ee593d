/- The makers' stream of numbers: each number lies in the range that is asked for; of memory only the stream's own block is written.
   The makers' stream: vectors and widths.
   A slice of integers that came in, and the stream over it.
   What a row's first world gives a law of one slice of integers.
   A vector that came in: its fields. -/
import Derived.Test.YtgmgmkhcadimjaaDoorOps
import Derived.Test.YtgmgmkhcadimjaaDoorRow
import Derived.Stop.LaidErr
import Derived.SizedLaws
import Derived.Test.YtgmgmkhcadimjaaDoorRaw
import Derived.Deep.Fields
import Derived.ChangeMaps5
namespace Go.Proofs.YtgmgmkhcadimjaaDoor
open Go Go.RowKit
set_option linter.unusedVariables false
def bel (x n : Int) : Int := if x.tmod n < 0 then x.tmod n + n else x.tmod n
theorem bel_range (x n : Int) (hn : 1 ≤ n) : 0 ≤ bel x n ∧ bel x n < n := by
  have h1 := Int.tmod_lt_of_pos x (show 0 < n by omega)
  have h2 := Int.lt_tmod_of_pos x (show 0 < n by omega)
  unfold bel; split <;> omega
/-- the numbers that a stream reads: a slice of integers that lies outside block b -/
structure Rd (b : Nat) (a : Option Addr) (len : Nat) (w : World) : Prop where
  le : len ≤ 17592186044416
  el : ∀ j, j < len → ∃ bl off z, a = some ⟨bl, off, none⟩ ∧ bl ≠ b ∧ w.cell? ⟨bl, off + j, none⟩ = some (.int .i64 z)
structure Str (b : Nat) (a : Option Addr) (len cap k : Nat) (w : World) : Prop where
  c0 : w.cell? ⟨b, 0, none⟩ = some (.slice a len cap)
  c1 : w.cell? ⟨b, 1, none⟩ = some (.int .i64 k)
  fz : w.frozen? ⟨b, 1, none⟩ = false
  rd : Rd b a len w
/-- what a call that asks the stream for at most c numbers does to memory -/
structure Adv (b : Nat) (a : Option Addr) (len cap k c : Nat) (w w' : World) : Prop where
  st : ∃ k', k' ≤ k + c ∧ Str b a len cap k' w'
  gr : w.grownBy w' (some b)
theorem Rd.kept {b : Nat} {a : Option Addr} {len : Nat} {w w' : World} (h : Rd b a len w) (hg : w.grownBy w' (some b)) : Rd b a len w' :=
  ⟨h.le, fun j hj => by
    obtain ⟨bl, off, z, h1, h2, h3⟩ := h.el j hj
    exact ⟨bl, off, z, h1, h2, hg.cell h3 (by simpa using h2)⟩⟩
theorem grown_refl (w : World) (r : Option Nat) : w.grownBy w r := ⟨rfl, rfl, rfl, Nat.le_refl _, fun _ _ _ => rfl⟩
theorem grown_trans {a b c : World} {r : Option Nat} (h : a.grownBy b r) (k : b.grownBy c r) : a.grownBy c r :=
  ⟨k.os.trans h.os, k.tape.trans h.tape, k.output.trans h.output, Nat.le_trans h.size k.size, fun i hi hr => (k.block i (Nat.lt_of_lt_of_le hi h.size) hr).trans (h.block i hi hr)⟩
theorem grown_below {w w' : World} (r : Option Nat) (h : Below w.heap.size w w') : w.grownBy w' r := ⟨h.os, h.tape, h.output, h.size, fun i hi _ => h.block i hi⟩
theorem grown_drewN {a w : World} {r : Option Nat} (h : a.grownBy w r) (n : Nat) : a.grownBy (w.drewN n) r := ⟨h.os, h.tape, h.output, h.size, h.block⟩
theorem grown_alloc {a w : World} {r : Option Nat} (h : a.grownBy w r) (o : Obj) : a.grownBy (w.alloc o) r := grown_trans h (World.grownBy_alloc w o r)
theorem grown_set {a w : World} {b o : Nat} (h : a.grownBy w (some b)) (u : Value) : a.grownBy (w.setCell ⟨b, o, none⟩ u) (some b) :=
  have hb : Below 0 w (w.setCell ⟨b, o, none⟩ u) := (Below.refl 0 w).setCell (Nat.zero_le _) u
  grown_trans h ⟨hb.os, hb.tape, hb.output, hb.size, fun i _ hr => Below.heap_setCell w _ u i (by simpa using hr)⟩
theorem Str.below {b : Nat} {a : Option Addr} {len cap k : Nat} {w w' : World} (h : Str b a len cap k w) (hb : Below w.heap.size w w') : Str b a len cap k w' := by
  have hl := World.block_lt_of_cell? w _ h.c0
  exact ⟨(hb.cell hl).trans h.c0, (hb.cell (p := ⟨b, 1, none⟩) hl).trans h.c1, (hb.frozen (p := ⟨b, 1, none⟩) hl).trans h.fz, h.rd.kept (grown_below _ hb)⟩
theorem adv_set {b : Nat} {a : Option Addr} {len cap k : Nat} {w : World} (h : Str b a len cap k w) : Adv b a len cap k 1 w (w.setCell ⟨b, 1, none⟩ (.int .i64 ((k : Int) + 1))) := by
  obtain ⟨h0, h1, hf, hr⟩ := h
  have hg := grown_set (b := b) (o := 1) (grown_refl w (some b)) (.int .i64 ((k : Int) + 1))
  exact ⟨⟨k + 1, by omega, by go_simp, by go_simp, by go_simp, hr.kept hg⟩, hg⟩
theorem adv_drewN {b : Nat} {a : Option Addr} {len cap k c : Nat} {w w' : World} (h : Adv b a len cap k c w w') (n : Nat) : Adv b a len cap k c w (w'.drewN n) := by
  obtain ⟨⟨k', hk, h0, h1, hf, hr⟩, hg⟩ := h
  exact ⟨⟨k', hk, h0, h1, hf, hr.kept (grown_drewN (grown_refl w' _) n)⟩, grown_drewN hg n⟩
theorem adv_setN {b : Nat} {a : Option Addr} {len cap k : Nat} {w : World} (h : Str b a len cap k w) (n : Nat) : Adv b a len cap k 1 w ((w.setCell ⟨b, 1, none⟩ (.int .i64 ((k : Int) + 1))).drewN n) := adv_drewN (adv_set h) n
def SomeNat (P : Nat → Prop) (R : World → Prop) (e : Ending) (w' : World) : Prop := ∃ r : Nat, P r ∧ e = .returned (.int .i64 r) ∧ R w'
theorem some_bel {x n : Int} {R : World → Prop} {w' : World} (hn : 1 ≤ n) (h : R w') : SomeNat (fun r => (r : Int) < n) R (.returned (.int .i64 (bel x n))) w' := by
  have hr := bel_range x n (by omega)
  exact ⟨(bel x n).toNat, by show ((bel x n).toNat : Int) < n; omega, by rw [Int.toNat_of_nonneg hr.1], h⟩
theorem adv_trans {b : Nat} {a : Option Addr} {len cap k k1 c1 c2 c : Nat} {w w1 w2 : World} (h : Adv b a len cap k c1 w w1) (hk : k1 ≤ k + c1) (h2 : Adv b a len cap k1 c2 w1 w2) (hc : c1 + c2 ≤ c) : Adv b a len cap k c w w2 := by
  obtain ⟨⟨k2, hk2, s2⟩, g2⟩ := h2
  exact ⟨⟨k2, by omega, s2⟩, grown_trans h.gr g2⟩
theorem adv_below {b : Nat} {a : Option Addr} {len cap k c : Nat} {w w1 w2 : World} (h : Adv b a len cap k c w w1) (hb : Below w1.heap.size w1 w2) : Adv b a len cap k c w w2 := by
  obtain ⟨⟨k1, hk1, s1⟩, g1⟩ := h
  exact ⟨⟨k1, hk1, s1.below hb⟩, grown_trans g1 (grown_below _ hb)⟩
theorem adv_refl {b : Nat} {a : Option Addr} {len cap k : Nat} {w : World} (h : Str b a len cap k w) (c : Nat) : Adv b a len cap k c w w := ⟨⟨k, by omega, h⟩, grown_refl _ _⟩
theorem adv_mono {b : Nat} {a : Option Addr} {len cap k c c' : Nat} {w w1 : World} (h : Adv b a len cap k c w w1) (hc : c ≤ c') : Adv b a len cap k c' w w1 := by
  obtain ⟨⟨k1, hk1, s1⟩, g1⟩ := h
  exact ⟨⟨k1, by omega, s1⟩, g1⟩
theorem xor_U (x y : Int) : bits .xor .u64 x y = U (BitVec.ofInt 64 x ^^^ BitVec.ofInt 64 y) := by
  have := (BitVec.ofInt 64 x ^^^ BitVec.ofInt 64 y).isLt
  unfold U; show IntKind.u64.wrap _ = _; rw [IntKind.wrap_u64]; show ((BitVec.ofInt 64 x ^^^ BitVec.ofInt 64 y).toNat : Int) % _ = _; omega
def SomeW (R : World → Prop) (e : Ending) (w' : World) : Prop := ∃ V : BitVec 64, e = .returned (.int .u64 (U V)) ∧ R w'
def SomeVx (n : Nat) (P : Vx → Prop) (R : World → Prop) (e : Ending) (w' : World) : Prop := ∃ V : Vx, V.ok n ∧ P V ∧ e = .returned (.agg #[.int .i64 n, .int .u64 (U V.v), .int .u64 (U V.x)]) ∧ R w'
def SomeBool (R : World → Prop) (e : Ending) (w' : World) : Prop := ∃ t : Bool, e = .returned (.bool t) ∧ R w'
end Go.Proofs.YtgmgmkhcadimjaaDoor
namespace Go.Proofs.YtgmgmkhcadimjaaDoor
open Go Go.RowKit
set_option linter.unusedVariables false
theorem and_U (x : Int) (m : BitVec 64) : bits .and .u64 x (U m) = U (BitVec.ofInt 64 x &&& m) := by
  have h1 : BitVec.ofInt 64 (U m) = m := by unfold U; simp
  have := (BitVec.ofInt 64 x &&& m).isLt
  show IntKind.u64.wrap ((BitVec.ofInt 64 x &&& BitVec.ofInt 64 (U m)).toNat : Int) = _
  rw [h1, IntKind.wrap_u64]; unfold U; omega
theorem ret_vec {n : Nat} {x : Int} {V : BitVec 64} (h : x = U V) : Ending.returned (.agg #[.int .i64 n, .int .u64 x, .int .u64 0]) = .returned (.agg #[.int .i64 n, .int .u64 (U (⟨V, 0#64⟩ : Vx).v), .int .u64 (U (⟨V, 0#64⟩ : Vx).x)]) := by rw [h]; rfl
theorem grown_cell {b : Nat} {W w : World} (hg : W.grownBy w (some b)) {p : Nat} (hp : p < W.heap.size) (hne : b ≠ p) :
    (∀ o, w.cell? ⟨p, o, none⟩ = W.cell? ⟨p, o, none⟩) ∧ (∀ o, w.frozen? ⟨p, o, none⟩ = W.frozen? ⟨p, o, none⟩) ∧ p < w.heap.size :=
  ⟨fun o => World.cell?_of_block (a := ⟨p, o, none⟩) (hg.block p hp (by simpa using fun h => hne h.symm)), fun o => World.frozen?_of_block (a := ⟨p, o, none⟩) (hg.block p hp (by simpa using fun h => hne h.symm)), Nat.lt_of_lt_of_le hp hg.size⟩
theorem adv_of {b : Nat} {a : Option Addr} {len cap k c : Nat} {w W w3 w4 : World} (hS : Str b a len cap k w) (A : Adv b a len cap k c W w3) (hW : Below w.heap.size w W) (hb : Below w.heap.size w3 w4) (hl : b < w.heap.size) :
    Adv b a len cap k c w w4 := by
  obtain ⟨⟨k1, hk1, s1⟩, g1⟩ := A
  have gr : w.grownBy w4 (some b) := ⟨hb.os.trans (g1.os.trans hW.os), hb.tape.trans (g1.tape.trans hW.tape), hb.output.trans (g1.output.trans hW.output), Nat.le_trans hW.size (Nat.le_trans g1.size hb.size),
    fun i hi hne => (hb.block i hi).trans ((g1.block i (Nat.lt_of_lt_of_le hi hW.size) hne).trans (hW.block i hi))⟩
  exact ⟨⟨k1, hk1, (hb.cell (p := ⟨b, 0, none⟩) hl).trans s1.c0, (hb.cell (p := ⟨b, 1, none⟩) hl).trans s1.c1, (hb.frozen (p := ⟨b, 1, none⟩) hl).trans s1.fz, hS.rd.kept gr⟩, gr⟩
theorem Str.drew' {b : Nat} {a : Option Addr} {len cap k : Nat} {w : World} (h : Str b a len cap k w) : Str b a len cap k w.drew := h.below (Below.refl _ _).drew
theorem adv_undrew {b : Nat} {a : Option Addr} {len cap k c : Nat} {w w' : World} (h : Adv b a len cap k c w.drew w') : Adv b a len cap k c w w' := ⟨h.st, ⟨h.gr.os, h.gr.tape, h.gr.output, h.gr.size, h.gr.block⟩⟩
end Go.Proofs.YtgmgmkhcadimjaaDoor
namespace Go.Proofs.YtgmgmkhcadimjaaDoor
open Go Go.RowKit
set_option linter.unusedVariables false
/-- a slice of integers that can be read -/
structure Sl (a : Option Addr) (len : Nat) (w : World) : Prop where
  le : len ≤ 17592186044416
  el : ∀ j, j < len → ∃ bl off z, a = some ⟨bl, off, none⟩ ∧ w.cell? ⟨bl, off + j, none⟩ = some (.int .i64 z)
theorem adv_low {a : Option Addr} {len cap k c : Nat} {w W w1 : World} (A : Adv w.heap.size a len cap k c W w1) (hW : Below w.heap.size w W) : Below w.heap.size w w1 :=
  ⟨A.gr.os.trans hW.os, A.gr.tape.trans hW.tape, A.gr.output.trans hW.output, Nat.le_trans hW.size A.gr.size, fun i hi => (A.gr.block i (Nat.lt_of_lt_of_le hi hW.size) (by simp; omega)).trans (hW.block i hi)⟩
end Go.Proofs.YtgmgmkhcadimjaaDoor
namespace Go.Proofs.YtgmgmkhcadimjaaDoor
open Go.ChangeShapes Go.WideShapes Go.ChangeAt Go.RowKit
set_option linter.unusedVariables false
theorem glob_of {W : World} (hL : laidMetH Tryd.prog laid5 W) (hsh : W.ShapedOpen Tryd.prog) : Glob W.heap.size W := by
  rw [MakeChecks.laidMetH_plain _ _ _ (by kernel_rfl)] at hL
  have h3 : laidMet Tryd.prog [("internal/strconv.uint64pow10", Lib.tabData .u64 Lib.pow10Tab), ("strconv.ErrRange", Rows.laid_strconv_ErrRange), ("strconv.ErrSyntax", Rows.laid_strconv_ErrSyntax)] W := by
    rw [← tab_eq]; exact laidMet.tail (laidMet.tail hL)
  have ht : Lib.TabIs Tryd.prog W "internal/strconv.uint64pow10" .u64 Lib.pow10Tab :=
    Lib.tabIs_of_head (g := 3) (t := 100) (e := 22) (n := 20) (by kernel_rfl) (by kernel_rfl) Tryd.underlying100 Tryd.underlying22 (by kernel_rfl) (by kernel_rfl) h3
  obtain ⟨m, hm⟩ := cell_of_shapedOpen_int (g := 0) (t := 3) (k := .i64) (zero := #[.int .i64 0]) hsh (of_decide_eq_true (by kernel_rfl)) (by kernel_rfl) rfl (by kernel_rfl) (by kernel_rfl) Tryd.underlying3
  exact ⟨⟨m, hm⟩, World.block_lt_of_cell? W _ hm, Lib.tabBelow_of_tabIs ht, Nat.le_refl _⟩
end Go.Proofs.YtgmgmkhcadimjaaDoor
namespace Go.Proofs.YtgmgmkhcadimjaaDoor
open Go Go.ChangeShapes Go.WideShapes Go.ChangeAt Go.RowKit Go.ChangeMaps
set_option linter.unusedVariables false
theorem u64_word {a : Int} (h : (Lit.int .u64 a).wf = true) : ∃ v : BitVec 64, a = U v := by
  have h2 : 0 ≤ a ∧ a ≤ 18446744073709551615 := by
    simp [Lit.wf, IntKind.min, IntKind.max, IntKind.signed, IntKind.bits] at h
    omega
  refine ⟨BitVec.ofNat 64 a.toNat, ?_⟩
  unfold U
  rw [BitVec.toNat_ofNat]
  have : a.toNat < 2 ^ 64 := by omega
  rw [Nat.mod_eq_of_lt this]; omega
theorem u8_byte {a : Int} (h : (Lit.int .u8 a).wf = true) : ∃ c : UInt8, a = (c.toNat : Int) := by
  have h2 : 0 ≤ a ∧ a ≤ 255 := by
    simp [Lit.wf, IntKind.min, IntKind.max, IntKind.signed, IntKind.bits] at h
    omega
  refine ⟨UInt8.ofNat a.toNat, ?_⟩
  simp <;> omega
set_option maxRecDepth 100000 in
theorem open_bits {H : Type} {enc : TypeId × Value → H} {W : World} {sp : Nat → Bool} {hh : Bool} {b0 : Nat} {v : Value} {d : DataW H} {p : List MemPlace} (hv : Value.okWide Tryd.prog W .any b0 24 v) (h : DataW.Trod enc Tryd.prog W 0 sp hh 24 v d p) :
    ∃ r : Rb, v = .agg #[.int .i64 r.W, .int .u64 (U r.v), .int .u64 (U r.x)] := by
  obtain ⟨cs, rfl, hsz⟩ := okWide_struct Tryd.underlying24 hv
  have h5 : Tryd.prog.cellsOf 24 = 3 := by kernel_rfl
  have c3 : Tryd.prog.cellsOf 3 = 1 := by kernel_rfl
  have c6 : Tryd.prog.cellsOf 22 = 1 := by kernel_rfl
  rw [h5] at hsz
  obtain ⟨fuel, hf⟩ := h
  obtain ⟨xs, n, _, hx, _, hlen, hg⟩ := DataW.trod_struct Tryd.underlying24 hf
  obtain ⟨l⟩ := cs
  match l, hsz, xs, hlen, hg with
  | [v0, v1, v2], _, [y0, y1, y2], _, hg =>
    have g0 := hg 0 _ rfl
    have g1 := hg 1 _ rfl
    have g2 := hg 2 _ rfl
    simp [Value.cells, c3] at g0
    simp [Value.cells, c6] at g1
    simp [Value.cells, c6] at g2
    obtain ⟨a, e0, _, s0⟩ := DataW.trod_int Tryd.underlying3 g0
    obtain ⟨b, e1, _, s1⟩ := DataW.trod_int Tryd.underlying22 g1
    obtain ⟨c, e2, _, s2⟩ := DataW.trod_int Tryd.underlying22 g2
    simp at e0 e1 e2
    subst e0 e1 e2
    obtain ⟨v, rfl⟩ := u64_word s1
    obtain ⟨x, rfl⟩ := u64_word s2
    exact ⟨⟨a, v, x⟩, rfl⟩
end Go.Proofs.YtgmgmkhcadimjaaDoor
