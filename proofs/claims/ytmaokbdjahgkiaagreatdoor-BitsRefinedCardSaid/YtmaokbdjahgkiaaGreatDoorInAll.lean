/- The makers' stream of numbers: each number lies in the range that is asked for; of memory only the stream's own block is written.
   The makers' stream: vectors and widths.
   A slice of integers that came in, and the stream over it.
   What a row's first world gives a law of one slice of integers.
   A vector that came in: its fields.
   The bounds of a number that came in. -/
import Derived.Test.YtmaokbdjahgkiaaGreatDoorOps
import Derived.Test.YtmaokbdjahgkiaaGreatDoorRow
import Derived.Stop.LaidErr
import Derived.SizedLaws
import Derived.Test.YtmaokbdjahgkiaaGreatDoorRaw
import Derived.Deep.Fields
import Derived.ChangeMaps5
namespace Go.Proofs.YtmaokbdjahgkiaaGreatDoor
open Go Go.RowKit
set_option linter.unusedVariables false
def bel (x n : Int) : Int := if x.tmod n < 0 then x.tmod n + n else x.tmod n
theorem bel_range (x n : Int) (hn : 1 ≤ n) : 0 ≤ bel x n ∧ bel x n < n := by
  have h1 := Int.tmod_lt_of_pos x (show 0 < n by omega)
  have h2 := Int.lt_tmod_of_pos x (show 0 < n by omega)
  unfold bel; split <;> omega
set_option maxHeartbeats 400000 in
theorem below_any (x n : Int) (hn : 1 ≤ n) (hn2 : n ≤ 1073741824) (w : World) : Calls Tryz.prog 40 #[.int .i64 x, .int .i64 n] w fun e w' => e = .returned (.int .i64 (bel x n)) ∧ w = w' := by
  have h2 := Int.lt_tmod_of_pos x (show 0 < n by omega)
  by_cases hs : x.tmod n < 0
  · go_enter Tryz.func40, Tryz.ntmps40
    go_wp2_with fail
    go_ret
    exact ⟨ret_int (by unfold bel; first | rw [if_pos hs] | rw [if_neg (by omega)]), rfl⟩
  · go_enter Tryz.func40, Tryz.ntmps40
    go_wp2_with fail
    go_ret
    exact ⟨ret_int (by unfold bel; first | rw [if_pos hs] | rw [if_neg (by omega)]), rfl⟩
set_option maxHeartbeats 400000 in
theorem mmask_any (n : Nat) (h : n ≤ 64) (w : World) : Calls Tryz.prog 14 #[.int .i64 n] w fun e w' => e = .returned (.int .u64 (U (msk n))) ∧ w = w' := by
  by_cases hn : 64 ≤ n
  · obtain rfl : n = 64 := by omega
    go_enter Tryz.func14, Tryz.ntmps14
    go_wp2_with fail
    go_ret
    exact ⟨ret_int (by decide), rfl⟩
  · go_enter Tryz.func14, Tryz.ntmps14
    go_wp2_with fail
    go_ret
    exact ⟨ret_int (msk_wrap n), rfl⟩
theorem mmask_q (n : Nat) (h : n ≤ 64) (w : World) : Calls Tryz.prog 14 #[.int .i64 n] w fun e w' => e = .returned (.int .u64 (U (msk n))) ∧ w' = w := (mmask_any n h w).mono fun _ _ ⟨a, b⟩ => ⟨a, b.symm⟩
/-- the numbers that a stream reads: a slice of integers that lies outside block b -/
structure Rd (b : Nat) (a : Option Addr) (len : Nat) (w : World) : Prop where
  le : len ≤ 17592186044416
  el : ∀ j, j < len → ∃ bl off z, a = some ⟨bl, off, none⟩ ∧ bl ≠ b ∧ w.cell? ⟨bl, off + j, none⟩ = some (.int .i64 z)
structure Str (b : Nat) (a : Option Addr) (len cap k : Nat) (w : World) : Prop where
  c0 : w.cell? ⟨b, 0, none⟩ = some (.slice a len cap)
  c1 : w.cell? ⟨b, 1, none⟩ = some (.int .i64 k)
  fz : w.frozen? ⟨b, 1, none⟩ = false
  rd : Rd b a len w
/-- what a call that asks the stream for at most c numbers does to memory -/
structure Adv (b : Nat) (a : Option Addr) (len cap k c : Nat) (w w' : World) : Prop where
  st : ∃ k', k' ≤ k + c ∧ Str b a len cap k' w'
  gr : w.grownBy w' (some b)
theorem Rd.kept {b : Nat} {a : Option Addr} {len : Nat} {w w' : World} (h : Rd b a len w) (hg : w.grownBy w' (some b)) : Rd b a len w' :=
  ⟨h.le, fun j hj => by
    obtain ⟨bl, off, z, h1, h2, h3⟩ := h.el j hj
    exact ⟨bl, off, z, h1, h2, hg.cell h3 (by simpa using h2)⟩⟩
theorem grown_refl (w : World) (r : Option Nat) : w.grownBy w r := ⟨rfl, rfl, rfl, Nat.le_refl _, fun _ _ _ => rfl⟩
theorem grown_trans {a b c : World} {r : Option Nat} (h : a.grownBy b r) (k : b.grownBy c r) : a.grownBy c r :=
  ⟨k.os.trans h.os, k.tape.trans h.tape, k.output.trans h.output, Nat.le_trans h.size k.size, fun i hi hr => (k.block i (Nat.lt_of_lt_of_le hi h.size) hr).trans (h.block i hi hr)⟩
theorem grown_below {w w' : World} (r : Option Nat) (h : Below w.heap.size w w') : w.grownBy w' r := ⟨h.os, h.tape, h.output, h.size, fun i hi _ => h.block i hi⟩
theorem grown_drewN {a w : World} {r : Option Nat} (h : a.grownBy w r) (n : Nat) : a.grownBy (w.drewN n) r := ⟨h.os, h.tape, h.output, h.size, h.block⟩
theorem grown_alloc {a w : World} {r : Option Nat} (h : a.grownBy w r) (o : Obj) : a.grownBy (w.alloc o) r := grown_trans h (World.grownBy_alloc w o r)
theorem grown_set {a w : World} {b o : Nat} (h : a.grownBy w (some b)) (u : Value) : a.grownBy (w.setCell ⟨b, o, none⟩ u) (some b) :=
  have hb : Below 0 w (w.setCell ⟨b, o, none⟩ u) := (Below.refl 0 w).setCell (Nat.zero_le _) u
  grown_trans h ⟨hb.os, hb.tape, hb.output, hb.size, fun i _ hr => Below.heap_setCell w _ u i (by simpa using hr)⟩
theorem Str.below {b : Nat} {a : Option Addr} {len cap k : Nat} {w w' : World} (h : Str b a len cap k w) (hb : Below w.heap.size w w') : Str b a len cap k w' := by
  have hl := World.block_lt_of_cell? w _ h.c0
  exact ⟨(hb.cell hl).trans h.c0, (hb.cell (p := ⟨b, 1, none⟩) hl).trans h.c1, (hb.frozen (p := ⟨b, 1, none⟩) hl).trans h.fz, h.rd.kept (grown_below _ hb)⟩
theorem adv_set {b : Nat} {a : Option Addr} {len cap k : Nat} {w : World} (h : Str b a len cap k w) : Adv b a len cap k 1 w (w.setCell ⟨b, 1, none⟩ (.int .i64 ((k : Int) + 1))) := by
  obtain ⟨h0, h1, hf, hr⟩ := h
  have hg := grown_set (b := b) (o := 1) (grown_refl w (some b)) (.int .i64 ((k : Int) + 1))
  exact ⟨⟨k + 1, by omega, by go_simp, by go_simp, by go_simp, hr.kept hg⟩, hg⟩
theorem adv_drewN {b : Nat} {a : Option Addr} {len cap k c : Nat} {w w' : World} (h : Adv b a len cap k c w w') (n : Nat) : Adv b a len cap k c w (w'.drewN n) := by
  obtain ⟨⟨k', hk, h0, h1, hf, hr⟩, hg⟩ := h
  exact ⟨⟨k', hk, h0, h1, hf, hr.kept (grown_drewN (grown_refl w' _) n)⟩, grown_drewN hg n⟩
theorem adv_setN {b : Nat} {a : Option Addr} {len cap k : Nat} {w : World} (h : Str b a len cap k w) (n : Nat) : Adv b a len cap k 1 w ((w.setCell ⟨b, 1, none⟩ (.int .i64 ((k : Int) + 1))).drewN n) := adv_drewN (adv_set h) n
def SomeNat (P : Nat → Prop) (R : World → Prop) (e : Ending) (w' : World) : Prop := ∃ r : Nat, P r ∧ e = .returned (.int .i64 r) ∧ R w'
theorem some_bel {x n : Int} {R : World → Prop} {w' : World} (hn : 1 ≤ n) (h : R w') : SomeNat (fun r => (r : Int) < n) R (.returned (.int .i64 (bel x n))) w' := by
  have hr := bel_range x n (by omega)
  exact ⟨(bel x n).toNat, by show ((bel x n).toNat : Int) < n; omega, by rw [Int.toNat_of_nonneg hr.1], h⟩
set_option maxHeartbeats 400000 in
theorem next_any (b len cap : Nat) (a : Option Addr) (k : Nat) (n : Int) (hn : 1 ≤ n) (hn2 : n ≤ 1073741824) (hk : k ≤ 1000000) (w : World) (hS : Str b a len cap k w) :
    Calls Tryz.prog 12 #[.pointer (some ⟨b, 0, none⟩), .int .i64 n] w (SomeNat (fun r => (r : Int) < n) (Adv b a len cap k 1 w)) := by
  obtain ⟨h0, h1, hf, hrd⟩ := hS
  have hl := hrd.le
  by_cases hz : len = 0
  · have hb : ((len : Int) == 0) = true := by rw [hz]; rfl
    clear hz
    have HR := Lib.hid hrd
    clear hrd
    go_enter Tryz.func12, Tryz.ntmps12
    go_wp2_with fail
    refine (below_any _ _ (by omega) (by omega) _).mono ?_
    rintro e w' ⟨rfl, rfl⟩
    go_wp2_with fail
    go_ret
    exact some_bel (by omega) (adv_set ⟨h0, h1, hf, HR.out⟩)
  · have hb : ((len : Int) == 0) = false := by simpa using hz
    have hlt : k % len < len := Nat.mod_lt _ (by omega)
    obtain ⟨bl, off, z, ha, hne, hc⟩ := hrd.el _ hlt
    have HR := Lib.hid hrd
    clear hrd
    subst ha
    go_enter Tryz.func12, Tryz.ntmps12
    go_wp2_with fail
    go_quiet (fail)
    go_wp2_with fail
    go_quiet (fail)
    go_wp2_with fail
    refine (below_any _ _ (by omega) (by omega) _).mono ?_
    rintro e w' ⟨rfl, rfl⟩
    go_wp2_with fail
    refine (below_any _ _ (by omega) (by omega) _).mono ?_
    rintro e w' ⟨rfl, rfl⟩
    go_wp2_with fail
    go_ret
    exact some_bel (by omega) (adv_setN ⟨h0, h1, hf, HR.out⟩ _)
theorem adv_trans {b : Nat} {a : Option Addr} {len cap k k1 c1 c2 c : Nat} {w w1 w2 : World} (h : Adv b a len cap k c1 w w1) (hk : k1 ≤ k + c1) (h2 : Adv b a len cap k1 c2 w1 w2) (hc : c1 + c2 ≤ c) : Adv b a len cap k c w w2 := by
  obtain ⟨⟨k2, hk2, s2⟩, g2⟩ := h2
  exact ⟨⟨k2, by omega, s2⟩, grown_trans h.gr g2⟩
theorem adv_below {b : Nat} {a : Option Addr} {len cap k c : Nat} {w w1 w2 : World} (h : Adv b a len cap k c w w1) (hb : Below w1.heap.size w1 w2) : Adv b a len cap k c w w2 := by
  obtain ⟨⟨k1, hk1, s1⟩, g1⟩ := h
  exact ⟨⟨k1, hk1, s1.below hb⟩, grown_trans g1 (grown_below _ hb)⟩
theorem adv_refl {b : Nat} {a : Option Addr} {len cap k : Nat} {w : World} (h : Str b a len cap k w) (c : Nat) : Adv b a len cap k c w w := ⟨⟨k, by omega, h⟩, grown_refl _ _⟩
theorem adv_mono {b : Nat} {a : Option Addr} {len cap k c c' : Nat} {w w1 : World} (h : Adv b a len cap k c w w1) (hc : c ≤ c') : Adv b a len cap k c' w w1 := by
  obtain ⟨⟨k1, hk1, s1⟩, g1⟩ := h
  exact ⟨⟨k1, by omega, s1⟩, g1⟩
theorem xor_U (x y : Int) : bits .xor .u64 x y = U (BitVec.ofInt 64 x ^^^ BitVec.ofInt 64 y) := by
  have := (BitVec.ofInt 64 x ^^^ BitVec.ofInt 64 y).isLt
  unfold U; show IntKind.u64.wrap _ = _; rw [IntKind.wrap_u64]; show ((BitVec.ofInt 64 x ^^^ BitVec.ofInt 64 y).toNat : Int) % _ = _; omega
def SomeW (R : World → Prop) (e : Ending) (w' : World) : Prop := ∃ V : BitVec 64, e = .returned (.int .u64 (U V)) ∧ R w'
def SomeVx (n : Nat) (P : Vx → Prop) (R : World → Prop) (e : Ending) (w' : World) : Prop := ∃ V : Vx, V.ok n ∧ P V ∧ e = .returned (.agg #[.int .i64 n, .int .u64 (U V.v), .int .u64 (U V.x)]) ∧ R w'
set_option maxHeartbeats 400000 in
theorem word_any (b len cap : Nat) (a : Option Addr) (k : Nat) (hk : k ≤ 900000) (w : World) (hS : Str b a len cap k w) :
    Calls Tryz.prog 13 #[.pointer (some ⟨b, 0, none⟩)] w (SomeW (Adv b a len cap k 3 w)) := by
  go_enter Tryz.func13, Tryz.ntmps13
  go_wp2_with fail
  refine (next_any b len cap a k _ (by omega) (by omega) (by omega) _ hS).mono ?_
  rintro e w1 ⟨r1, hr1, rfl, A1⟩
  obtain ⟨k1, hk1, S1⟩ := A1.st
  go_wp2_with fail
  refine (next_any b len cap a k1 _ (by omega) (by omega) (by omega) _ S1).mono ?_
  rintro e w2 ⟨r2, hr2, rfl, A2⟩
  obtain ⟨k2, hk2, S2⟩ := A2.st
  go_wp2_with fail
  refine (next_any b len cap a k2 _ (by omega) (by omega) (by omega) _ S2).mono ?_
  rintro e w3 ⟨r3, hr3, rfl, A3⟩
  go_wp2_with fail
  go_ret
  exact ⟨_, ret_int (xor_U _ _), adv_trans A1 hk1 (adv_trans A2 hk2 A3 (Nat.le_refl _)) (Nat.le_refl _)⟩
set_option maxHeartbeats 400000 in
theorem range_any (b len cap : Nat) (a : Option Addr) (k : Nat) (lo hi : Nat) (h1 : lo ≤ hi) (h2 : hi ≤ 1000000) (hk : k ≤ 900000) (w : World) (hS : Str b a len cap k w) :
    Calls Tryz.prog 6 #[.pointer (some ⟨b, 0, none⟩), .int .i64 lo, .int .i64 hi] w (SomeNat (fun r => lo ≤ r ∧ r ≤ hi) (Adv b a len cap k 1 w)) := by
  go_enter Tryz.func6, Tryz.ntmps6
  go_wp2_with fail
  refine (next_any b len cap a k _ (by omega) (by omega) (by omega) _ hS).mono ?_
  rintro e w1 ⟨r1, hr1, rfl, A1⟩
  go_wp2_with fail
  go_ret
  exact ⟨lo + r1, ⟨by omega, by omega⟩, rfl, A1⟩
def SomeBool (R : World → Prop) (e : Ending) (w' : World) : Prop := ∃ t : Bool, e = .returned (.bool t) ∧ R w'
set_option maxHeartbeats 400000 in
theorem flip_any (b len cap : Nat) (a : Option Addr) (k : Nat) (hk : k ≤ 900000) (n : Int) (hn : 1 ≤ n) (hn2 : n ≤ 1073741824) (w : World) (hS : Str b a len cap k w) :
    Calls Tryz.prog 7 #[.pointer (some ⟨b, 0, none⟩), .int .i64 n] w (SomeBool (Adv b a len cap k 1 w)) := by
  go_enter Tryz.func7, Tryz.ntmps7
  go_wp2_with fail
  refine (next_any b len cap a k _ (by omega) (by omega) (by omega) _ hS).mono ?_
  rintro e w1 ⟨r1, hr1, rfl, A1⟩
  go_wp2_with fail
  go_ret
  exact ⟨_, rfl, A1⟩
end Go.Proofs.YtmaokbdjahgkiaaGreatDoor
namespace Go.Proofs.YtmaokbdjahgkiaaGreatDoor
open Go Go.RowKit
set_option linter.unusedVariables false
theorem and_U (x : Int) (m : BitVec 64) : bits .and .u64 x (U m) = U (BitVec.ofInt 64 x &&& m) := by
  have h1 : BitVec.ofInt 64 (U m) = m := by unfold U; simp
  have := (BitVec.ofInt 64 x &&& m).isLt
  show IntKind.u64.wrap ((BitVec.ofInt 64 x &&& BitVec.ofInt 64 (U m)).toNat : Int) = _
  rw [h1, IntKind.wrap_u64]; unfold U; omega
theorem ret_vec {n : Nat} {x : Int} {V : BitVec 64} (h : x = U V) : Ending.returned (.agg #[.int .i64 n, .int .u64 x, .int .u64 0]) = .returned (.agg #[.int .i64 n, .int .u64 (U (⟨V, 0#64⟩ : Vx).v), .int .u64 (U (⟨V, 0#64⟩ : Vx).x)]) := by rw [h]; rfl
theorem grown_cell {b : Nat} {W w : World} (hg : W.grownBy w (some b)) {p : Nat} (hp : p < W.heap.size) (hne : b ≠ p) :
    (∀ o, w.cell? ⟨p, o, none⟩ = W.cell? ⟨p, o, none⟩) ∧ (∀ o, w.frozen? ⟨p, o, none⟩ = W.frozen? ⟨p, o, none⟩) ∧ p < w.heap.size :=
  ⟨fun o => World.cell?_of_block (a := ⟨p, o, none⟩) (hg.block p hp (by simpa using fun h => hne h.symm)), fun o => World.frozen?_of_block (a := ⟨p, o, none⟩) (hg.block p hp (by simpa using fun h => hne h.symm)), Nat.lt_of_lt_of_le hp hg.size⟩
theorem adv_of {b : Nat} {a : Option Addr} {len cap k c : Nat} {w W w3 w4 : World} (hS : Str b a len cap k w) (A : Adv b a len cap k c W w3) (hW : Below w.heap.size w W) (hb : Below w.heap.size w3 w4) (hl : b < w.heap.size) :
    Adv b a len cap k c w w4 := by
  obtain ⟨⟨k1, hk1, s1⟩, g1⟩ := A
  have gr : w.grownBy w4 (some b) := ⟨hb.os.trans (g1.os.trans hW.os), hb.tape.trans (g1.tape.trans hW.tape), hb.output.trans (g1.output.trans hW.output), Nat.le_trans hW.size (Nat.le_trans g1.size hb.size),
    fun i hi hne => (hb.block i hi).trans ((g1.block i (Nat.lt_of_lt_of_le hi hW.size) hne).trans (hW.block i hi))⟩
  exact ⟨⟨k1, hk1, (hb.cell (p := ⟨b, 0, none⟩) hl).trans s1.c0, (hb.cell (p := ⟨b, 1, none⟩) hl).trans s1.c1, (hb.frozen (p := ⟨b, 1, none⟩) hl).trans s1.fz, hS.rd.kept gr⟩, gr⟩
set_option maxHeartbeats 1000000 in
theorem known_any (b len cap : Nat) (a : Option Addr) (k : Nat) (hk : k ≤ 800000) (n : Nat) (h1 : 1 ≤ n) (h2 : n ≤ 64) (w : World) (hS : Str b a len cap k w) :
    Calls Tryz.prog 9 #[.pointer (some ⟨b, 0, none⟩), .int .i64 n] w (SomeVx n (fun V => V.x = 0#64) (Adv b a len cap k 5 w)) := by
  go_enter Tryz.func9, Tryz.ntmps9
  go_wp2_with fail
  have hl : b < w.heap.size := World.block_lt_of_cell? w _ hS.c0
  refine (word_any b len cap a k (by omega) _ (hS.below ((Below.refl _ _).alloc (Nat.le_refl _) _))).mono ?_
  rintro e w1 ⟨V, rfl, A1⟩
  obtain ⟨k1, hk1, S1⟩ := A1.st
  go_wp2_with fail
  refine (next_any b len cap a k1 _ (by omega) (by omega) (by omega) _ S1).mono ?_
  rintro e w2 ⟨r2, hr2, rfl, A2⟩
  obtain ⟨k2, hk2, S2⟩ := A2.st
  by_cases c0 : r2 = 0
  · subst c0
    go_wp2_with fail
    refine (next_any b len cap a k2 _ (by omega) (by omega) (by omega) _ S2).mono ?_
    rintro e w3 ⟨r3, hr3, rfl, A3⟩
    have A := adv_trans A1 hk1 (adv_trans A2 hk2 A3 (Nat.le_refl 2)) (Nat.le_refl 5)
    obtain ⟨gc, gf, gz⟩ := grown_cell A.gr (p := w.heap.size) (by simp) (by omega)
    go_wp2_with fail
    refine (mmask_any n h2 _).mono ?_
    rintro e w' ⟨rfl, rfl⟩
    go_wp2_with fail
    exact bodyPost_ret (v := .agg #[.int .i64 n, .int .u64 (U (kv n (BitVec.ofInt 64 r3)).v), .int .u64 (U (kv n (BitVec.ofInt 64 r3)).x)]) (by simp [results, Tryz.results9, go_sem, gc] <;> exact ⟨and_U _ _, rfl⟩) rfl ⟨(kv n (BitVec.ofInt 64 r3)), kv_ok h1 h2 _, rfl, rfl, adv_of hS A ((Below.refl _ _).alloc (Nat.le_refl _) _) (by (repeat (first | exact Below.refl _ _ | exact Nat.le_refl _ | refine below_drewN ?_ _ | refine Below.drew ?_ | refine Below.alloc ?_ ?_ _ | refine Below.setCell ?_ ?_ _ | refine below_step (by assumption) ?_ ?_)) <;> (first | omega | (simp <;> omega))) hl⟩
  · by_cases c1 : r2 = 1
    · subst c1
      go_wp2_with fail
      refine (next_any b len cap a k2 _ (by omega) (by omega) (by omega) _ S2).mono ?_
      rintro e w3 ⟨r3, hr3, rfl, A3⟩
      have A := adv_trans A1 hk1 (adv_trans A2 hk2 A3 (Nat.le_refl 2)) (Nat.le_refl 5)
      obtain ⟨gc, gf, gz⟩ := grown_cell A.gr (p := w.heap.size) (by simp) (by omega)
      go_wp2_with fail
      refine (mmask_any n h2 _).mono ?_
      rintro e w' ⟨rfl, rfl⟩
      go_wp2_with fail
      exact bodyPost_ret (v := .agg #[.int .i64 n, .int .u64 (U (kv n (BitVec.ofInt 64 (bits .xor .u64 IntKind.u64.max r3))).v), .int .u64 (U (kv n (BitVec.ofInt 64 (bits .xor .u64 IntKind.u64.max r3))).x)]) (by simp [results, Tryz.results9, go_sem, gc] <;> exact ⟨and_U _ _, rfl⟩) rfl ⟨(kv n (BitVec.ofInt 64 (bits .xor .u64 IntKind.u64.max r3))), kv_ok h1 h2 _, rfl, rfl, adv_of hS A ((Below.refl _ _).alloc (Nat.le_refl _) _) (by (repeat (first | exact Below.refl _ _ | exact Nat.le_refl _ | refine below_drewN ?_ _ | refine Below.drew ?_ | refine Below.alloc ?_ ?_ _ | refine Below.setCell ?_ ?_ _ | refine below_step (by assumption) ?_ ?_)) <;> (first | omega | (simp <;> omega))) hl⟩
    · by_cases c2 : r2 = 2
      · subst c2
        go_wp2_with fail
        refine (next_any b len cap a k2 _ (by omega) (by omega) (by omega) _ S2).mono ?_
        rintro e w3 ⟨r3, hr3, rfl, A3⟩
        have A := adv_trans A1 hk1 (adv_trans A2 hk2 A3 (Nat.le_refl 2)) (Nat.le_refl 5)
        obtain ⟨gc, gf, gz⟩ := grown_cell A.gr (p := w.heap.size) (by simp) (by omega)
        go_wp2_with fail
        refine (mmask_any n h2 _).mono ?_
        rintro e w' ⟨rfl, rfl⟩
        go_wp2_with fail
        exact bodyPost_ret (v := .agg #[.int .i64 n, .int .u64 (U (kv n (BitVec.ofInt 64 (IntKind.u64.wrap (2 ^ r3)))).v), .int .u64 (U (kv n (BitVec.ofInt 64 (IntKind.u64.wrap (2 ^ r3)))).x)]) (by simp [results, Tryz.results9, go_sem, gc] <;> exact ⟨and_U _ _, rfl⟩) rfl ⟨(kv n (BitVec.ofInt 64 (IntKind.u64.wrap (2 ^ r3)))), kv_ok h1 h2 _, rfl, rfl, adv_of hS A ((Below.refl _ _).alloc (Nat.le_refl _) _) (by (repeat (first | exact Below.refl _ _ | exact Nat.le_refl _ | refine below_drewN ?_ _ | refine Below.drew ?_ | refine Below.alloc ?_ ?_ _ | refine Below.setCell ?_ ?_ _ | refine below_step (by assumption) ?_ ?_)) <;> (first | omega | (simp <;> omega))) hl⟩
      · have e0 : ((r2 : Int) == 0) = false := by simpa using c0
        have e1 : ((r2 : Int) == 1) = false := beq_eq_false_iff_ne.2 (by omega)
        have e2 : ((r2 : Int) == 2) = false := beq_eq_false_iff_ne.2 (by omega)
        clear c0 c1 c2
        have A := adv_mono (adv_trans A1 hk1 A2 (Nat.le_refl 4)) (show 4 ≤ 5 by decide)
        obtain ⟨gc, gf, gz⟩ := grown_cell A.gr (p := w.heap.size) (by simp) (by omega)
        go_wp2_with fail
        refine (mmask_any n h2 _).mono ?_
        rintro e w' ⟨rfl, rfl⟩
        go_wp2_with fail
        exact bodyPost_ret (v := .agg #[.int .i64 n, .int .u64 (U (kv n (V)).v), .int .u64 (U (kv n (V)).x)]) (by simp [results, Tryz.results9, go_sem, gc] <;> exact ⟨rfl, rfl⟩) rfl ⟨(kv n (V)), kv_ok h1 h2 _, rfl, rfl, adv_of hS A ((Below.refl _ _).alloc (Nat.le_refl _) _) (by (repeat (first | exact Below.refl _ _ | exact Nat.le_refl _ | refine below_drewN ?_ _ | refine Below.drew ?_ | refine Below.alloc ?_ ?_ _ | refine Below.setCell ?_ ?_ _ | refine below_step (by assumption) ?_ ?_)) <;> (first | omega | (simp <;> omega))) hl⟩
set_option maxHeartbeats 1000000 in
theorem width_any (b len cap : Nat) (a : Option Addr) (k : Nat) (hk : k ≤ 800000) (w : World) (hS : Str b a len cap k w) :
    Calls Tryz.prog 4 #[.pointer (some ⟨b, 0, none⟩)] w (SomeNat (fun r => 1 ≤ r ∧ r ≤ 64) (Adv b a len cap k 2 w)) := by
  go_enter Tryz.func4, Tryz.ntmps4
  go_wp2_with fail
  refine (next_any b len cap a k _ (by omega) (by omega) (by omega) _ hS).mono ?_
  rintro e w1 ⟨r1, hr1, rfl, A1⟩
  obtain ⟨k1, hk1, S1⟩ := A1.st
  by_cases c0 : r1 = 0
  · subst c0
    go_wp2_with fail
    go_ret
    exact ⟨64, ⟨by decide, by decide⟩, rfl, adv_mono A1 (by decide)⟩
  · by_cases c1 : r1 = 1
    · subst c1
      go_wp2_with fail
      refine (range_any b len cap a k1 1 64 (by decide) (by decide) (by omega) _ S1).mono ?_
      rintro e w2 ⟨r2, hr2, rfl, A2⟩
      go_wp2_with fail
      go_ret
      exact ⟨r2, hr2, rfl, adv_trans A1 hk1 A2 (Nat.le_refl _)⟩
    · have e0 : ((r1 : Int) == 0) = false := by simpa using c0
      have e1 : ((r1 : Int) == 1) = false := beq_eq_false_iff_ne.2 (by omega)
      clear c0 c1
      go_wp2_with fail
      refine (range_any b len cap a k1 1 8 (by decide) (by decide) (by omega) _ S1).mono ?_
      rintro e w2 ⟨r2, hr2, rfl, A2⟩
      go_wp2_with fail
      go_ret
      exact ⟨r2, ⟨hr2.1, by have := hr2.2; omega⟩, rfl, adv_trans A1 hk1 A2 (Nat.le_refl _)⟩
theorem Str.drew' {b : Nat} {a : Option Addr} {len cap k : Nat} {w : World} (h : Str b a len cap k w) : Str b a len cap k w.drew := h.below (Below.refl _ _).drew
theorem adv_undrew {b : Nat} {a : Option Addr} {len cap k c : Nat} {w w' : World} (h : Adv b a len cap k c w.drew w') : Adv b a len cap k c w w' := ⟨h.st, ⟨h.gr.os, h.gr.tape, h.gr.output, h.gr.size, h.gr.block⟩⟩
set_option maxHeartbeats 1000000 in
theorem bits_any (b len cap : Nat) (a : Option Addr) (k : Nat) (hk : k ≤ 700000) (n : Nat) (h1 : 1 ≤ n) (h2 : n ≤ 64) (w : World) (hS : Str b a len cap k w) :
    Calls Tryz.prog 5 #[.pointer (some ⟨b, 0, none⟩), .int .i64 n] w (SomeVx n (fun _ => True) (Adv b a len cap k 9 w)) := by
  go_enter Tryz.func5, Tryz.ntmps5
  go_wp2_with fail
  have hl : b < w.heap.size := World.block_lt_of_cell? w _ hS.c0
  refine (known_any b len cap a k (by omega) n h1 h2 _ (hS.below ((Below.refl _ _).alloc (Nat.le_refl _) _))).mono ?_
  rintro e w1 ⟨V, hV, hx, rfl, A1⟩
  have HX := Lib.hid hx
  clear hx
  obtain ⟨k1, hk1, S1⟩ := A1.st
  obtain ⟨gc, gf, gz⟩ := grown_cell A1.gr (p := w.heap.size) (by simp) (by omega)
  go_wp2_with fail
  refine (next_any b len cap a k1 _ (by omega) (by omega) (by omega) _ (S1.below ((Below.refl _ _).alloc (Nat.le_refl _) _))).mono ?_
  rintro e w2 ⟨r2, hr2, rfl, A2⟩
  obtain ⟨k2, hk2, S2⟩ := A2.st
  by_cases c0 : r2 = 0
  · subst c0
    go_wp2_with fail
    refine (word_any b len cap a k2 (by omega) _ S2).mono ?_
    rintro e w3 ⟨Y, rfl, A3⟩
    have B := adv_trans A2 hk2 A3 (Nat.le_refl _)
    obtain ⟨pc, pf, pz⟩ := grown_cell B.gr (p := w1.heap.size) (by simp) (by omega)
    obtain ⟨qc, qf, qz⟩ := grown_cell B.gr (p := w.heap.size) (by first | omega | (simp <;> omega)) (by omega)
    have A := adv_mono (adv_trans (adv_below A1 ((Below.refl _ _).alloc (Nat.le_refl _) _)) hk1 B (Nat.le_refl _)) (show 9 ≤ 9 by decide)
    go_wp2_with fail
    refine (mmask_any n h2 _).mono ?_
    rintro e w' ⟨rfl, rfl⟩
    go_wp2_with fail
    exact bodyPost_ret (v := .agg #[.int .i64 n, .int .u64 (U (⟨V.v, Y &&& msk n⟩ : Vx).v), .int .u64 (U (⟨V.v, Y &&& msk n⟩ : Vx).x)]) (by simp [results, Tryz.results5, go_sem, gc, gz, qc]) rfl ⟨(⟨V.v, Y &&& msk n⟩ : Vx), ok_mk h1 h2 hV.subv (sub_and' (sub_msk h2)), trivial, rfl, adv_of hS A ((Below.refl _ _).alloc (Nat.le_refl _) _) (by (repeat (first | exact Below.refl _ _ | exact Nat.le_refl _ | refine below_drewN ?_ _ | refine Below.drew ?_ | refine Below.alloc ?_ ?_ _ | refine Below.setCell ?_ ?_ _ | refine below_step (by assumption) ?_ ?_)) <;> (first | omega | (simp <;> omega))) hl⟩
  · by_cases c1 : r2 = 1
    · subst c1
      go_wp2_with fail
      go_region_with (first | (go_at_call 12; refine (next_any b len cap a k2 _ (by omega) (by omega) (by omega) _ (by repeat (first | exact S2 | apply Str.drew'))).mono ?_; rintro e w3 ⟨r3, hr3, rfl, A3⟩; have B := adv_trans A2 hk2 (show Adv b a len cap k2 1 w2 w3 by first | exact A3 | exact adv_undrew A3 | exact adv_undrew (adv_undrew A3) | exact adv_undrew (adv_undrew (adv_undrew A3))) (Nat.le_refl _); obtain ⟨pc, pf, pz⟩ := grown_cell B.gr (p := w1.heap.size) (by simp) (by omega); obtain ⟨qc, qf, qz⟩ := grown_cell B.gr (p := w.heap.size) (by first | omega | (simp <;> omega)) (by omega)) | (go_at_call 14; refine (mmask_any n h2 _).mono ?_; rintro e w' ⟨rfl, rfl⟩))
      all_goals
        go_wp2_with fail
        have A := adv_mono (adv_trans (adv_below A1 ((Below.refl _ _).alloc (Nat.le_refl _) _)) hk1 B (Nat.le_refl _)) (show 7 ≤ 9 by decide)
        exact bodyPost_ret (v := .agg #[.int .i64 n, .int .u64 (U (⟨V.v, BitVec.ofInt 64 (IntKind.u64.wrap (2 ^ r3)) &&& msk n⟩ : Vx).v), .int .u64 (U (⟨V.v, BitVec.ofInt 64 (IntKind.u64.wrap (2 ^ r3)) &&& msk n⟩ : Vx).x)]) (by simp [results, Tryz.results5, go_sem, gc, gz, qc] <;> exact and_U _ _) rfl ⟨(⟨V.v, BitVec.ofInt 64 (IntKind.u64.wrap (2 ^ r3)) &&& msk n⟩ : Vx), ok_mk h1 h2 hV.subv (sub_and' (sub_msk h2)), trivial, rfl, adv_of hS A ((Below.refl _ _).alloc (Nat.le_refl _) _) (by (repeat (first | exact Below.refl _ _ | exact Nat.le_refl _ | refine below_drewN ?_ _ | refine Below.drew ?_ | refine Below.alloc ?_ ?_ _ | refine Below.setCell ?_ ?_ _ | refine below_step (by assumption) ?_ ?_)) <;> (first | omega | (simp <;> omega))) hl⟩
    · by_cases c2 : r2 = 2
      · subst c2
        have B := A2
        obtain ⟨pc, pf, pz⟩ := grown_cell B.gr (p := w1.heap.size) (by simp) (by omega)
        obtain ⟨qc, qf, qz⟩ := grown_cell B.gr (p := w.heap.size) (by first | omega | (simp <;> omega)) (by omega)
        have A := adv_mono (adv_trans (adv_below A1 ((Below.refl _ _).alloc (Nat.le_refl _) _)) hk1 B (Nat.le_refl _)) (show 6 ≤ 9 by decide)
        go_wp2_with fail
        refine (mmask_any n h2 _).mono ?_
        rintro e w' ⟨rfl, rfl⟩
        go_wp2_with fail
        exact bodyPost_ret (v := .agg #[.int .i64 n, .int .u64 (U (⟨V.v, msk n⟩ : Vx).v), .int .u64 (U (⟨V.v, msk n⟩ : Vx).x)]) (by simp [results, Tryz.results5, go_sem, gc, gz, qc]) rfl ⟨(⟨V.v, msk n⟩ : Vx), ok_mk h1 h2 hV.subv (sub_msk h2), trivial, rfl, adv_of hS A ((Below.refl _ _).alloc (Nat.le_refl _) _) (by (repeat (first | exact Below.refl _ _ | exact Nat.le_refl _ | refine below_drewN ?_ _ | refine Below.drew ?_ | refine Below.alloc ?_ ?_ _ | refine Below.setCell ?_ ?_ _ | refine below_step (by assumption) ?_ ?_)) <;> (first | omega | (simp <;> omega))) hl⟩
      · have e0 : ((r2 : Int) == 0) = false := by simpa using c0
        have e1 : ((r2 : Int) == 1) = false := beq_eq_false_iff_ne.2 (by omega)
        have e2 : ((r2 : Int) == 2) = false := beq_eq_false_iff_ne.2 (by omega)
        clear c0 c1 c2
        have B := A2
        obtain ⟨pc, pf, pz⟩ := grown_cell B.gr (p := w1.heap.size) (by simp) (by omega)
        obtain ⟨qc, qf, qz⟩ := grown_cell B.gr (p := w.heap.size) (by first | omega | (simp <;> omega)) (by omega)
        have A := adv_mono (adv_trans (adv_below A1 ((Below.refl _ _).alloc (Nat.le_refl _) _)) hk1 B (Nat.le_refl _)) (show 6 ≤ 9 by decide)
        go_wp2_with fail
        exact bodyPost_ret (v := .agg #[.int .i64 n, .int .u64 (U V.v), .int .u64 (U V.x)]) (by simp [results, Tryz.results5, go_sem, gc, gz, qc]) rfl ⟨V, hV, trivial, rfl, adv_of hS A ((Below.refl _ _).alloc (Nat.le_refl _) _) (by (repeat (first | exact Below.refl _ _ | exact Nat.le_refl _ | refine below_drewN ?_ _ | refine Below.drew ?_ | refine Below.alloc ?_ ?_ _ | refine Below.setCell ?_ ?_ _ | refine below_step (by assumption) ?_ ?_)) <;> (first | omega | (simp <;> omega))) hl⟩
end Go.Proofs.YtmaokbdjahgkiaaGreatDoor
namespace Go.Proofs.YtmaokbdjahgkiaaGreatDoor
open Go Go.RowKit
set_option linter.unusedVariables false
/-- a slice of integers that can be read -/
structure Sl (a : Option Addr) (len : Nat) (w : World) : Prop where
  le : len ≤ 17592186044416
  el : ∀ j, j < len → ∃ bl off z, a = some ⟨bl, off, none⟩ ∧ w.cell? ⟨bl, off + j, none⟩ = some (.int .i64 z)
theorem Sl.str {a : Option Addr} {len : Nat} {w : World} (h : Sl a len w) (cap : Nat) (W : World) (hW : W = w.alloc (.cells #[.slice a len cap, .int .i64 0] 25)) : Str w.heap.size a len cap 0 W := by
  subst hW
  refine ⟨by go_simp, by go_simp, by go_simp, h.le, fun j hj => ?_⟩
  obtain ⟨bl, off, z, h1, h2⟩ := h.el j hj
  have hlt : bl < w.heap.size := World.block_lt_of_cell? w _ h2
  exact ⟨bl, off, z, h1, by omega, by go_simp⟩
theorem adv_low {a : Option Addr} {len cap k c : Nat} {w W w1 : World} (A : Adv w.heap.size a len cap k c W w1) (hW : Below w.heap.size w W) : Below w.heap.size w w1 :=
  ⟨A.gr.os.trans hW.os, A.gr.tape.trans hW.tape, A.gr.output.trans hW.output, Nat.le_trans hW.size A.gr.size, fun i hi => (A.gr.block i (Nat.lt_of_lt_of_le hi hW.size) (by simp; omega)).trans (hW.block i hi)⟩
end Go.Proofs.YtmaokbdjahgkiaaGreatDoor
namespace Go.Proofs.YtmaokbdjahgkiaaGreatDoor
open Go.ChangeShapes Go.WideShapes Go.ChangeAt Go.RowKit
set_option linter.unusedVariables false
theorem glob_of {W : World} (hL : laidMetH Tryz.prog laid5 W) (hsh : W.ShapedOpen Tryz.prog) : Glob W.heap.size W := by
  rw [MakeChecks.laidMetH_plain _ _ _ (by kernel_rfl)] at hL
  have h3 : laidMet Tryz.prog [("internal/strconv.uint64pow10", Lib.tabData .u64 Lib.pow10Tab), ("strconv.ErrRange", Rows.laid_strconv_ErrRange), ("strconv.ErrSyntax", Rows.laid_strconv_ErrSyntax)] W := by
    rw [← tab_eq]; exact laidMet.tail (laidMet.tail hL)
  have ht : Lib.TabIs Tryz.prog W "internal/strconv.uint64pow10" .u64 Lib.pow10Tab :=
    Lib.tabIs_of_head (g := 3) (t := 111) (e := 27) (n := 20) (by kernel_rfl) (by kernel_rfl) Tryz.underlying111 Tryz.underlying27 (by kernel_rfl) (by kernel_rfl) h3
  obtain ⟨m, hm⟩ := cell_of_shapedOpen_int (g := 0) (t := 3) (k := .i64) (zero := #[.int .i64 0]) hsh (of_decide_eq_true (by kernel_rfl)) (by kernel_rfl) rfl (by kernel_rfl) (by kernel_rfl) Tryz.underlying3
  exact ⟨⟨m, hm⟩, World.block_lt_of_cell? W _ hm, Lib.tabBelow_of_tabIs ht, Nat.le_refl _⟩
theorem sl_of_trod {H : Type} {enc : TypeId × Value → H} {W : World} {a0 : Option Addr} {len0 cap0 : Nat} {d0 : DataW H} {p0 : List MemPlace} {hh : Bool} {ts : List TypeId} {ds : List (DataW H)}
    (h0 : DataW.Trod enc Tryz.prog W 0 (fun _ => true) hh 22 (.slice a0 len0 cap0) d0 p0) (hsz : (DataW.weightsEach Tryz.prog (22 :: ts) (d0 :: ds)).all (· ≤ reachBytes) = true) : Sl a0 len0 W := by
  obtain ⟨fuel, hf⟩ := h0
  rcases open_ints Tryz.underlying22 Tryz.underlying3 (by kernel_rfl) hf with ⟨hcs, _⟩ | ⟨x, l, c, zs, hcs, _, hl, hm, hz, hx, hcell, hwz⟩
  · simp [Value.cells] at hcs
    obtain ⟨rfl, rfl, rfl⟩ := hcs
    exact ⟨by decide, fun j hj => by omega⟩
  · simp [Value.cells] at hcs
    obtain ⟨rfl, rfl, rfl⟩ := hcs
    simp only [if_true] at hz
    simp only [Prod.mk.injEq] at hx
    obtain ⟨rfl, _⟩ := hx
    have hw := sized_slice hsz (j := 0) (t := 22) (e := 3) rfl rfl Tryz.underlying22
    have h8 : Tryz.prog.bytesOf 3 = 8 := by kernel_rfl
    have hr := reachBytes_lt
    have e3 : (2 : Nat) ^ 47 = 140737488355328 := by decide
    rw [h8] at hw
    simp [lits] at hw
    refine ⟨by omega, fun j hj => ?_⟩
    have hc := hcell j (by omega)
    obtain ⟨bl, off, spot⟩ := x
    have hspot : spot = none := by simpa [Addr.add] using World.cell?_spot (hcell 0 (by omega))
    subst hspot
    have hadd : (⟨bl, off, none⟩ : Addr).add j = ⟨bl, off + j, none⟩ := by unfold Addr.add; split <;> simp_all
    rw [hadd] at hc
    exact ⟨bl, off, zs.getD j 0, rfl, hc⟩
end Go.Proofs.YtmaokbdjahgkiaaGreatDoor
namespace Go.Proofs.YtmaokbdjahgkiaaGreatDoor
open Go Go.ChangeShapes Go.WideShapes Go.ChangeAt Go.RowKit Go.ChangeMaps
set_option linter.unusedVariables false
theorem u64_word {a : Int} (h : (Lit.int .u64 a).wf = true) : ∃ v : BitVec 64, a = U v := by
  have h2 : 0 ≤ a ∧ a ≤ 18446744073709551615 := by
    simp [Lit.wf, IntKind.min, IntKind.max, IntKind.signed, IntKind.bits] at h
    omega
  refine ⟨BitVec.ofNat 64 a.toNat, ?_⟩
  unfold U
  rw [BitVec.toNat_ofNat]
  have : a.toNat < 2 ^ 64 := by omega
  rw [Nat.mod_eq_of_lt this]; omega
theorem u8_byte {a : Int} (h : (Lit.int .u8 a).wf = true) : ∃ c : UInt8, a = (c.toNat : Int) := by
  have h2 : 0 ≤ a ∧ a ≤ 255 := by
    simp [Lit.wf, IntKind.min, IntKind.max, IntKind.signed, IntKind.bits] at h
    omega
  refine ⟨UInt8.ofNat a.toNat, ?_⟩
  simp <;> omega
set_option maxRecDepth 100000 in
theorem open_bits {H : Type} {enc : TypeId × Value → H} {W : World} {sp : Nat → Bool} {hh : Bool} {b0 : Nat} {v : Value} {d : DataW H} {p : List MemPlace} (hv : Value.okWide Tryz.prog W .any b0 29 v) (h : DataW.Trod enc Tryz.prog W 0 sp hh 29 v d p) :
    ∃ r : Rb, v = .agg #[.int .i64 r.W, .int .u64 (U r.v), .int .u64 (U r.x)] := by
  obtain ⟨cs, rfl, hsz⟩ := okWide_struct Tryz.underlying29 hv
  have h5 : Tryz.prog.cellsOf 29 = 3 := by kernel_rfl
  have c3 : Tryz.prog.cellsOf 3 = 1 := by kernel_rfl
  have c6 : Tryz.prog.cellsOf 27 = 1 := by kernel_rfl
  rw [h5] at hsz
  obtain ⟨fuel, hf⟩ := h
  obtain ⟨xs, n, _, hx, _, hlen, hg⟩ := DataW.trod_struct Tryz.underlying29 hf
  obtain ⟨l⟩ := cs
  match l, hsz, xs, hlen, hg with
  | [v0, v1, v2], _, [y0, y1, y2], _, hg =>
    have g0 := hg 0 _ rfl
    have g1 := hg 1 _ rfl
    have g2 := hg 2 _ rfl
    simp [Value.cells, c3] at g0
    simp [Value.cells, c6] at g1
    simp [Value.cells, c6] at g2
    obtain ⟨a, e0, _, s0⟩ := DataW.trod_int Tryz.underlying3 g0
    obtain ⟨b, e1, _, s1⟩ := DataW.trod_int Tryz.underlying27 g1
    obtain ⟨c, e2, _, s2⟩ := DataW.trod_int Tryz.underlying27 g2
    simp at e0 e1 e2
    subst e0 e1 e2
    obtain ⟨v, rfl⟩ := u64_word s1
    obtain ⟨x, rfl⟩ := u64_word s2
    exact ⟨⟨a, v, x⟩, rfl⟩
end Go.Proofs.YtmaokbdjahgkiaaGreatDoor
namespace Go.Proofs.YtmaokbdjahgkiaaGreatDoor
open Go Go.RowKit
theorem int_rng {a : Int} (h : (Lit.int .i64 a).wf = true) : -9223372036854775808 ≤ a ∧ a ≤ 9223372036854775807 := by
  simp [Lit.wf, IntKind.min, IntKind.max, IntKind.signed, IntKind.bits] at h
  omega
theorem int_lo {a : Int} (h : (Lit.int .i64 a).wf = true) : Hid (-9223372036854775808 ≤ a) := Lib.hid (int_rng h).1
theorem int_hi {a : Int} (h : (Lit.int .i64 a).wf = true) : Hid (a ≤ 9223372036854775807) := Lib.hid (int_rng h).2
end Go.Proofs.YtmaokbdjahgkiaaGreatDoor
