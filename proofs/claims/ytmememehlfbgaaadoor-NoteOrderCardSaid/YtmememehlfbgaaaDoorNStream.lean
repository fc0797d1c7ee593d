/- The makers' stream of numbers: each number lies in the range that is asked for; of memory only the stream's own block is written. -/
import Derived.Test.YtmememehlfbgaaaDoorNoteW
namespace Go.Proofs.YtmememehlfbgaaaDoor
open Go Go.RowKit
set_option linter.unusedVariables false
def bel (x n : Int) : Int := if x.tmod n < 0 then x.tmod n + n else x.tmod n
theorem bel_range (x n : Int) (hn : 1 ≤ n) : 0 ≤ bel x n ∧ bel x n < n := by
  have h1 := Int.tmod_lt_of_pos x (show 0 < n by omega)
  have h2 := Int.lt_tmod_of_pos x (show 0 < n by omega)
  unfold bel; split <;> omega
set_option maxHeartbeats 400000 in
theorem below_any (x n : Int) (hn : 1 ≤ n) (hn2 : n ≤ 1073741824) (w : World) : Calls Tryd.prog 46 #[.int .i64 x, .int .i64 n] w fun e w' => e = .returned (.int .i64 (bel x n)) ∧ w = w' := by
  have h2 := Int.lt_tmod_of_pos x (show 0 < n by omega)
  by_cases hs : x.tmod n < 0
  · go_enter Tryd.func46, Tryd.ntmps46
    go_wp2_with fail
    go_ret
    exact ⟨ret_int (by unfold bel; first | rw [if_pos hs] | rw [if_neg (by omega)]), rfl⟩
  · go_enter Tryd.func46, Tryd.ntmps46
    go_wp2_with fail
    go_ret
    exact ⟨ret_int (by unfold bel; first | rw [if_pos hs] | rw [if_neg (by omega)]), rfl⟩
/-- the numbers that a stream reads: a slice of integers that lies outside block b -/
structure Rd (b : Nat) (a : Option Addr) (len : Nat) (w : World) : Prop where
  le : len ≤ 17592186044416
  el : ∀ j, j < len → ∃ bl off z, a = some ⟨bl, off, none⟩ ∧ bl ≠ b ∧ w.cell? ⟨bl, off + j, none⟩ = some (.int .i64 z)
structure Str (b : Nat) (a : Option Addr) (len cap k : Nat) (w : World) : Prop where
  c0 : w.cell? ⟨b, 0, none⟩ = some (.slice a len cap)
  c1 : w.cell? ⟨b, 1, none⟩ = some (.int .i64 k)
  fz : w.frozen? ⟨b, 1, none⟩ = false
  rd : Rd b a len w
/-- what a call that asks the stream for at most c numbers does to memory -/
structure Adv (b : Nat) (a : Option Addr) (len cap k c : Nat) (w w' : World) : Prop where
  st : ∃ k', k' ≤ k + c ∧ Str b a len cap k' w'
  gr : w.grownBy w' (some b)
theorem Rd.kept {b : Nat} {a : Option Addr} {len : Nat} {w w' : World} (h : Rd b a len w) (hg : w.grownBy w' (some b)) : Rd b a len w' :=
  ⟨h.le, fun j hj => by
    obtain ⟨bl, off, z, h1, h2, h3⟩ := h.el j hj
    exact ⟨bl, off, z, h1, h2, hg.cell h3 (by simpa using h2)⟩⟩
theorem grown_refl (w : World) (r : Option Nat) : w.grownBy w r := ⟨rfl, rfl, rfl, Nat.le_refl _, fun _ _ _ => rfl⟩
theorem grown_trans {a b c : World} {r : Option Nat} (h : a.grownBy b r) (k : b.grownBy c r) : a.grownBy c r :=
  ⟨k.os.trans h.os, k.tape.trans h.tape, k.output.trans h.output, Nat.le_trans h.size k.size, fun i hi hr => (k.block i (Nat.lt_of_lt_of_le hi h.size) hr).trans (h.block i hi hr)⟩
theorem grown_below {w w' : World} (r : Option Nat) (h : Below w.heap.size w w') : w.grownBy w' r := ⟨h.os, h.tape, h.output, h.size, fun i hi _ => h.block i hi⟩
theorem grown_drewN {a w : World} {r : Option Nat} (h : a.grownBy w r) (n : Nat) : a.grownBy (w.drewN n) r := ⟨h.os, h.tape, h.output, h.size, h.block⟩
theorem grown_alloc {a w : World} {r : Option Nat} (h : a.grownBy w r) (o : Obj) : a.grownBy (w.alloc o) r := grown_trans h (World.grownBy_alloc w o r)
theorem grown_set {a w : World} {b o : Nat} (h : a.grownBy w (some b)) (u : Value) : a.grownBy (w.setCell ⟨b, o, none⟩ u) (some b) :=
  have hb : Below 0 w (w.setCell ⟨b, o, none⟩ u) := (Below.refl 0 w).setCell (Nat.zero_le _) u
  grown_trans h ⟨hb.os, hb.tape, hb.output, hb.size, fun i _ hr => Below.heap_setCell w _ u i (by simpa using hr)⟩
theorem Str.below {b : Nat} {a : Option Addr} {len cap k : Nat} {w w' : World} (h : Str b a len cap k w) (hb : Below w.heap.size w w') : Str b a len cap k w' := by
  have hl := World.block_lt_of_cell? w _ h.c0
  exact ⟨(hb.cell hl).trans h.c0, (hb.cell (p := ⟨b, 1, none⟩) hl).trans h.c1, (hb.frozen (p := ⟨b, 1, none⟩) hl).trans h.fz, h.rd.kept (grown_below _ hb)⟩
theorem adv_set {b : Nat} {a : Option Addr} {len cap k : Nat} {w : World} (h : Str b a len cap k w) : Adv b a len cap k 1 w (w.setCell ⟨b, 1, none⟩ (.int .i64 ((k : Int) + 1))) := by
  obtain ⟨h0, h1, hf, hr⟩ := h
  have hg := grown_set (b := b) (o := 1) (grown_refl w (some b)) (.int .i64 ((k : Int) + 1))
  exact ⟨⟨k + 1, by omega, by go_simp, by go_simp, by go_simp, hr.kept hg⟩, hg⟩
theorem adv_drewN {b : Nat} {a : Option Addr} {len cap k c : Nat} {w w' : World} (h : Adv b a len cap k c w w') (n : Nat) : Adv b a len cap k c w (w'.drewN n) := by
  obtain ⟨⟨k', hk, h0, h1, hf, hr⟩, hg⟩ := h
  exact ⟨⟨k', hk, h0, h1, hf, hr.kept (grown_drewN (grown_refl w' _) n)⟩, grown_drewN hg n⟩
theorem adv_setN {b : Nat} {a : Option Addr} {len cap k : Nat} {w : World} (h : Str b a len cap k w) (n : Nat) : Adv b a len cap k 1 w ((w.setCell ⟨b, 1, none⟩ (.int .i64 ((k : Int) + 1))).drewN n) := adv_drewN (adv_set h) n
def SomeNat (P : Nat → Prop) (R : World → Prop) (e : Ending) (w' : World) : Prop := ∃ r : Nat, P r ∧ e = .returned (.int .i64 r) ∧ R w'
theorem some_bel {x n : Int} {R : World → Prop} {w' : World} (hn : 1 ≤ n) (h : R w') : SomeNat (fun r => (r : Int) < n) R (.returned (.int .i64 (bel x n))) w' := by
  have hr := bel_range x n (by omega)
  exact ⟨(bel x n).toNat, by show ((bel x n).toNat : Int) < n; omega, by rw [Int.toNat_of_nonneg hr.1], h⟩
set_option maxHeartbeats 400000 in
theorem next_any (b len cap : Nat) (a : Option Addr) (k : Nat) (n : Int) (hn : 1 ≤ n) (hn2 : n ≤ 1073741824) (hk : k ≤ 1000000) (w : World) (hS : Str b a len cap k w) :
    Calls Tryd.prog 21 #[.pointer (some ⟨b, 0, none⟩), .int .i64 n] w (SomeNat (fun r => (r : Int) < n) (Adv b a len cap k 1 w)) := by
  obtain ⟨h0, h1, hf, hrd⟩ := hS
  have hl := hrd.le
  by_cases hz : len = 0
  · have hb : ((len : Int) == 0) = true := by rw [hz]; rfl
    clear hz
    have HR := Lib.hid hrd
    clear hrd
    go_enter Tryd.func21, Tryd.ntmps21
    go_wp2_with fail
    refine (below_any _ _ (by omega) (by omega) _).mono ?_
    rintro e w' ⟨rfl, rfl⟩
    go_wp2_with fail
    go_ret
    exact some_bel (by omega) (adv_set ⟨h0, h1, hf, HR.out⟩)
  · have hb : ((len : Int) == 0) = false := by simpa using hz
    have hlt : k % len < len := Nat.mod_lt _ (by omega)
    obtain ⟨bl, off, z, ha, hne, hc⟩ := hrd.el _ hlt
    have HR := Lib.hid hrd
    clear hrd
    subst ha
    go_enter Tryd.func21, Tryd.ntmps21
    go_wp2_with fail
    go_quiet (fail)
    go_wp2_with fail
    go_quiet (fail)
    go_wp2_with fail
    refine (below_any _ _ (by omega) (by omega) _).mono ?_
    rintro e w' ⟨rfl, rfl⟩
    go_wp2_with fail
    refine (below_any _ _ (by omega) (by omega) _).mono ?_
    rintro e w' ⟨rfl, rfl⟩
    go_wp2_with fail
    go_ret
    exact some_bel (by omega) (adv_setN ⟨h0, h1, hf, HR.out⟩ _)
theorem adv_trans {b : Nat} {a : Option Addr} {len cap k k1 c1 c2 c : Nat} {w w1 w2 : World} (h : Adv b a len cap k c1 w w1) (hk : k1 ≤ k + c1) (h2 : Adv b a len cap k1 c2 w1 w2) (hc : c1 + c2 ≤ c) : Adv b a len cap k c w w2 := by
  obtain ⟨⟨k2, hk2, s2⟩, g2⟩ := h2
  exact ⟨⟨k2, by omega, s2⟩, grown_trans h.gr g2⟩
theorem adv_below {b : Nat} {a : Option Addr} {len cap k c : Nat} {w w1 w2 : World} (h : Adv b a len cap k c w w1) (hb : Below w1.heap.size w1 w2) : Adv b a len cap k c w w2 := by
  obtain ⟨⟨k1, hk1, s1⟩, g1⟩ := h
  exact ⟨⟨k1, hk1, s1.below hb⟩, grown_trans g1 (grown_below _ hb)⟩
theorem adv_refl {b : Nat} {a : Option Addr} {len cap k : Nat} {w : World} (h : Str b a len cap k w) (c : Nat) : Adv b a len cap k c w w := ⟨⟨k, by omega, h⟩, grown_refl _ _⟩
theorem adv_mono {b : Nat} {a : Option Addr} {len cap k c c' : Nat} {w w1 : World} (h : Adv b a len cap k c w w1) (hc : c ≤ c') : Adv b a len cap k c' w w1 := by
  obtain ⟨⟨k1, hk1, s1⟩, g1⟩ := h
  exact ⟨⟨k1, by omega, s1⟩, g1⟩
set_option maxHeartbeats 400000 in
theorem range_any (b len cap : Nat) (a : Option Addr) (k : Nat) (lo hi : Nat) (h1 : lo ≤ hi) (h2 : hi ≤ 1000000) (hk : k ≤ 900000) (w : World) (hS : Str b a len cap k w) :
    Calls Tryd.prog 18 #[.pointer (some ⟨b, 0, none⟩), .int .i64 lo, .int .i64 hi] w (SomeNat (fun r => lo ≤ r ∧ r ≤ hi) (Adv b a len cap k 1 w)) := by
  go_enter Tryd.func18, Tryd.ntmps18
  go_wp2_with fail
  refine (next_any b len cap a k _ (by omega) (by omega) (by omega) _ hS).mono ?_
  rintro e w1 ⟨r1, hr1, rfl, A1⟩
  go_wp2_with fail
  go_ret
  exact ⟨lo + r1, ⟨by omega, by omega⟩, rfl, A1⟩
def SomeBool (R : World → Prop) (e : Ending) (w' : World) : Prop := ∃ t : Bool, e = .returned (.bool t) ∧ R w'
set_option maxHeartbeats 400000 in
theorem flip_any (b len cap : Nat) (a : Option Addr) (k : Nat) (hk : k ≤ 900000) (n : Int) (hn : 1 ≤ n) (hn2 : n ≤ 1073741824) (w : World) (hS : Str b a len cap k w) :
    Calls Tryd.prog 20 #[.pointer (some ⟨b, 0, none⟩), .int .i64 n] w (SomeBool (Adv b a len cap k 1 w)) := by
  go_enter Tryd.func20, Tryd.ntmps20
  go_wp2_with fail
  refine (next_any b len cap a k _ (by omega) (by omega) (by omega) _ hS).mono ?_
  rintro e w1 ⟨r1, hr1, rfl, A1⟩
  go_wp2_with fail
  go_ret
  exact ⟨_, rfl, A1⟩
/-- a slice of integers that can be read -/
structure Sl (a : Option Addr) (len : Nat) (w : World) : Prop where
  le : len ≤ 17592186044416
  el : ∀ j, j < len → ∃ bl off z, a = some ⟨bl, off, none⟩ ∧ w.cell? ⟨bl, off + j, none⟩ = some (.int .i64 z)
theorem Sl.str {a : Option Addr} {len : Nat} {w : World} (h : Sl a len w) (cap : Nat) (W : World) (hW : W = w.alloc (.cells #[.slice a len cap, .int .i64 0] 43)) : Str w.heap.size a len cap 0 W := by
  subst hW
  refine ⟨by go_simp, by go_simp, by go_simp, h.le, fun j hj => ?_⟩
  obtain ⟨bl, off, z, h1, h2⟩ := h.el j hj
  have hlt : bl < w.heap.size := World.block_lt_of_cell? w _ h2
  exact ⟨bl, off, z, h1, by omega, by go_simp⟩
theorem adv_low {a : Option Addr} {len cap k c : Nat} {w W w1 : World} (A : Adv w.heap.size a len cap k c W w1) (hW : Below w.heap.size w W) : Below w.heap.size w w1 :=
  ⟨A.gr.os.trans hW.os, A.gr.tape.trans hW.tape, A.gr.output.trans hW.output, Nat.le_trans hW.size A.gr.size, fun i hi => (A.gr.block i (Nat.lt_of_lt_of_le hi hW.size) (by simp; omega)).trans (hW.block i hi)⟩
end Go.Proofs.YtmememehlfbgaaaDoor
