/- The makers' stream of numbers: each number lies in the range that is asked for; of memory only the stream's own block is written.
   The makers' literals, rows of bits and rows of cycles. Condition: the stream has handed out few numbers.
   The makers' rows of bits. Condition: the stream has handed out few numbers.
   Rows and boxes beside the makers' stream: what appends, stores and calls that ask the stream leave. No program. -/
import Derived.Test.YtcpifmhcebfglaaGrOk
import Derived.Lib.QuietBelow
namespace Go.Proofs.Ytcpifmhcebfglaa
open Go Go.RowKit
set_option linter.unusedVariables false
def bel (x n : Int) : Int := if x.tmod n < 0 then x.tmod n + n else x.tmod n
theorem bel_range (x n : Int) (hn : 1 ≤ n) : 0 ≤ bel x n ∧ bel x n < n := by
  have h1 := Int.tmod_lt_of_pos x (show 0 < n by omega)
  have h2 := Int.lt_tmod_of_pos x (show 0 < n by omega)
  unfold bel; split <;> omega
set_option maxHeartbeats 400000 in
theorem mbelow_any (x n : Int) (hn : 1 ≤ n) (hn2 : n ≤ 1073741824) (w : World) : Calls Try.prog 17 #[.int .i64 x, .int .i64 n] w fun e w' => e = .returned (.int .i64 (bel x n)) ∧ w = w' := by
  have h2 := Int.lt_tmod_of_pos x (show 0 < n by omega)
  by_cases hs : x.tmod n < 0
  · go_enter Try.func17, Try.ntmps17
    go_wp2_with fail
    go_ret
    exact ⟨ret_int (by unfold bel; first | rw [if_pos hs] | rw [if_neg (by omega)]), rfl⟩
  · go_enter Try.func17, Try.ntmps17
    go_wp2_with fail
    go_ret
    exact ⟨ret_int (by unfold bel; first | rw [if_pos hs] | rw [if_neg (by omega)]), rfl⟩
/-- the numbers that a stream reads: a slice of integers that lies outside block b -/
structure Rd (b : Nat) (a : Option Addr) (len : Nat) (w : World) : Prop where
  le : len ≤ 17592186044416
  el : ∀ j, j < len → ∃ bl off z, a = some ⟨bl, off, none⟩ ∧ bl ≠ b ∧ w.cell? ⟨bl, off + j, none⟩ = some (.int .i64 z)
structure Str (b : Nat) (a : Option Addr) (len cap k : Nat) (w : World) : Prop where
  c0 : w.cell? ⟨b, 0, none⟩ = some (.slice a len cap)
  c1 : w.cell? ⟨b, 1, none⟩ = some (.int .i64 k)
  fz : w.frozen? ⟨b, 1, none⟩ = false
  rd : Rd b a len w
/-- what a call that asks the stream for at most c numbers does to memory -/
structure Adv (b : Nat) (a : Option Addr) (len cap k c : Nat) (w w' : World) : Prop where
  st : ∃ k', k' ≤ k + c ∧ Str b a len cap k' w'
  gr : w.grownBy w' (some b)
theorem Rd.kept {b : Nat} {a : Option Addr} {len : Nat} {w w' : World} (h : Rd b a len w) (hg : w.grownBy w' (some b)) : Rd b a len w' :=
  ⟨h.le, fun j hj => by
    obtain ⟨bl, off, z, h1, h2, h3⟩ := h.el j hj
    exact ⟨bl, off, z, h1, h2, hg.cell h3 (by simpa using h2)⟩⟩
theorem grown_refl (w : World) (r : Option Nat) : w.grownBy w r := ⟨rfl, rfl, rfl, Nat.le_refl _, fun _ _ _ => rfl⟩
theorem grown_trans {a b c : World} {r : Option Nat} (h : a.grownBy b r) (k : b.grownBy c r) : a.grownBy c r :=
  ⟨k.os.trans h.os, k.tape.trans h.tape, k.output.trans h.output, Nat.le_trans h.size k.size, fun i hi hr => (k.block i (Nat.lt_of_lt_of_le hi h.size) hr).trans (h.block i hi hr)⟩
theorem grown_below {w w' : World} (r : Option Nat) (h : Below w.heap.size w w') : w.grownBy w' r := ⟨h.os, h.tape, h.output, h.size, fun i hi _ => h.block i hi⟩
theorem grown_drewN {a w : World} {r : Option Nat} (h : a.grownBy w r) (n : Nat) : a.grownBy (w.drewN n) r := ⟨h.os, h.tape, h.output, h.size, h.block⟩
theorem grown_alloc {a w : World} {r : Option Nat} (h : a.grownBy w r) (o : Obj) : a.grownBy (w.alloc o) r := grown_trans h (World.grownBy_alloc w o r)
theorem grown_set {a w : World} {b o : Nat} (h : a.grownBy w (some b)) (u : Value) : a.grownBy (w.setCell ⟨b, o, none⟩ u) (some b) :=
  have hb : Below 0 w (w.setCell ⟨b, o, none⟩ u) := (Below.refl 0 w).setCell (Nat.zero_le _) u
  grown_trans h ⟨hb.os, hb.tape, hb.output, hb.size, fun i _ hr => Below.heap_setCell w _ u i (by simpa using hr)⟩
theorem Str.below {b : Nat} {a : Option Addr} {len cap k : Nat} {w w' : World} (h : Str b a len cap k w) (hb : Below w.heap.size w w') : Str b a len cap k w' := by
  have hl := World.block_lt_of_cell? w _ h.c0
  exact ⟨(hb.cell hl).trans h.c0, (hb.cell (p := ⟨b, 1, none⟩) hl).trans h.c1, (hb.frozen (p := ⟨b, 1, none⟩) hl).trans h.fz, h.rd.kept (grown_below _ hb)⟩
theorem adv_set {b : Nat} {a : Option Addr} {len cap k : Nat} {w : World} (h : Str b a len cap k w) : Adv b a len cap k 1 w (w.setCell ⟨b, 1, none⟩ (.int .i64 ((k : Int) + 1))) := by
  obtain ⟨h0, h1, hf, hr⟩ := h
  have hg := grown_set (b := b) (o := 1) (grown_refl w (some b)) (.int .i64 ((k : Int) + 1))
  exact ⟨⟨k + 1, by omega, by go_simp, by go_simp, by go_simp, hr.kept hg⟩, hg⟩
theorem adv_drewN {b : Nat} {a : Option Addr} {len cap k c : Nat} {w w' : World} (h : Adv b a len cap k c w w') (n : Nat) : Adv b a len cap k c w (w'.drewN n) := by
  obtain ⟨⟨k', hk, h0, h1, hf, hr⟩, hg⟩ := h
  exact ⟨⟨k', hk, h0, h1, hf, hr.kept (grown_drewN (grown_refl w' _) n)⟩, grown_drewN hg n⟩
theorem adv_setN {b : Nat} {a : Option Addr} {len cap k : Nat} {w : World} (h : Str b a len cap k w) (n : Nat) : Adv b a len cap k 1 w ((w.setCell ⟨b, 1, none⟩ (.int .i64 ((k : Int) + 1))).drewN n) := adv_drewN (adv_set h) n
def SomeNat (P : Nat → Prop) (R : World → Prop) (e : Ending) (w' : World) : Prop := ∃ r : Nat, P r ∧ e = .returned (.int .i64 r) ∧ R w'
theorem some_bel {x n : Int} {R : World → Prop} {w' : World} (hn : 1 ≤ n) (h : R w') : SomeNat (fun r => (r : Int) < n) R (.returned (.int .i64 (bel x n))) w' := by
  have hr := bel_range x n (by omega)
  exact ⟨(bel x n).toNat, by show ((bel x n).toNat : Int) < n; omega, by rw [Int.toNat_of_nonneg hr.1], h⟩
set_option maxHeartbeats 400000 in
theorem next_any (b len cap : Nat) (a : Option Addr) (k : Nat) (n : Int) (hn : 1 ≤ n) (hn2 : n ≤ 1073741824) (hk : k ≤ 1000000) (w : World) (hS : Str b a len cap k w) :
    Calls Try.prog 40 #[.pointer (some ⟨b, 0, none⟩), .int .i64 n] w (SomeNat (fun r => (r : Int) < n) (Adv b a len cap k 1 w)) := by
  obtain ⟨h0, h1, hf, hrd⟩ := hS
  have hl := hrd.le
  by_cases hz : len = 0
  · have hb : ((len : Int) == 0) = true := by rw [hz]; rfl
    clear hz
    have HR := Lib.hid hrd
    clear hrd
    go_enter Try.func40, Try.ntmps40
    go_wp2_with fail
    refine (mbelow_any _ _ (by omega) (by omega) _).mono ?_
    rintro e w' ⟨rfl, rfl⟩
    go_wp2_with fail
    go_ret
    exact some_bel (by omega) (adv_set ⟨h0, h1, hf, HR.out⟩)
  · have hb : ((len : Int) == 0) = false := by simpa using hz
    have hlt : k % len < len := Nat.mod_lt _ (by omega)
    obtain ⟨bl, off, z, ha, hne, hc⟩ := hrd.el _ hlt
    have HR := Lib.hid hrd
    clear hrd
    subst ha
    go_enter Try.func40, Try.ntmps40
    go_wp2_with fail
    go_quiet (fail)
    go_wp2_with fail
    go_quiet (fail)
    go_wp2_with fail
    refine (mbelow_any _ _ (by omega) (by omega) _).mono ?_
    rintro e w' ⟨rfl, rfl⟩
    go_wp2_with fail
    refine (mbelow_any _ _ (by omega) (by omega) _).mono ?_
    rintro e w' ⟨rfl, rfl⟩
    go_wp2_with fail
    go_ret
    exact some_bel (by omega) (adv_setN ⟨h0, h1, hf, HR.out⟩ _)
theorem adv_trans {b : Nat} {a : Option Addr} {len cap k k1 c1 c2 c : Nat} {w w1 w2 : World} (h : Adv b a len cap k c1 w w1) (hk : k1 ≤ k + c1) (h2 : Adv b a len cap k1 c2 w1 w2) (hc : c1 + c2 ≤ c) : Adv b a len cap k c w w2 := by
  obtain ⟨⟨k2, hk2, s2⟩, g2⟩ := h2
  exact ⟨⟨k2, by omega, s2⟩, grown_trans h.gr g2⟩
theorem adv_below {b : Nat} {a : Option Addr} {len cap k c : Nat} {w w1 w2 : World} (h : Adv b a len cap k c w w1) (hb : Below w1.heap.size w1 w2) : Adv b a len cap k c w w2 := by
  obtain ⟨⟨k1, hk1, s1⟩, g1⟩ := h
  exact ⟨⟨k1, hk1, s1.below hb⟩, grown_trans g1 (grown_below _ hb)⟩
theorem adv_refl {b : Nat} {a : Option Addr} {len cap k : Nat} {w : World} (h : Str b a len cap k w) (c : Nat) : Adv b a len cap k c w w := ⟨⟨k, by omega, h⟩, grown_refl _ _⟩
theorem adv_mono {b : Nat} {a : Option Addr} {len cap k c c' : Nat} {w w1 : World} (h : Adv b a len cap k c w w1) (hc : c ≤ c') : Adv b a len cap k c' w w1 := by
  obtain ⟨⟨k1, hk1, s1⟩, g1⟩ := h
  exact ⟨⟨k1, by omega, s1⟩, g1⟩
set_option maxHeartbeats 400000 in
theorem range_any (b len cap : Nat) (a : Option Addr) (k : Nat) (lo hi : Nat) (h1 : lo ≤ hi) (h2 : hi ≤ 1000000) (hk : k ≤ 900000) (w : World) (hS : Str b a len cap k w) :
    Calls Try.prog 41 #[.pointer (some ⟨b, 0, none⟩), .int .i64 lo, .int .i64 hi] w (SomeNat (fun r => lo ≤ r ∧ r ≤ hi) (Adv b a len cap k 1 w)) := by
  go_enter Try.func41, Try.ntmps41
  go_wp2_with fail
  refine (next_any b len cap a k _ (by omega) (by omega) (by omega) _ hS).mono ?_
  rintro e w1 ⟨r1, hr1, rfl, A1⟩
  go_wp2_with fail
  go_ret
  exact ⟨lo + r1, ⟨by omega, by omega⟩, rfl, A1⟩
def SomeBool (R : World → Prop) (e : Ending) (w' : World) : Prop := ∃ t : Bool, e = .returned (.bool t) ∧ R w'
/-- a slice of integers that can be read -/
structure Sl (a : Option Addr) (len : Nat) (w : World) : Prop where
  le : len ≤ 17592186044416
  el : ∀ j, j < len → ∃ bl off z, a = some ⟨bl, off, none⟩ ∧ w.cell? ⟨bl, off + j, none⟩ = some (.int .i64 z)
theorem Sl.str {a : Option Addr} {len : Nat} {w : World} (h : Sl a len w) (cap : Nat) (W : World) (hW : W = w.alloc (.cells #[.slice a len cap, .int .i64 0] 25)) : Str w.heap.size a len cap 0 W := by
  subst hW
  refine ⟨by go_simp, by go_simp, by go_simp, h.le, fun j hj => ?_⟩
  obtain ⟨bl, off, z, h1, h2⟩ := h.el j hj
  have hlt : bl < w.heap.size := World.block_lt_of_cell? w _ h2
  exact ⟨bl, off, z, h1, by omega, by go_simp⟩
theorem adv_low {a : Option Addr} {len cap k c : Nat} {w W w1 : World} (A : Adv w.heap.size a len cap k c W w1) (hW : Below w.heap.size w W) : Below w.heap.size w w1 :=
  ⟨A.gr.os.trans hW.os, A.gr.tape.trans hW.tape, A.gr.output.trans hW.output, Nat.le_trans hW.size A.gr.size, fun i hi => (A.gr.block i (Nat.lt_of_lt_of_le hi hW.size) (by simp; omega)).trans (hW.block i hi)⟩
end Go.Proofs.Ytcpifmhcebfglaa
namespace Go.Proofs.Ytcpifmhcebfglaa
open Go Go.RowKit Go.Sort
set_option linter.unusedVariables false
set_option maxRecDepth 100000 in
set_option maxHeartbeats 2000000 in
theorem lit_any (b len cap : Nat) (a : Option Addr) (k n : Nat) (h1 : 1 ≤ n) (h2 : n ≤ 100000) (hk : k ≤ 900000) (w : World) (hS : Str b a len cap k w) :
    Calls Try.prog 146 #[.pointer (some ⟨b, 0, none⟩), .int .i64 (n : Int)] w (SomeNat (fun r => r < 2 * n) (Adv b a len cap k 4 w)) := by
  obtain ⟨M, hM, hM1, hM2⟩ : ∃ M : Nat, min (n : Int) 6 = (M : Int) ∧ 1 ≤ M ∧ M ≤ n := ⟨min n 6, by omega, by omega, by omega⟩
  go_enter Try.func146, Try.ntmps146
  go_wp2_with fail
  refine (next_any b len cap a k _ (by omega) (by omega) (by omega) _ hS).mono ?_
  rintro e w1 ⟨r1, hr1, rfl, A1⟩
  obtain ⟨⟨k1, hk1, S1⟩, G1⟩ := id A1
  go_wp2_with fail
  refine (next_any b len cap a k1 _ (by omega) (by omega) (by omega) _ S1).mono ?_
  rintro e w2 ⟨r2, hr2, rfl, A2⟩
  obtain ⟨⟨k2, hk2, S2⟩, G2⟩ := id A2
  have A12 := adv_trans (c := 2) A1 hk1 A2 (by omega)
  by_cases h0 : r2 = 0
  · subst h0
    go_wp2_with fail
    all_goals
      refine (next_any b len cap a k2 _ (by omega) (by omega) (by omega) _ S2).mono ?_
      rintro e w3 ⟨r3, hr3, rfl, A3⟩
      obtain ⟨⟨k3, hk3, S3⟩, G3⟩ := id A3
      have A13 := adv_trans (c := 3) A12 (by omega) A3 (by omega)
      have hw1 : IntKind.i64.wrap (IntKind.i64.wrap ((n : Int) - 1) - (r3 : Int)) = ((n - 1 - r3 : Nat) : Int) := by
        rw [IntWalk.i64_in ((n : Int) - 1) (by omega), IntWalk.i64_in _ (by omega)]; omega
      go_wp2_with fail
      refine (next_any b len cap a k3 _ (by omega) (by omega) (by omega) _ S3).mono ?_
      rintro e w4 ⟨r4, hr4, rfl, A4⟩
      go_wp2_with fail
      go_ret
      exact ⟨2 * (n - 1 - r3) + r4, by omega, ret_int (by omega), adv_trans A13 (by omega) A4 (by omega)⟩
  · have h0b : ((r2 : Int) == 0) = false := by rw [beq_eq_false_iff_ne]; omega
    clear h0
    go_wp2_with fail
    refine (next_any b len cap a k2 _ (by omega) (by omega) (by omega) _ S2).mono ?_
    rintro e w4 ⟨r4, hr4, rfl, A4⟩
    go_wp2_with fail
    go_ret
    exact ⟨2 * r1 + r4, by omega, ret_int (by omega), adv_mono (adv_trans (c := 3) A12 (by omega) A4 (by omega)) (by omega)⟩
end Go.Proofs.Ytcpifmhcebfglaa
namespace Go.Proofs.Ytcpifmhcebfglaa
open Go Go.RowKit Go.Sort
set_option linter.unusedVariables false
theorem OwnK.aparts {B : Nat} {t : TypeId} {k : Nat} {α : Type} {enc : α → List Value} {w w' : World} {v : Value} {l : List α} {q : Nat} (h : OwnK B t k enc w v l) (hg : w.grownBy w' (some q)) (hq : q < B) : OwnK B t k enc w' v l :=
  World.ownsRow.kept h hg (by
    cases hv : v.ownBlock with
    | none => exact .inl rfl
    | some b => exact .inr (fun e => by have := (World.ownsRow.lt h b hv).1; simp only [Option.some.injEq] at e; omega))
theorem adv_app {b : Nat} {a : Option Addr} {len cap k0 k c : Nat} {w w1 w2 : World} (hS : Str b a len cap k0 w) (h : Adv b a len cap k c w w1) (hb : Below w.heap.size w1 w2) : Adv b a len cap k c w w2 := by
  have hl := World.block_lt_of_cell? w _ hS.c0
  have hg : w.grownBy w2 (some b) := ⟨hb.os.trans h.gr.os, hb.tape.trans h.gr.tape, hb.output.trans h.gr.output, Nat.le_trans h.gr.size hb.size, fun i hi hr => (hb.block i hi).trans (h.gr.block i hi hr)⟩
  obtain ⟨⟨k', hk, h0, h1, hf, hr⟩, _⟩ := h
  exact ⟨⟨k', hk, (hb.cell (p := ⟨b, 0, none⟩) hl).trans h0, (hb.cell (p := ⟨b, 1, none⟩) hl).trans h1, (hb.frozen (p := ⟨b, 1, none⟩) hl).trans hf, hS.rd.kept hg⟩, hg⟩
theorem infoSB : (Try.prog.info? 4).map (fun i => (i.zero, i.size, i.bytes)) = some (some (.bool false), 1, 1) := by kernel_rfl
theorem infoSB_parts : ∃ i, Try.prog.info? 4 = some i ∧ i.zero = some (.bool false) ∧ i.size = 1 ∧ i.bytes = 1 := by
  have h := infoSB
  cases hi : Try.prog.info? 4 with
  | none => rw [hi] at h; cases h
  | some i =>
    rw [hi] at h
    simp only [Option.map_some, Option.some.injEq, Prod.mk.injEq] at h
    exact ⟨i, rfl, h.1, h.2.1, h.2.2⟩
theorem hyS (W : World) (x : Value) (t : TypeId) : ∀ (q : Nat) (u : Value), [x][q]? = some u → (W.alloc (.cells #[x] t)).cell? ⟨W.heap.size, q, none⟩ = some u := by
  intro q u hq
  match q, hq with
  | 0, hq => cases hq; go_simp
set_option maxRecDepth 100000 in
set_option maxHeartbeats 4000000 in
theorem values_made (b len cap : Nat) (a : Option Addr) (k n : Nat) (h2 : n ≤ 100000) (hk : k ≤ 500000) (w : World) (hS : Str b a len cap k w) :
    Calls Try.prog 42 #[.pointer (some ⟨b, 0, none⟩), .int .i64 (n : Int)] w fun e w' => ∃ u, e = .returned u ∧ (∃ l, l.length = n ∧ OwnK w.heap.size 4 1 encB w' u l) ∧ Adv b a len cap k n w w' := by
  have hbl := World.block_lt_of_cell? w _ hS.c0
  obtain ⟨i0, ihi, ihz, ihs, ihb⟩ := infoSB_parts
  have HS := Lib.hid hS
  have A0 := adv_refl hS 0
  have O0 : OwnK w.heap.size 4 1 encB w (.slice none 0 0) [] := OwnK.nil _ _ _ _ _
  clear hS
  go_enter Try.func42, Try.ntmps42
  go_upto_block 0 with fail
  go_wp2_with fail
  go_loopw [5, 7] (fun u i wr => ∃ j : Nat, j ≤ n ∧ i = .int .i64 (j : Int) ∧ Hid (∃ l : List Bool, l.length = j ∧ OwnK w.heap.size 4 1 encB wr u l) ∧ Hid (Adv b a len cap k j w wr)) (fun _ i _ => n - (intOf i).toNat)
  case atStart => exact ⟨0, Nat.zero_le _, rfl, Lib.hid ⟨[], rfl, O0⟩, Lib.hid A0⟩
  case round =>
    clear O0 A0
    obtain ⟨j, hj, rfl, hO, hA⟩ := hrel
    rename World => WR
    have hj0 : (0 : Int) ≤ (j : Int) := by omega
    by_cases hlt : j < n
    · have hji : (j : Int) < (n : Int) := by omega
      obtain ⟨l, hl, O1⟩ := hO.out
      have A1 := hA.out
      obtain ⟨⟨k1, hk1, S1⟩, G1⟩ := id A1
      have HS1 := Lib.hid S1
      obtain ⟨ad, cp, hv⟩ := O1.slice
      subst hv
      clear hO hA S1
      have hsz := G1.size
      have HL : l.length ≤ 8000000000 := by omega
      have HLE := Lib.hid hl
      clear hl
      go_wp2_with (first | (go_at_call 40; refine (next_any b len cap a k1 _ (by omega) (by omega) (by omega) _ HS1.out).mono ?_; rintro ee w2 ⟨r2, hr2, rfl, A2⟩; have bL := (Below.refl w2.heap.size w2).alloc (Nat.le_refl _) (.cells #[.bool ((r2 : Int) == 0)] 4); have hs2 := Nat.le_trans hsz A2.gr.size; have O4 := (O1.aparts A2.gr hbl).below bL; have A4 := adv_below (adv_trans (c := j + 1) A1 hk1 A2 (by omega)) bL; have hy := hyS w2 (.bool ((r2 : Int) == 0)) 4) | (at_builtin; refine wpList_append_one (enc := encB) (k := 1) (fun _ => rfl) (by decide) (fun x u hu => by simp at hu; rcases hu with rfl; rfl) rfl _ _ 40 rfl (w.heap.size) 4 i0 (.bool false) 1 Try.underlying40 ihi ihz ihs ihb (by decide) _ l rfl O4 w2.heap.size 1 ((r2 : Int) == 0) rfl hy (show l.length + 1 ≤ maxLen by unfold maxLen; omega) (show (l.length + 1) * 1 ≤ 140737488355328 by omega) (by first | omega | (simp; omega)) ?_))
      intro v5 w5 O5 hb5 hg5
      have HO5 := Lib.hid (⟨_, by rw [List.length_append, HLE.out]; rfl, O5⟩ : ∃ l : List Bool, l.length = j + 1 ∧ OwnK w.heap.size 4 1 encB w5 v5 l)
      have HA5 := Lib.hid (adv_app HS.out A4 hb5)
      clear O5 hb5 hg5 O4 A4 A2 hy O1 A1 G1 bL
      go_wp2_with fail
      go_roundw
      case rel => exact ⟨j + 1, by omega, by go_num, HO5, HA5⟩
      all_goals first | done | (simp [intOf]; done) | (simp [intOf]; omega)
    · have hji : ¬ (j : Int) < (n : Int) := by omega
      have hjn : j = n := by omega
      subst hjn
      have HO := Lib.hid hO.out
      have HA := Lib.hid hA.out
      clear hO hA
      go_wp2_with fail
      go_ret
      exact ⟨_, rfl, HO.out, HA.out⟩
end Go.Proofs.Ytcpifmhcebfglaa
namespace Go.Proofs.Ytcpifmhcebfglaa
open Go Go.RowKit Go.Sort
set_option linter.unusedVariables false
theorem grown_putS (w : World) (p : Addr) (v : Value) : w.grownBy (w.setCell p v) (some p.block) :=
  ⟨rfl, rfl, rfl, by simp [World.setCell], fun k _ hne => Below.heap_setCell w p v k (fun e => hne (by rw [e]))⟩
theorem OwnK.slS {B : Nat} {t : TypeId} {k : Nat} {α : Type} {enc : α → List Value} {w : World} {v : Value} {l : List α} (h : OwnK B t k enc w v l) : ∃ ad n cp, v = .slice ad n cp := by
  obtain ⟨ad, cp, h⟩ := h.slice
  exact ⟨ad, _, cp, h⟩
theorem OwnK.rowCS {B : Nat} {t : TypeId} {k : Nat} {α : Type} [Inhabited α] {enc : α → List Value} (hk : ∀ x, (enc x).length = k) {w : World} {v : Value} {l : List α} (h : OwnK B t k enc w v l) : ∃ ad cap, v = .slice ad l.length cap ∧ l.length ≤ cap ∧ (ad = none → cap = 0) ∧ RowAt k enc l ad w := by
  obtain ⟨ad, cap, hv, hc, hr⟩ := (h.row hk).open'
  refine ⟨ad, cap, hv, hc, fun hn => ?_, hr⟩
  rcases h.2 with ⟨h1, h0⟩ | ⟨g, cap', cur, hv', _⟩
  · rw [h1] at hv; injection hv with _ _ e3; exact e3.symm
  · rw [hv', hn] at hv; cases hv
theorem Arr.gS {α : Type} {t : TypeId} {f : α → Value} {g : Nat} {l : List α} {w w' : World} {r : Option Nat} (h : Arr t f g l w) (hg : w.grownBy w' r) (hne : r ≠ some g) : Arr t f g l w' := ⟨by
  obtain ⟨_, _, _, _, h5⟩ := hg
  exact (h5 g (Arr.lt h) hne.symm).trans h.blk⟩
theorem tag_ne {T t2 : TypeId} {α : Type} {f : α → Value} {q B k n : Nat} {l : List α} {w : World} {v : Value} {xs : List Value} (h : Arr T f q l w) (h2 : w.ownsRow B t2 k v n xs) (ht : T ≠ t2) : v.ownBlock ≠ some q := by
  rcases h2.2 with ⟨h1, _⟩ | ⟨g, cap, cur, hv, _, hb, _⟩
  · rw [h1]; intro e; cases e
  · rw [hv]; intro e
    simp only [Value.ownBlock, Option.some.injEq] at e
    subst e
    rw [h.blk] at hb
    injection hb with e
    injection e with _ e2 _
    exact ht e2
theorem Arr.gO {T t2 : TypeId} {α : Type} {f : α → Value} {q B k n : Nat} {l : List α} {w w' : World} {v : Value} {xs : List Value} (h : Arr T f q l w) (h2 : w.ownsRow B t2 k v n xs) (ht : T ≠ t2) (hg : w.grownBy w' v.ownBlock) : Arr T f q l w' := h.gS hg (tag_ne h h2 ht)
theorem OwnK.putA {T t2 : TypeId} {α β : Type} {f : α → Value} {enc : β → List Value} {q B k : Nat} {vs : List α} {l : List β} {w : World} {v : Value} (h : OwnK B t2 k enc w v l) (A : Arr T f q vs w) (ht : T ≠ t2) (i : Nat) (x : Value) : OwnK B t2 k enc (w.setCell ⟨q, i, none⟩ x) v l :=
  World.ownsRow.kept h (grown_putS w ⟨q, i, none⟩ x) (.inr (tag_ne A h ht))
theorem OwnK.asideS {B B2 : Nat} {t t2 : TypeId} {k k2 : Nat} {α β : Type} {f : α → List Value} {f2 : β → List Value} {w w' : World} {v v2 : Value} {l : List α} {l2 : List β} (h : OwnK B t k f w v l) (h2 : OwnK B2 t2 k2 f2 w v2 l2) (ht : t ≠ t2) (hg : w.grownBy w' v2.ownBlock) : OwnK B t k f w' v l :=
  World.ownsRow.kept h hg (OwnK.tags h h2 ht)
/-- the elements lie in a block from B on -/
def RowB (B : Nat) {α : Type} [Inhabited α] (k : Nat) (enc : α → List Value) (l : List α) (ad : Option Addr) (w : World) : Prop :=
  l.length = 0 ∨ ∃ b o, ad = some ⟨b, o, none⟩ ∧ B ≤ b ∧ ∀ j, j < l.length → ∀ c x, (enc l[j]!)[c]? = some x → w.cell? ⟨b, o + j * k + c, none⟩ = some x
theorem RowB.at {B : Nat} {α : Type} [Inhabited α] {k : Nat} {enc : α → List Value} {l : List α} {ad : Option Addr} {w : World} (h : RowB B k enc l ad w) : RowAt k enc l ad w := by
  rcases h with h | ⟨b, o, h1, _, h3⟩
  · exact .inl h
  · exact .inr ⟨b, o, h1, h3⟩
theorem RowB.kept {B : Nat} {α : Type} [Inhabited α] {k : Nat} {enc : α → List Value} {l : List α} {ad : Option Addr} {w w' : World} {q : Nat} (h : RowB B k enc l ad w) (hg : w.grownBy w' (some q)) (hq : q < B) : RowB B k enc l ad w' := by
  rcases h with h | ⟨b, o, h1, h2, h3⟩
  · exact .inl h
  · exact .inr ⟨b, o, h1, h2, fun j hj c x hx => hg.cell (h3 j hj c x hx) (by intro e; simp only [Option.some.injEq] at e; omega)⟩
theorem RowB.below {B : Nat} {α : Type} [Inhabited α] {k : Nat} {enc : α → List Value} {l : List α} {ad : Option Addr} {w w' : World} (h : RowB B k enc l ad w) (hb : Below w.heap.size w w') : RowB B k enc l ad w' := by
  rcases h with h | ⟨b, o, h1, h2, h3⟩
  · exact .inl h
  · exact .inr ⟨b, o, h1, h2, fun j hj c x hx => (hb.cell (p := ⟨b, o + j * k + c, none⟩) (World.block_lt_of_cell? w _ (h3 j hj c x hx))).trans (h3 j hj c x hx)⟩
theorem RowB.mono {B B' : Nat} {α : Type} [Inhabited α] {k : Nat} {enc : α → List Value} {l : List α} {ad : Option Addr} {w : World} (h : RowB B k enc l ad w) (hb : B' ≤ B) : RowB B' k enc l ad w := by
  rcases h with h | ⟨b, o, h1, h2, h3⟩
  · exact .inl h
  · exact .inr ⟨b, o, h1, by omega, h3⟩
theorem RowB.take {B : Nat} {α : Type} [Inhabited α] {k : Nat} {enc : α → List Value} {l : List α} {ad : Option Addr} {w : World} (h : RowB B k enc l ad w) (n : Nat) (hn : n ≤ l.length) : RowB B k enc (l.take n) ad w := by
  rcases h with h | ⟨b, o, h1, h2, h3⟩
  · exact .inl (by simp; omega)
  · refine .inr ⟨b, o, h1, h2, fun j hj c x hx => h3 j (by simp at hj; omega) c x ?_⟩
    have hj' : j < n := by simp at hj; omega
    have hj2 : j < l.length := by omega
    have e : (l.take n)[j]! = l[j]! := by
      rw [getElem!_pos _ j hj, getElem!_pos l j hj2, List.getElem_take]
    rwa [e] at hx
theorem OwnK.rowB {B : Nat} {t : TypeId} {k : Nat} {α : Type} [Inhabited α] {enc : α → List Value} (hk : ∀ x, (enc x).length = k) {w : World} {v : Value} {l : List α} (h : OwnK B t k enc w v l) : ∃ ad cap, v = .slice ad l.length cap ∧ l.length ≤ cap ∧ (ad = none → cap = 0) ∧ RowB B k enc l ad w := by
  obtain ⟨ad, cap, hv, h1, h2, h3⟩ := h.rowCS hk
  refine ⟨ad, cap, hv, h1, h2, ?_⟩
  rcases h3 with h3 | ⟨b, o, e, h4⟩
  · exact .inl h3
  · refine .inr ⟨b, o, e, ?_, h4⟩
    subst hv
    have := World.ownsRow.lt h b (by rw [e]; rfl)
    omega
theorem app_last {α : Type} [Inhabited α] (L : List α) (x : α) : (L ++ [x])[L.length]! = x := by
  rw [getElem!_pos _ _ (by simp)]; simp
theorem app_low {α : Type} [Inhabited α] (L : List α) (x : α) {j : Nat} (h : j < L.length) : (L ++ [x])[j]! = L[j]! := by
  rw [getElem!_pos (L ++ [x]) j (by simp; omega), getElem!_pos L j h, List.getElem_append_left h]
theorem Arr.drew {α : Type} {t : TypeId} {f : α → Value} {g : Nat} {l : List α} {w : World} (h : Arr t f g l w) : Arr t f g l w.drew := ⟨h.blk⟩
theorem undrew {w w' : World} {r : Option Nat} (h : w.drew.grownBy w' r) : w.grownBy w' r := grown_trans (grown_below _ (Below.refl w.heap.size w).drew) h
end Go.Proofs.Ytcpifmhcebfglaa
