/- One token after the other: a call of the reader's closure.
   The program's scan: what it answers, by the ways a token is read. -/
import Derived.Test.YtogmipbdnffegaaGreatDoorMgSkip
import Derived.Test.YtogmipbdnffegaaGreatDoorMgRt
namespace Go.Proofs.YtogmipbdnffegaaGreatDoor
open Go Go.RowKit
set_option linter.unusedVariables false
theorem sk_le {s : ByteArray} {a b : Nat} {e : Int} (h : Sk s a b e) : a ≤ b ∧ b ≤ s.size := by
  induction h with
  | fin => exact ⟨Nat.le_refl _, Nat.le_refl _⟩
  | stop h _ => exact ⟨Nat.le_refl _, Nat.le_of_lt h⟩
  | short h _ => exact ⟨Nat.le_refl _, Nat.le_of_lt h⟩
  | go h _ _ ih => exact ⟨by omega, ih.2⟩
theorem TB.but {S : Nat → Prop} {B : Nat} {w w' : World} {p : Nat} {k l c : Int} {t : ByteArray} {q : Bool} {n v x : Int} {sg : Bool} (h : TB w p k l c t q n v x sg) (hb : But S B w w') (hp : p < B) (hs : ¬ S p) : TB w' p k l c t q n v x sg :=
  ⟨(hb.cell (p := ⟨p, 0, none⟩) hp hs).trans h.c0, (hb.cell (p := ⟨p, 1, none⟩) hp hs).trans h.c1, (hb.cell (p := ⟨p, 2, none⟩) hp hs).trans h.c2, (hb.cell (p := ⟨p, 3, none⟩) hp hs).trans h.c3, (hb.cell (p := ⟨p, 4, none⟩) hp hs).trans h.c4, (hb.cell (p := ⟨p, 5, none⟩) hp hs).trans h.c5, (hb.cell (p := ⟨p, 6, none⟩) hp hs).trans h.c6, (hb.cell (p := ⟨p, 7, none⟩) hp hs).trans h.c7, (hb.cell (p := ⟨p, 8, none⟩) hp hs).trans h.c8, fun o => (hb.frozen (p := ⟨p, o, none⟩) hp hs).trans (h.fz o)⟩
theorem TB.at {w : World} {p : Nat} {k l c : Int} {t : ByteArray} {q : Bool} {n v x : Int} {sg : Bool} (h : TB w p k l c t q n v x sg) (l' c' : Int) : TB ((w.setCell ⟨p, 1, none⟩ (.int .i64 l')).setCell ⟨p, 2, none⟩ (.int .i64 c')) p k l' c' t q n v x sg := by
  obtain ⟨h0, h1, h2, h3, h4, h5, h6, h7, h8, hf⟩ := h
  have N : ∀ {W : World} {i j : Nat} {u : Value}, i ≠ j → (W.setCell ⟨p, i, none⟩ u).cell? ⟨p, j, none⟩ = W.cell? ⟨p, j, none⟩ := fun h => cell_set_ne h
  refine ⟨?_, ?_, ?_, ?_, ?_, ?_, ?_, ?_, ?_, fun o => by rw [frozen_set, frozen_set]; exact hf o⟩
  · rw [N (by decide), N (by decide)]; exact h0
  · rw [N (by decide)]; exact cell_set_eq h1 (hf 1)
  · exact cell_set_eq ((N (by decide)).trans h2) (frozen_set.trans (hf 2))
  · rw [N (by decide), N (by decide)]; exact h3
  · rw [N (by decide), N (by decide)]; exact h4
  · rw [N (by decide), N (by decide)]; exact h5
  · rw [N (by decide), N (by decide)]; exact h6
  · rw [N (by decide), N (by decide)]; exact h7
  · rw [N (by decide), N (by decide)]; exact h8
theorem But.low {S T : Nat → Prop} {B C : Nat} {w w' : World} (h : But S B w w') (hC : C ≤ B) (hT : ∀ k, k < C → S k → T k) : But T C w w' :=
  ⟨h.os, h.tape, h.output, h.size, fun k hk hs => h.block k (Nat.lt_of_lt_of_le hk hC) (fun x => hs (hT k hk x))⟩
theorem FB.but {S : Nat → Prop} {W W' : World} {b : Nat} {s : ByteArray} {k B : Nat} (h : FB W b s k) (hb : But S B W W') (hB : b + 3 < B) (hS : ∀ q, q ≤ b + 3 → ¬ S q) : FB W' b s k :=
  h.below (B := b + 4) ⟨hb.os, hb.tape, hb.output, hb.size, fun q hq => hb.block q (by omega) (hS q (by omega))⟩ (by omega)
theorem RB.but {S : Nat → Prop} {W W' : World} {b f p a : Nat} {s : ByteArray} {k n B : Nat} (h : RB W b f p a s k n) (hb : But S B W W') (hB : a < B) (hS : ∀ q, q ≤ a → ¬ S q) : RB W' b f p a s k n :=
  h.below (B := a + 1) ⟨hb.os, hb.tape, hb.output, hb.size, fun q hq => hb.block q (by omega) (hS q (by omega))⟩ (by omega)
theorem But.setIn {p B : Nat} {a w : World} (h : But (fun q => q = p) B a w) (i : Nat) (u : Value) : But (fun q => q = p) B a (w.setCell ⟨p, i, none⟩ u) := h.setCell (p := ⟨p, i, none⟩) (Or.inl rfl) u
theorem RB.step {W : World} {b f p a : Nat} {s : ByteArray} {k n : Nat} (h : RB W b f p a s k n) (n' : Nat) : RB (W.setCell ⟨a, 0, none⟩ (.int .i64 n')) b f p a s k n' := by
  have h1 := h.o1
  have h2 := h.o2
  have h3 := h.o3
  have c : But (fun q => q = a) W.heap.size W (W.setCell ⟨a, 0, none⟩ (.int .i64 n')) := (But.refl _ _ _).setIn _ _
  have hl := h.lt
  exact ⟨(c.cell (p := ⟨b, 0, none⟩) (show b < _ by omega) (show ¬ b = a by omega)).trans h.c0, h.fb.below (B := f + 4) ⟨c.os, c.tape, c.output, c.size, fun q hq => c.block q (by omega) (by omega)⟩ (by omega), (c.cell (p := ⟨p, 0, none⟩) (show p < _ by omega) (show ¬ p = a by omega)).trans h.cp, cell_set_eq h.ca h.fa, frozen_set.trans h.fa, h1, h2, h3⟩
theorem but_setTk (w : World) (p : Nat) (k l c : Int) (t : ByteArray) (q : Bool) (n v x : Int) (s : Bool) : But (fun i => i = p) w.heap.size w (setTk w p k l c t q n v x s) :=
  (((((((((But.refl _ _ _).setIn _ _).setIn _ _).setIn _ _).setIn _ _).setIn _ _).setIn _ _).setIn _ _).setIn _ _).setIn _ _
/-- the blocks that the closure writes into -/
def RS (f a : Nat) (k : Nat) : Prop := FS f k ∨ k = a
set_option maxRecDepth 100000 in
set_option maxHeartbeats 3000000 in
theorem next_end (s : ByteArray) (hs : s.size ≤ 1000000) (b f p a k n B : Nat) (E : Int) (hkn : k ≤ n) (hn : n ≤ s.size) (hk : Sk s n B E) (he : E = 11 ∨ (E = 0 ∧ B = s.size)) (w : World) (hG : LG w) (R : RB w b f p a s k n) :
    Calls Tryz.prog 49 (#[] ++ #[.pointer (some ⟨b, 0, none⟩), .pointer (some ⟨a, 0, none⟩), .pointer (some ⟨p, 0, none⟩)]) w fun e w' =>
      e = .returned (.tuple #[.agg #[.int .i64 0, .int .i64 ((plcT s B).1 : Nat), .int .i64 ((plcT s B).2 : Nat), .string ⟨#[]⟩, .bool false, .int .i64 0, .int .u64 0, .int .u64 0, .bool false], .int .i64 E]) ∧ RB w' b f p a s B B ∧ But (RS f a) w.heap.size w w' := by
  obtain ⟨hB1, hB2⟩ := sk_le hk
  have hlt := R.lt
  have o1 := R.o1
  have o2 := R.o2
  have o3 := R.o3
  have HG := Lib.hid hG
  have HK := Lib.hid hk
  have HR := Lib.hid R
  clear hG hk R
  go_enter Tryz.func49, Tryz.ntmps49
  go_upto_region 1 with fail
  obtain ⟨W1, hW1⟩ : ∃ W, W = w.alloc (Obj.cells #[Value.int IntKind.i64 0, Value.int IntKind.i64 0, Value.int IntKind.i64 0, Value.string { data := #[] }, Value.bool false, Value.int IntKind.i64 0, Value.int IntKind.u64 0, Value.int IntKind.u64 0, Value.bool false] 42) := ⟨_, rfl⟩
  have b0 : Below w.heap.size w W1 := by rw [hW1]; exact (Below.refl _ _).alloc (Nat.le_refl _) _
  have T0 : TB W1 w.heap.size 0 0 0 ⟨#[]⟩ false 0 0 0 false := by rw [hW1]; exact TB.new w 0 0 0 ⟨#[]⟩ false 0 0 0 false
  rw [← hW1]
  clear hW1
  have hlt0 := T0.lt
  have R1 := HR.out.below b0 hlt
  obtain ⟨r0, -, r1, r2, r3, -, -, -⟩ := id R1
  go_wp2_with fail
  refine (skip_any s hs n B E hn HK.out W1 (HG.out.below b0)).mono ?_
  rintro x w1 ⟨rfl, rfl⟩
  go_upto_region 3 with fail
  obtain ⟨W2, hW2⟩ : ∃ W, W = W1.alloc (Obj.cells #[Value.int IntKind.i64 0, Value.int IntKind.i64 0, Value.int IntKind.i64 0, Value.string { data := #[] }, Value.bool false, Value.int IntKind.i64 0, Value.int IntKind.u64 0, Value.int IntKind.u64 0, Value.bool false] 42) := ⟨_, rfl⟩
  have b1 : Below W1.heap.size W1 W2 := by rw [hW2]; exact (Below.refl _ _).alloc (Nat.le_refl _) _
  have U0 : TB W2 W1.heap.size 0 0 0 ⟨#[]⟩ false 0 0 0 false := by rw [hW2]; exact TB.new W1 0 0 0 ⟨#[]⟩ false 0 0 0 false
  rw [← hW2]
  clear hW2
  have hlt1 := U0.lt
  have T1 := T0.below b1
  have R2 := R1.below b1 (by omega)
  have bb := b0.trans (b1.mono (Nat.le_of_lt hlt0))
  clear r0 r1 r2 r3
  obtain ⟨r0, -, r1, r2, r3, -, -, -⟩ := id R2
  unfold folV at r1
  rcases he with rfl | ⟨rfl, he⟩
  · go_wp2_with fail
    refine (show Calls Tryz.prog 60 #[.int .i64 (B : Nat), .pointer (some ⟨f, 0, none⟩), .pointer (some ⟨f + 3, 0, none⟩), .pointer (some ⟨f + 1, 0, none⟩), .pointer (some ⟨f + 2, 0, none⟩)] W2 _ from place_any s hs f k B (by omega) hB2 W2 R2.fb).mono ?_
    rintro x w3 ⟨rfl, F3, hb3⟩
    have hz3 := hb3.size
    have T3 := T1.but hb3 (by omega) (by unfold FS; omega)
    have U3 := U0.but hb3 (by omega) (by unfold FS; omega)
    have d0 := (hb3.cell (p := ⟨b, 0, none⟩) (show b < W2.heap.size by omega) (show ¬ FS f b by unfold FS; omega)).trans R2.c0
    have d1 := (hb3.cell (p := ⟨p, 0, none⟩) (show p < W2.heap.size by omega) (show ¬ FS f p by unfold FS; omega)).trans R2.cp
    have d2 := (hb3.cell (p := ⟨a, 0, none⟩) (show a < W2.heap.size by omega) (show ¬ FS f a by unfold FS; omega)).trans R2.ca
    have d3 := (hb3.frozen (p := ⟨a, 0, none⟩) (show a < W2.heap.size by omega) (show ¬ FS f a by unfold FS; omega)).trans R2.fa
    have hb3' : But (RS f a) w.heap.size w w3 := (But.of_below bb).trans (hb3.mono (by omega) (fun k hk => Or.inl hk))
    have R3 : RB w3 b f p a s B n := ⟨d0, F3, d1, d2, d3, o1, o2, o3⟩
    clear r0 r1 r2 r3 hb3 d0 d1 d2 d3 F3
    obtain ⟨L, hL⟩ : ∃ L, (plcT s B).1 = L := ⟨_, rfl⟩
    rw [hL]
    have HLL := Lib.hid hL
    clear hL
    obtain ⟨C, hC⟩ : ∃ C, (plcT s B).2 = C := ⟨_, rfl⟩
    rw [hC]
    have HCC := Lib.hid hC
    clear hC
    obtain ⟨u0, u1, u2, u3, u4, u5, u6, u7, u8, uf⟩ := id U3
    go_upto_region 6 with fail
    obtain ⟨W4, hW4⟩ : ∃ W, W = (w3.setCell ⟨W1.heap.size, 1, none⟩ (.int .i64 (L : Nat))).setCell ⟨W1.heap.size, 2, none⟩ (.int .i64 (C : Nat)) := ⟨_, rfl⟩
    have c4 : But (fun q => q = W1.heap.size) w3.heap.size w3 W4 := by rw [hW4]; exact ((But.refl _ _ _).setIn _ _).setIn _ _
    have U4 : TB W4 W1.heap.size 0 L C ⟨#[]⟩ false 0 0 0 false := by rw [hW4]; exact U3.at L C
    rw [← hW4]
    clear hW4 u0 u1 u2 u3 u4 u5 u6 u7 u8 uf
    have hz4 := c4.size
    have T4 := T3.but c4 (by omega) (by omega)
    have R4 := R3.but c4 (by omega) (fun q hq => by omega)
    have b4 := hb3'.trans (c4.low (C := w.heap.size) (by omega) (fun q h1 h2 => by omega))
    obtain ⟨-, -, -, e2, e3, -, -, -⟩ := id R4
    go_upto_region 7 with fail
    obtain ⟨W5, hW5⟩ : ∃ W, W = W4.setCell ⟨a, 0, none⟩ (.int .i64 (B : Nat)) := ⟨_, rfl⟩
    have c5 : But (fun q => q = a) W4.heap.size W4 W5 := by rw [hW5]; exact (But.refl _ _ _).setIn _ _
    have R5 : RB W5 b f p a s B (B) := by rw [hW5]; exact R4.step (B)
    rw [← hW5]
    clear hW5 e2 e3
    have hz5 := c5.size
    have T5 := T4.but c5 (by omega) (by omega)
    have U5 := U4.but c5 (by omega) (by omega)
    have b5 := b4.trans (c5.low (C := w.heap.size) (by omega) (fun q h1 h2 => Or.inr h2))
    obtain ⟨u0, u1, u2, u3, u4, u5, u6, u7, u8, uf⟩ := id U5
    obtain ⟨t0, t1, t2, t3, t4, t5, t6, t7, t8, tf⟩ := id T5
    have c6 := but_setTk W5 w.heap.size 0 L C ⟨#[]⟩ false 0 0 0 false
    have R6 := R5.but c6 (by omega) (fun q hq => by omega)
    have b6 := b5.trans (c6.low (C := w.heap.size) (by omega) (fun q h1 h2 => by omega))
    go_wp2_with fail
    obtain ⟨q0, q1, q2, q3, q4, q5, q6, q7, q8, -⟩ := T5.set 0 L C ⟨#[]⟩ false 0 0 0 false
    unfold setTk at q0 q1 q2 q3 q4 q5 q6 q7 q8
    unfold setTk at R6 b6
    exact bodyPost_ret (v := .tuple #[.agg #[.int .i64 0, .int .i64 (L : Nat), .int .i64 (C : Nat), .string ⟨#[]⟩, .bool false, .int .i64 0, .int .u64 0, .int .u64 0, .bool false], .int .i64 11]) (by simp [results, Tryz.results49, go_sem, q0, q1, q2, q3, q4, q5, q6, q7, q8]) rfl ⟨by rw [HLL.out, HCC.out], R6, b6⟩
  · have hBi : (B : Int) = (s.size : Int) := by omega
    have hBn : ¬ ((B : Int) < (s.size : Int)) := by omega
    clear he hBi
    go_wp2_with fail
    refine (show Calls Tryz.prog 60 #[.int .i64 (B : Nat), .pointer (some ⟨f, 0, none⟩), .pointer (some ⟨f + 3, 0, none⟩), .pointer (some ⟨f + 1, 0, none⟩), .pointer (some ⟨f + 2, 0, none⟩)] W2 _ from place_any s hs f k B (by omega) hB2 W2 R2.fb).mono ?_
    rintro x w3 ⟨rfl, F3, hb3⟩
    have hz3 := hb3.size
    have T3 := T1.but hb3 (by omega) (by unfold FS; omega)
    have U3 := U0.but hb3 (by omega) (by unfold FS; omega)
    have d0 := (hb3.cell (p := ⟨b, 0, none⟩) (show b < W2.heap.size by omega) (show ¬ FS f b by unfold FS; omega)).trans R2.c0
    have d1 := (hb3.cell (p := ⟨p, 0, none⟩) (show p < W2.heap.size by omega) (show ¬ FS f p by unfold FS; omega)).trans R2.cp
    have d2 := (hb3.cell (p := ⟨a, 0, none⟩) (show a < W2.heap.size by omega) (show ¬ FS f a by unfold FS; omega)).trans R2.ca
    have d3 := (hb3.frozen (p := ⟨a, 0, none⟩) (show a < W2.heap.size by omega) (show ¬ FS f a by unfold FS; omega)).trans R2.fa
    have hb3' : But (RS f a) w.heap.size w w3 := (But.of_below bb).trans (hb3.mono (by omega) (fun k hk => Or.inl hk))
    have R3 : RB w3 b f p a s B n := ⟨d0, F3, d1, d2, d3, o1, o2, o3⟩
    clear r0 r1 r2 r3 hb3 d0 d1 d2 d3 F3
    obtain ⟨L, hL⟩ : ∃ L, (plcT s B).1 = L := ⟨_, rfl⟩
    rw [hL]
    have HLL := Lib.hid hL
    clear hL
    obtain ⟨C, hC⟩ : ∃ C, (plcT s B).2 = C := ⟨_, rfl⟩
    rw [hC]
    have HCC := Lib.hid hC
    clear hC
    obtain ⟨u0, u1, u2, u3, u4, u5, u6, u7, u8, uf⟩ := id U3
    go_upto_region 6 with fail
    obtain ⟨W4, hW4⟩ : ∃ W, W = (w3.setCell ⟨W1.heap.size, 1, none⟩ (.int .i64 (L : Nat))).setCell ⟨W1.heap.size, 2, none⟩ (.int .i64 (C : Nat)) := ⟨_, rfl⟩
    have c4 : But (fun q => q = W1.heap.size) w3.heap.size w3 W4 := by rw [hW4]; exact ((But.refl _ _ _).setIn _ _).setIn _ _
    have U4 : TB W4 W1.heap.size 0 L C ⟨#[]⟩ false 0 0 0 false := by rw [hW4]; exact U3.at L C
    rw [← hW4]
    clear hW4 u0 u1 u2 u3 u4 u5 u6 u7 u8 uf
    have hz4 := c4.size
    have T4 := T3.but c4 (by omega) (by omega)
    have R4 := R3.but c4 (by omega) (fun q hq => by omega)
    have b4 := hb3'.trans (c4.low (C := w.heap.size) (by omega) (fun q h1 h2 => by omega))
    obtain ⟨-, -, -, e2, e3, -, -, -⟩ := id R4
    go_upto_region 7 with fail
    obtain ⟨W5, hW5⟩ : ∃ W, W = W4.setCell ⟨a, 0, none⟩ (.int .i64 (B : Nat)) := ⟨_, rfl⟩
    have c5 : But (fun q => q = a) W4.heap.size W4 W5 := by rw [hW5]; exact (But.refl _ _ _).setIn _ _
    have R5 : RB W5 b f p a s B (B) := by rw [hW5]; exact R4.step (B)
    rw [← hW5]
    clear hW5 e2 e3
    have hz5 := c5.size
    have T5 := T4.but c5 (by omega) (by omega)
    have U5 := U4.but c5 (by omega) (by omega)
    have b5 := b4.trans (c5.low (C := w.heap.size) (by omega) (fun q h1 h2 => Or.inr h2))
    obtain ⟨u0, u1, u2, u3, u4, u5, u6, u7, u8, uf⟩ := id U5
    obtain ⟨t0, t1, t2, t3, t4, t5, t6, t7, t8, tf⟩ := id T5
    have c6 := but_setTk W5 w.heap.size 0 L C ⟨#[]⟩ false 0 0 0 false
    have R6 := R5.but c6 (by omega) (fun q hq => by omega)
    have b6 := b5.trans (c6.low (C := w.heap.size) (by omega) (fun q h1 h2 => by omega))
    go_wp2_with fail
    obtain ⟨q0, q1, q2, q3, q4, q5, q6, q7, q8, -⟩ := T5.set 0 L C ⟨#[]⟩ false 0 0 0 false
    unfold setTk at q0 q1 q2 q3 q4 q5 q6 q7 q8
    unfold setTk at R6 b6
    exact bodyPost_ret (v := .tuple #[.agg #[.int .i64 0, .int .i64 (L : Nat), .int .i64 (C : Nat), .string ⟨#[]⟩, .bool false, .int .i64 0, .int .u64 0, .int .u64 0, .bool false], .int .i64 0]) (by simp [results, Tryz.results49, go_sem, q0, q1, q2, q3, q4, q5, q6, q7, q8]) rfl ⟨by rw [HLL.out, HCC.out], R6, b6⟩
set_option maxRecDepth 100000 in
set_option maxHeartbeats 3000000 in
theorem next_tok (s : ByteArray) (hs : s.size ≤ 1000000) (b f p a k n B : Nat) (KK : Int) (TT : ByteArray) (QQ : Bool) (NN VV XX : Int) (SG : Bool) (sz : Nat) (er : Int) (hsz : sz ≤ 1000000) (hkn : k ≤ n) (hn : n ≤ s.size) (hk : Sk s n B 0) (hBl : B < s.size) (w : World) (hG : LG w) (R : RB w b f p a s k n)
    (hS : ∀ W, Below w.heap.size w W → w.heap.size ≤ W.heap.size → Calls Tryz.prog 51 #[.string (s.extract B s.size)] W fun e w' => e = .returned (.tuple #[.agg #[.int .i64 KK, .int .i64 0, .int .i64 0, .string TT, .bool QQ, .int .i64 NN, .int .u64 VV, .int .u64 XX, .bool SG], .int .i64 sz, .int .i64 er]) ∧ Below W.heap.size W w') :
    Calls Tryz.prog 49 (#[] ++ #[.pointer (some ⟨b, 0, none⟩), .pointer (some ⟨a, 0, none⟩), .pointer (some ⟨p, 0, none⟩)]) w fun e w' =>
      e = .returned (.tuple #[.agg #[.int .i64 KK, .int .i64 ((plcT s B).1 : Nat), .int .i64 ((plcT s B).2 : Nat), .string TT, .bool QQ, .int .i64 NN, .int .u64 VV, .int .u64 XX, .bool SG], .int .i64 er]) ∧ RB w' b f p a s B (B + sz) ∧ But (RS f a) w.heap.size w w' := by
  obtain ⟨hB1, hB2⟩ := sk_le hk
  have hlt := R.lt
  have o1 := R.o1
  have o2 := R.o2
  have o3 := R.o3
  have HG := Lib.hid hG
  have HK := Lib.hid hk
  have HR := Lib.hid R
  have HS := Lib.hid hS
  clear hG hk R hS
  go_enter Tryz.func49, Tryz.ntmps49
  go_upto_region 1 with fail
  obtain ⟨W1, hW1⟩ : ∃ W, W = w.alloc (Obj.cells #[Value.int IntKind.i64 0, Value.int IntKind.i64 0, Value.int IntKind.i64 0, Value.string { data := #[] }, Value.bool false, Value.int IntKind.i64 0, Value.int IntKind.u64 0, Value.int IntKind.u64 0, Value.bool false] 42) := ⟨_, rfl⟩
  have b0 : Below w.heap.size w W1 := by rw [hW1]; exact (Below.refl _ _).alloc (Nat.le_refl _) _
  have T0 : TB W1 w.heap.size 0 0 0 ⟨#[]⟩ false 0 0 0 false := by rw [hW1]; exact TB.new w 0 0 0 ⟨#[]⟩ false 0 0 0 false
  rw [← hW1]
  clear hW1
  have hlt0 := T0.lt
  have R1 := HR.out.below b0 hlt
  obtain ⟨r0, -, r1, r2, r3, -, -, -⟩ := id R1
  go_wp2_with fail
  refine (skip_any s hs n B 0 hn HK.out W1 (HG.out.below b0)).mono ?_
  rintro x w1 ⟨rfl, rfl⟩
  go_upto_region 3 with fail
  obtain ⟨W2, hW2⟩ : ∃ W, W = W1.alloc (Obj.cells #[Value.int IntKind.i64 0, Value.int IntKind.i64 0, Value.int IntKind.i64 0, Value.string { data := #[] }, Value.bool false, Value.int IntKind.i64 0, Value.int IntKind.u64 0, Value.int IntKind.u64 0, Value.bool false] 42) := ⟨_, rfl⟩
  have b1 : Below W1.heap.size W1 W2 := by rw [hW2]; exact (Below.refl _ _).alloc (Nat.le_refl _) _
  have U0 : TB W2 W1.heap.size 0 0 0 ⟨#[]⟩ false 0 0 0 false := by rw [hW2]; exact TB.new W1 0 0 0 ⟨#[]⟩ false 0 0 0 false
  rw [← hW2]
  clear hW2
  have hlt1 := U0.lt
  have T1 := T0.below b1
  have R2 := R1.below b1 (by omega)
  have bb := b0.trans (b1.mono (Nat.le_of_lt hlt0))
  clear r0 r1 r2 r3
  obtain ⟨r0, -, r1, r2, r3, -, -, -⟩ := id R2
  unfold folV at r1
  have hwr : IntKind.i64.wrap ((B : Int) + (sz : Int)) = (B : Int) + (sz : Int) := by
    unfold IntKind.wrap
    simp [IntKind.bits, IntKind.signed]
    omega
  have hBi : (B : Int) < (s.size : Int) := by omega
  have hB0 : (0 : Int) ≤ (B : Int) := by omega
  have hB3 : (B : Int) ≤ (s.size : Int) := by omega
  go_wp2_with fail
  refine (HS.out W2 bb (by omega)).mono ?_
  rintro x w7 ⟨rfl, hb7⟩
  have hz7 := hb7.size
  have U7 := U0.below hb7
  have T7 := T1.below hb7
  have R7 := R2.below hb7 (by omega)
  have b7 := bb.trans (hb7.mono (by omega))
  have c8 := but_setTk w7 W1.heap.size KK 0 0 TT QQ NN VV XX SG
  have U8 := U7.set KK 0 0 TT QQ NN VV XX SG
  have T8 := T7.but c8 (by omega) (by omega)
  have R8 := R7.but c8 (by omega) (fun q hq => by omega)
  have b8 : Below w.heap.size w (setTk w7 W1.heap.size KK 0 0 TT QQ NN VV XX SG) := b7.trans ((c8.low (T := fun _ => False) (C := w.heap.size) (by omega) (fun q h1 h2 => by omega)).below (fun q h => h.elim))
  clear r0 r1 r2 r3
  obtain ⟨r0, -, -, r2, r3, -, -, -⟩ := id R7
  obtain ⟨u0, u1, u2, u3, u4, u5, u6, u7, u8, uf⟩ := id U7
  go_upto_region 5 with fail
  obtain ⟨W8, hW8⟩ : ∃ W, W = setTk w7 W1.heap.size KK 0 0 TT QQ NN VV XX SG := ⟨_, rfl⟩
  rw [← hW8] at c8 U8 T8 R8 b8
  unfold setTk at hW8
  rw [← hW8]
  have hz8 := c8.size
  clear hW8 r0 r2 r3 u0 u1 u2 u3 u4 u5 u6 u7 u8 uf
  obtain ⟨r0, -, r1, r2, r3, -, -, -⟩ := id R8
  unfold folV at r1
  go_wp2_with fail
  refine (show Calls Tryz.prog 60 #[.int .i64 (B : Nat), .pointer (some ⟨f, 0, none⟩), .pointer (some ⟨f + 3, 0, none⟩), .pointer (some ⟨f + 1, 0, none⟩), .pointer (some ⟨f + 2, 0, none⟩)] W8 _ from place_any s hs f k B (by omega) hB2 W8 R8.fb).mono ?_
  rintro x w3 ⟨rfl, F3, hb3⟩
  have hz3 := hb3.size
  have T3 := T8.but hb3 (by omega) (by unfold FS; omega)
  have U3 := U8.but hb3 (by omega) (by unfold FS; omega)
  have d0 := (hb3.cell (p := ⟨b, 0, none⟩) (show b < W8.heap.size by omega) (show ¬ FS f b by unfold FS; omega)).trans R8.c0
  have d1 := (hb3.cell (p := ⟨p, 0, none⟩) (show p < W8.heap.size by omega) (show ¬ FS f p by unfold FS; omega)).trans R8.cp
  have d2 := (hb3.cell (p := ⟨a, 0, none⟩) (show a < W8.heap.size by omega) (show ¬ FS f a by unfold FS; omega)).trans R8.ca
  have d3 := (hb3.frozen (p := ⟨a, 0, none⟩) (show a < W8.heap.size by omega) (show ¬ FS f a by unfold FS; omega)).trans R8.fa
  have hb3' : But (RS f a) w.heap.size w w3 := (But.of_below b8).trans (hb3.mono (by omega) (fun k hk => Or.inl hk))
  have R3 : RB w3 b f p a s B n := ⟨d0, F3, d1, d2, d3, o1, o2, o3⟩
  clear r0 r1 r2 r3 hb3 d0 d1 d2 d3 F3
  obtain ⟨L, hL⟩ : ∃ L, (plcT s B).1 = L := ⟨_, rfl⟩
  rw [hL]
  have HLL := Lib.hid hL
  clear hL
  obtain ⟨C, hC⟩ : ∃ C, (plcT s B).2 = C := ⟨_, rfl⟩
  rw [hC]
  have HCC := Lib.hid hC
  clear hC
  obtain ⟨u0, u1, u2, u3, u4, u5, u6, u7, u8, uf⟩ := id U3
  go_upto_region 6 with fail
  obtain ⟨W4, hW4⟩ : ∃ W, W = (w3.setCell ⟨W1.heap.size, 1, none⟩ (.int .i64 (L : Nat))).setCell ⟨W1.heap.size, 2, none⟩ (.int .i64 (C : Nat)) := ⟨_, rfl⟩
  have c4 : But (fun q => q = W1.heap.size) w3.heap.size w3 W4 := by rw [hW4]; exact ((But.refl _ _ _).setIn _ _).setIn _ _
  have U4 : TB W4 W1.heap.size KK L C TT QQ NN VV XX SG := by rw [hW4]; exact U3.at L C
  rw [← hW4]
  clear hW4 u0 u1 u2 u3 u4 u5 u6 u7 u8 uf
  have hz4 := c4.size
  have T4 := T3.but c4 (by omega) (by omega)
  have R4 := R3.but c4 (by omega) (fun q hq => by omega)
  have b4 := hb3'.trans (c4.low (C := w.heap.size) (by omega) (fun q h1 h2 => by omega))
  obtain ⟨-, -, -, e2, e3, -, -, -⟩ := id R4
  go_upto_region 7 with fail
  obtain ⟨W5, hW5⟩ : ∃ W, W = W4.setCell ⟨a, 0, none⟩ (.int .i64 ((B : Int) + (sz : Int))) := ⟨_, rfl⟩
  have c5 : But (fun q => q = a) W4.heap.size W4 W5 := by rw [hW5]; exact (But.refl _ _ _).setIn _ _
  have R5 : RB W5 b f p a s B (B + sz) := by rw [hW5]; exact R4.step (B + sz)
  rw [← hW5]
  clear hW5 e2 e3
  have hz5 := c5.size
  have T5 := T4.but c5 (by omega) (by omega)
  have U5 := U4.but c5 (by omega) (by omega)
  have b5 := b4.trans (c5.low (C := w.heap.size) (by omega) (fun q h1 h2 => Or.inr h2))
  obtain ⟨u0, u1, u2, u3, u4, u5, u6, u7, u8, uf⟩ := id U5
  obtain ⟨t0, t1, t2, t3, t4, t5, t6, t7, t8, tf⟩ := id T5
  have c6 := but_setTk W5 w.heap.size KK L C TT QQ NN VV XX SG
  have R6 := R5.but c6 (by omega) (fun q hq => by omega)
  have b6 := b5.trans (c6.low (C := w.heap.size) (by omega) (fun q h1 h2 => by omega))
  go_wp2_with fail
  obtain ⟨q0, q1, q2, q3, q4, q5, q6, q7, q8, -⟩ := T5.set KK L C TT QQ NN VV XX SG
  unfold setTk at q0 q1 q2 q3 q4 q5 q6 q7 q8
  unfold setTk at R6 b6
  exact bodyPost_ret (v := .tuple #[.agg #[.int .i64 KK, .int .i64 (L : Nat), .int .i64 (C : Nat), .string TT, .bool QQ, .int .i64 NN, .int .u64 VV, .int .u64 XX, .bool SG], .int .i64 er]) (by simp [results, Tryz.results49, go_sem, q0, q1, q2, q3, q4, q5, q6, q7, q8]) rfl ⟨by rw [HLL.out, HCC.out], R6, b6⟩
end Go.Proofs.YtogmipbdnffegaaGreatDoor
namespace Go.Proofs.YtogmipbdnffegaaGreatDoor
open Go Go.RowKit
set_option linter.unusedVariables false
/-- the package-level variables that the reading of tokens leans on -/
structure PG (w : World) : Prop where
  lg : LG w
  er : ∃ ev, w.cell? ⟨4, 0, none⟩ = some ev ∧ (ev = .nilIface ∨ ∃ te pe, ev = .iface te pe)
theorem PG.below {w w' : World} (h : PG w) (hb : Below w.heap.size w w') : PG w' := by
  obtain ⟨ev, h1, h2⟩ := h.er
  exact ⟨h.lg.below hb, ev, (hb.cell (p := ⟨_, 0, none⟩) (World.block_lt_of_cell? w _ h1)).trans h1, h2⟩
def scA (r : ByteArray) (k : Int) (t : ByteArray) (q : Bool) (n v x : Int) (s : Bool) (z : Nat) (e : Int) (w : World) : Prop :=
  Calls Tryz.prog 51 #[.string r] w fun u w' => u = .returned (.tuple #[.agg #[.int .i64 k, .int .i64 0, .int .i64 0, .string t, .bool q, .int .i64 n, .int .u64 v, .int .u64 x, .bool s], .int .i64 z, .int .i64 e]) ∧ Below w.heap.size w w'
def ProgScan (r : ByteArray) : Res → Prop
  | .ok k t q n v x s z => z ≤ 1000000 ∧ k ≠ 0 ∧ 1 ≤ z ∧ z ≤ r.size ∧ ∀ w, PG w → scA r k t q n v x s z 0 w
  | .er e => e ≠ 0 ∧ ∃ (k : Int) (t : ByteArray) (q : Bool) (n v x : Int) (s : Bool) (z : Nat), z ≤ 1000000 ∧ ∀ w, PG w → scA r k t q n v x s z e w
theorem sgn_size {l : List UInt8} {i : Nat} (h : sgn l = some i) : i < 39 ∧ Lib.hasPrefix l (signL.getD i []) = true := by
  have H : ∀ m, sgF l m = some i → i < m ∧ Lib.hasPrefix l (signL.getD i []) = true := by
    intro m
    induction m with
    | zero => intro h; cases h
    | succ m ih =>
      intro h
      unfold sgF at h
      cases hm : sgF l m with
      | some j =>
        rw [hm] at h
        injection h with h
        subst h
        have := ih hm
        exact ⟨by omega, this.2⟩
      | none =>
        rw [hm] at h
        simp only at h
        split at h
        · injection h with h
          subst h
          exact ⟨by omega, by assumption⟩
        · cases h
  exact H 39 h
theorem signB_pos : ∀ i : Fin 39, 1 ≤ (signL.getD i.1 []).length := by decide +kernel
theorem scan_rt (r : ByteArray) (hs : r.size ≤ 2000) (h1 : 1 ≤ r.size) (R : Res) (hR : Rt r R) : ProgScan r R := by
  have hb0 : ∀ q (h : q < r.size), r[q].toNat = gb r q := fun q h => gb_at r q h
  cases hR with
  | name hL h40 =>
    have hl := span_le inW r
    have hp := span_first (f := inW) h1 (by unfold inW; rw [hL]; rfl)
    refine ⟨by omega, by split <;> decide, hp, hl, fun w hG => ?_⟩
    exact scan_name r h1 (Lib.hid hL) _ 0 0 _ false 0 0 0 false _ 0 w (fun W hb _ => scanName_any r (span inW r) (by omega) (Lib.hid rfl) hl _ 0 (Lib.hid rfl) (Lib.hid (if_neg (by omega))) W (hG.below hb).lg)
  | long hL h40 =>
    have hl := span_le inW r
    refine ⟨by decide, (if isKey (r.extract 0 (span inW r)).data.toList then 2 else 1), r.extract 0 (span inW r), false, 0, 0, 0, false, span inW r, by omega, fun w hG => ?_⟩
    exact scan_name r h1 (Lib.hid hL) _ 0 0 _ false 0 0 0 false _ 3 w (fun W hb _ => scanName_any r (span inW r) (by omega) (Lib.hid rfl) hl _ 3 (Lib.hid rfl) (Lib.hid (if_pos (by omega))) W (hG.below hb).lg)
  | qbad h92 hb =>
    have hL : isL (gb r 0) = false := by rw [h92]; decide
    have hD : isD (gb r 0) = false := by rw [h92]; decide
    refine ⟨by decide, 0, ⟨#[]⟩, false, 0, 0, 0, false, 0, by omega, fun w hG => ?_⟩
    rcases hb with h0 | ⟨h2, h3, h4⟩
    · exact scan_quoted r h1 (Lib.hid hL) (Lib.hid hD) h92 0 0 0 _ false 0 0 0 false 0 10 w (fun W hb _ => scanQuoted_no r _ (by omega) h1 (Lib.hid rfl) h0 W)
    · exact scan_quoted r h1 (Lib.hid hL) (Lib.hid hD) h92 0 0 0 _ false 0 0 0 false 0 10 w (fun W hb _ => scanQuoted_ill r _ (by omega) h1 (Lib.hid rfl) h2 h3 (Lib.hid (by rw [hb0 _ h3]; exact h4)) W)
  | qlong h92 h2 he h40 =>
    have hL : isL (gb r 0) = false := by rw [h92]; decide
    have hD : isD (gb r 0) = false := by rw [h92]; decide
    have hw := span_le inQ (r.extract 1 r.size)
    have hw2 : span inQ (r.extract 1 r.size) ≤ r.size - 1 := by simpa using hw
    refine ⟨by decide, 1, r.extract 1 (1 + span inQ (r.extract 1 r.size)), true, 0, 0, 0, false, 1 + span inQ (r.extract 1 r.size), by omega, fun w hG => ?_⟩
    rcases he with h3 | ⟨h3, h4⟩
    · exact scan_quoted r h1 (Lib.hid hL) (Lib.hid hD) h92 _ 0 0 _ true 0 0 0 false _ 3 w (fun W hb _ => scanQuoted_end r _ (by omega) h1 (Lib.hid rfl) h2 h3 3 (Lib.hid (if_pos (by omega))) W)
    · exact scan_quoted r h1 (Lib.hid hL) (Lib.hid hD) h92 _ 0 0 _ true 0 0 0 false _ 3 w (fun W hb _ => scanQuoted_mid r _ (by omega) h1 (Lib.hid rfl) h2 h3 (Lib.hid (by rw [hb0 _ h3]; exact h4)) 3 (Lib.hid (if_pos (by omega))) W)
  | qok h92 h2 he h40 =>
    have hL : isL (gb r 0) = false := by rw [h92]; decide
    have hD : isD (gb r 0) = false := by rw [h92]; decide
    have hw := span_le inQ (r.extract 1 r.size)
    have hw2 : span inQ (r.extract 1 r.size) ≤ r.size - 1 := by simpa using hw
    refine ⟨by omega, by decide, by omega, by omega, fun w hG => ?_⟩
    rcases he with h3 | ⟨h3, h4⟩
    · exact scan_quoted r h1 (Lib.hid hL) (Lib.hid hD) h92 _ 0 0 _ true 0 0 0 false _ 0 w (fun W hb _ => scanQuoted_end r _ (by omega) h1 (Lib.hid rfl) h2 h3 0 (Lib.hid (if_neg (by omega))) W)
    · exact scan_quoted r h1 (Lib.hid hL) (Lib.hid hD) h92 _ 0 0 _ true 0 0 0 false _ 0 w (fun W hb _ => scanQuoted_mid r _ (by omega) h1 (Lib.hid rfl) h2 h3 (Lib.hid (by rw [hb0 _ h3]; exact h4)) 0 (Lib.hid (if_neg (by omega))) W)
  | sok h34 h hl =>
    rename_i n l
    have hL : isL (gb r 0) = false := by rw [h34]; decide
    have hD : isD (gb r 0) = false := by rw [h34]; decide
    have hn := ss_lt h n l rfl
    refine ⟨by omega, by decide, by omega, by omega, fun w hG => ?_⟩
    exact scan_string r h1 (Lib.hid hL) (Lib.hid hD) h34 4 0 0 _ false 0 0 0 false _ 0 w (fun W hb _ => scanString_any r (by omega) h1 _ h _ (Lib.hid (by simp only [soV]; rw [if_neg (by omega)])) W)
  | slong h34 h hl =>
    rename_i n l
    have hL : isL (gb r 0) = false := by rw [h34]; decide
    have hD : isD (gb r 0) = false := by rw [h34]; decide
    have hn := ss_lt h n l rfl
    refine ⟨by decide, 4, ⟨l.toArray⟩, false, 0, 0, 0, false, n + 1, by omega, fun w hG => ?_⟩
    exact scan_string r h1 (Lib.hid hL) (Lib.hid hD) h34 4 0 0 _ false 0 0 0 false _ 3 w (fun W hb _ => scanString_any r (by omega) h1 _ h _ (Lib.hid (by simp only [soV]; rw [if_pos (by omega)])) W)
  | sbad h34 h =>
    rename_i e
    have hL : isL (gb r 0) = false := by rw [h34]; decide
    have hD : isD (gb r 0) = false := by rw [h34]; decide
    have he := ss_er h e rfl
    refine ⟨by omega, 0, ⟨#[]⟩, false, 0, 0, 0, false, 0, by omega, fun w hG => ?_⟩
    exact scan_string r h1 (Lib.hid hL) (Lib.hid hD) h34 0 0 0 _ false 0 0 0 false 0 e w (fun W hb _ => scanString_any r (by omega) h1 _ h _ (Lib.hid rfl) W)
  | nq hD hl h39 hR =>
    rename_i a b c
    have hL := isD_isL _ hD
    have hp := span_first (f := isD) h1 hD
    obtain ⟨g1, g2⟩ := rdg_two rfl hl h39 hR
    have hw := span_le inW (r.extract (span isD r + 1) r.size)
    have hw2 : span inW (r.extract (span isD r + 1) r.size) ≤ r.size - (span isD r + 1) := by simpa using hw
    have hq : Hid (Lib.hasPrefix (r.extract (span isD r) r.size).data.toList (ByteArray.mk #[39]).data.toList = true) := Lib.hid (by rw [pre39]; exact decide_eq_true ⟨hl, h39⟩)
    unfold quoT at hR
    generalize hS : span inW (r.extract (span isD r + 1) r.size) = S at *
    generalize hN : span isD r = N at *
    have eN : N + 1 + S = N + (1 + S) := by omega
    rw [eN] at hR ⊢
    refine ⟨by omega, by decide, by omega, by omega, fun w hG => ?_⟩
    have hB : ∀ W0, Below w.heap.size w W0 → ∀ W, Below W0.heap.size W0 W → Calls Tryz.prog 79 #[.string (r.extract 0 (N + (1 + S)))] W fun e w' => e = .returned (.tuple #[.agg #[.int .i64 a, .int .u64 b, .int .u64 c], .int .i64 0]) ∧ Below W.heap.size W w' := fun W0 hb0 W hb => by
      have h := (hG.below hb0).below hb
      obtain ⟨m, hm⟩ := h.lg.mx
      obtain ⟨ev, h3, h4⟩ := h.er
      exact prog_read _ _ (by simp; omega) hR m ev W hm h3 h4
    by_cases h115 : gb r (N + 1) = 115
    · rw [decide_eq_true h115]
      exact scan_number r h1 (Lib.hid hL) (Lib.hid hD) 3 0 0 _ false _ _ _ true _ 0 w (fun W hb _ => scanNumber_qyes r N (by omega) hp (by omega) (Lib.hid hN) hq hl S (Lib.hid hS) (by omega) a b c 0 rfl (by omega) h115 W (hB W hb))
    · rw [decide_eq_false h115]
      exact scan_number r h1 (Lib.hid hL) (Lib.hid hD) 3 0 0 _ false _ _ _ false _ 0 w (fun W hb _ => scanNumber_qno r N (by omega) hp (by omega) (Lib.hid hN) hq hl S (Lib.hid hS) (by omega) a b c 0 rfl (by omega) h115 W (hB W hb))
  | nqbad hD hl h39 he hR =>
    rename_i a b c e
    have hL := isD_isL _ hD
    have hp := span_first (f := isD) h1 hD
    have hw := span_le inW (r.extract (span isD r + 1) r.size)
    have hw2 : span inW (r.extract (span isD r + 1) r.size) ≤ r.size - (span isD r + 1) := by simpa using hw
    have hq : Hid (Lib.hasPrefix (r.extract (span isD r) r.size).data.toList (ByteArray.mk #[39]).data.toList = true) := Lib.hid (by rw [pre39]; exact decide_eq_true ⟨hl, h39⟩)
    unfold quoT at hR
    generalize hS : span inW (r.extract (span isD r + 1) r.size) = S at *
    generalize hN : span isD r = N at *
    have eN : N + 1 + S = N + (1 + S) := by omega
    rw [eN] at hR
    refine ⟨he, 0, ⟨#[]⟩, false, 0, 0, 0, false, 0, by omega, fun w hG => ?_⟩
    have hB : ∀ W0, Below w.heap.size w W0 → ∀ W, Below W0.heap.size W0 W → Calls Tryz.prog 79 #[.string (r.extract 0 (N + (1 + S)))] W fun u w' => u = .returned (.tuple #[.agg #[.int .i64 a, .int .u64 b, .int .u64 c], .int .i64 e]) ∧ Below W.heap.size W w' := fun W0 hb0 W hb => by
      have h := (hG.below hb0).below hb
      obtain ⟨m, hm⟩ := h.lg.mx
      obtain ⟨ev, h3, h4⟩ := h.er
      exact prog_read _ _ (by simp; omega) hR m ev W hm h3 h4
    exact scan_number r h1 (Lib.hid hL) (Lib.hid hD) 0 0 0 _ false _ _ _ false _ e w (fun W hb _ => scanNumber_qbad r N (by omega) hp (by omega) (Lib.hid hN) hq hl S (Lib.hid hS) (by omega) a b c e he W (hB W hb))
  | nbad hD hn hb =>
    have hL := isD_isL _ hD
    have hp := span_first (f := isD) h1 hD
    have hl := span_le isD r
    have hq : Hid (Lib.hasPrefix (r.extract (span isD r) r.size).data.toList (ByteArray.mk #[39]).data.toList = false) := Lib.hid (by rw [pre39]; exact decide_eq_false hn)
    refine ⟨by decide, 0, ⟨#[]⟩, false, 0, 0, 0, false, 0, by omega, fun w hG => ?_⟩
    by_cases hl2 : span isD r < r.size ∧ isL (gb r (span isD r)) = true
    · exact scan_number r h1 (Lib.hid hL) (Lib.hid hD) 0 0 0 _ false 0 0 0 false 0 10 w (fun W hb _ => scanNumber_let r _ (by omega) hp hl (Lib.hid rfl) hq hl2.1 (Lib.hid hl2.2) W)
    · obtain ⟨h2, h48⟩ := hb.resolve_left hl2
      exact scan_number r h1 (Lib.hid hL) (Lib.hid hD) 0 0 0 _ false 0 0 0 false 0 10 w (fun W hb _ => scanNumber_nought r _ (by omega) hp hl (Lib.hid rfl) hq h2 (Lib.hid (fun h => by
        cases hc : isL (gb r (span isD r))
        · rfl
        · exact absurd ⟨h, hc⟩ hl2)) h48 W)
  | nok hD hn hb hv =>
    have hL := isD_isL _ hD
    have hp := span_first (f := isD) h1 hD
    have hl := span_le isD r
    have hq : Hid (Lib.hasPrefix (r.extract (span isD r) r.size).data.toList (ByteArray.mk #[39]).data.toList = false) := Lib.hid (by rw [pre39]; exact decide_eq_false hn)
    refine ⟨by omega, by decide, hp, hl, fun w hG => ?_⟩
    have hdp := dgv_part r (span isD r) hl
    rw [← hdp]
    exact scan_number r h1 (Lib.hid hL) (Lib.hid hD) 3 0 0 _ false 32 _ 0 true _ 0 w (fun W hb' _ => scanNumber_ok r _ (by omega) hp hl (Lib.hid rfl) hq (Lib.hid (fun h => by
      cases hc : isL (gb r (span isD r))
      · rfl
      · exact absurd (.inl ⟨h, hc⟩) hb)) (fun h48 => by
        apply Nat.le_antisymm _ hp
        apply Nat.le_of_not_lt
        intro h2
        exact hb (.inr ⟨h2, h48⟩)) (by rw [hdp]; exact hv) W)
  | nbig hD hn hb hv =>
    have hL := isD_isL _ hD
    have hp := span_first (f := isD) h1 hD
    have hl := span_le isD r
    have hq : Hid (Lib.hasPrefix (r.extract (span isD r) r.size).data.toList (ByteArray.mk #[39]).data.toList = false) := Lib.hid (by rw [pre39]; exact decide_eq_false hn)
    refine ⟨by decide, 0, ⟨#[]⟩, false, 0, 0, 0, false, 0, by omega, fun w hG => ?_⟩
    have hdp := dgv_part r (span isD r) hl
    exact scan_number r h1 (Lib.hid hL) (Lib.hid hD) 0 0 0 _ false 0 0 0 false 0 3 w (fun W hb' _ => by
      obtain ⟨ev, h3, h4⟩ := (hG.below hb').er
      exact scanNumber_big r _ (by omega) hp hl (Lib.hid rfl) hq (Lib.hid (fun h => by
        cases hc : isL (gb r (span isD r))
        · rfl
        · exact absurd (.inl ⟨h, hc⟩) hb)) (fun h48 => by
          apply Nat.le_antisymm _ hp
          apply Nat.le_of_not_lt
          intro h2
          exact hb (.inr ⟨h2, h48⟩)) (by rw [hdp]; exact hv) ev h4 W h3)
  | sign hL hD n34 n92 hi =>
    rename_i i
    obtain ⟨hi39, hpre⟩ := sgn_size hi
    have hsz : (signB i).size = (signL.getD i []).length := by rw [← len_list, signB_list]
    have hpos : 1 ≤ (signB i).size := by rw [hsz]; exact signB_pos ⟨i, hi39⟩
    have hle : (signB i).size ≤ r.size := by
      rw [hsz, ← len_list r]
      exact (List.isPrefixOf_iff_prefix.1 hpre).length_le
    refine ⟨by omega, by decide, hpos, hle, fun w hG => ?_⟩
    exact scan_sign r h1 (Lib.hid hL) (Lib.hid hD) n34 n92 5 0 0 _ false 0 0 0 false _ 0 w (fun W hb _ => scanSign_any r _ (Lib.hid (fun j hj => by rw [hi] at hj; injection hj with hj; subst hj; rfl)) (Lib.hid (fun h => by rw [hi] at h; cases h)) W (hG.below hb).lg)
  | none hL hD n34 n92 hi =>
    refine ⟨by decide, 0, ⟨#[]⟩, false, 0, 0, 0, false, 0, by omega, fun w hG => ?_⟩
    exact scan_sign r h1 (Lib.hid hL) (Lib.hid hD) n34 n92 0 0 0 _ false 0 0 0 false 0 10 w (fun W hb _ => scanSign_any r _ (Lib.hid (fun j hj => by rw [hi] at hj; cases hj)) (Lib.hid (fun _ => rfl)) W (hG.below hb).lg)
end Go.Proofs.YtogmipbdnffegaaGreatDoor
