/- The line and the column of a byte, asked for in order: the closure that the program's follow gives.
   A token, by its first byte: the program's scan, given what each scanner answers. -/
import Derived.Test.YtogmipbdnffegaaGreatDoorMgRt
import Derived.Test.YtogmipbdnffegaaGreatDoorMgStr
namespace Go.Proofs.YtogmipbdnffegaaGreatDoor
open Go Go.RowKit
set_option linter.unusedVariables false
/-- the closure's variables: the text, the line, the place where it starts, the bytes seen -/
structure FB (W : World) (b : Nat) (s : ByteArray) (k : Nat) : Prop where
  c0 : W.cell? ⟨b, 0, none⟩ = some (.string s)
  c1 : W.cell? ⟨b + 1, 0, none⟩ = some (.int .i64 ((plcT s k).1 : Nat))
  c2 : W.cell? ⟨b + 2, 0, none⟩ = some (.int .i64 ((k : Int) + 1 - ((plcT s k).2 : Nat)))
  c3 : W.cell? ⟨b + 3, 0, none⟩ = some (.int .i64 k)
  f1 : W.frozen? ⟨b + 1, 0, none⟩ = false
  f2 : W.frozen? ⟨b + 2, 0, none⟩ = false
  f3 : W.frozen? ⟨b + 3, 0, none⟩ = false
theorem FB.lt {W : World} {b : Nat} {s : ByteArray} {k : Nat} (h : FB W b s k) : b + 3 < W.heap.size := World.block_lt_of_cell? W _ h.c3
theorem FB.below {W W' : World} {b : Nat} {s : ByteArray} {k B : Nat} (h : FB W b s k) (hb : Below B W W') (hB : b + 3 < B) : FB W' b s k :=
  ⟨(hb.cell (p := ⟨b, 0, none⟩) (show b < B by omega)).trans h.c0, (hb.cell (p := ⟨b + 1, 0, none⟩) (show b + 1 < B by omega)).trans h.c1, (hb.cell (p := ⟨b + 2, 0, none⟩) (show b + 2 < B by omega)).trans h.c2, (hb.cell (p := ⟨b + 3, 0, none⟩) (show b + 3 < B by omega)).trans h.c3,
   (hb.frozen (p := ⟨b + 1, 0, none⟩) (show b + 1 < B by omega)).trans h.f1, (hb.frozen (p := ⟨b + 2, 0, none⟩) (show b + 2 < B by omega)).trans h.f2, (hb.frozen (p := ⟨b + 3, 0, none⟩) (show b + 3 < B by omega)).trans h.f3⟩
def FS (b : Nat) (k : Nat) : Prop := k = b + 1 ∨ k = b + 2 ∨ k = b + 3
set_option maxRecDepth 100000 in
set_option maxHeartbeats 2000000 in
theorem place_none (s : ByteArray) (hs : s.size ≤ 1000000) (b k n : Nat) (hkn : k ≤ n) (hn : n ≤ s.size) (hc : ¬ 0 < Lib.countByte (s.extract k n).data.toList 10) (w : World) (F : FB w b s k) :
    Calls Tryz.prog 60 (#[.int .i64 n] ++ #[.pointer (some ⟨b, 0, none⟩), .pointer (some ⟨b + 3, 0, none⟩), .pointer (some ⟨b + 1, 0, none⟩), .pointer (some ⟨b + 2, 0, none⟩)]) w fun e w' =>
      e = .returned (.tuple #[.int .i64 ((plcT s n).1 : Nat), .int .i64 ((plcT s n).2 : Nat)]) ∧ FB w' b s n ∧ But (FS b) w.heap.size w w' := by
  obtain ⟨e1, e2⟩ := plc_none s k n hkn hn hc
  have hq := plc_le s n
  have hlt := F.lt
  obtain ⟨u0, u1, u2, u3, g1, g2, g3⟩ := id F
  rw [← e2] at u1
  rw [e1] at u2
  have hc0 : Lib.countByte (s.extract k n).data.toList 10 = 0 := by omega
  have HC := Lib.hid hc0
  have FN : Hid (FB (w.setCell ⟨b + 3, 0, none⟩ (.int .i64 n)) b s n) := Lib.hid ⟨(cell_set_at (by omega)).trans u0, (cell_set_at (by omega)).trans u1, (cell_set_at (by omega)).trans u2, cell_set_eq u3 g3, frozen_set_at.trans g1, frozen_set_at.trans g2, frozen_set_at.trans g3⟩
  have V1 := Lib.hid (show (w.setCell ⟨b + 3, 0, none⟩ (.int .i64 n)).cell? ⟨b + 1, 0, none⟩ = some (.int .i64 ((plcT s n).1 : Nat)) from (cell_set_at (by omega)).trans u1)
  have V2 := Lib.hid (show (w.setCell ⟨b + 3, 0, none⟩ (.int .i64 n)).cell? ⟨b + 2, 0, none⟩ = some (.int .i64 ((n : Int) + 1 - ((plcT s n).2 : Nat))) from (cell_set_at (by omega)).trans u2)
  have BT : Hid (But (FS b) w.heap.size w (w.setCell ⟨b + 3, 0, none⟩ (.int .i64 n))) := Lib.hid ((But.refl _ _ _).setCell (Or.inl (Or.inr (Or.inr rfl))) _)
  have hk0 : (0 : Int) ≤ (k : Int) := by omega
  have hkn' : (k : Int) ≤ (n : Int) := by omega
  have hn' : (n : Int) ≤ (s.size : Int) := by omega
  have hb1 : b + 3 ≠ b + 1 := by omega
  have hb2 : b + 3 ≠ b + 2 := by omega
  obtain ⟨L, hL⟩ : ∃ L, (plcT s n).1 = L := ⟨_, rfl⟩
  obtain ⟨C, hC⟩ : ∃ C, (plcT s n).2 = C := ⟨_, rfl⟩
  rw [hL] at V1 hq
  rw [hC] at V2 hq
  rw [hL, hC]
  clear u1 u2 hL hC
  clear e1 e2 hc hc0 F
  go_enter Tryz.func60, Tryz.ntmps60
  go_wp2_with fail
  refine (Tryz.strings_Count_one _ 10 _).mono ?_
  rintro x w1 ⟨rfl, rfl⟩
  rw [HC.out]
  go_wp2_with fail
  generalize w1.setCell ⟨b + 3, 0, none⟩ (.int .i64 n) = W2 at FN V1 V2 BT ⊢
  clear u0 u3 g1 g2 g3
  have v1 := V1.out
  have v2 := V2.out
  have hC1 : (n : Int) - ((n : Int) + 1 - (C : Int)) = (C : Int) - 1 := by omega
  go_region
  all_goals
    go_wp2_with fail
    go_ret2
    exact ⟨by simp, FN.out.below (Below.refl _ _).drew (FN.out.lt), BT.out.drew⟩
set_option maxRecDepth 100000 in
set_option maxHeartbeats 2000000 in
theorem place_some (s : ByteArray) (hs : s.size ≤ 1000000) (b k n : Nat) (hkn : k ≤ n) (hn : n ≤ s.size) (hc : 0 < Lib.countByte (s.extract k n).data.toList 10) (w : World) (F : FB w b s k) :
    Calls Tryz.prog 60 (#[.int .i64 n] ++ #[.pointer (some ⟨b, 0, none⟩), .pointer (some ⟨b + 3, 0, none⟩), .pointer (some ⟨b + 1, 0, none⟩), .pointer (some ⟨b + 2, 0, none⟩)]) w fun e w' =>
      e = .returned (.tuple #[.int .i64 ((plcT s n).1 : Nat), .int .i64 ((plcT s n).2 : Nat)]) ∧ FB w' b s n ∧ But (FS b) w.heap.size w w' := by
  have e1 := plc_some s k n hkn hn hc
  have e2 := plc_count s k n hkn hn
  have hq := plc_le s n
  have hq0 := plc_le s k
  have hlt := F.lt
  have hps : (s.extract k n).size < 4611686018427387904 := by simp; omega
  obtain ⟨u0, u1, u2, u3, g1, g2, g3⟩ := id F
  obtain ⟨c, hcc⟩ : ∃ c, Lib.countByte (s.extract k n).data.toList 10 = c := ⟨_, rfl⟩
  rw [hcc] at hc e2
  obtain ⟨i, hi⟩ : ∃ i, Lib.lastIndexByte (s.extract k n) 10 = i := ⟨_, rfl⟩
  rw [hi] at e1
  have HC := Lib.hid hcc
  have HI := Lib.hid hi
  clear hcc hi F
  obtain ⟨L0, hL0⟩ : ∃ L0, (plcT s k).1 = L0 := ⟨_, rfl⟩
  obtain ⟨C0, hC0⟩ : ∃ C0, (plcT s k).2 = C0 := ⟨_, rfl⟩
  rw [hL0] at u1 e2 hq0
  rw [hC0] at u2 hq0
  have W : ∀ (W2 : World), W2 = ((w.setCell ⟨b + 1, 0, none⟩ (.int .i64 ((L0 : Int) + c))).setCell ⟨b + 2, 0, none⟩ (.int .i64 ((n : Int) + 1 - ((plcT s n).2 : Nat)))).setCell ⟨b + 3, 0, none⟩ (.int .i64 n) → FB W2 b s n ∧ But (FS b) w.heap.size w W2 := by
    rintro W2 rfl
    refine ⟨⟨?_, ?_, ?_, ?_, ?_, ?_, ?_⟩, (((But.refl _ _ _).setCell (Or.inl (Or.inl rfl)) _).setCell (Or.inl (Or.inr (Or.inl rfl))) _).setCell (Or.inl (Or.inr (Or.inr rfl))) _⟩
    · rw [cell_set_at (by omega), cell_set_at (by omega), cell_set_at (by omega)]; exact u0
    · rw [cell_set_at (by omega), cell_set_at (by omega), cell_set_eq u1 g1, e2]; simp
    · rw [cell_set_at (by omega), cell_set_eq ((cell_set_at (by omega)).trans u2) (frozen_set_at.trans g2)]
    · exact cell_set_eq ((cell_set_at (by omega)).trans ((cell_set_at (by omega)).trans u3)) (frozen_set_at.trans (frozen_set_at.trans g3))
    · rw [frozen_set_at, frozen_set_at, frozen_set_at]; exact g1
    · rw [frozen_set_at, frozen_set_at, frozen_set_at]; exact g2
    · rw [frozen_set_at, frozen_set_at, frozen_set_at]; exact g3
  have HW := Lib.hid W
  clear W
  have hk0 : (0 : Int) ≤ (k : Int) := by omega
  have hkn' : (k : Int) ≤ (n : Int) := by omega
  have hn' : (n : Int) ≤ (s.size : Int) := by omega
  have hcpos : (0 : Int) < (c : Int) := by omega
  have hc1 : c ≤ 1000001 := by omega
  obtain ⟨L, hL⟩ : ∃ L, (plcT s n).1 = L := ⟨_, rfl⟩
  obtain ⟨C, hC⟩ : ∃ C, (plcT s n).2 = C := ⟨_, rfl⟩
  rw [hL] at e2 hq
  rw [hC] at e1 hq HW
  rw [hL, hC]
  have hw1 : IntKind.i64.wrap ((k : Int) + i) = (n : Int) - C := by
    unfold IntKind.wrap
    simp [IntKind.bits, IntKind.signed]
    omega
  have hw2 : IntKind.i64.wrap ((n : Int) - C + 1) = (n : Int) + 1 - C := by
    unfold IntKind.wrap
    simp [IntKind.bits, IntKind.signed]
    omega
  obtain ⟨W2, hW2⟩ : ∃ W2, W2 = ((w.setCell ⟨b + 1, 0, none⟩ (.int .i64 ((L0 : Int) + c))).setCell ⟨b + 2, 0, none⟩ (.int .i64 ((n : Int) + 1 - (C : Int)))).setCell ⟨b + 3, 0, none⟩ (.int .i64 n) := ⟨_, rfl⟩
  obtain ⟨f2, bt⟩ := HW.out W2 hW2
  have FN : Hid (FB W2.drew b s n) := Lib.hid (f2.below (Below.refl _ _).drew f2.lt)
  have v1 : W2.drew.cell? ⟨b + 1, 0, none⟩ = some (.int .i64 L) := by have := FN.out.c1; rw [hL] at this; exact this
  have v2 : W2.drew.cell? ⟨b + 2, 0, none⟩ = some (.int .i64 ((n : Int) + 1 - C)) := by have := FN.out.c2; rw [hC] at this; exact this
  have BT := Lib.hid bt.drew
  have V1 := Lib.hid v1
  have V2 := Lib.hid v2
  have HW2 := Lib.hid hW2
  have hC1 : (n : Int) - ((n : Int) + 1 - (C : Int)) = (C : Int) - 1 := by omega
  clear v1 v2 bt f2 HW hW2
  clear hL hC hL0 hC0
  clear e1 e2
  go_enter Tryz.func60, Tryz.ntmps60
  go_wp2_with fail
  refine (Tryz.strings_Count_one _ 10 _).mono ?_
  rintro x w1 ⟨rfl, rfl⟩
  rw [HC.out]
  go_wp2_with fail
  go_region_with ((go_at_call 40; refine (Tryz.strings_LastIndexByte _ _ hps _).mono ?_; rintro e w3 ⟨rfl, rfl⟩; rw [HI.out]))
  all_goals
    go_wp2_with fail
    change Code.wp _ _ _ _ (World.drew (((w1.setCell ⟨b + 1, 0, none⟩ (.int .i64 ((L0 : Int) + c))).setCell ⟨b + 2, 0, none⟩ (.int .i64 ((n : Int) + 1 - (C : Int)))).setCell ⟨b + 3, 0, none⟩ (.int .i64 n)))
    rw [← HW2.out]
    generalize W2.drew = W3 at FN V1 V2 BT ⊢
    have v1 := V1.out
    have v2 := V2.out
    clear u0 u1 u2 u3 g1 g2 g3
    go_region
    all_goals
      go_wp2_with fail
      go_ret2
      exact ⟨by simp, FN.out.below (Below.refl _ _).drew (FN.out.lt), BT.out.drew⟩
theorem place_any (s : ByteArray) (hs : s.size ≤ 1000000) (b k n : Nat) (hkn : k ≤ n) (hn : n ≤ s.size) (w : World) (F : FB w b s k) :
    Calls Tryz.prog 60 (#[.int .i64 n] ++ #[.pointer (some ⟨b, 0, none⟩), .pointer (some ⟨b + 3, 0, none⟩), .pointer (some ⟨b + 1, 0, none⟩), .pointer (some ⟨b + 2, 0, none⟩)]) w fun e w' =>
      e = .returned (.tuple #[.int .i64 ((plcT s n).1 : Nat), .int .i64 ((plcT s n).2 : Nat)]) ∧ FB w' b s n ∧ But (FS b) w.heap.size w w' := by
  by_cases hc : 0 < Lib.countByte (s.extract k n).data.toList 10
  · exact place_some s hs b k n hkn hn hc w F
  · exact place_none s hs b k n hkn hn hc w F
/-- the closure's value -/
def folV (b : Nat) : Value := .func (.func 60) #[] #[.pointer (some ⟨b, 0, none⟩), .pointer (some ⟨b + 3, 0, none⟩), .pointer (some ⟨b + 1, 0, none⟩), .pointer (some ⟨b + 2, 0, none⟩)]
set_option maxRecDepth 100000 in
set_option maxHeartbeats 2000000 in
theorem follow_any (s : ByteArray) (w : World) :
    Calls Tryz.prog 48 #[.string s] w fun e w' => e = .returned (folV w.heap.size) ∧ FB w' w.heap.size s 0 ∧ Below w.heap.size w w' := by
  go_enter Tryz.func48, Tryz.ntmps48
  go_wp2_with fail
  go_ret
  refine ⟨rfl, ⟨?_, ?_, ?_, ?_, ?_, ?_, ?_⟩, ?_⟩
  all_goals try go_simp
  · rfl
  · rfl
  · exact ((((Below.refl _ _).alloc (Nat.le_refl _) _).alloc (by simp) _).alloc (by simp <;> omega) _).alloc (by simp <;> omega) _
end Go.Proofs.YtogmipbdnffegaaGreatDoor
namespace Go.Proofs.YtogmipbdnffegaaGreatDoor
open Go Go.RowKit
set_option linter.unusedVariables false
set_option maxRecDepth 100000 in
set_option maxHeartbeats 2000000 in
theorem scan_name (s : ByteArray) (hs1 : 1 ≤ s.size) (HL : Hid (isL (gb s 0) = true)) (k l c : Int) (t : ByteArray) (q : Bool) (nn vv xx : Int) (sg : Bool) (sz er : Int) (w : World)
    (hS : ∀ W, Below w.heap.size w W → w.heap.size ≤ W.heap.size → Calls Tryz.prog 64 #[.string s] W fun e w' => e = .returned (.tuple #[.agg #[.int .i64 k, .int .i64 l, .int .i64 c, .string t, .bool q, .int .i64 nn, .int .u64 vv, .int .u64 xx, .bool sg], .int .i64 sz, .int .i64 er]) ∧ Below W.heap.size W w') :
    Calls Tryz.prog 51 #[.string s] w fun e w' => e = .returned (.tuple #[.agg #[.int .i64 k, .int .i64 l, .int .i64 c, .string t, .bool q, .int .i64 nn, .int .u64 vv, .int .u64 xx, .bool sg], .int .i64 sz, .int .i64 er]) ∧ Below w.heap.size w w' := by
  have HS := Lib.hid hS
  clear hS
  have hs0 : 0 < s.size := by omega
  have hs0i : (0 : Int) < (s.size : Int) := by omega
  have hat : s[0].toNat = gb s 0 := gb_at s 0 hs0
  have hb255 := gb_le s 0
  go_enter Tryz.func51, Tryz.ntmps51
  go_upto_region 1 with fail
  obtain ⟨W1, hW1⟩ : ∃ W, W = w.alloc (Obj.cells #[Value.int IntKind.i64 0, Value.int IntKind.i64 0, Value.int IntKind.i64 0, Value.string { data := #[] }, Value.bool false, Value.int IntKind.i64 0, Value.int IntKind.u64 0, Value.int IntKind.u64 0, Value.bool false] 42) := ⟨_, rfl⟩
  have b0 : Below w.heap.size w W1 := by rw [hW1]; exact (Below.refl _ _).alloc (Nat.le_refl _) _
  have T0 : TB W1 w.heap.size 0 0 0 ⟨#[]⟩ false 0 0 0 false := by rw [hW1]; exact TB.new w 0 0 0 ⟨#[]⟩ false 0 0 0 false
  rw [← hW1]
  clear hW1
  have hlt := T0.lt
  generalize gb s 0 = c0 at *
  go_wp2_with fail
  refine (isL_p _ hb255 _).mono ?_
  rintro e w1 ⟨rfl, rfl⟩
  rw [HL.out]
  go_wp2_with fail
  refine (HS.out _ b0 (Nat.le_of_lt hlt)).mono ?_
  rintro e w2 ⟨rfl, hb2⟩
  have T2 := T0.below hb2
  have bb := b0.trans (hb2.mono (Nat.le_of_lt hlt))
  obtain ⟨u0, u1, u2, u3, u4, u5, u6, u7, u8, uf⟩ := id T2
  go_wp2_with fail
  obtain ⟨q0, q1, q2, q3, q4, q5, q6, q7, q8, -⟩ := T2.set k l c t q nn vv xx sg
  unfold setTk at q0 q1 q2 q3 q4 q5 q6 q7 q8
  exact bodyPost_ret (v := .tuple #[.agg #[.int .i64 k, .int .i64 l, .int .i64 c, .string t, .bool q, .int .i64 nn, .int .u64 vv, .int .u64 xx, .bool sg], .int .i64 sz, .int .i64 er]) (by simp [results, Tryz.results51, go_sem, q0, q1, q2, q3, q4, q5, q6, q7, q8]) rfl ⟨rfl, below_setTk bb (Nat.le_refl _) _ _ _ _ _ _ _ _ _⟩
set_option maxRecDepth 100000 in
set_option maxHeartbeats 2000000 in
theorem scan_number (s : ByteArray) (hs1 : 1 ≤ s.size) (HL : Hid (isL (gb s 0) = false)) (HD : Hid (isD (gb s 0) = true)) (k l c : Int) (t : ByteArray) (q : Bool) (nn vv xx : Int) (sg : Bool) (sz er : Int) (w : World)
    (hS : ∀ W, Below w.heap.size w W → w.heap.size ≤ W.heap.size → Calls Tryz.prog 65 #[.string s] W fun e w' => e = .returned (.tuple #[.agg #[.int .i64 k, .int .i64 l, .int .i64 c, .string t, .bool q, .int .i64 nn, .int .u64 vv, .int .u64 xx, .bool sg], .int .i64 sz, .int .i64 er]) ∧ Below W.heap.size W w') :
    Calls Tryz.prog 51 #[.string s] w fun e w' => e = .returned (.tuple #[.agg #[.int .i64 k, .int .i64 l, .int .i64 c, .string t, .bool q, .int .i64 nn, .int .u64 vv, .int .u64 xx, .bool sg], .int .i64 sz, .int .i64 er]) ∧ Below w.heap.size w w' := by
  have HS := Lib.hid hS
  clear hS
  have hs0 : 0 < s.size := by omega
  have hs0i : (0 : Int) < (s.size : Int) := by omega
  have hat : s[0].toNat = gb s 0 := gb_at s 0 hs0
  have hb255 := gb_le s 0
  go_enter Tryz.func51, Tryz.ntmps51
  go_upto_region 1 with fail
  obtain ⟨W1, hW1⟩ : ∃ W, W = w.alloc (Obj.cells #[Value.int IntKind.i64 0, Value.int IntKind.i64 0, Value.int IntKind.i64 0, Value.string { data := #[] }, Value.bool false, Value.int IntKind.i64 0, Value.int IntKind.u64 0, Value.int IntKind.u64 0, Value.bool false] 42) := ⟨_, rfl⟩
  have b0 : Below w.heap.size w W1 := by rw [hW1]; exact (Below.refl _ _).alloc (Nat.le_refl _) _
  have T0 : TB W1 w.heap.size 0 0 0 ⟨#[]⟩ false 0 0 0 false := by rw [hW1]; exact TB.new w 0 0 0 ⟨#[]⟩ false 0 0 0 false
  rw [← hW1]
  clear hW1
  have hlt := T0.lt
  generalize gb s 0 = c0 at *
  go_wp2_with fail
  refine (isL_p _ hb255 _).mono ?_
  rintro e w1 ⟨rfl, rfl⟩
  rw [HL.out]
  go_wp2_with fail
  refine (isD_p _ hb255 _).mono ?_
  rintro e w1 ⟨rfl, rfl⟩
  rw [HD.out]
  go_wp2_with fail
  refine (HS.out _ b0 (Nat.le_of_lt hlt)).mono ?_
  rintro e w2 ⟨rfl, hb2⟩
  have T2 := T0.below hb2
  have bb := b0.trans (hb2.mono (Nat.le_of_lt hlt))
  obtain ⟨u0, u1, u2, u3, u4, u5, u6, u7, u8, uf⟩ := id T2
  go_wp2_with fail
  obtain ⟨q0, q1, q2, q3, q4, q5, q6, q7, q8, -⟩ := T2.set k l c t q nn vv xx sg
  unfold setTk at q0 q1 q2 q3 q4 q5 q6 q7 q8
  exact bodyPost_ret (v := .tuple #[.agg #[.int .i64 k, .int .i64 l, .int .i64 c, .string t, .bool q, .int .i64 nn, .int .u64 vv, .int .u64 xx, .bool sg], .int .i64 sz, .int .i64 er]) (by simp [results, Tryz.results51, go_sem, q0, q1, q2, q3, q4, q5, q6, q7, q8]) rfl ⟨rfl, below_setTk bb (Nat.le_refl _) _ _ _ _ _ _ _ _ _⟩
set_option maxRecDepth 100000 in
set_option maxHeartbeats 2000000 in
theorem scan_string (s : ByteArray) (hs1 : 1 ≤ s.size) (HL : Hid (isL (gb s 0) = false)) (HD : Hid (isD (gb s 0) = false)) (h34 : gb s 0 = 34) (k l c : Int) (t : ByteArray) (q : Bool) (nn vv xx : Int) (sg : Bool) (sz er : Int) (w : World)
    (hS : ∀ W, Below w.heap.size w W → w.heap.size ≤ W.heap.size → Calls Tryz.prog 66 #[.string s] W fun e w' => e = .returned (.tuple #[.agg #[.int .i64 k, .int .i64 l, .int .i64 c, .string t, .bool q, .int .i64 nn, .int .u64 vv, .int .u64 xx, .bool sg], .int .i64 sz, .int .i64 er]) ∧ Below W.heap.size W w') :
    Calls Tryz.prog 51 #[.string s] w fun e w' => e = .returned (.tuple #[.agg #[.int .i64 k, .int .i64 l, .int .i64 c, .string t, .bool q, .int .i64 nn, .int .u64 vv, .int .u64 xx, .bool sg], .int .i64 sz, .int .i64 er]) ∧ Below w.heap.size w w' := by
  have HS := Lib.hid hS
  clear hS
  have hs0 : 0 < s.size := by omega
  have hs0i : (0 : Int) < (s.size : Int) := by omega
  have hat : s[0].toNat = gb s 0 := gb_at s 0 hs0
  have hb255 := gb_le s 0
  have k34 : ((gb s 0 : Int) == 34) = true := beq_iff_eq.2 (by omega)
  clear h34
  go_enter Tryz.func51, Tryz.ntmps51
  go_upto_region 1 with fail
  obtain ⟨W1, hW1⟩ : ∃ W, W = w.alloc (Obj.cells #[Value.int IntKind.i64 0, Value.int IntKind.i64 0, Value.int IntKind.i64 0, Value.string { data := #[] }, Value.bool false, Value.int IntKind.i64 0, Value.int IntKind.u64 0, Value.int IntKind.u64 0, Value.bool false] 42) := ⟨_, rfl⟩
  have b0 : Below w.heap.size w W1 := by rw [hW1]; exact (Below.refl _ _).alloc (Nat.le_refl _) _
  have T0 : TB W1 w.heap.size 0 0 0 ⟨#[]⟩ false 0 0 0 false := by rw [hW1]; exact TB.new w 0 0 0 ⟨#[]⟩ false 0 0 0 false
  rw [← hW1]
  clear hW1
  have hlt := T0.lt
  generalize gb s 0 = c0 at *
  go_wp2_with fail
  refine (isL_p _ hb255 _).mono ?_
  rintro e w1 ⟨rfl, rfl⟩
  rw [HL.out]
  go_wp2_with fail
  refine (isD_p _ hb255 _).mono ?_
  rintro e w1 ⟨rfl, rfl⟩
  rw [HD.out]
  go_wp2_with fail
  refine (HS.out _ b0 (Nat.le_of_lt hlt)).mono ?_
  rintro e w2 ⟨rfl, hb2⟩
  have T2 := T0.below hb2
  have bb := b0.trans (hb2.mono (Nat.le_of_lt hlt))
  obtain ⟨u0, u1, u2, u3, u4, u5, u6, u7, u8, uf⟩ := id T2
  go_wp2_with fail
  obtain ⟨q0, q1, q2, q3, q4, q5, q6, q7, q8, -⟩ := T2.set k l c t q nn vv xx sg
  unfold setTk at q0 q1 q2 q3 q4 q5 q6 q7 q8
  exact bodyPost_ret (v := .tuple #[.agg #[.int .i64 k, .int .i64 l, .int .i64 c, .string t, .bool q, .int .i64 nn, .int .u64 vv, .int .u64 xx, .bool sg], .int .i64 sz, .int .i64 er]) (by simp [results, Tryz.results51, go_sem, q0, q1, q2, q3, q4, q5, q6, q7, q8]) rfl ⟨rfl, below_setTk bb (Nat.le_refl _) _ _ _ _ _ _ _ _ _⟩
set_option maxRecDepth 100000 in
set_option maxHeartbeats 2000000 in
theorem scan_quoted (s : ByteArray) (hs1 : 1 ≤ s.size) (HL : Hid (isL (gb s 0) = false)) (HD : Hid (isD (gb s 0) = false)) (h92 : gb s 0 = 92) (k l c : Int) (t : ByteArray) (q : Bool) (nn vv xx : Int) (sg : Bool) (sz er : Int) (w : World)
    (hS : ∀ W, Below w.heap.size w W → w.heap.size ≤ W.heap.size → Calls Tryz.prog 67 #[.string s] W fun e w' => e = .returned (.tuple #[.agg #[.int .i64 k, .int .i64 l, .int .i64 c, .string t, .bool q, .int .i64 nn, .int .u64 vv, .int .u64 xx, .bool sg], .int .i64 sz, .int .i64 er]) ∧ Below W.heap.size W w') :
    Calls Tryz.prog 51 #[.string s] w fun e w' => e = .returned (.tuple #[.agg #[.int .i64 k, .int .i64 l, .int .i64 c, .string t, .bool q, .int .i64 nn, .int .u64 vv, .int .u64 xx, .bool sg], .int .i64 sz, .int .i64 er]) ∧ Below w.heap.size w w' := by
  have HS := Lib.hid hS
  clear hS
  have hs0 : 0 < s.size := by omega
  have hs0i : (0 : Int) < (s.size : Int) := by omega
  have hat : s[0].toNat = gb s 0 := gb_at s 0 hs0
  have hb255 := gb_le s 0
  have k34 : ((gb s 0 : Int) == 34) = false := beq_eq_false_iff_ne.2 (by omega)
  have k92 : ((gb s 0 : Int) == 92) = true := beq_iff_eq.2 (by omega)
  clear h92
  go_enter Tryz.func51, Tryz.ntmps51
  go_upto_region 1 with fail
  obtain ⟨W1, hW1⟩ : ∃ W, W = w.alloc (Obj.cells #[Value.int IntKind.i64 0, Value.int IntKind.i64 0, Value.int IntKind.i64 0, Value.string { data := #[] }, Value.bool false, Value.int IntKind.i64 0, Value.int IntKind.u64 0, Value.int IntKind.u64 0, Value.bool false] 42) := ⟨_, rfl⟩
  have b0 : Below w.heap.size w W1 := by rw [hW1]; exact (Below.refl _ _).alloc (Nat.le_refl _) _
  have T0 : TB W1 w.heap.size 0 0 0 ⟨#[]⟩ false 0 0 0 false := by rw [hW1]; exact TB.new w 0 0 0 ⟨#[]⟩ false 0 0 0 false
  rw [← hW1]
  clear hW1
  have hlt := T0.lt
  generalize gb s 0 = c0 at *
  go_wp2_with fail
  refine (isL_p _ hb255 _).mono ?_
  rintro e w1 ⟨rfl, rfl⟩
  rw [HL.out]
  go_wp2_with fail
  refine (isD_p _ hb255 _).mono ?_
  rintro e w1 ⟨rfl, rfl⟩
  rw [HD.out]
  go_wp2_with fail
  refine (HS.out _ b0 (Nat.le_of_lt hlt)).mono ?_
  rintro e w2 ⟨rfl, hb2⟩
  have T2 := T0.below hb2
  have bb := b0.trans (hb2.mono (Nat.le_of_lt hlt))
  obtain ⟨u0, u1, u2, u3, u4, u5, u6, u7, u8, uf⟩ := id T2
  go_wp2_with fail
  obtain ⟨q0, q1, q2, q3, q4, q5, q6, q7, q8, -⟩ := T2.set k l c t q nn vv xx sg
  unfold setTk at q0 q1 q2 q3 q4 q5 q6 q7 q8
  exact bodyPost_ret (v := .tuple #[.agg #[.int .i64 k, .int .i64 l, .int .i64 c, .string t, .bool q, .int .i64 nn, .int .u64 vv, .int .u64 xx, .bool sg], .int .i64 sz, .int .i64 er]) (by simp [results, Tryz.results51, go_sem, q0, q1, q2, q3, q4, q5, q6, q7, q8]) rfl ⟨rfl, below_setTk bb (Nat.le_refl _) _ _ _ _ _ _ _ _ _⟩
set_option maxRecDepth 100000 in
set_option maxHeartbeats 2000000 in
theorem scan_sign (s : ByteArray) (hs1 : 1 ≤ s.size) (HL : Hid (isL (gb s 0) = false)) (HD : Hid (isD (gb s 0) = false)) (n34 : gb s 0 ≠ 34) (n92 : gb s 0 ≠ 92) (k l c : Int) (t : ByteArray) (q : Bool) (nn vv xx : Int) (sg : Bool) (sz er : Int) (w : World)
    (hS : ∀ W, Below w.heap.size w W → w.heap.size ≤ W.heap.size → Calls Tryz.prog 68 #[.string s] W fun e w' => e = .returned (.tuple #[.agg #[.int .i64 k, .int .i64 l, .int .i64 c, .string t, .bool q, .int .i64 nn, .int .u64 vv, .int .u64 xx, .bool sg], .int .i64 sz, .int .i64 er]) ∧ Below W.heap.size W w') :
    Calls Tryz.prog 51 #[.string s] w fun e w' => e = .returned (.tuple #[.agg #[.int .i64 k, .int .i64 l, .int .i64 c, .string t, .bool q, .int .i64 nn, .int .u64 vv, .int .u64 xx, .bool sg], .int .i64 sz, .int .i64 er]) ∧ Below w.heap.size w w' := by
  have HS := Lib.hid hS
  clear hS
  have hs0 : 0 < s.size := by omega
  have hs0i : (0 : Int) < (s.size : Int) := by omega
  have hat : s[0].toNat = gb s 0 := gb_at s 0 hs0
  have hb255 := gb_le s 0
  have k34 : ((gb s 0 : Int) == 34) = false := beq_eq_false_iff_ne.2 (by omega)
  have k92 : ((gb s 0 : Int) == 92) = false := beq_eq_false_iff_ne.2 (by omega)
  clear n34 n92
  go_enter Tryz.func51, Tryz.ntmps51
  go_upto_region 1 with fail
  obtain ⟨W1, hW1⟩ : ∃ W, W = w.alloc (Obj.cells #[Value.int IntKind.i64 0, Value.int IntKind.i64 0, Value.int IntKind.i64 0, Value.string { data := #[] }, Value.bool false, Value.int IntKind.i64 0, Value.int IntKind.u64 0, Value.int IntKind.u64 0, Value.bool false] 42) := ⟨_, rfl⟩
  have b0 : Below w.heap.size w W1 := by rw [hW1]; exact (Below.refl _ _).alloc (Nat.le_refl _) _
  have T0 : TB W1 w.heap.size 0 0 0 ⟨#[]⟩ false 0 0 0 false := by rw [hW1]; exact TB.new w 0 0 0 ⟨#[]⟩ false 0 0 0 false
  rw [← hW1]
  clear hW1
  have hlt := T0.lt
  generalize gb s 0 = c0 at *
  go_wp2_with fail
  refine (isL_p _ hb255 _).mono ?_
  rintro e w1 ⟨rfl, rfl⟩
  rw [HL.out]
  go_wp2_with fail
  refine (isD_p _ hb255 _).mono ?_
  rintro e w1 ⟨rfl, rfl⟩
  rw [HD.out]
  go_wp2_with fail
  refine (HS.out _ b0 (Nat.le_of_lt hlt)).mono ?_
  rintro e w2 ⟨rfl, hb2⟩
  have T2 := T0.below hb2
  have bb := b0.trans (hb2.mono (Nat.le_of_lt hlt))
  obtain ⟨u0, u1, u2, u3, u4, u5, u6, u7, u8, uf⟩ := id T2
  go_wp2_with fail
  obtain ⟨q0, q1, q2, q3, q4, q5, q6, q7, q8, -⟩ := T2.set k l c t q nn vv xx sg
  unfold setTk at q0 q1 q2 q3 q4 q5 q6 q7 q8
  exact bodyPost_ret (v := .tuple #[.agg #[.int .i64 k, .int .i64 l, .int .i64 c, .string t, .bool q, .int .i64 nn, .int .u64 vv, .int .u64 xx, .bool sg], .int .i64 sz, .int .i64 er]) (by simp [results, Tryz.results51, go_sem, q0, q1, q2, q3, q4, q5, q6, q7, q8]) rfl ⟨rfl, below_setTk bb (Nat.le_refl _) _ _ _ _ _ _ _ _ _⟩
end Go.Proofs.YtogmipbdnffegaaGreatDoor
