/- The reference's Tokens: its closure that goes on by some bytes.
   What separates tokens, byte by byte. No program here. -/
import Derived.Test.YtfnkablbcalclaaGreatDoorMgRow
import Derived.LoopTactic
import Derived.Test.YtfnkablbcalclaaGreatDoorMgRun
namespace Go.Proofs.YtfnkablbcalclaaGreatDoor
open Go Go.RowKit
set_option linter.unusedVariables false
/-- the closure's variables: the text, the place, its line and its column -/
structure RC (W : World) (b : Nat) (s : ByteArray) (p : Nat) : Prop where
  c0 : W.cell? ⟨b, 0, none⟩ = some (.string s)
  c1 : W.cell? ⟨b + 1, 0, none⟩ = some (.int .i64 p)
  c2 : W.cell? ⟨b + 2, 0, none⟩ = some (.int .i64 ((plcT s p).1 : Nat))
  c3 : W.cell? ⟨b + 3, 0, none⟩ = some (.int .i64 ((plcT s p).2 : Nat))
  f1 : W.frozen? ⟨b + 1, 0, none⟩ = false
  f2 : W.frozen? ⟨b + 2, 0, none⟩ = false
  f3 : W.frozen? ⟨b + 3, 0, none⟩ = false
theorem RC.lt {W : World} {b : Nat} {s : ByteArray} {p : Nat} (h : RC W b s p) : b + 3 < W.heap.size := World.block_lt_of_cell? W _ h.c3
theorem RC.below {W W' : World} {b : Nat} {s : ByteArray} {p B : Nat} (h : RC W b s p) (hb : Below B W W') (hB : b + 3 < B) : RC W' b s p :=
  ⟨(hb.cell (p := ⟨b, 0, none⟩) (show b < B by omega)).trans h.c0, (hb.cell (p := ⟨b + 1, 0, none⟩) (show b + 1 < B by omega)).trans h.c1, (hb.cell (p := ⟨b + 2, 0, none⟩) (show b + 2 < B by omega)).trans h.c2, (hb.cell (p := ⟨b + 3, 0, none⟩) (show b + 3 < B by omega)).trans h.c3,
   (hb.frozen (p := ⟨b + 1, 0, none⟩) (show b + 1 < B by omega)).trans h.f1, (hb.frozen (p := ⟨b + 2, 0, none⟩) (show b + 2 < B by omega)).trans h.f2, (hb.frozen (p := ⟨b + 3, 0, none⟩) (show b + 3 < B by omega)).trans h.f3⟩
theorem RC.drew {W : World} {b : Nat} {s : ByteArray} {p : Nat} (h : RC W b s p) : RC W.drew b s p := h.below (Below.refl _ _).drew h.lt
def RO (b : Nat) (k : Nat) : Prop := k = b + 1 ∨ k = b + 2 ∨ k = b + 3
theorem RC.step1 {W : World} {b : Nat} {s : ByteArray} {p : Nat} (h : RC W b s p) (hp : p < s.size) (hc : s[p].toNat ≠ 10) :
    RC ((W.setCell ⟨b + 3, 0, none⟩ (.int .i64 (((plcT s p).2 : Nat) + 1))).setCell ⟨b + 1, 0, none⟩ (.int .i64 ((p : Int) + 1))) b s (p + 1) := by
  have e : plcT s (p + 1) = ((plcT s p).1, (plcT s p).2 + 1) := by
    rw [plc_succ, get_of_lt s p hp, if_neg (by omega)]
  obtain ⟨h0, h1, h2, h3, g1, g2, g3⟩ := h
  refine ⟨?_, ?_, ?_, ?_, ?_, ?_, ?_⟩
  · exact (cell_set_at (show b + 1 ≠ b by omega)).trans ((cell_set_at (show b + 3 ≠ b by omega)).trans h0)
  · exact cell_set_eq ((cell_set_at (show b + 3 ≠ b + 1 by omega)).trans h1) (frozen_set_at.trans g1)
  · rw [e]; exact (cell_set_at (show b + 1 ≠ b + 2 by omega)).trans ((cell_set_at (show b + 3 ≠ b + 2 by omega)).trans h2)
  · rw [e]; exact (cell_set_at (show b + 1 ≠ b + 3 by omega)).trans (cell_set_eq h3 g3)
  · exact frozen_set_at.trans (frozen_set_at.trans g1)
  · exact frozen_set_at.trans (frozen_set_at.trans g2)
  · exact frozen_set_at.trans (frozen_set_at.trans g3)
theorem RC.step2 {W : World} {b : Nat} {s : ByteArray} {p : Nat} (h : RC W b s p) (hp : p < s.size) (hc : s[p].toNat = 10) :
    RC ((((W.setCell ⟨b + 3, 0, none⟩ (.int .i64 (((plcT s p).2 : Nat) + 1))).setCell ⟨b + 2, 0, none⟩ (.int .i64 (((plcT s p).1 : Nat) + 1))).setCell ⟨b + 3, 0, none⟩ (.int .i64 1)).setCell ⟨b + 1, 0, none⟩ (.int .i64 ((p : Int) + 1))) b s (p + 1) := by
  have e : plcT s (p + 1) = ((plcT s p).1 + 1, 1) := by
    rw [plc_succ, get_of_lt s p hp, if_pos (by omega)]
  obtain ⟨h0, h1, h2, h3, g1, g2, g3⟩ := h
  have k2 : ∀ {V : World} {u : Value}, V.cell? ⟨b + 2, 0, none⟩ = some u → (V.setCell ⟨b + 3, 0, none⟩ (.int .i64 1)).cell? ⟨b + 2, 0, none⟩ = some u := fun hu => (cell_set_at (show b + 3 ≠ b + 2 by omega)).trans hu
  refine ⟨?_, ?_, ?_, ?_, ?_, ?_, ?_⟩
  · exact (cell_set_at (show b + 1 ≠ b by omega)).trans ((cell_set_at (show b + 3 ≠ b by omega)).trans ((cell_set_at (show b + 2 ≠ b by omega)).trans ((cell_set_at (show b + 3 ≠ b by omega)).trans h0)))
  · exact cell_set_eq ((cell_set_at (show b + 3 ≠ b + 1 by omega)).trans ((cell_set_at (show b + 2 ≠ b + 1 by omega)).trans ((cell_set_at (show b + 3 ≠ b + 1 by omega)).trans h1))) (frozen_set_at.trans (frozen_set_at.trans (frozen_set_at.trans g1)))
  · rw [e]; exact (cell_set_at (show b + 1 ≠ b + 2 by omega)).trans (k2 (cell_set_eq ((cell_set_at (show b + 3 ≠ b + 2 by omega)).trans h2) (frozen_set_at.trans g2)))
  · rw [e]; exact (cell_set_at (show b + 1 ≠ b + 3 by omega)).trans (cell_set_eq ((cell_set_at (show b + 2 ≠ b + 3 by omega)).trans (cell_set_eq h3 g3)) (frozen_set_at.trans (frozen_set_at.trans g3)))
  · exact frozen_set_at.trans (frozen_set_at.trans (frozen_set_at.trans (frozen_set_at.trans g1)))
  · exact frozen_set_at.trans (frozen_set_at.trans (frozen_set_at.trans (frozen_set_at.trans g2)))
  · exact frozen_set_at.trans (frozen_set_at.trans (frozen_set_at.trans (frozen_set_at.trans g3)))
/-- the closure's value -/
def onV (b : Nat) : Value := .func (.func 9) #[] #[.pointer (some ⟨b + 3, 0, none⟩), .pointer (some ⟨b, 0, none⟩), .pointer (some ⟨b + 1, 0, none⟩), .pointer (some ⟨b + 2, 0, none⟩)]
set_option maxRecDepth 100000 in
set_option maxHeartbeats 3000000 in
theorem on_any (s : ByteArray) (hs : s.size ≤ 2000) (b p n : Nat) (h : p + n ≤ s.size) (w : World) (R : RC w b s p) :
    Calls Tryz.prog 9 (#[.int .i64 n] ++ #[.pointer (some ⟨b + 3, 0, none⟩), .pointer (some ⟨b, 0, none⟩), .pointer (some ⟨b + 1, 0, none⟩), .pointer (some ⟨b + 2, 0, none⟩)]) w fun e w' =>
      e = .returned (.tuple #[]) ∧ RC w' b s (p + n) ∧ But (RO b) w.heap.size w w' := by
  have HR := Lib.hid R
  clear R
  go_enter Tryz.func9, Tryz.ntmps9
  go_wp2_with fail
  go_loopw [7] (fun u wr => ∃ i : Nat, i ≤ n ∧ u = .int .i64 (i : Int) ∧ Hid (RC wr b s (p + i)) ∧ Hid (But (RO b) w.heap.size w wr)) (fun u _ => n - (intOf u).toNat)
  case atStart => exact ⟨0, Nat.zero_le _, rfl, HR, Lib.hid (But.refl _ _ _)⟩
  case round =>
    obtain ⟨i, hi, rfl, HRi, HBi⟩ := hrel
    clear HR
    rename World => wr
    have hi0 : (0 : Int) ≤ (i : Int) := by omega
    by_cases hin : i < n
    · have hini : (i : Int) < (n : Int) := by omega
      obtain ⟨q, hq⟩ : ∃ q, p + i = q := ⟨_, rfl⟩
      have hqs : q < s.size := by omega
      have hqi : (q : Int) < (s.size : Int) := by omega
      have hq0 : (0 : Int) ≤ (q : Int) := by omega
      rw [hq] at HRi
      obtain ⟨h0, h1, h2, h3, g1, g2, g3⟩ := id HRi.out
      have hle := plc_le s q
      by_cases hc : s[q].toNat = 10
      · have HS := Lib.hid (HRi.out.step2 hqs hc)
        have hci : ((s[q].toNat : Int) == 10) = true := by rw [hc]; rfl
        have HC := Lib.hid hc
        clear hc
        obtain ⟨Y, hY⟩ : ∃ Y, (plcT s q).1 = Y := ⟨_, rfl⟩
        obtain ⟨X, hX⟩ : ∃ X, (plcT s q).2 = X := ⟨_, rfl⟩
        rw [hY] at h2 HS
        rw [hX] at h3 HS
        rw [hY, hX] at hle
        clear hY hX
        have k3 : ((wr.setCell ⟨b + 3, 0, none⟩ (.int .i64 ((X : Int) + 1))).setCell ⟨b + 2, 0, none⟩ (.int .i64 ((Y : Int) + 1))).frozen? ⟨b + 3, 0, none⟩ = false := frozen_set_at.trans (frozen_set_at.trans g3)
        go_wp2_with fail
        go_roundw
        case rel => exact ⟨i + 1, by omega, by go_num, by rw [show p + (i + 1) = q + 1 by omega]; exact HS, Lib.hid ((((HBi.out.setCell (p := ⟨b + 3, 0, none⟩) (.inl (.inr (.inr rfl))) _).setCell (p := ⟨b + 2, 0, none⟩) (.inl (.inr (.inl rfl))) _).setCell (p := ⟨b + 3, 0, none⟩) (.inl (.inr (.inr rfl))) _).setCell (p := ⟨b + 1, 0, none⟩) (.inl (.inl rfl)) _)⟩
        case measure => simp [intOf] <;> omega
      · have HS := Lib.hid (HRi.out.step1 hqs hc)
        have hci : ((s[q].toNat : Int) == 10) = false := beq_eq_false_iff_ne.2 (by omega)
        clear hc
        obtain ⟨X, hX⟩ : ∃ X, (plcT s q).2 = X := ⟨_, rfl⟩
        rw [hX] at h3 HS hle
        clear hX
        go_wp2_with fail
        go_roundw
        case rel => exact ⟨i + 1, by omega, by go_num, by rw [show p + (i + 1) = q + 1 by omega]; exact HS, Lib.hid ((HBi.out.setCell (p := ⟨b + 3, 0, none⟩) (.inl (.inr (.inr rfl))) _).setCell (p := ⟨b + 1, 0, none⟩) (.inl (.inl rfl)) _)⟩
        case measure => simp [intOf] <;> omega
    · obtain rfl : i = n := by omega
      go_wp2_with fail
      go_end0
      exact ⟨rfl, HRi.out, HBi.out⟩
end Go.Proofs.YtfnkablbcalclaaGreatDoor
namespace Go.Proofs.YtfnkablbcalclaaGreatDoor
open Go Go.RowKit
set_option linter.unusedVariables false
theorem rst_gb (s : ByteArray) (p i : Nat) (h : p + i < s.size) : gb (rst s p) i = gb s (p + i) := rest_at s p i h
theorem drop_list (s : ByteArray) (a : Nat) : (s.extract a s.size).data.toList = s.data.toList.drop a := by
  rw [Lib.extract_eq]
  apply List.take_of_length_le
  rw [List.length_drop, len_list]
  omega
theorem pre2 (r : ByteArray) (a b : UInt8) : Lib.hasPrefix r.data.toList [a, b] = decide (2 ≤ r.size ∧ gb r 0 = a.toNat ∧ gb r 1 = b.toNat) := by
  have hl := len_list r
  unfold Lib.hasPrefix
  match hL : r.data.toList with
  | [] =>
    rw [hL] at hl
    have : r.size = 0 := hl.symm
    simp [List.isPrefixOf, this]
  | [c] =>
    rw [hL] at hl
    have : r.size = 1 := hl.symm
    simp [List.isPrefixOf, this]
  | c :: d :: l =>
    rw [hL] at hl
    have hs : 2 ≤ r.size := by rw [← hl]; simp
    have h0 : gb r 0 = c.toNat := by
      rw [← gb_at r 0 (by omega)]
      have : r.data.toList[0]? = some r[0] := by rw [List.getElem?_eq_getElem (by rw [len_list]; omega)]; rfl
      rw [hL] at this
      simp at this
      rw [this]
    have h1 : gb r 1 = d.toNat := by
      rw [← gb_at r 1 (by omega)]
      have : r.data.toList[1]? = some r[1] := by rw [List.getElem?_eq_getElem (by rw [len_list]; omega)]; rfl
      rw [hL] at this
      simp at this
      rw [this]
    rw [h0, h1]
    by_cases e0 : a = c
    · by_cases e1 : b = d
      · subst e0 e1
        simp [List.isPrefixOf, hs]
      · have : ¬ d.toNat = b.toNat := fun e => e1 (UInt8.toNat_inj.1 e.symm)
        simp [List.isPrefixOf, e1, this]
    · have : ¬ c.toNat = a.toNat := fun e => e0 (UInt8.toNat_inj.1 e.symm)
      simp [List.isPrefixOf, e0, this]
theorem hop_b (s : ByteArray) (p : Nat) (h : p < s.size) (hb : isB (gb s p) = true) : hop (rst s p) = some (some 1) := by
  have hz : 0 < (rst s p).size := by rw [rst_size]; omega
  have e0 : (rst s p)[0].toNat = gb s p := by rw [gb_at _ 0 hz, rst_gb s p 0 h, Nat.add_zero]
  rcases hop_ways (rst s p) hz with ⟨_, h2⟩ | ⟨h1, _⟩ | ⟨h1, _⟩ | ⟨h1, _⟩ | ⟨h1, _⟩
  · exact h2
  all_goals rw [e0, hb] at h1; cases h1
/-- the ways of a hop, byte by byte -/
theorem hop_bytes (s : ByteArray) (p : Nat) (h : p < s.size) :
    (isB (gb s p) = true ∧ hop (rst s p) = some (some 1))
    ∨ (gb s p = 47 ∧ p + 1 < s.size ∧ gb s (p + 1) = 47 ∧ hop (rst s p) = some (some (span noF (rst s p))))
    ∨ (gb s p = 47 ∧ p + 1 < s.size ∧ gb s (p + 1) = 42 ∧ hop (rst s p) = if Lib.index (s.data.toList.drop (p + 2)) [42, 47] < 0 then some none else some (some ((Lib.index (s.data.toList.drop (p + 2)) [42, 47]).toNat + 4)))
    ∨ (isB (gb s p) = false ∧ ¬ (gb s p = 47 ∧ p + 1 < s.size ∧ gb s (p + 1) = 47) ∧ ¬ (gb s p = 47 ∧ p + 1 < s.size ∧ gb s (p + 1) = 42) ∧ hop (rst s p) = none) := by
  have hz : 0 < (rst s p).size := by rw [rst_size]; omega
  have e0 : (rst s p)[0].toNat = gb s p := by rw [gb_at _ 0 hz, rst_gb s p 0 h, Nat.add_zero]
  have eP : ∀ a b : UInt8, Lib.hasPrefix (rst s p).data.toList [a, b] = decide (gb s p = a.toNat ∧ p + 1 < s.size ∧ gb s (p + 1) = b.toNat) := by
    intro a b
    rw [pre2]
    apply decide_eq_decide.2
    by_cases h2 : p + 1 < s.size
    · have g0 := rst_gb s p 0 h
      have g1 := rst_gb s p 1 h2
      rw [Nat.add_zero] at g0
      rw [g0, g1, rst_size]
      constructor
      · rintro ⟨_, a1, a2⟩; exact ⟨a1, h2, a2⟩
      · rintro ⟨a1, _, a2⟩; exact ⟨by omega, a1, a2⟩
    · constructor
      · rintro ⟨a0, _⟩; rw [rst_size] at a0; omega
      · rintro ⟨_, a0, _⟩; exact absurd a0 h2
  have eI : ((rst s p).extract 2 (rst s p).size).data.toList = s.data.toList.drop (p + 2) := by
    rw [drop_list]
    unfold rst
    rw [drop_list, List.drop_drop]
  have e47 := eP 47 47
  have e42 := eP 47 42
  rcases hop_ways (rst s p) hz with ⟨h1, h2⟩ | ⟨h1, h2, h3⟩ | ⟨h1, h2, h3, h4, h5⟩ | ⟨h1, h2, h3, j, h4, h5⟩ | ⟨h1, h2, h3, h4⟩
  · rw [e0] at h1
    exact .inl ⟨h1, h2⟩
  · have := e47.symm.trans h2
    obtain ⟨a0, a1, a2⟩ := of_decide_eq_true this
    exact .inr (.inl ⟨a0, a1, a2, h3⟩)
  · have := e42.symm.trans h3
    obtain ⟨a0, a1, a2⟩ := of_decide_eq_true this
    rw [eI] at h4
    have h4' : Lib.index (s.data.toList.drop (p + 2)) [42, 47] < 0 := h4
    exact .inr (.inr (.inl ⟨a0, a1, a2, by rw [if_pos h4']; exact h5⟩))
  · have := e42.symm.trans h3
    obtain ⟨a0, a1, a2⟩ := of_decide_eq_true this
    rw [eI] at h4
    have h4' : Lib.index (s.data.toList.drop (p + 2)) [42, 47] = (j : Int) := h4
    exact .inr (.inr (.inl ⟨a0, a1, a2, by rw [h4', if_neg (by omega)]; exact h5⟩))
  · have g1 := of_decide_eq_false (e47.symm.trans h2)
    have g2 := of_decide_eq_false (e42.symm.trans h3)
    rw [e0] at h1
    exact .inr (.inr (.inr ⟨h1, g1, g2, h4⟩))
/-- an end of a comment at a place of a text -/
theorem occ_at (s : ByteArray) (d i : Nat) (h : d + i + 2 ≤ s.size) : Lib.occAt (s.data.toList.drop d) [42, 47] i = decide (s.extract (d + i) (d + i + 2) = ByteArray.mk #[42, 47]) := by
  have h1 := occ_piece s (ByteArray.mk #[42, 47]) (d + i) h
  have h2 : Lib.occAt (s.data.toList.drop d) [42, 47] i = Lib.occAt s.data.toList [42, 47] (d + i) := by
    unfold Lib.occAt
    rw [List.drop_drop]
  rw [h2]
  exact h1
theorem star_list : (ByteArray.mk #[42, 47]).toList = [42, 47] := by rw [ByteArray.toList_eq]
theorem noF_span (s : ByteArray) (p : Nat) (hp : p ≤ s.size) : p + span noF (rst s p) ≤ s.size ∧ (∀ i, i < span noF (rst s p) → gb s (p + i) ≠ 10) ∧ (p + span noF (rst s p) < s.size → gb s (p + span noF (rst s p)) = 10) := by
  have hle := span_le noF (rst s p)
  rw [rst_size] at hle
  refine ⟨by omega, fun i hi => ?_, fun h => ?_⟩
  · have h2 := span_yes (f := noF) (s := rst s p) (q := i) (by rw [rst_size]; omega) hi
    rw [gb_at _ i (by rw [rst_size]; omega), rst_gb s p i (by omega)] at h2
    simpa [noF] using h2
  · have h2 := span_no (f := noF) (s := rst s p) (by rw [rst_size]; omega)
    rw [gb_at _ _ (by rw [rst_size]; omega), rst_gb s p _ h] at h2
    simpa [noF] using h2
end Go.Proofs.YtfnkablbcalclaaGreatDoor
