/- The example of the chapter on trees: what the check answers. -/
import Derived.Test.YtpjnjcljaoaceaaMgFac
namespace Go.Proofs.Ytpjnjcljaoaceaa
open Go Go.RowKit Go.Sort
set_option linter.unusedVariables false
theorem nin_nq (nm : ByteArray) (w : World) : Nin w (nq nm) := .mk ⟨Nat.le_refl _, fun h => absurd rfl h⟩ (fun T h => by cases h)
theorem meas_nq (nm : ByteArray) (w : World) : Calls Try.prog 14 #[nqV nm] w fun e w' => e = .returned (.tuple #[.int .i64 1, .int .i64 1]) ∧ Below w.heap.size w w' := by
  have h := measure_any 1 (nq nm) (by unfold nq; simp [Nd.dep, depL]) (by unfold nq; simp [Nd.cnt, cntL]) w (nin_nq nm w)
  unfold nq at h
  simpa [Nd.val, Nd.cnt, Nd.dep, cntL, depL, nqV] using h
structure NZ (w w' : World) (b f : Nat) (nm : ByteArray) : Prop where
  bel : Below w.heap.size w w'
  nc : NC w' b 0 79 0 0 nm ⟨#[]⟩ 0 0 0 false none 0 0
  y0 : w'.cell? ⟨f, 0, none⟩ = some (.string ⟨#[69, 117, 116]⟩)
  y1 : w'.cell? ⟨f, 1, none⟩ = some (.string ⟨#[]⟩)
  y2 : w'.cell? ⟨f, 2, none⟩ = some (.string ⟨#[78]⟩)
theorem NZ.next {w w' w'' : World} {b f : Nat} {nm : ByteArray} (h : NZ w w' b f nm) (hb : Below w'.heap.size w' w'') : NZ w w'' b f nm :=
  ⟨h.bel.trans (hb.mono h.bel.size), h.nc.below hb, (hb.cell (p := ⟨f, 0, none⟩) (World.block_lt_of_cell? w' _ h.y0)).trans h.y0, (hb.cell (p := ⟨f, 1, none⟩) (World.block_lt_of_cell? w' _ h.y1)).trans h.y1, (hb.cell (p := ⟨f, 2, none⟩) (World.block_lt_of_cell? w' _ h.y2)).trans h.y2⟩
set_option maxRecDepth 100000 in
set_option maxHeartbeats 4000000 in
theorem node_q (w : World) : Calls Try.prog 15 #[nqV ⟨#[113]⟩, .int .u8 69] w fun e w' => e = .returned (.int .i64 0) ∧ Below w.heap.size w w' := by
  obtain ⟨W1, hW1⟩ : ∃ W, W = w.alloc (.cells #[.int .i64 79, .int .i64 0, .int .i64 0, .string ⟨#[113]⟩, .string ⟨#[]⟩, .int .i64 0, .int .u64 0, .int .u64 0, .bool false, .slice none 0 0] 34) := ⟨_, rfl⟩
  have b0 : Below w.heap.size w W1 := by rw [hW1]; exact (Below.refl _ _).alloc (Nat.le_refl _) _
  have X : NC W1 w.heap.size 0 79 0 0 ⟨#[113]⟩ ⟨#[]⟩ 0 0 0 false none 0 0 := by rw [hW1]; exact ⟨by go_simp, by go_simp, by go_simp, by go_simp, by go_simp, by go_simp, by go_simp, by go_simp, by go_simp, by go_simp⟩
  have cF := fun w => fields_q w
  have cA := fun w => ambiguous79 ⟨#[113]⟩ w
  have cW := fun w => narrow79 ⟨#[113]⟩ w
  unfold nqV at cF cA cW ⊢
  have HF := Lib.hid cF
  have HA := Lib.hid cA
  have HW := Lib.hid cW
  clear cF cA cW
  go_enter Try.func15, Try.ntmps15
  go_upto_region 1 with fail
  rw [← hW1]
  clear hW1
  obtain ⟨c0, -, -, -, -, -, -, -, -, -⟩ := id X
  go_upto_region 2 with (refine (form79 _).mono ?_; rintro e w2 ⟨rfl, hb2⟩)
  obtain ⟨W3, hW3⟩ : ∃ W, W = w2.alloc (.cells #[.string ⟨#[69, 117, 116]⟩, .string ⟨#[]⟩, .string ⟨#[78]⟩] 55) := ⟨_, rfl⟩
  have hb3 : Below w2.heap.size w2 W3 := by rw [hW3]; exact (Below.refl _ _).alloc (Nat.le_refl _) _
  have Z : NZ w W3 w.heap.size w2.heap.size ⟨#[113]⟩ := ⟨(b0.trans (hb2.mono b0.size)).trans (hb3.mono (Nat.le_trans b0.size hb2.size)), (X.below hb2).below hb3, by rw [hW3]; go_simp, by rw [hW3]; go_simp, by rw [hW3]; go_simp⟩
  rw [← hW3]
  clear hW3 X c0 hb2 hb3 b0
  generalize w2.heap.size = f at *
  obtain ⟨bel, ⟨c0, c1, c2, c3, c4, c5, c6, c7, c8, c9⟩, y0, y1, y2⟩ := id Z
  go_wp2_with (first
    | (refine (belongs79 _).mono ?_; rintro e w4 ⟨rfl, hb4⟩; replace Z := Z.next hb4; clear bel c0 c1 c2 c3 c4 c5 c6 c7 c8 c9 y0 y1 y2 hb4; obtain ⟨bel, ⟨c0, c1, c2, c3, c4, c5, c6, c7, c8, c9⟩, y0, y1, y2⟩ := id Z)
    | (refine (HF.out _).mono ?_; rintro e w4 ⟨rfl, hb4⟩; replace Z := Z.next hb4; clear bel c0 c1 c2 c3 c4 c5 c6 c7 c8 c9 y0 y1 y2 hb4; obtain ⟨bel, ⟨c0, c1, c2, c3, c4, c5, c6, c7, c8, c9⟩, y0, y1, y2⟩ := id Z)
    | (refine (match0 _).mono ?_; rintro e w4 ⟨rfl, rfl⟩)
    | (refine (HA.out _).mono ?_; rintro e w4 ⟨rfl, hb4⟩; replace Z := Z.next hb4; clear bel c0 c1 c2 c3 c4 c5 c6 c7 c8 c9 y0 y1 y2 hb4; obtain ⟨bel, ⟨c0, c1, c2, c3, c4, c5, c6, c7, c8, c9⟩, y0, y1, y2⟩ := id Z)
    | (refine (HW.out _).mono ?_; rintro e w4 ⟨rfl, hb4⟩; replace Z := Z.next hb4; clear bel c0 c1 c2 c3 c4 c5 c6 c7 c8 c9 y0 y1 y2 hb4; obtain ⟨bel, ⟨c0, c1, c2, c3, c4, c5, c6, c7, c8, c9⟩, y0, y1, y2⟩ := id Z))
  clear HF HA HW
  go_loopw [72] (fun i wr => i = .int .i64 0 ∧ Below w.heap.size w wr) (fun _ _ => 0)
  case atStart => exact ⟨rfl, bel⟩
  case round =>
    obtain ⟨rfl, hlo⟩ := hrel
    go_wp2_with fail
    go_ret
    exact ⟨rfl, hlo⟩
set_option maxRecDepth 100000 in
set_option maxHeartbeats 4000000 in
theorem node_e (w : World) : Calls Try.prog 15 #[nqV ⟨#[]⟩, .int .u8 69] w fun e w' => e = .returned (.int .i64 4) ∧ Below w.heap.size w w' := by
  obtain ⟨W1, hW1⟩ : ∃ W, W = w.alloc (.cells #[.int .i64 79, .int .i64 0, .int .i64 0, .string ⟨#[]⟩, .string ⟨#[]⟩, .int .i64 0, .int .u64 0, .int .u64 0, .bool false, .slice none 0 0] 34) := ⟨_, rfl⟩
  have b0 : Below w.heap.size w W1 := by rw [hW1]; exact (Below.refl _ _).alloc (Nat.le_refl _) _
  have X : NC W1 w.heap.size 0 79 0 0 ⟨#[]⟩ ⟨#[]⟩ 0 0 0 false none 0 0 := by rw [hW1]; exact ⟨by go_simp, by go_simp, by go_simp, by go_simp, by go_simp, by go_simp, by go_simp, by go_simp, by go_simp, by go_simp⟩
  have cF := fun w => fields_e w
  have cA := fun w => ambiguous79 ⟨#[]⟩ w
  have cW := fun w => narrow79 ⟨#[]⟩ w
  unfold nqV at cF cA cW ⊢
  have HF := Lib.hid cF
  have HA := Lib.hid cA
  have HW := Lib.hid cW
  clear cF cA cW
  go_enter Try.func15, Try.ntmps15
  go_upto_region 1 with fail
  rw [← hW1]
  clear hW1
  obtain ⟨c0, -, -, -, -, -, -, -, -, -⟩ := id X
  go_upto_region 2 with (refine (form79 _).mono ?_; rintro e w2 ⟨rfl, hb2⟩)
  obtain ⟨W3, hW3⟩ : ∃ W, W = w2.alloc (.cells #[.string ⟨#[69, 117, 116]⟩, .string ⟨#[]⟩, .string ⟨#[78]⟩] 55) := ⟨_, rfl⟩
  have hb3 : Below w2.heap.size w2 W3 := by rw [hW3]; exact (Below.refl _ _).alloc (Nat.le_refl _) _
  have Z : NZ w W3 w.heap.size w2.heap.size ⟨#[]⟩ := ⟨(b0.trans (hb2.mono b0.size)).trans (hb3.mono (Nat.le_trans b0.size hb2.size)), (X.below hb2).below hb3, by rw [hW3]; go_simp, by rw [hW3]; go_simp, by rw [hW3]; go_simp⟩
  rw [← hW3]
  clear hW3 X c0 hb2 hb3 b0
  generalize w2.heap.size = f at *
  obtain ⟨bel, ⟨c0, c1, c2, c3, c4, c5, c6, c7, c8, c9⟩, y0, y1, y2⟩ := id Z
  go_wp2_with (first
    | (refine (belongs79 _).mono ?_; rintro e w4 ⟨rfl, hb4⟩; replace Z := Z.next hb4; clear bel c0 c1 c2 c3 c4 c5 c6 c7 c8 c9 y0 y1 y2 hb4; obtain ⟨bel, ⟨c0, c1, c2, c3, c4, c5, c6, c7, c8, c9⟩, y0, y1, y2⟩ := id Z)
    | (refine (HF.out _).mono ?_; rintro e w4 ⟨rfl, hb4⟩; replace Z := Z.next hb4; clear bel c0 c1 c2 c3 c4 c5 c6 c7 c8 c9 y0 y1 y2 hb4; obtain ⟨bel, ⟨c0, c1, c2, c3, c4, c5, c6, c7, c8, c9⟩, y0, y1, y2⟩ := id Z))
  go_ret
  exact ⟨rfl, bel⟩
set_option maxRecDepth 100000 in
set_option maxHeartbeats 2000000 in
theorem tree_q (w : World) : Calls Try.prog 7 #[nqV ⟨#[113]⟩] w fun e w' => e = .returned (.int .i64 0) ∧ Below w.heap.size w w' := by
  have hT : ∀ w, Calls Try.prog 9 #[nqV ⟨#[113]⟩, .int .u8 69] w fun e w' => e = .returned (.int .i64 0) ∧ Below w.heap.size w w' := by
    intro w
    have cM := fun w => meas_nq ⟨#[113]⟩ w
    have cN := fun w => node_q w
    unfold nqV at cM cN ⊢
    have HM := Lib.hid cM
    have HN := Lib.hid cN
    clear cM cN
    obtain ⟨W1, hW1⟩ : ∃ W, W = w.alloc (.cells #[.int .i64 79, .int .i64 0, .int .i64 0, .string ⟨#[113]⟩, .string ⟨#[]⟩, .int .i64 0, .int .u64 0, .int .u64 0, .bool false, .slice none 0 0] 34) := ⟨_, rfl⟩
    have b0 : Below w.heap.size w W1 := by rw [hW1]; exact (Below.refl _ _).alloc (Nat.le_refl _) _
    have X : NC W1 w.heap.size 0 79 0 0 ⟨#[113]⟩ ⟨#[]⟩ 0 0 0 false none 0 0 := by rw [hW1]; exact ⟨by go_simp, by go_simp, by go_simp, by go_simp, by go_simp, by go_simp, by go_simp, by go_simp, by go_simp, by go_simp⟩
    go_enter Try.func9, Try.ntmps9
    go_upto_region 1 with fail
    rw [← hW1]
    clear hW1
    obtain ⟨c0, c1, c2, c3, c4, c5, c6, c7, c8, c9⟩ := id X
    go_wp2_with (first
      | (refine (HM.out _).mono ?_; rintro e w4 ⟨rfl, hb4⟩; clear c0 c1 c2 c3 c4 c5 c6 c7 c8 c9; obtain ⟨c0, c1, c2, c3, c4, c5, c6, c7, c8, c9⟩ := X.below hb4)
      | (refine (HN.out _).mono ?_; rintro e w5 ⟨rfl, hb5⟩))
    go_ret
    exact ⟨rfl, (b0.trans (hb4.mono b0.size)).trans (hb5.mono (Nat.le_trans b0.size hb4.size))⟩
  unfold nqV at hT ⊢
  have HT := Lib.hid hT
  clear hT
  go_enter Try.func7, Try.ntmps7
  go_wp2_with (refine (HT.out _).mono ?_; rintro e w3 ⟨rfl, hb3⟩)
  go_ret
  exact ⟨rfl, ((Below.refl _ _).alloc (Nat.le_refl _) _).trans (hb3.mono (by simp))⟩
set_option maxRecDepth 100000 in
set_option maxHeartbeats 2000000 in
theorem tree_e (w : World) : Calls Try.prog 7 #[nqV ⟨#[]⟩] w fun e w' => e = .returned (.int .i64 4) ∧ Below w.heap.size w w' := by
  have hT : ∀ w, Calls Try.prog 9 #[nqV ⟨#[]⟩, .int .u8 69] w fun e w' => e = .returned (.int .i64 4) ∧ Below w.heap.size w w' := by
    intro w
    have cM := fun w => meas_nq ⟨#[]⟩ w
    have cN := fun w => node_e w
    unfold nqV at cM cN ⊢
    have HM := Lib.hid cM
    have HN := Lib.hid cN
    clear cM cN
    obtain ⟨W1, hW1⟩ : ∃ W, W = w.alloc (.cells #[.int .i64 79, .int .i64 0, .int .i64 0, .string ⟨#[]⟩, .string ⟨#[]⟩, .int .i64 0, .int .u64 0, .int .u64 0, .bool false, .slice none 0 0] 34) := ⟨_, rfl⟩
    have b0 : Below w.heap.size w W1 := by rw [hW1]; exact (Below.refl _ _).alloc (Nat.le_refl _) _
    have X : NC W1 w.heap.size 0 79 0 0 ⟨#[]⟩ ⟨#[]⟩ 0 0 0 false none 0 0 := by rw [hW1]; exact ⟨by go_simp, by go_simp, by go_simp, by go_simp, by go_simp, by go_simp, by go_simp, by go_simp, by go_simp, by go_simp⟩
    go_enter Try.func9, Try.ntmps9
    go_upto_region 1 with fail
    rw [← hW1]
    clear hW1
    obtain ⟨c0, c1, c2, c3, c4, c5, c6, c7, c8, c9⟩ := id X
    go_wp2_with (first
      | (refine (HM.out _).mono ?_; rintro e w4 ⟨rfl, hb4⟩; clear c0 c1 c2 c3 c4 c5 c6 c7 c8 c9; obtain ⟨c0, c1, c2, c3, c4, c5, c6, c7, c8, c9⟩ := X.below hb4)
      | (refine (HN.out _).mono ?_; rintro e w5 ⟨rfl, hb5⟩))
    go_ret
    exact ⟨rfl, (b0.trans (hb4.mono b0.size)).trans (hb5.mono (Nat.le_trans b0.size hb4.size))⟩
  unfold nqV at hT ⊢
  have HT := Lib.hid hT
  clear hT
  go_enter Try.func7, Try.ntmps7
  go_wp2_with (refine (HT.out _).mono ?_; rintro e w3 ⟨rfl, hb3⟩)
  go_ret
  exact ⟨rfl, ((Below.refl _ _).alloc (Nat.le_refl _) _).trans (hb3.mono (by simp))⟩
theorem same_now (w : World) : Calls Try.prog 8 #[.agg #[.int .i64 121, .int .i64 3, .int .i64 0, .string ⟨#[]⟩, .string ⟨#[]⟩, .int .i64 0, .int .u64 0, .int .u64 0, .bool false, .slice none 0 0], .agg #[.int .i64 121, .int .i64 0, .int .i64 0, .string ⟨#[]⟩, .string ⟨#[]⟩, .int .i64 0, .int .u64 0, .int .u64 0, .bool false, .slice none 0 0]] w fun e w' => e = .returned (.bool true) ∧ Below w.heap.size w w' := by
  have h := same_any (.mk 121 3 0 ⟨#[]⟩ ⟨#[]⟩ 0 0 0 false none 0 []) (.mk 121 0 0 ⟨#[]⟩ ⟨#[]⟩ 0 0 0 false none 0 []) (by simp [Nd.cnt, cntL]) w (.mk ⟨Nat.le_refl _, fun h => absurd rfl h⟩ (fun T h => by cases h)) (.mk ⟨Nat.le_refl _, fun h => absurd rfl h⟩ (fun T h => by cases h))
  rw [same_yes] at h
  exact h
set_option maxRecDepth 100000 in
set_option maxHeartbeats 2000000 in
theorem treed_ok (w : World) : Calls Try.prog 4 #[] w fun e w' => e = .returned (.bool true) ∧ Below w.heap.size w w' := by
  have cQ := fun w => tree_q w
  have cE := fun w => tree_e w
  unfold nqV at cQ cE
  have HQ := Lib.hid cQ
  have HE := Lib.hid cE
  clear cQ cE
  go_enter Try.func4, Try.ntmps4
  go_wp2_with (first
    | (refine (HQ.out _).mono ?_; rintro e w3 ⟨rfl, hb3⟩)
    | (refine (HE.out _).mono ?_; rintro e w4 ⟨rfl, hb4⟩)
    | (refine (same_now _).mono ?_; rintro e w5 ⟨rfl, hb5⟩))
  go_ret
  exact ⟨rfl, (hb3.trans (hb4.mono hb3.size)).trans (hb5.mono (Nat.le_trans hb3.size hb4.size))⟩
end Go.Proofs.Ytpjnjcljaoaceaa
