/- The program's checkFields. -/
import Derived.Test.YtpjnjcljaoaceaaMgAmb
import Derived.Test.YtpjnjcljaoaceaaRaw
import Derived.Deep.DeepCutAuto
namespace Go.Proofs.Ytpjnjcljaoaceaa
open Go Go.RowKit Go.Sort
set_option linter.unusedVariables false
/-- the closure that looks for a letter -/
theorem has_any (F : List UInt8) (c : UInt8) (b : Nat) (w : World) (hb : w.cell? ⟨b, 0, none⟩ = some (.string (bs F))) : Calls Try.prog 38 (#[.int .u8 (c.toNat : Int)] ++ #[.pointer (some ⟨b, 0, none⟩)]) w fun e w' => e = .returned (.bool (F.contains c)) ∧ w = w' := by
  have hc : ((c.toNat : Int)).toNat.toUInt8 = c := by simp
  obtain ⟨n, hn⟩ : ∃ n, Lib.indexByte (bs F).data.toList ((c.toNat : Int)).toNat.toUInt8 = n := ⟨_, rfl⟩
  have hI := fun W => ib (bs F) (c.toNat : Int) n hn W
  have hB : Hid (F.contains c = decide (0 ≤ n)) := Lib.hid (by rw [Lib.contains_iff_indexByte, ← hn, bs_list, hc])
  rw [hB.out]
  generalize bs F = A at *
  have HI := Lib.hid hI
  clear hI hn hc hB
  go_enter Try.func38, Try.ntmps38
  go_wp2_with (refine (HI.out _).mono ?_; rintro e w4 ⟨rfl, rfl⟩)
  go_ret
  exact ⟨rfl, rfl⟩
def fldE (N V S X : Bool) (nm tx : ByteArray) (r : Rb) (s : Bool) : Int :=
  if (N != !nm.toList.isEmpty) = true then 4
  else if (N && !quo nm) = true then 9
  else if (V && !(r.chk == 0)) = true then 4
  else if (!V && !(r.W == 0 && (U r.v == 0 && U r.x == 0))) = true then 4
  else if (s && (!V && !S)) = true then 4
  else if (!tx.toList.isEmpty && !X) = true then 4
  else if 200 < tx.size then 3
  else if (!prt tx) = true then 4 else 0
/-- what the looks lean on: the node in its cells, the letters -/
structure FW (w : World) (h : Nat) (nm tx : ByteArray) (n v x : Int) (s : Bool) (L : ByteArray) : Prop where
  c3 : w.cell? ⟨h, 3, none⟩ = some (.string nm)
  c4 : w.cell? ⟨h, 4, none⟩ = some (.string tx)
  c5 : w.cell? ⟨h, 5, none⟩ = some (.int .i64 n)
  c6 : w.cell? ⟨h, 6, none⟩ = some (.int .u64 v)
  c7 : w.cell? ⟨h, 7, none⟩ = some (.int .u64 x)
  c8 : w.cell? ⟨h, 8, none⟩ = some (.bool s)
  cb : w.cell? ⟨h + 1, 0, none⟩ = some (.string L)
theorem FW.below {w w' : World} {h : Nat} {nm tx : ByteArray} {n v x : Int} {s : Bool} {L : ByteArray} (f : FW w h nm tx n v x s L) (hb : Below w.heap.size w w') : FW w' h nm tx n v x s L := by
  have q1 : h < w.heap.size := World.block_lt_of_cell? w _ f.c3
  have q2 : h + 1 < w.heap.size := World.block_lt_of_cell? w _ f.cb
  exact ⟨(hb.cell (p := ⟨h, 3, none⟩) q1).trans f.c3, (hb.cell (p := ⟨h, 4, none⟩) q1).trans f.c4, (hb.cell (p := ⟨h, 5, none⟩) q1).trans f.c5, (hb.cell (p := ⟨h, 6, none⟩) q1).trans f.c6, (hb.cell (p := ⟨h, 7, none⟩) q1).trans f.c7, (hb.cell (p := ⟨h, 8, none⟩) q1).trans f.c8, (hb.cell (p := ⟨h + 1, 0, none⟩) q2).trans f.cb⟩
set_option maxRecDepth 100000 in
set_option maxHeartbeats 4000000 in
theorem fields_any (k l c : Int) (nm tx : ByteArray) (r : Rb) (s : Bool) (a : Option Addr) (len cap : Nat) (F : List UInt8) (w : World) : Calls Try.prog 23 #[.agg #[.int .i64 k, .int .i64 l, .int .i64 c, .string nm, .string tx, .int .i64 r.W, .int .u64 (U r.v), .int .u64 (U r.x), .bool s, .slice a len cap], .string (bs F)] w fun e w' => e = .returned (.int .i64 (fldE (F.contains 78) (F.contains 86) (F.contains 83) (F.contains 88) nm tx r s)) ∧ Below w.heap.size w w' := by
  obtain ⟨W1, hW1⟩ : ∃ W, W = (w.alloc (.cells #[.int .i64 k, .int .i64 l, .int .i64 c, .string nm, .string tx, .int .i64 r.W, .int .u64 (U r.v), .int .u64 (U r.x), .bool s, .slice a len cap] 34)).alloc (.cells #[.string (bs F)] 9) := ⟨_, rfl⟩
  have b0 : Below w.heap.size w W1 := by rw [hW1]; exact ((Below.refl _ _).alloc (Nat.le_refl _) _).alloc (by simp <;> omega) _
  have FF : FW W1 w.heap.size nm tx r.W (U r.v) (U r.x) s (bs F) := by rw [hW1]; exact ⟨by go_simp, by go_simp, by go_simp, by go_simp, by go_simp, by go_simp, by go_simp⟩
  have hN := fun W (f : FW W w.heap.size nm tx r.W (U r.v) (U r.x) s (bs F)) => has_any F 78 (w.heap.size + 1) W f.cb
  have hV := fun W (f : FW W w.heap.size nm tx r.W (U r.v) (U r.x) s (bs F)) => has_any F 86 (w.heap.size + 1) W f.cb
  have hS := fun W (f : FW W w.heap.size nm tx r.W (U r.v) (U r.x) s (bs F)) => has_any F 83 (w.heap.size + 1) W f.cb
  have hX := fun W (f : FW W w.heap.size nm tx r.W (U r.v) (U r.x) s (bs F)) => has_any F 88 (w.heap.size + 1) W f.cb
  have hQ := fun W => quoted_any nm W
  have hC := fun W => check_any r W
  rw [show ((UInt8.toNat 78 : Nat) : Int) = 78 from rfl] at hN
  rw [show ((UInt8.toNat 86 : Nat) : Int) = 86 from rfl] at hV
  rw [show ((UInt8.toNat 83 : Nat) : Int) = 83 from rfl] at hS
  rw [show ((UInt8.toNat 88 : Nat) : Int) = 88 from rfl] at hX
  have HN := Lib.hid hN
  have HV := Lib.hid hV
  have HS := Lib.hid hS
  have HX := Lib.hid hX
  have HQ := Lib.hid hQ
  have HC := Lib.hid hC
  clear hN hV hS hX hQ hC
  generalize F.contains 78 = bN at *
  generalize F.contains 86 = bV at *
  generalize F.contains 83 = bS at *
  generalize F.contains 88 = bX at *
  obtain ⟨R, hR⟩ : ∃ R, fldE bN bV bS bX nm tx r s = R := ⟨_, rfl⟩
  rw [hR]
  have HR := Lib.hid hR
  clear hR
  go_enter Try.func23, Try.ntmps23
  go_upto_region 2 with fail
  rw [← hW1]
  clear hW1
  go_cut [7] (fun s7 wx => s7 = .bool (bN != !nm.toList.isEmpty) ∧ RowKit.Below W1.heap.size W1 wx)
  case first =>
    have HF := Lib.hid FF
    have xb := FF.cb
    have x3 := FF.c3
    clear FF
    have cN : ∀ dd os, Calls Try.prog 38 (#[.int .u8 78] ++ #[.pointer (some ⟨w.heap.size + 1, 0, none⟩)]) (grow (redrawn W1 dd) os) fun e w'' => e = .returned (.bool bN) ∧ ∃ p : Regrown, w'' = grow (redrawn W1 p.d) p.os := fun dd os => Calls.regrown_of ((HN.out _ (HF.out.below (below_regrown W1 dd os))).mono fun _ _ ⟨a, b⟩ => ⟨a, b ▸ Below.refl _ _⟩)
    have y3 := cell_regrown x3
    refine wp_region_quiet_below (by kernel_rfl) (by kernel_rfl) ?_
    repeat (quiet_step (first | (exact cN _ _)))
    refine wpQuiet_nil ?_
    intro _ hw'
    obtain ⟨⟨dq, osq⟩, hw''⟩ := hw'
    subst hw''
    have bq := below_regrown W1 dq osq
    generalize grow (redrawn W1 dq) osq = W2 at *
    go_wp2_with fail
    go_meet
    exact ⟨rfl, bq⟩
  case rest =>
  obtain ⟨rfl, hb2⟩ := hcut
  rename World => W2
  have BX := b0.trans (hb2.mono b0.size)
  have FX := FF.below hb2
  clear b0 FF hb2
  generalize e7 : (bN != !nm.toList.isEmpty) = E7
  cases E7
  case true =>
    go_wp2_with fail
    go_ret
    exact ⟨by rw [← HR.out]; unfold fldE; rw [e7]; first | done | rfl, BX⟩
  case false =>
  go_upto_region 4 with fail
  go_cut [14] (fun sv wx => sv = .bool (bN && !quo nm) ∧ W2 = wx)
  case first =>
    obtain ⟨x3, x4, x5, x6, x7, x8, xb⟩ := id FX
    clear e7
    cases bN
    all_goals
      go_wp2_with (first | (refine (HN.out _ FX).mono ?_; rintro e w3 ⟨rfl, rfl⟩) | (refine (HQ.out _).mono ?_; rintro e w4 ⟨rfl, rfl⟩))
      go_meet
      exact ⟨by first | rfl | simp, rfl⟩
  case rest =>
  obtain ⟨rfl, rfl⟩ := hcut
  generalize e14 : (bN && !quo nm) = E14
  cases E14
  case true =>
    go_wp2_with fail
    go_ret
    exact ⟨by rw [← HR.out]; unfold fldE; rw [e7, e14]; first | done | rfl, BX⟩
  case false =>
  go_upto_region 6 with fail
  go_cut [23] (fun sv wx => sv = .bool (bV && !(r.chk == 0)) ∧ RowKit.Below W2.heap.size W2 wx)
  case first =>
    obtain ⟨x3, x4, x5, x6, x7, x8, xb⟩ := id FX
    clear e7 e14
    cases bV
    · go_wp2_with (refine (HV.out _ FX).mono ?_; rintro e w3 ⟨rfl, rfl⟩)
      go_meet
      exact ⟨by first | rfl | simp, Below.refl _ _⟩
    · go_wp2_with (first | (refine (HV.out _ FX).mono ?_; rintro e w3 ⟨rfl, rfl⟩) | (refine (HC.out _).mono ?_; rintro e w4 ⟨rfl, hb4⟩))
      go_meet
      exact ⟨by first | rfl | simp [bne], hb4⟩
  case rest =>
  obtain ⟨rfl, hb3⟩ := hcut
  rename World => W3
  replace BX := BX.trans (hb3.mono BX.size)
  replace FX := FX.below hb3
  clear hb3
  generalize e23 : (bV && !(r.chk == 0)) = E23
  cases E23
  case true =>
    go_wp2_with fail
    go_ret
    exact ⟨by rw [← HR.out]; unfold fldE; rw [e7, e14, e23]; first | done | rfl, BX⟩
  case false =>
  go_upto_region 8 with fail
  go_cut [32] (fun sv wx => sv = .bool (!bV && !(r.W == 0 && (U r.v == 0 && U r.x == 0))) ∧ W3 = wx)
  case first =>
    obtain ⟨x3, x4, x5, x6, x7, x8, xb⟩ := id FX
    clear e7 e14 e23
    cases bV
    · cases hW : (r.W == 0)
      all_goals cases hv : (U r.v == 0)
      all_goals cases hx : (U r.x == 0)
      all_goals
        go_wp2_with (refine (HV.out _ FX).mono ?_; rintro e w3 ⟨rfl, rfl⟩)
        go_meet
        exact ⟨by first | rfl | (simp only [hW, hv, hx]; rfl), rfl⟩
    · go_wp2_with (refine (HV.out _ FX).mono ?_; rintro e w3 ⟨rfl, rfl⟩)
      go_meet
      exact ⟨by first | rfl | simp, rfl⟩
  case rest =>
  obtain ⟨rfl, rfl⟩ := hcut
  generalize e32 : (!bV && !(r.W == 0 && (U r.v == 0 && U r.x == 0))) = E32
  cases E32
  case true =>
    go_wp2_with fail
    go_ret
    exact ⟨by rw [← HR.out]; unfold fldE; rw [e7, e14, e23, e32]; first | done | rfl, BX⟩
  case false =>
  go_upto_region 10 with fail
  go_cut [42] (fun sv wx => sv = .bool (s && (!bV && !bS)) ∧ W3 = wx)
  case first =>
    obtain ⟨x3, x4, x5, x6, x7, x8, xb⟩ := id FX
    clear e7 e14 e23 e32
    cases s
    all_goals cases bV
    all_goals cases bS
    all_goals
      go_wp2_with (first | (refine (HV.out _ FX).mono ?_; rintro e w3 ⟨rfl, rfl⟩) | (refine (HS.out _ FX).mono ?_; rintro e w4 ⟨rfl, rfl⟩))
      go_meet
      exact ⟨by first | rfl | simp, rfl⟩
  case rest =>
  obtain ⟨rfl, rfl⟩ := hcut
  generalize e42 : (s && (!bV && !bS)) = E42
  cases E42
  case true =>
    go_wp2_with fail
    go_ret
    exact ⟨by rw [← HR.out]; unfold fldE; rw [e7, e14, e23, e32, e42]; first | done | rfl, BX⟩
  case false =>
  go_upto_region 12 with fail
  go_cut [55] (fun sv wx => sv = .bool (!tx.toList.isEmpty && !bX) ∧ W3 = wx)
  case first =>
    obtain ⟨x3, x4, x5, x6, x7, x8, xb⟩ := id FX
    clear e7 e14 e23 e32 e42
    cases ht : tx.toList.isEmpty
    all_goals cases bX
    all_goals
      go_wp2_with (refine (HX.out _ FX).mono ?_; rintro e w3 ⟨rfl, rfl⟩)
      go_meet
      exact ⟨by first | rfl | (simp only [ht]; rfl) | simp, rfl⟩
  case rest =>
  obtain ⟨rfl, rfl⟩ := hcut
  generalize e55 : (!tx.toList.isEmpty && !bX) = E55
  cases E55
  case true =>
    go_wp2_with fail
    go_ret
    exact ⟨by rw [← HR.out]; unfold fldE; rw [e7, e14, e23, e32, e42, e55]; first | done | rfl, BX⟩
  case false =>
  by_cases h200 : 200 < tx.size
  · have h2i : (200 : Int) < (tx.size : Int) := by omega
    obtain ⟨x3, x4, x5, x6, x7, x8, xb⟩ := id FX
    go_wp2_with fail
    go_ret
    exact ⟨by rw [← HR.out]; unfold fldE; rw [e7, e14, e23, e32, e42, e55, if_pos h200]; first | done | rfl, BX⟩
  have h2i : ¬ (200 : Int) < (tx.size : Int) := by omega
  have hP := fun W => isPrintable_any tx (by omega) W
  have HP := Lib.hid hP
  clear hP
  obtain ⟨x3, x4, x5, x6, x7, x8, xb⟩ := id FX
  generalize e69 : prt tx = E69 at HP
  cases E69
  all_goals
    go_wp2_with (refine (HP.out _).mono ?_; rintro e w5 ⟨rfl, hb5⟩)
    go_ret
    exact ⟨by rw [← HR.out]; unfold fldE; rw [e7, e14, e23, e32, e42, e55, if_neg h200, e69]; first | done | rfl, BX.trans (hb5.mono BX.size)⟩
end Go.Proofs.Ytpjnjcljaoaceaa
