/- The levels of the nodes of a valid graph: the reference. -/
import Derived.Test.YtcpifmhcebfglaaGrAr
namespace Go.Proofs.Ytcpifmhcebfglaa
open Go Go.RowKit Go.Sort
set_option linter.unusedVariables false
def hAdd (H : List Int) (p : Int × Int) : List Int := H ++ [max H[ndL p.1]! H[ndL p.2]! + 1]
def htsL (g : Gr) (j : Nat) : List Int := (g.ands.take j).foldl hAdd (List.replicate (1 + g.ins.length + g.regs.length) 0)
theorem hAdd_len : ∀ (l : List (Int × Int)) (H : List Int), (l.foldl hAdd H).length = H.length + l.length
  | [], H => rfl
  | p :: l, H => by simp [List.foldl_cons, hAdd_len l, hAdd]; omega
theorem htsL_len (g : Gr) (j : Nat) (hj : j ≤ g.ands.length) : (htsL g j).length = 1 + g.ins.length + g.regs.length + j := by unfold htsL; rw [hAdd_len]; simp; omega
theorem htsL_succ (g : Gr) (j : Nat) (hj : j < g.ands.length) : htsL g (j + 1) = hAdd (htsL g j) g.ands[j]! := by unfold htsL; rw [tk1 g.ands hj, List.foldl_append]; rfl
/-- the array while the ands are looked at -/
def hArr (g : Gr) (j : Nat) (x : Int) : List Int := htsL g j ++ x :: List.replicate (g.ands.length - (j + 1)) 0
theorem hts_bound (g : Gr) : ∀ j, j ≤ g.ands.length → ∀ i, i < (htsL g j).length → (0 : Int) ≤ (htsL g j)[i]! ∧ (htsL g j)[i]! ≤ j
  | 0, _, i, hi => by
    have e : htsL g 0 = List.replicate (1 + g.ins.length + g.regs.length) 0 := rfl
    rw [e] at hi ⊢
    rw [getElem!_pos _ i hi, List.getElem_replicate]; simp
  | j + 1, hj, i, hi => by
    have ih := hts_bound g j (by omega)
    rw [htsL_succ g j (by omega)] at hi ⊢
    unfold hAdd at hi ⊢
    have any : ∀ k : Nat, (0 : Int) ≤ (htsL g j)[k]! ∧ (htsL g j)[k]! ≤ j := fun k => by
      by_cases hk : k < (htsL g j).length
      · exact ih k hk
      · rw [getElem!_neg _ k hk]; exact ⟨Int.le_refl _, by show (0 : Int) ≤ _; omega⟩
    rw [getElem!_pos _ i hi]
    by_cases hil : i < (htsL g j).length
    · rw [List.getElem_append_left hil]
      have := ih i hil
      rw [getElem!_pos _ i hil] at this
      omega
    · rw [List.getElem_append_right (by omega)]
      have h1 := any (ndL g.ands[j]!.1)
      have h2 := any (ndL g.ands[j]!.2)
      have e : ∀ q (hq : q < [max (htsL g j)[ndL g.ands[j]!.1]! (htsL g j)[ndL g.ands[j]!.2]! + 1].length), [max (htsL g j)[ndL g.ands[j]!.1]! (htsL g j)[ndL g.ands[j]!.2]! + 1][q] = max (htsL g j)[ndL g.ands[j]!.1]! (htsL g j)[ndL g.ands[j]!.2]! + 1 := fun q hq => by
        have : q = 0 := by simp at hq; omega
        subst this; rfl
      rw [e]
      omega
theorem arr_left {H R : List Int} {i : Nat} (h : i < H.length) : (H ++ R)[i]! = H[i]! := by
  rw [getElem!_pos _ i (by simp; omega), getElem!_pos H i h, List.getElem_append_left h]
theorem arr_mid {H R : List Int} {x : Int} {i : Nat} (h : H.length = i) : (H ++ x :: R)[i]! = x := by
  rw [getElem!_pos _ i (by simp; omega)]; subst h; simp
theorem arr_set {H R : List Int} {x y : Int} {i : Nat} (h : H.length = i) : (H ++ x :: R).set i y = H ++ y :: R := by subst h; simp
theorem infoN : (Try.prog.info? 3).map (fun i => (i.zero, i.size, i.bytes)) = some (some (.int .i64 0), 1, 8) := by kernel_rfl
theorem infoN_parts : ∃ i, Try.prog.info? 3 = some i ∧ i.zero = some (.int .i64 0) ∧ i.size = 1 ∧ i.bytes = 8 := by
  have h := infoN
  cases hi : Try.prog.info? 3 with
  | none => rw [hi] at h; cases h
  | some i =>
    rw [hi] at h
    simp only [Option.map_some, Option.some.injEq, Prod.mk.injEq] at h
    exact ⟨i, rfl, h.1, h.2.1, h.2.2⟩
set_option maxRecDepth 100000 in
set_option maxHeartbeats 16000000 in
theorem heights_any (g : Gr) (v : Value) (vg : VG g) (w : World) (hG : GO g v w) : Calls Try.prog 64 #[v] w fun e w' => ∃ q, e = .returned (.slice (some ⟨q, 0, none⟩) (1 + g.ins.length + g.regs.length + g.ands.length) (1 + g.ins.length + g.regs.length + g.ands.length)) ∧ Arr 3 (fun n => Value.int .i64 n) q (htsL g g.ands.length) w' ∧ Below w.heap.size w w' := by
  obtain ⟨a, b, c, d0, e, a', b', c', d', e', rfl, hC, hA⟩ := hG.all
  clear hG
  have n1 := vg.ins
  have n2 := vg.regs
  have n3 := vg.ands
  go_enter Try.func64, Try.ntmps64
  go_upto_region 1 with fail
  have bel := (Below.refl w.heap.size w).alloc (Nat.le_refl _) (.cells #[.slice a g.ins.length a', .slice b g.outN.length b', .slice c g.regs.length c', .slice d0 g.ands.length d', .slice e g.outs.length e'] 31)
  have X := GX.new w (.slice a g.ins.length a') (.slice b g.outN.length b') (.slice c g.regs.length c') (.slice d0 g.ands.length d') (.slice e g.outs.length e') 31
  have hsz : w.heap.size + 1 ≤ (w.alloc (.cells #[.slice a g.ins.length a', .slice b g.outN.length b', .slice c g.regs.length c', .slice d0 g.ands.length d', .slice e g.outs.length e'] 31)).heap.size := by simp
  generalize w.alloc (.cells #[.slice a g.ins.length a', .slice b g.outN.length b', .slice c g.regs.length c', .slice d0 g.ands.length d', .slice e g.outs.length e'] 31) = W0 at bel X hsz ⊢
  generalize hk : w.heap.size = k at X ⊢
  have HK := Lib.hid hk
  clear hk
  obtain ⟨x0, x1, x2, x3, x4⟩ := id X
  obtain ⟨i0, hi0, hz0, hsz0, hby0⟩ := infoN_parts
  have hmk : (Instr.makeSlice 22 (.int .i64 (1 + (g.ins.length : Int) + (g.regs.length : Int) + (g.ands.length : Int))) (.int .i64 (1 + (g.ins.length : Int) + (g.regs.length : Int) + (g.ands.length : Int)))).run Try.prog W0 = .ok (.slice (some ⟨W0.heap.size, 0, none⟩) (1 + g.ins.length + g.regs.length + g.ands.length) (1 + g.ins.length + g.regs.length + g.ands.length)) (W0.alloc (.cells (madeCells #[.int .i64 0] (1 + g.ins.length + g.regs.length + g.ands.length)) 3)) := by
    have e1 : (1 + (g.ins.length : Int) + (g.regs.length : Int) + (g.ands.length : Int)) = ((1 + g.ins.length + g.regs.length + g.ands.length : Nat) : Int) := by omega
    rw [e1]
    generalize 1 + g.ins.length + g.regs.length + g.ands.length = N at *
    have hN : N ≤ 5000 := by omega
    have := run_makeSlice (P := Try.prog) W0 22 3 i0 _ Try.underlying22 hi0 hz0 .i64 .i64 (N : Int) (N : Int) (by omega) (by omega) (by rw [hsz0]; omega) (by rw [hby0]; omega) (by omega)
    rw [hsz0, show (Value.int .i64 0).cells = #[.int .i64 0] from by kernel_rfl] at this
    simpa using this
  clear hi0 hz0 hsz0 hby0
  go_upto_region 3 with fail
  have A0 : Arr 3 (fun n => Value.int .i64 n) W0.heap.size (List.replicate (1 + g.ins.length + g.regs.length + g.ands.length) 0) (W0.alloc (.cells (madeCells #[.int .i64 0] (1 + g.ins.length + g.regs.length + g.ands.length)) 3)) := Arr.made W0 _ 0 _
  replace X := X.below ((Below.refl _ W0).alloc (Nat.le_refl _) (.cells (madeCells #[.int .i64 0] (1 + g.ins.length + g.regs.length + g.ands.length)) 3))
  replace bel := bel.alloc bel.size (.cells (madeCells #[.int .i64 0] (1 + g.ins.length + g.regs.length + g.ands.length)) 3)
  have hkq : k ≠ W0.heap.size := by have := HK.out; omega
  have hwq : w.heap.size ≤ W0.heap.size := by omega
  generalize W0.alloc (.cells (madeCells #[.int .i64 0] (1 + g.ins.length + g.regs.length + g.ands.length)) 3) = W1 at A0 X bel ⊢
  generalize W0.heap.size = q at A0 hkq hwq ⊢
  clear x0 x1 x2 x3 x4 hmk hsz
  obtain ⟨x0, x1, x2, x3, x4⟩ := id X
  go_upto_block 0 with fail
  clear x0 x1 x2 x3 x4
  go_wp2_with fail
  go_loopw [27] (fun i wr => ∃ j : Nat, j ≤ g.ands.length ∧ i = .int .i64 (j : Int) ∧ Hid (Arr 3 (fun n => Value.int .i64 n) q (htsL g j ++ List.replicate (g.ands.length - j) 0) wr) ∧ Hid (GX k (.slice a g.ins.length a') (.slice b g.outN.length b') (.slice c g.regs.length c') (.slice d0 g.ands.length d') (.slice e g.outs.length e') wr) ∧ Hid (Below w.heap.size w wr)) (fun i _ => g.ands.length - (intOf i).toNat)
  case atStart => exact ⟨0, Nat.zero_le _, rfl, Lib.hid (by
      have e : htsL g 0 = List.replicate (1 + g.ins.length + g.regs.length) 0 := rfl
      rw [e, List.replicate_append_replicate]; exact A0), Lib.hid X, Lib.hid bel⟩
  case round =>
    clear X bel A0
    obtain ⟨j, hj, rfl, hR1, hX1, hB1⟩ := hrel
    rename World => WR
    have hj0 : (0 : Int) ≤ (j : Int) := by omega
    have A1 := hR1.out
    have X1 := hX1.out
    have b1 := hB1.out
    clear hR1 hX1 hB1
    by_cases hlt : j < g.ands.length
    · have hji : (j : Int) < (g.ands.length : Int) := by omega
      have HL := Lib.hid (htsL_len g j hj)
      have HSU := Lib.hid (htsL_succ g j hlt)
      have HBD := Lib.hid (hts_bound g j hj)
      have hlit := vg.lits j hlt
      obtain ⟨bb, oo, hdd, hcell⟩ := (hA.ands.below b1).pick (by omega)
      subst hdd
      have c0 := hcell j hlt 0 _ rfl
      have c1 := hcell j hlt 1 _ rfl
      simp only [Nat.add_zero] at c0
      clear hcell
      rw [show g.ands.length - j = g.ands.length - (j + 1) + 1 by omega, List.replicate_succ] at A1
      generalize htsL g j = H at A1 HL HSU HBD
      generalize hrr : List.replicate (g.ands.length - (j + 1)) (0 : Int) = R at A1
      have HRR := Lib.hid hrr
      clear hrr
      have HB0 : baseL g = 2 * (1 + (g.ins.length : Int) + (g.regs.length : Int)) := rfl
      rw [HB0] at hlit
      clear HB0
      generalize g.ands[j]! = p at c0 c1 HSU hlit
      obtain ⟨p1, p2⟩ := p
      simp only at c0 c1 hlit
      go_upto_region 6 with fail
      have b2 := b1.alloc b1.size (Obj.cells #[Value.int IntKind.i64 p1, Value.int IntKind.i64 p2] 137)
      have X2 := X1.below ((Below.refl _ WR).alloc (Nat.le_refl _) (Obj.cells #[Value.int IntKind.i64 p1, Value.int IntKind.i64 p2] 137))
      have A2 := A1.below ((Below.refl _ WR).alloc (Nat.le_refl _) (Obj.cells #[Value.int IntKind.i64 p1, Value.int IntKind.i64 p2] 137))
      have y0 : (WR.alloc (Obj.cells #[Value.int IntKind.i64 p1, Value.int IntKind.i64 p2] 137)).cell? ⟨WR.heap.size, 0, none⟩ = some (.int .i64 p1) := by go_simp
      have y1 : (WR.alloc (Obj.cells #[Value.int IntKind.i64 p1, Value.int IntKind.i64 p2] 137)).cell? ⟨WR.heap.size, 1, none⟩ = some (.int .i64 p2) := by go_simp
      generalize WR.alloc (Obj.cells #[Value.int IntKind.i64 p1, Value.int IntKind.i64 p2] 137) = W3 at b2 X2 A2 y0 y1 ⊢
      generalize WR.heap.size = r at y0 y1 ⊢
      clear b1 X1 A1 c0 c1
      go_upto_block 2 with fail
      have b3 := b2.alloc b2.size (Obj.cells #[Value.int IntKind.i64 p1, Value.int IntKind.i64 p2] 67)
      have X3 := X2.below ((Below.refl _ W3).alloc (Nat.le_refl _) (Obj.cells #[Value.int IntKind.i64 p1, Value.int IntKind.i64 p2] 67))
      have A3 := A2.below ((Below.refl _ W3).alloc (Nat.le_refl _) (Obj.cells #[Value.int IntKind.i64 p1, Value.int IntKind.i64 p2] 67))
      have z0 : (W3.alloc (Obj.cells #[Value.int IntKind.i64 p1, Value.int IntKind.i64 p2] 67)).cell? ⟨W3.heap.size, 0, none⟩ = some (.int .i64 p1) := by go_simp
      have z1 : (W3.alloc (Obj.cells #[Value.int IntKind.i64 p1, Value.int IntKind.i64 p2] 67)).cell? ⟨W3.heap.size, 1, none⟩ = some (.int .i64 p2) := by go_simp
      generalize W3.alloc (Obj.cells #[Value.int IntKind.i64 p1, Value.int IntKind.i64 p2] 67) = W4 at b3 X3 A3 z0 z1 ⊢
      have hqr : q < W3.heap.size := A2.lt
      have hrq : ¬ q = W3.heap.size := by omega
      generalize W3.heap.size = r2 at z0 z1 hqr hrq ⊢
      clear b2 X2 A2 y0 y1
      go_wp2_with fail
      have hn0 : (1 + g.ins.length + g.regs.length) ≤ 417 := by omega
      have HLL := HL.out
      obtain ⟨h1, h2⟩ := hlit
      have HH1 : Hid (0 ≤ H[ndL p1]! ∧ H[ndL p1]! ≤ j) := Lib.hid (HBD.out _ (by rw [HLL]; have := ndL_lt h1.1 (n := 1 + (g.ins.length : Int) + (g.regs.length : Int) + j) (by omega); omega))
      have HH2 : Hid (0 ≤ H[ndL p2]! ∧ H[ndL p2]! ≤ j) := Lib.hid (HBD.out _ (by rw [HLL]; have := ndL_lt h2.1 (n := 1 + (g.ins.length : Int) + (g.regs.length : Int) + j) (by omega); omega))
      have HI1 : Hid (ndL p1 < H.length ∧ ((ndL p1 : Nat) : Int) = p1 / 2) := Lib.hid ⟨by rw [HLL]; have := ndL_lt h1.1 (n := 1 + (g.ins.length : Int) + (g.regs.length : Int) + j) (by omega); omega, ndL_int h1.1⟩
      have HI2 : Hid (ndL p2 < H.length ∧ ((ndL p2 : Nat) : Int) = p2 / 2) := Lib.hid ⟨by rw [HLL]; have := ndL_lt h2.1 (n := 1 + (g.ins.length : Int) + (g.regs.length : Int) + j) (by omega); omega, ndL_int h2.1⟩
      clear h1 h2 HLL HBD
      go_loopw [38] (fun i wi => ∃ (n : Nat) (x : Int), n ≤ 2 ∧ i = .int .i64 (n : Int) ∧ Hid (x = if n = 0 then 0 else if n = 1 then H[ndL p1]! + 1 else max H[ndL p1]! H[ndL p2]! + 1) ∧ Hid (Arr 3 (fun n => Value.int .i64 n) q (H ++ x :: R) wi) ∧ Hid (wi.cell? ⟨r2, 0, none⟩ = some (.int .i64 p1)) ∧ Hid (wi.cell? ⟨r2, 1, none⟩ = some (.int .i64 p2)) ∧ Hid (GX k (.slice a g.ins.length a') (.slice b g.outN.length b') (.slice c g.regs.length c') (.slice (some ⟨bb, oo, none⟩) g.ands.length d') (.slice e g.outs.length e') wi) ∧ Hid (Below w.heap.size w wi)) (fun i _ => 2 - (intOf i).toNat)
      case atStart => exact ⟨0, 0, Nat.zero_le _, rfl, Lib.hid rfl, Lib.hid A3, Lib.hid z0, Lib.hid z1, Lib.hid X3, Lib.hid b3⟩
      case round =>
        clear A3 z0 z1 X3 b3
        obtain ⟨n, x, hn, rfl, hx, hA4, hz0, hz1, hX4, hB4⟩ := hrel
        rename World => WI
        have A4 := hA4.out
        have X4 := hX4.out
        have b4 := hB4.out
        have z0 := hz0.out
        have z1 := hz1.out
        clear hA4 hX4 hB4 hz0 hz1
        have m2 := A4.cell (j := 1 + g.ins.length + g.regs.length + j) (by have := HL.out; simp; omega)
        rw [arr_mid HL.out] at m2
        have fr := A4.free (1 + g.ins.length + g.regs.length + j)
        have ix0 : (0 : Int) ≤ 1 + (g.ins.length : Int) + (g.regs.length : Int) + (j : Int) := by omega
        have ix1 : 1 + (g.ins.length : Int) + (g.regs.length : Int) + (j : Int) < 1 + (g.ins.length : Int) + (g.regs.length : Int) + (g.ands.length : Int) := by omega
        have ix2 : (1 + (g.ins.length : Int) + (g.regs.length : Int) + (j : Int)).toNat = 1 + g.ins.length + g.regs.length + j := by omega
        match n, hn with
        | 0, _ =>
          have a1 : WI.cell? ⟨q, (p1 / 2).toNat, none⟩ = some (.int .i64 H[ndL p1]!) := by
            have := A4.cell (j := ndL p1) (by have := HI1.out.1; simp; omega)
            rw [arr_left HI1.out.1] at this
            exact this
          have hb1 : 0 ≤ p1 / 2 := by have := HI1.out.2; omega
          have hb2 : p1 / 2 < 1 + (g.ins.length : Int) + (g.regs.length : Int) + (g.ands.length : Int) := by have := HI1.out; have := HL.out; omega
          have hh := HH1.out
          have hx0 : x = 0 := by rw [hx.out]; rfl
          subst hx0
          have HXN : Hid (H[ndL p1]! + 1 = if 1 = 0 then 0 else if 1 = 1 then H[ndL p1]! + 1 else max H[ndL p1]! H[ndL p2]! + 1) := Lib.hid rfl
          generalize H[ndL p1]! = h1 at a1 hh HXN
          have hge : (0 : Int) ≤ h1 := hh.1
          have A5 : Arr 3 (fun n => Value.int .i64 n) q (H ++ (h1 + 1) :: R) (WI.setCell ⟨q, 1 + g.ins.length + g.regs.length + j, none⟩ (.int .i64 (h1 + 1))) := by
            have := A4.set (1 + g.ins.length + g.regs.length + j) (h1 + 1)
            rwa [arr_set HL.out] at this
          have X5 := X4.set (o := 1 + g.ins.length + g.regs.length + j) (u := .int .i64 (h1 + 1)) hkq
          have b5 := b4.setCell (p := ⟨q, 1 + g.ins.length + g.regs.length + j, none⟩) hwq (.int .i64 (h1 + 1))
          have w0 : (WI.setCell ⟨q, 1 + g.ins.length + g.regs.length + j, none⟩ (.int .i64 (h1 + 1))).cell? ⟨r2, 0, none⟩ = some (.int .i64 p1) := by rw [World.cell?_setCell_other _ _ _ _ (fun e => hrq (congrArg Addr.block e))]; exact z0
          have w1 : (WI.setCell ⟨q, 1 + g.ins.length + g.regs.length + j, none⟩ (.int .i64 (h1 + 1))).cell? ⟨r2, 1, none⟩ = some (.int .i64 p2) := by rw [World.cell?_setCell_other _ _ _ _ (fun e => hrq (congrArg Addr.block e))]; exact z1
          have HCN : Hid (((0 : Nat) : Int) + 1 = ((1 : Nat) : Int)) := Lib.hid rfl
          go_wp2_with fail
          go_roundw
          case rel => exact ⟨1, _, by omega, by go_num, HXN, Lib.hid A5, Lib.hid w0, Lib.hid w1, Lib.hid X5, Lib.hid b5⟩
          case measure => first | done | (simp [intOf]; done) | (simp [intOf]; omega)
        | 1, _ =>
          have a1 : WI.cell? ⟨q, (p2 / 2).toNat, none⟩ = some (.int .i64 H[ndL p2]!) := by
            have := A4.cell (j := ndL p2) (by have := HI2.out.1; simp; omega)
            rw [arr_left HI2.out.1] at this
            exact this
          have hb1 : 0 ≤ p2 / 2 := by have := HI2.out.2; omega
          have hb2 : p2 / 2 < 1 + (g.ins.length : Int) + (g.regs.length : Int) + (g.ands.length : Int) := by have := HI2.out; have := HL.out; omega
          have hh := HH2.out
          have hx0 := Lib.hid hx.out
          generalize hq1 : H[ndL p1]! = h0 at hx0 HH1
          have HQ1 := Lib.hid hq1
          clear hq1
          have hx1 : x = h0 + 1 := by rw [hx0.out]; rfl
          subst hx1
          by_cases hge : h0 + 1 ≤ H[ndL p2]!
          · have HXN : Hid (H[ndL p2]! + 1 = if 2 = 0 then 0 else if 2 = 1 then h0 + 1 else max h0 H[ndL p2]! + 1) := Lib.hid (by rw [if_neg (by decide), if_neg (by decide)]; omega)
            generalize H[ndL p2]! = h1 at a1 hh HXN hge
            have A5 : Arr 3 (fun n => Value.int .i64 n) q (H ++ (h1 + 1) :: R) (WI.setCell ⟨q, 1 + g.ins.length + g.regs.length + j, none⟩ (.int .i64 (h1 + 1))) := by
              have := A4.set (1 + g.ins.length + g.regs.length + j) (h1 + 1)
              rwa [arr_set HL.out] at this
            have X5 := X4.set (o := 1 + g.ins.length + g.regs.length + j) (u := .int .i64 (h1 + 1)) hkq
            have b5 := b4.setCell (p := ⟨q, 1 + g.ins.length + g.regs.length + j, none⟩) hwq (.int .i64 (h1 + 1))
            have w0 : (WI.setCell ⟨q, 1 + g.ins.length + g.regs.length + j, none⟩ (.int .i64 (h1 + 1))).cell? ⟨r2, 0, none⟩ = some (.int .i64 p1) := by rw [World.cell?_setCell_other _ _ _ _ (fun e => hrq (congrArg Addr.block e))]; exact z0
            have w1 : (WI.setCell ⟨q, 1 + g.ins.length + g.regs.length + j, none⟩ (.int .i64 (h1 + 1))).cell? ⟨r2, 1, none⟩ = some (.int .i64 p2) := by rw [World.cell?_setCell_other _ _ _ _ (fun e => hrq (congrArg Addr.block e))]; exact z1
            have HCN : Hid (((1 : Nat) : Int) + 1 = ((2 : Nat) : Int)) := Lib.hid rfl
            go_wp2_with fail
            go_roundw
            case rel => exact ⟨2, _, by omega, by go_num, HXN, Lib.hid A5, Lib.hid w0, Lib.hid w1, Lib.hid X5, Lib.hid b5⟩
            case measure => first | done | (simp [intOf]; done) | (simp [intOf]; omega)
          · have HXN : Hid (h0 + 1 = if 2 = 0 then 0 else if 2 = 1 then h0 + 1 else max h0 H[ndL p2]! + 1) := Lib.hid (by rw [if_neg (by decide), if_neg (by decide)]; omega)
            generalize H[ndL p2]! = h1 at a1 hh HXN hge
            have A5 := A4
            have X5 := X4
            have b5 := b4
            have w0 := z0
            have w1 := z1
            have HCN : Hid (((1 : Nat) : Int) + 1 = ((2 : Nat) : Int)) := Lib.hid rfl
            go_wp2_with fail
            go_roundw
            case rel => exact ⟨2, _, by omega, by go_num, HXN, Lib.hid A5, Lib.hid w0, Lib.hid w1, Lib.hid X5, Lib.hid b5⟩
            case measure => first | done | (simp [intOf]; done) | (simp [intOf]; omega)
        | 2, _ =>
          have HF : Hid (Arr 3 (fun n => Value.int .i64 n) q (htsL g (j + 1) ++ R) WI) := Lib.hid (by
            rw [HSU.out]
            unfold hAdd
            have e : x = max H[ndL p1]! H[ndL p2]! + 1 := by rw [hx.out]; rfl
            rw [List.append_assoc, List.singleton_append, ← e]; exact A4)
          have HX5 := Lib.hid X4
          have HB5 := Lib.hid b4
          clear m2 fr z0 z1 A4 X4 b4
          go_wp2_with fail
          go_roundw
          case rel => exact ⟨j + 1, by omega, by go_num, HRR.out ▸ HF, HX5, HB5⟩
          case measure => first | done | (simp [intOf]; done) | (simp [intOf]; omega)
    · obtain rfl : j = g.ands.length := by omega
      have hji : ¬ (g.ands.length : Int) < (g.ands.length : Int) := by omega
      rw [Nat.sub_self, List.replicate_zero, List.append_nil] at A1
      go_wp2_with fail
      go_ret
      exact ⟨q, rfl, A1, b1⟩
end Go.Proofs.Ytcpifmhcebfglaa
