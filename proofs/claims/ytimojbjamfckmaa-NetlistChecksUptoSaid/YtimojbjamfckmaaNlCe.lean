/- The cells of a library in memory; the program's Check. Condition: the sizes of a netlist that came in, at most 1,048,576 cells. -/
import Derived.Test.YtimojbjamfckmaaNlFo
namespace Go.Proofs.Ytimojbjamfckmaa
open Go Go.RowKit Go.Sort
set_option linter.unusedVariables false
/-- a cell of a library; its rows are known by where they lie -/
structure Ce where
  nm : ByteArray
  flop : Bool
  ins : Int
  tab : BitVec 64
  area : Int
  a1 : Option Addr
  n1 : Nat
  k1 : Nat
  a2 : Option Addr
  n2 : Nat
  k2 : Nat
  a3 : Option Addr
  n3 : Nat
  k3 : Nat
  drive : Int
  setup : Int
  hold : Int
  deriving Inhabited
abbrev encCe : Ce → List Value := fun c => [.string c.nm, .bool c.flop, .int .i64 c.ins, .int .u64 (U c.tab), .int .i64 c.area, .slice c.a1 c.n1 c.k1, .slice c.a2 c.n2 c.k2, .slice c.a3 c.n3 c.k3, .int .i64 c.drive, .int .i64 c.setup, .int .i64 c.hold]
def cellE (i : Int) (flop : Bool) (l : List Ce) : Int := if i < 0 ∨ (l.length : Int) ≤ i then 7 else if l[i.toNat]!.flop ≠ flop then 8 else 0
def gateE (l : List Ce) (g : Ga) : Int := if g.cell = -1 then 0 else if cellE g.cell false l ≠ 0 then cellE g.cell false l else if l[g.cell.toNat]!.ins ≠ (g.ins.length : Int) ∨ l[g.cell.toNat]!.tab ≠ g.tab then 4 else 0
def flopE (l : List Ce) (f : Fl) : Int := if f.cell = -1 then 0 else if cellE f.cell true l ≠ 0 then cellE f.cell true l else if l[f.cell.toNat]!.ins = 1 ∧ f.en ≠ 1 then 4 else 0
def firstE {α : Type} (f : α → Int) : List α → Int
  | [] => 0
  | x :: l => if f x ≠ 0 then f x else firstE f l
theorem firstE_drop {α : Type} [Inhabited α] (f : α → Int) {l : List α} {j : Nat} (hj : j < l.length) : firstE f (l.drop j) = if f l[j]! ≠ 0 then f l[j]! else firstE f (l.drop (j + 1)) := by
  have e : l.drop j = l[j]! :: l.drop (j + 1) := by rw [getElem!_pos l j hj]; exact List.drop_eq_getElem_cons hj
  rw [e]; rfl
/-- the error of a netlist with cells -/
def checkN (n : Nl) (l : List Ce) : Int := if faultN n ≠ 0 then faultN n else if firstE (gateE l) n.gates ≠ 0 then firstE (gateE l) n.gates else firstE (flopE l) n.flops
set_option maxRecDepth 100000 in
set_option maxHeartbeats 4000000 in
theorem checkCell_any (i : Int) (fl : Bool) (l : List Ce) (v : Value) (hn : l.length ≤ 1048576) (w : World) (h : RowOf 11 encCe l v w) : Calls Try.prog 126 #[.int .i64 i, .bool fl, v] w fun e w' => e = .returned (.int .i64 (cellE i fl l)) ∧ Below w.heap.size w w' := by
  obtain ⟨ad, cp, rfl, hcp, R⟩ := h.open'
  clear h
  go_enter Try.func126, Try.ntmps126
  by_cases h1 : i < 0
  · have HF := Lib.hid (show cellE i fl l = 7 from if_pos (.inl h1))
    go_wp2_with fail
    go_ret
    exact ⟨ret_num HF.out.symm, Below.refl _ _⟩
  by_cases h2 : (l.length : Int) ≤ i
  · have HF := Lib.hid (show cellE i fl l = 7 from if_pos (.inr h2))
    go_wp2_with fail
    go_ret
    exact ⟨ret_num HF.out.symm, Below.refl _ _⟩
  have HF := Lib.hid (show cellE i fl l = if l[i.toNat]!.flop ≠ fl then 8 else 0 from if_neg (by omega))
  have h3 : 0 ≤ i := by omega
  have h4 : i < (l.length : Int) := by omega
  obtain ⟨bb, oo, hdd, hcell⟩ := R.pick (by omega)
  subst hdd
  have c1 := hcell i.toNat (by omega) 1 _ rfl
  clear hcell
  generalize l[i.toNat]!.flop = b at c1 HF
  cases b <;> cases fl
  all_goals
    go_wp2_with fail
    go_ret
    exact ⟨ret_num HF.out.symm, Below.refl _ _⟩
set_option maxRecDepth 100000 in
set_option maxHeartbeats 8000000 in
theorem checkGate_any (g : Ga) (l : List Ce) (v : Value) (hn : l.length ≤ 1048576) (hg : g.ins.length ≤ 1048576) (w : World) (h : RowOf 11 encCe l v w) : Calls Try.prog 84 #[.agg #[.int .i64 g.cell, .int .u64 (U g.tab), .slice g.ad g.ins.length g.cp], v] w fun e w' => e = .returned (.int .i64 (gateE l g)) ∧ Below w.heap.size w w' := by
  obtain ⟨y0, y1, y2, y3, y4⟩ := g
  have h0 := h
  obtain ⟨ad, cp, rfl, hcp, R⟩ := h.open'
  clear h
  simp only at hg
  go_enter Try.func84, Try.ntmps84
  go_upto_region 1 with fail
  have bel := (Below.refl w.heap.size w).alloc (Nat.le_refl _) (.cells #[.int .i64 y0, .int .u64 (U y1), .slice y3 y2.length y4] 82)
  have z0 : (w.alloc (.cells #[.int .i64 y0, .int .u64 (U y1), .slice y3 y2.length y4] 82)).cell? ⟨w.heap.size, 0, none⟩ = some (.int .i64 y0) := by go_simp
  have z1 : (w.alloc (.cells #[.int .i64 y0, .int .u64 (U y1), .slice y3 y2.length y4] 82)).cell? ⟨w.heap.size, 1, none⟩ = some (.int .u64 (U y1)) := by go_simp
  have z2 : (w.alloc (.cells #[.int .i64 y0, .int .u64 (U y1), .slice y3 y2.length y4] 82)).cell? ⟨w.heap.size, 2, none⟩ = some (.slice y3 y2.length y4) := by go_simp
  generalize w.alloc (.cells #[.int .i64 y0, .int .u64 (U y1), .slice y3 y2.length y4] 82) = W0 at z0 z1 z2 bel ⊢
  generalize hk : w.heap.size = q10 at z0 z1 z2 ⊢
  have HK := Lib.hid hk
  clear hk
  by_cases h1 : y0 = -1
  · have HF := Lib.hid (show gateE l ⟨y0, y1, y2, y3, y4⟩ = 0 from if_pos h1)
    subst h1
    go_wp2_with fail
    go_ret
    exact ⟨ret_num HF.out.symm, bel⟩
  have q1 : (y0 == -1) = false := beq_eq_false_iff_ne.2 h1
  have HF := Lib.hid (show gateE l ⟨y0, y1, y2, y3, y4⟩ = if cellE y0 false l ≠ 0 then cellE y0 false l else if l[y0.toNat]!.ins ≠ (y2.length : Int) ∨ l[y0.toNat]!.tab ≠ y1 then 4 else 0 from if_neg h1)
  have HC := Lib.hid (checkCell_any y0 false l _ hn W0 (h0.below bel))
  by_cases h2 : cellE y0 false l = 0
  rotate_left
  · generalize cellE y0 false l = e at h2 HF HC
    have HF2 := Lib.hid (HF.out.trans (if_pos h2))
    have q2 : (e == 0) = false := beq_eq_false_iff_ne.2 h2
    have q3 : (e != 0) = true := by simp [bne, q2]
    clear HF
    go_wp2_with (first | (go_at_call 126; refine HC.out.mono ?_; rintro ee w3 ⟨rfl, hb3⟩))
    go_ret
    exact ⟨ret_num HF2.out.symm, bel.trans (hb3.mono bel.size)⟩
  have h3 : 0 ≤ y0 ∧ y0 < (l.length : Int) := by
    unfold cellE at h2
    split at h2
    · omega
    · omega
  obtain ⟨h30, h31⟩ := h3
  rw [h2] at HC
  replace HF := Lib.hid (HF.out.trans (if_neg (fun h => h h2)))
  go_upto_region 6 with (first | (go_at_call 126; refine HC.out.mono ?_; rintro ee W1 ⟨rfl, hb1⟩))
  have bel1 := bel.trans (hb1.mono bel.size)
  replace z0 := (hb1.cell (p := ⟨q10, 0, none⟩) (World.block_lt_of_cell? _ _ z0)).trans z0
  replace z1 := (hb1.cell (p := ⟨q10, 1, none⟩) (World.block_lt_of_cell? _ _ z1)).trans z1
  replace z2 := (hb1.cell (p := ⟨q10, 2, none⟩) (World.block_lt_of_cell? _ _ z2)).trans z2
  obtain ⟨bb, oo, hdd, hcell⟩ := (R.below bel1).pick (by omega)
  subst hdd
  have a0 := hcell y0.toNat (by omega) 0 _ rfl
  have a1 := hcell y0.toNat (by omega) 1 _ rfl
  have a2 := hcell y0.toNat (by omega) 2 _ rfl
  have a3 := hcell y0.toNat (by omega) 3 _ rfl
  have a4 := hcell y0.toNat (by omega) 4 _ rfl
  have a5 := hcell y0.toNat (by omega) 5 _ rfl
  have a6 := hcell y0.toNat (by omega) 6 _ rfl
  have a7 := hcell y0.toNat (by omega) 7 _ rfl
  have a8 := hcell y0.toNat (by omega) 8 _ rfl
  have a9 := hcell y0.toNat (by omega) 9 _ rfl
  have a10 := hcell y0.toNat (by omega) 10 _ rfl
  simp only [Nat.add_zero] at a0
  clear hcell h2 HC hb1 bel
  generalize l[y0.toNat]! = c at a0 a1 a2 a3 a4 a5 a6 a7 a8 a9 a10 HF
  obtain ⟨c0, c1, c2, c3, c4, c5, c6, c7, c8, c9, c10, c11, c12, c13, c14, c15, c16⟩ := c
  simp only at a0 a1 a2 a3 a4 a5 a6 a7 a8 a9 a10 HF
  go_upto_region 7 with fail
  have bB := (Below.refl W1.heap.size W1).alloc (Nat.le_refl _) (.cells #[.string c0, .bool c1, .int .i64 c2, .int .u64 (U c3), .int .i64 c4, .slice c5 c6 c7, .slice c8 c9 c10, .slice c11 c12 c13, .int .i64 c14, .int .i64 c15, .int .i64 c16] 86)
  have u2 : (W1.alloc (.cells #[.string c0, .bool c1, .int .i64 c2, .int .u64 (U c3), .int .i64 c4, .slice c5 c6 c7, .slice c8 c9 c10, .slice c11 c12 c13, .int .i64 c14, .int .i64 c15, .int .i64 c16] 86)).cell? ⟨W1.heap.size, 2, none⟩ = some (.int .i64 c2) := by go_simp
  have u3 : (W1.alloc (.cells #[.string c0, .bool c1, .int .i64 c2, .int .u64 (U c3), .int .i64 c4, .slice c5 c6 c7, .slice c8 c9 c10, .slice c11 c12 c13, .int .i64 c14, .int .i64 c15, .int .i64 c16] 86)).cell? ⟨W1.heap.size, 3, none⟩ = some (.int .u64 (U c3)) := by go_simp
  replace z0 := (bB.cell (p := ⟨q10, 0, none⟩) (World.block_lt_of_cell? _ _ z0)).trans z0
  replace z1 := (bB.cell (p := ⟨q10, 1, none⟩) (World.block_lt_of_cell? _ _ z1)).trans z1
  replace z2 := (bB.cell (p := ⟨q10, 2, none⟩) (World.block_lt_of_cell? _ _ z2)).trans z2
  have bel2 := bel1.trans (bB.mono bel1.size)
  clear a0 a1 a2 a3 a4 a5 a6 a7 a8 a9 a10 bB bel1
  generalize W1.alloc (.cells #[.string c0, .bool c1, .int .i64 c2, .int .u64 (U c3), .int .i64 c4, .slice c5 c6 c7, .slice c8 c9 c10, .slice c11 c12 c13, .int .i64 c14, .int .i64 c15, .int .i64 c16] 86) = W2 at u2 u3 z0 z1 z2 bel2 ⊢
  generalize W1.heap.size = q11 at u2 u3 ⊢
  by_cases g1 : c2 = (y2.length : Int)
  rotate_left
  · have HF2 := Lib.hid (HF.out.trans (if_pos (.inl g1)))
    have q2 : (c2 == (y2.length : Int)) = false := beq_eq_false_iff_ne.2 g1
    have q3 : (c2 != (y2.length : Int)) = true := by simp [bne, q2]
    clear HF g1
    go_wp2_with fail
    go_ret
    exact ⟨ret_num HF2.out.symm, bel2⟩
  have q2 : (c2 == (y2.length : Int)) = true := beq_iff_eq.2 g1
  have q3 : (c2 != (y2.length : Int)) = false := by simp [bne, q2]
  by_cases g2 : c3 = y1
  rotate_left
  · have HF2 := Lib.hid (HF.out.trans (if_pos (.inr g2)))
    have q4 : (c3 == y1) = false := beq_eq_false_iff_ne.2 g2
    have q5 : (c3 != y1) = true := by simp [bne, q4]
    clear HF g1 g2
    go_wp2_with fail
    go_ret
    exact ⟨ret_num HF2.out.symm, bel2⟩
  have HF2 := Lib.hid (HF.out.trans (if_neg (fun h => h.elim (fun h => h g1) (fun h => h g2))))
  have q4 : (c3 == y1) = true := beq_iff_eq.2 g2
  have q5 : (c3 != y1) = false := by simp [bne, q4]
  clear HF g1 g2
  go_wp2_with fail
  go_ret
  exact ⟨ret_num HF2.out.symm, bel2⟩
set_option maxRecDepth 100000 in
set_option maxHeartbeats 8000000 in
theorem checkFlop_any (f : Fl) (l : List Ce) (v : Value) (hn : l.length ≤ 1048576) (w : World) (h : RowOf 11 encCe l v w) : Calls Try.prog 85 #[.agg #[.string f.nm, .int .i64 f.cell, .int .i64 f.d, .int .i64 f.en, .bool f.it], v] w fun e w' => e = .returned (.int .i64 (flopE l f)) ∧ Below w.heap.size w w' := by
  obtain ⟨r0, r1, r2, r3, r4⟩ := f
  have h0 := h
  obtain ⟨ad, cp, rfl, hcp, R⟩ := h.open'
  clear h
  go_enter Try.func85, Try.ntmps85
  go_upto_region 1 with fail
  have bA := (Below.refl w.heap.size w).alloc (Nat.le_refl _) (.cells #[.string r0, .int .i64 r1, .int .i64 r2, .int .i64 r3, .bool r4] 84)
  have z1 : (w.alloc (.cells #[.string r0, .int .i64 r1, .int .i64 r2, .int .i64 r3, .bool r4] 84)).cell? ⟨w.heap.size, 1, none⟩ = some (.int .i64 r1) := by go_simp
  have z3 : (w.alloc (.cells #[.string r0, .int .i64 r1, .int .i64 r2, .int .i64 r3, .bool r4] 84)).cell? ⟨w.heap.size, 3, none⟩ = some (.int .i64 r3) := by go_simp

  generalize w.alloc (.cells #[.string r0, .int .i64 r1, .int .i64 r2, .int .i64 r3, .bool r4] 84) = W0 at z1 z3 bA ⊢
  generalize hk : w.heap.size = q10 at z1 z3 ⊢
  have HK := Lib.hid hk
  clear hk
  have bel := bA
  clear bA
  by_cases h1 : r1 = -1
  · have HF := Lib.hid (show flopE l ⟨r0, r1, r2, r3, r4⟩ = 0 from if_pos h1)
    subst h1
    go_wp2_with fail
    go_ret
    exact ⟨ret_num HF.out.symm, bel⟩
  have q1 : (r1 == -1) = false := beq_eq_false_iff_ne.2 h1
  have HF := Lib.hid (show flopE l ⟨r0, r1, r2, r3, r4⟩ = if cellE r1 true l ≠ 0 then cellE r1 true l else if l[r1.toNat]!.ins = 1 ∧ r3 ≠ 1 then 4 else 0 from if_neg h1)
  have HC := Lib.hid (checkCell_any r1 true l _ hn W0 (h0.below bel))
  by_cases h2 : cellE r1 true l = 0
  rotate_left
  · generalize cellE r1 true l = e at h2 HF HC
    have HF2 := Lib.hid (HF.out.trans (if_pos h2))
    have q2 : (e == 0) = false := beq_eq_false_iff_ne.2 h2
    have q3 : (e != 0) = true := by simp [bne, q2]
    clear HF
    go_wp2_with (first | (go_at_call 126; refine HC.out.mono ?_; rintro ee w3 ⟨rfl, hb3⟩))
    go_ret
    exact ⟨ret_num HF2.out.symm, bel.trans (hb3.mono bel.size)⟩
  have h3 : 0 ≤ r1 ∧ r1 < (l.length : Int) := by
    unfold cellE at h2
    split at h2
    · omega
    · omega
  obtain ⟨h30, h31⟩ := h3
  rw [h2] at HC
  replace HF := Lib.hid (HF.out.trans (if_neg (fun h => h h2)))
  go_upto_region 6 with (first | (go_at_call 126; refine HC.out.mono ?_; rintro ee W1 ⟨rfl, hb1⟩))
  have bel1 := bel.trans (hb1.mono bel.size)
  replace z1 := (hb1.cell (p := ⟨q10, 1, none⟩) (World.block_lt_of_cell? _ _ z1)).trans z1
  replace z3 := (hb1.cell (p := ⟨q10, 3, none⟩) (World.block_lt_of_cell? _ _ z3)).trans z3
  obtain ⟨bb, oo, hdd, hcell⟩ := (R.below bel1).pick (by omega)
  subst hdd
  have a2 := hcell r1.toNat (by omega) 2 _ rfl
  clear hcell h2 HC hb1 bel
  generalize l[r1.toNat]!.ins = c2 at a2 HF
  by_cases g1 : c2 = 1
  rotate_left
  · have HF2 := Lib.hid (HF.out.trans (if_neg (fun h => g1 h.1)))
    have q2 : (c2 == 1) = false := beq_eq_false_iff_ne.2 g1
    clear HF
    go_wp2_with fail
    go_ret
    exact ⟨ret_num HF2.out.symm, bel1⟩
  subst g1
  by_cases g2 : r3 = 1
  · have HF2 := Lib.hid (HF.out.trans (if_neg (fun h => h.2 g2)))
    subst g2
    clear HF
    go_wp2_with fail
    go_ret
    exact ⟨ret_num HF2.out.symm, bel1⟩
  have HF2 := Lib.hid (HF.out.trans (if_pos ⟨rfl, g2⟩))
  have q4 : (r3 == 1) = false := beq_eq_false_iff_ne.2 g2
  have q5 : (r3 != 1) = true := by simp [bne, q4]
  clear HF
  go_wp2_with fail
  go_ret
  exact ⟨ret_num HF2.out.symm, bel1⟩
set_option maxRecDepth 100000 in
set_option maxHeartbeats 8000000 in
theorem check_anyN (n : Nl) (v : Value) (sg : SmN n) (l : List Ce) (vl : Value) (hl : l.length ≤ 1048576) (w : World) (hG : NO n v w) (hL : RowOf 11 encCe l vl w) : Calls Try.prog 25 #[v, vl] w fun e w' => e = .returned (.int .i64 (checkN n l)) ∧ Below w.heap.size w w' := by
  have hG0 := hG
  obtain ⟨a, b, c, d0, e, a', b', c', d', e', rfl, hC, hA⟩ := hG.all
  clear hG
  have s3 := sg.flops
  have s4 := sg.gates
  obtain ⟨al, cl, rfl, hcl, RL⟩ := hL.open'
  go_enter Try.func25, Try.ntmps25
  go_upto_region 1 with fail
  have bel := (Below.refl w.heap.size w).alloc (Nat.le_refl _) (.cells #[.slice a n.ins.length a', .slice b n.outN.length b', .slice c n.flops.length c', .slice d0 n.gates.length d', .slice e n.outs.length e'] 27)
  have X := GX.new w (.slice a n.ins.length a') (.slice b n.outN.length b') (.slice c n.flops.length c') (.slice d0 n.gates.length d') (.slice e n.outs.length e') 27
  generalize w.alloc (.cells #[.slice a n.ins.length a', .slice b n.outN.length b', .slice c n.flops.length c', .slice d0 n.gates.length d', .slice e n.outs.length e'] 27) = W0 at bel X ⊢
  generalize hk : w.heap.size = k at X ⊢
  have HK := Lib.hid hk
  clear hk
  obtain ⟨x0, x1, x2, x3, x4⟩ := id X
  have H1 := Lib.hid (form_any n _ sg W0 (hG0.below bel))
  have HX := Lib.hid (fun W (hb : Below W0.heap.size W0 W) => X.below hb)
  have HA := Lib.hid (fun W (hb : Below w.heap.size w W) => hA.below hb)
  have HRL := Lib.hid (fun W (hb : Below w.heap.size w W) => hL.below hb)
  have HSG := Lib.hid sg
  by_cases hf : faultN n = 0
  rotate_left
  · have HF := Lib.hid (show checkN n l = faultN n from if_pos hf)
    have q5 : (faultN n == 0) = false := beq_eq_false_iff_ne.2 hf
    have q6 : (faultN n != 0) = true := by simp [bne, q5]
    clear hf hG0 hA hC
    go_wp2_with (first | (go_at_call 18; refine H1.out.mono ?_; rintro ee w1 ⟨rfl, hb1⟩))
    go_ret
    exact ⟨ret_num HF.out.symm, bel.trans (hb1.mono bel.size)⟩
  have HN := Lib.hid (show checkN n l = if firstE (gateE l) n.gates ≠ 0 then firstE (gateE l) n.gates else firstE (flopE l) n.flops from if_neg (fun h => h hf))
  rw [hf] at H1
  go_upto_region 4 with (first | (go_at_call 18; refine H1.out.mono ?_; rintro ee W1 ⟨rfl, hb1⟩))
  clear x0 x1 x2 x3 x4 X hA hG0 hC H1 hL RL sg hf
  have HBEL := Lib.hid bel
  clear bel
  obtain ⟨x0, x1, x2, x3, x4⟩ := HX.out _ hb1
  go_upto_block 0 with fail
  clear x0 x1 x2 x3 x4
  go_wp2_with fail
  go_loopw [20] (fun i wr => ∃ j : Nat, j ≤ n.gates.length ∧ i = .int .i64 (j : Int) ∧ Hid (firstE (gateE l) n.gates = firstE (gateE l) (n.gates.drop j)) ∧ Hid (Below W0.heap.size W0 wr)) (fun i _ => n.gates.length - (intOf i).toNat)
  case atStart => exact ⟨0, Nat.zero_le _, rfl, Lib.hid rfl, Lib.hid hb1⟩
  case round =>
    clear hb1
    obtain ⟨j, hj, rfl, hE, hB⟩ := hrel
    rename World => WG
    have hj0 : (0 : Int) ≤ (j : Int) := by omega
    have hBw := HBEL.out.trans (hB.out.mono HBEL.out.size)
    by_cases hlt : j < n.gates.length
    · have hji : (j : Int) < (n.gates.length : Int) := by omega
      have HD := Lib.hid (hE.out.trans (firstE_drop (gateE l) hlt))
      have hg6 := HSG.out.gateI j hlt
      obtain ⟨bb, oo, hdd, hcell⟩ := (HA.out _ hBw).gates.pick (by omega)
      subst hdd
      have c0 := hcell j hlt 0 _ rfl
      have c1 := hcell j hlt 1 _ rfl
      have c2 := hcell j hlt 2 _ rfl
      simp only [Nat.add_zero] at c0
      clear hcell
      have HC0 := Lib.hid (fun W h => checkGate_any n.gates[j]! l (.slice al l.length cl) hl hg6 W h)
      clear hE
      generalize n.gates[j]! = y at c0 c1 c2 HD HC0 hg6
      obtain ⟨y0, y1, y2, y3, y4⟩ := y
      simp only at c0 c1 c2 HC0 hg6
      have hB5 := hB.out
      clear hB
      go_upto_region 7 with fail
      have bA := (Below.refl WG.heap.size WG).alloc (Nat.le_refl _) (.cells #[.int .i64 y0, .int .u64 (U y1), .slice y3 y2.length y4] 82)
      have z0 : (WG.alloc (.cells #[.int .i64 y0, .int .u64 (U y1), .slice y3 y2.length y4] 82)).cell? ⟨WG.heap.size, 0, none⟩ = some (.int .i64 y0) := by go_simp
      have z1 : (WG.alloc (.cells #[.int .i64 y0, .int .u64 (U y1), .slice y3 y2.length y4] 82)).cell? ⟨WG.heap.size, 1, none⟩ = some (.int .u64 (U y1)) := by go_simp
      have z2 : (WG.alloc (.cells #[.int .i64 y0, .int .u64 (U y1), .slice y3 y2.length y4] 82)).cell? ⟨WG.heap.size, 2, none⟩ = some (.slice y3 y2.length y4) := by go_simp

      generalize WG.alloc (.cells #[.int .i64 y0, .int .u64 (U y1), .slice y3 y2.length y4] 82) = WH at z0 z1 z2 bA ⊢
      generalize WG.heap.size = q10 at z0 z1 z2 ⊢
      have hB6 := hB5.trans (bA.mono hB5.size)
      have hBw6 := HBEL.out.trans (hB6.mono HBEL.out.size)
      clear c0 c1 c2 bA hB5 hBw
      have HC := Lib.hid (HC0.out WH (HRL.out _ hBw6))
      clear HC0
      generalize gateE l ⟨y0, y1, y2, y3, y4⟩ = ge at HD HC
      by_cases hge : ge = 0
      · subst hge
        have HE2 := Lib.hid (show firstE (gateE l) n.gates = firstE (gateE l) (n.gates.drop (j + 1)) by rw [HD.out]; rfl)
        clear HD
        go_wp2_with (first | (go_at_call 84; refine HC.out.mono ?_; rintro ee w3 ⟨rfl, hb3⟩; have HB7 := Lib.hid (hB6.trans (hb3.mono hB6.size))))
        go_roundw
        case rel => exact ⟨j + 1, by omega, by go_num, HE2, HB7⟩
        all_goals first | done | (simp [intOf]; done) | (simp [intOf]; omega)
      · have q5 : (ge == 0) = false := beq_eq_false_iff_ne.2 hge
        have q6 : (ge != 0) = true := by simp [bne, q5]
        have HF := Lib.hid (show checkN n l = ge by
          have := HD.out
          rw [if_pos hge] at this
          rw [HN.out, this, if_pos hge])
        clear HD hge
        go_wp2_with (first | (go_at_call 84; refine HC.out.mono ?_; rintro ee w3 ⟨rfl, hb3⟩))
        go_ret
        exact ⟨ret_num HF.out.symm, hBw6.trans (hb3.mono hBw6.size)⟩
    · have hji : ¬ (j : Int) < (n.gates.length : Int) := by omega
      have HN2 := Lib.hid (show checkN n l = firstE (flopE l) n.flops by rw [HN.out, hE.out, List.drop_of_length_le (by omega)]; rfl)
      have hB5 := hB.out
      clear hB hE hBw
      obtain ⟨x0, x1, x2, x3, x4⟩ := HX.out _ hB5
      go_upto_block 2 with fail
      clear x0 x1 x2 x3 x4
      go_wp2_with fail
      go_loopw [34] (fun i wr => ∃ j : Nat, j ≤ n.flops.length ∧ i = .int .i64 (j : Int) ∧ Hid (firstE (flopE l) n.flops = firstE (flopE l) (n.flops.drop j)) ∧ Hid (Below W0.heap.size W0 wr)) (fun i _ => n.flops.length - (intOf i).toNat)
      case atStart => exact ⟨0, Nat.zero_le _, rfl, Lib.hid rfl, Lib.hid hB5⟩
      case round =>
        clear hB5 hlt hji
        obtain ⟨j, hj, rfl, hE, hB⟩ := hrel
        rename World => WF
        have hj0 : (0 : Int) ≤ (j : Int) := by omega
        have hBw := HBEL.out.trans (hB.out.mono HBEL.out.size)
        by_cases hlt : j < n.flops.length
        · have hji : (j : Int) < (n.flops.length : Int) := by omega
          have HD := Lib.hid (hE.out.trans (firstE_drop (flopE l) hlt))
          obtain ⟨bb, oo, hdd, hcell⟩ := (HA.out _ hBw).flops.pick (by omega)
          subst hdd
          have c0 := hcell j hlt 0 _ rfl
          have c1 := hcell j hlt 1 _ rfl
          have c2 := hcell j hlt 2 _ rfl
          have c3 := hcell j hlt 3 _ rfl
          have c4 := hcell j hlt 4 _ rfl
          simp only [Nat.add_zero] at c0
          clear hcell
          have HC0 := Lib.hid (fun W h => checkFlop_any n.flops[j]! l (.slice al l.length cl) hl W h)
          clear hE
          generalize n.flops[j]! = r at c0 c1 c2 c3 c4 HD HC0
          obtain ⟨r0, r1, r2, r3, r4⟩ := r
          simp only at c0 c1 c2 c3 c4 HC0
          have hB5 := hB.out
          clear hB
          go_upto_region 14 with fail
          have bA := (Below.refl WF.heap.size WF).alloc (Nat.le_refl _) (.cells #[.string r0, .int .i64 r1, .int .i64 r2, .int .i64 r3, .bool r4] 84)
          have z0 : (WF.alloc (.cells #[.string r0, .int .i64 r1, .int .i64 r2, .int .i64 r3, .bool r4] 84)).cell? ⟨WF.heap.size, 0, none⟩ = some (.string r0) := by go_simp
          have z1 : (WF.alloc (.cells #[.string r0, .int .i64 r1, .int .i64 r2, .int .i64 r3, .bool r4] 84)).cell? ⟨WF.heap.size, 1, none⟩ = some (.int .i64 r1) := by go_simp
          have z2 : (WF.alloc (.cells #[.string r0, .int .i64 r1, .int .i64 r2, .int .i64 r3, .bool r4] 84)).cell? ⟨WF.heap.size, 2, none⟩ = some (.int .i64 r2) := by go_simp
          have z3 : (WF.alloc (.cells #[.string r0, .int .i64 r1, .int .i64 r2, .int .i64 r3, .bool r4] 84)).cell? ⟨WF.heap.size, 3, none⟩ = some (.int .i64 r3) := by go_simp
          have z4 : (WF.alloc (.cells #[.string r0, .int .i64 r1, .int .i64 r2, .int .i64 r3, .bool r4] 84)).cell? ⟨WF.heap.size, 4, none⟩ = some (.bool r4) := by go_simp

          generalize WF.alloc (.cells #[.string r0, .int .i64 r1, .int .i64 r2, .int .i64 r3, .bool r4] 84) = WS at z0 z1 z2 z3 z4 bA ⊢
          generalize WF.heap.size = q10 at z0 z1 z2 z3 z4 ⊢
          have hB6 := hB5.trans (bA.mono hB5.size)
          have hBw6 := HBEL.out.trans (hB6.mono HBEL.out.size)
          clear c0 c1 c2 c3 c4 bA hB5 hBw
          have HC := Lib.hid (HC0.out WS (HRL.out _ hBw6))
          clear HC0
          generalize flopE l ⟨r0, r1, r2, r3, r4⟩ = ge at HD HC
          by_cases hge : ge = 0
          · subst hge
            have HE2 := Lib.hid (show firstE (flopE l) n.flops = firstE (flopE l) (n.flops.drop (j + 1)) by rw [HD.out]; rfl)
            clear HD
            go_wp2_with (first | (go_at_call 85; refine HC.out.mono ?_; rintro ee w3 ⟨rfl, hb3⟩; have HB7 := Lib.hid (hB6.trans (hb3.mono hB6.size))))
            go_roundw
            case rel => exact ⟨j + 1, by omega, by go_num, HE2, HB7⟩
            all_goals first | done | (simp [intOf]; done) | (simp [intOf]; omega)
          · have q5 : (ge == 0) = false := beq_eq_false_iff_ne.2 hge
            have q6 : (ge != 0) = true := by simp [bne, q5]
            have HF := Lib.hid (show checkN n l = ge by
              have := HD.out
              rw [if_pos hge] at this
              rw [HN2.out, this])
            clear HD hge
            go_wp2_with (first | (go_at_call 85; refine HC.out.mono ?_; rintro ee w3 ⟨rfl, hb3⟩))
            go_ret
            exact ⟨ret_num HF.out.symm, hBw6.trans (hb3.mono hBw6.size)⟩
        · have hji : ¬ (j : Int) < (n.flops.length : Int) := by omega
          have HF := Lib.hid (show checkN n l = 0 by rw [HN2.out, hE.out, List.drop_of_length_le (by omega)]; rfl)
          go_wp2_with fail
          go_ret
          exact ⟨ret_num HF.out.symm, hBw⟩
end Go.Proofs.Ytimojbjamfckmaa
