/- The values of nodes as words of 64 bits, and the program's value of a literal. No condition.
   The program's values: the words of all nodes of a valid graph. Conditions: the graph is valid, there is a word for each input and register.
   The program's sampled: the words of the outputs and of what the registers take. Condition: the graph is valid, there is a word for each node.
   The program's Values and Words: what they answer. Conditions: rows of at most 4,000,000,000 elements. -/
import Derived.Test.YtcpifmhcebfglaaGpL
import Derived.Test.YtcpifmhcebfglaaGlVd
import Derived.Test.YtcpifmhcebfglaaWord
namespace Go.Proofs.Ytcpifmhcebfglaa
open Go Go.RowKit Go.Sort
set_option linter.unusedVariables false
abbrev encW : BitVec 64 → List Value := fun b => [.int .u64 (U b)]
theorem lenW (x : BitVec 64) : (encW x).length = 1 := rfl
def litW (V : List (BitVec 64)) (l : Int) : BitVec 64 := if l % 2 = 1 then ~~~ V[ndL l]! else V[ndL l]!
def wAdd (V : List (BitVec 64)) (p : Int × Int) : List (BitVec 64) := V ++ [litW V p.1 &&& litW V p.2]
def valsW (g : Gr) (x : List (BitVec 64)) (j : Nat) : List (BitVec 64) := (g.ands.take j).foldl wAdd x
theorem valsW_succ (g : Gr) (x : List (BitVec 64)) (j : Nat) (hj : j < g.ands.length) : valsW g x (j + 1) = wAdd (valsW g x j) g.ands[j]! := by unfold valsW; rw [tk1 g.ands hj, List.foldl_append]; rfl
theorem valsW_len (g : Gr) (x : List (BitVec 64)) : ∀ j, j ≤ g.ands.length → (valsW g x j).length = x.length + j
  | 0, _ => rfl
  | j + 1, h => by rw [valsW_succ g x j (by omega)]; unfold wAdd; rw [List.length_append, valsW_len g x j (by omega)]; rfl
theorem colB_U (k : Nat) (b : BitVec 64) : colB k (U b) = b.getLsbD k := by
  unfold colB U
  rw [show (2 : Int) ^ k = ((2 ^ k : Nat) : Int) by push_cast; rfl]
  rw [BitVec.getLsbD, Nat.testBit_eq_decide_div_mod_eq]
  have h : ((b.toNat : Int) / ((2 ^ k : Nat) : Int) % 2 = 1) ↔ b.toNat / 2 ^ k % 2 = 1 := by
    rw [← Int.natCast_ediv]
    omega
  exact decide_eq_decide.2 h
theorem lane_get {V : List (BitVec 64)} (k i : Nat) (hi : i < V.length) : (V.map (·.getLsbD k))[i]! = V[i]!.getLsbD k := by
  rw [getElem!_pos _ i (by simpa using hi), getElem!_pos V i hi, List.getElem_map]
theorem lit_lane (V : List (BitVec 64)) (k : Nat) (hk : k < 64) (l : Int) (hl : ndL l < V.length) : (litW V l).getLsbD k = litV (V.map (·.getLsbD k)) l := by
  unfold litW litV
  rw [lane_get k _ hl]
  by_cases h : l % 2 = 1
  · rw [if_pos h, decide_eq_true h, BitVec.getLsbD_not]
    simp [hk]
  · rw [if_neg h, decide_eq_false h]
    simp
theorem lit_in {g : Gr} (vg : VG g) {c : Nat} (hc : c < g.ands.length) : ndL g.ands[c]!.1 < n0L g + c ∧ ndL g.ands[c]!.2 < n0L g + c := by
  have h := vg.lits c hc
  have hb : baseL g = 2 * (1 + (g.ins.length : Int) + (g.regs.length : Int)) := rfl
  unfold ndL n0L
  omega
theorem vals_lane (g : Gr) (vg : VG g) (x : List (BitVec 64)) (hx : x.length = n0L g) (k : Nat) (hk : k < 64) : ∀ j, j ≤ g.ands.length → (valsW g x j).map (·.getLsbD k) = (g.ands.take j).foldl vAdd (x.map (·.getLsbD k))
  | 0, _ => rfl
  | j + 1, h => by
    have ih := vals_lane g vg x hx k hk j (by omega)
    have hl := valsW_len g x j (by omega)
    obtain ⟨q1, q2⟩ := lit_in vg (c := j) (by omega)
    rw [valsW_succ g x j (by omega), tk1 g.ands (by omega), List.foldl_append]
    unfold wAdd
    rw [List.map_append]
    show _ = vAdd _ _
    rw [← ih]
    unfold vAdd
    congr 1
    show [(litW (valsW g x j) _ &&& litW (valsW g x j) _).getLsbD k] = _
    rw [BitVec.getLsbD_and, lit_lane _ k hk _ (by omega), lit_lane _ k hk _ (by omega)]
theorem valsW_G (g : Gr) (vg : VG g) (x : List (BitVec 64)) (hx : x.length = n0L g) (k : Nat) (hk : k < 64) : (valsW g x g.ands.length).map (·.getLsbD k) = valsG g (x.map (·.getLsbD k)) := by
  have := vals_lane g vg x hx k hk g.ands.length (Nat.le_refl _)
  rwa [List.take_of_length_le (Nat.le_refl _)] at this
/-- words as numbers -/
theorem isW_map {L : List Int} (h : isW L) : ∃ V : List (BitVec 64), L = V.map U := by
  refine ⟨L.map (fun n => BitVec.ofInt 64 n), ?_⟩
  rw [List.map_map]
  conv => lhs; rw [← List.map_id L]
  apply List.map_congr_left
  intro n hn
  have := h n hn
  show n = ((BitVec.ofInt 64 n).toNat : Int)
  rw [BitVec.toNat_ofInt]
  omega
theorem isW_U (V : List (BitVec 64)) : isW (V.map U) := by
  intro n hn
  obtain ⟨b, _, rfl⟩ := List.mem_map.1 hn
  have := b.isLt
  unfold U; omega
theorem rowAt_U {V : List (BitVec 64)} {ad : Option Addr} {w : World} : RowAt 1 encU (V.map U) ad w ↔ RowAt 1 encW V ad w := by
  unfold RowAt
  rw [List.length_map]
  have e : ∀ j, j < V.length → encU (V.map U)[j]! = encW V[j]! := fun j hj => by
    rw [getElem!_pos (V.map U) j (by simpa using hj), getElem!_pos V j hj, List.getElem_map]
  constructor
  · rintro (h | ⟨b, o, h1, h2⟩)
    · exact .inl h
    · exact .inr ⟨b, o, h1, fun j hj c x hx => h2 j hj c x (by rw [e j hj]; exact hx)⟩
  · rintro (h | ⟨b, o, h1, h2⟩)
    · exact .inl h
    · exact .inr ⟨b, o, h1, fun j hj c x hx => h2 j hj c x (by rw [← e j hj]; exact hx)⟩
theorem row_U {V : List (BitVec 64)} {v : Value} {w : World} (h : RowOf 1 encW V v w) : RowOf 1 encU (V.map U) v w := by
  obtain ⟨ad, cp, rfl, h1, h2⟩ := h.open'
  exact ⟨ad, cp, by rw [List.length_map], by rw [List.length_map]; exact h1, rowAt_U.2 h2⟩
theorem rowC_W {V : List (BitVec 64)} {v : Value} {w : World} (h : RowC (fun n => Value.int .u64 n) (V.map U) v w) : RowC (fun b => Value.int .u64 (U b)) V v w := by
  obtain ⟨ad, cp, rfl, h1, h2, h3⟩ := h
  exact ⟨ad, cp, by rw [List.length_map], by rw [List.length_map] at h1; exact h1, h2, rowAt_U.1 h3⟩
theorem notU (a : BitVec 64) : bits BinOp.xor IntKind.u64 18446744073709551615 (U a) = U (~~~ a) := by
  have h := U_xor (BitVec.allOnes 64) a
  rw [show U (BitVec.allOnes 64) = 18446744073709551615 from rfl, BitVec.allOnes_xor] at h
  exact h
set_option maxRecDepth 100000 in
set_option maxHeartbeats 2000000 in
theorem value_any (V : List (BitVec 64)) (v : Value) (l : Int) (h0 : 0 ≤ l) (hl : ndL l < V.length) (w : World) (hR : RowOf 1 encW V v w) : Calls Try.prog 150 #[v, .int .i64 l] w fun e w' => e = .returned (.int .u64 (U (litW V l))) ∧ Below w.heap.size w w' := by
  obtain ⟨ad, cp, rfl, hcp, R⟩ := hR.open'
  have R1 := Lib.hid (fun W (hb : Below w.heap.size w W) => R.below hb)
  obtain ⟨bb, oo, hdd, hcell⟩ := R.pick (by omega)
  subst hdd
  have c0 := hcell (ndL l) hl 0 _ rfl
  simp only [Nat.mul_one, Nat.add_zero] at c0
  have hlt := World.block_lt_of_cell? w _ c0
  rw [show ndL l = (l / 2).toNat from rfl] at c0
  clear hcell R
  have m1 : 0 ≤ l / 2 := by omega
  have m2 : l / 2 < (V.length : Int) := by unfold ndL at hl; omega
  have N1 := Lib.hid (fun W => show Calls Try.prog 86 #[.int .i64 l] W fun e w' => e = .returned (.int .i64 (l / 2)) ∧ Below W.heap.size W w' by have := node_any l W; rwa [show nodeL l = l / 2 from if_pos h0] at this)
  have N2 := Lib.hid (fun W => inv_any l W)
  have HL : Hid (litW V l = if l % 2 = 1 then ~~~ V[(l / 2).toNat]! else V[(l / 2).toNat]!) := Lib.hid rfl
  generalize V[(l / 2).toNat]! = b at c0 HL
  have hx := notU b
  go_enter Try.func150, Try.ntmps150
  by_cases hi : l % 2 = 1
  · have hv : invL l = true := by unfold invL; rw [decide_eq_true h0, decide_eq_true hi]; rfl
    rw [hv] at N2
    rw [if_pos hi] at HL
    clear hv hi hl
    go_wp2_with (first | (go_at_call 183; refine (N2.out _).mono ?_; rintro ee w1 ⟨rfl, hb1⟩; have c1 := (hb1.cell (p := ⟨bb, oo + (l / 2).toNat, none⟩) hlt).trans c0; have hlt1 := World.block_lt_of_cell? w1 _ c1) | (go_at_call 86; refine (N1.out _).mono ?_; rintro ee w2 ⟨rfl, hb2⟩; have c2 := (hb2.cell (p := ⟨bb, oo + (l / 2).toNat, none⟩) hlt1).trans c1))
    go_ret
    exact ⟨by rw [HL.out, ← notU b]; rfl, hb1.trans (hb2.mono hb1.size)⟩
  · have hv : invL l = false := by unfold invL; rw [decide_eq_false hi, Bool.and_false]
    rw [hv] at N2
    rw [if_neg hi] at HL
    clear hv hi hl
    go_wp2_with (first | (go_at_call 183; refine (N2.out _).mono ?_; rintro ee w1 ⟨rfl, hb1⟩; have c1 := (hb1.cell (p := ⟨bb, oo + (l / 2).toNat, none⟩) hlt).trans c0; have hlt1 := World.block_lt_of_cell? w1 _ c1) | (go_at_call 86; refine (N1.out _).mono ?_; rintro ee w2 ⟨rfl, hb2⟩; have c2 := (hb2.cell (p := ⟨bb, oo + (l / 2).toNat, none⟩) hlt1).trans c1))
    go_ret
    exact ⟨by rw [HL.out]; rfl, hb1.trans (hb2.mono hb1.size)⟩
end Go.Proofs.Ytcpifmhcebfglaa
namespace Go.Proofs.Ytcpifmhcebfglaa
open Go Go.RowKit Go.Sort
set_option linter.unusedVariables false

set_option maxRecDepth 100000 in
set_option maxHeartbeats 8000000 in
theorem values_any (g : Gr) (v : Value) (ins st : List (BitVec 64)) (vi vs : Value) (vg : VG g) (sg : Small g) (hi1 : ins.length = g.ins.length) (hs1 : st.length = g.regs.length) (w : World) (hG : GO g v w) (h1 : RowC (fun b => Value.int .u64 (U b)) ins vi w) (h2 : RowC (fun b => Value.int .u64 (U b)) st vs w) : Calls Try.prog 73 #[v, vi, vs] w fun e w' => ∃ u, e = .returned u ∧ OwnK w.heap.size 51 1 encW w' u (valsW g (0#64 :: (ins ++ st)) g.ands.length) ∧ Below w.heap.size w w' := by
  have hG0 := hG
  obtain ⟨a, b, c, d0, e, a', b', c', d', e', rfl, hC, hA⟩ := hG.all
  clear hG
  obtain ⟨ai, ci, rfl, hic, hin, hir⟩ := h1
  obtain ⟨az, cz, rfl, hsc, hsn, hsr⟩ := h2
  have n1 := vg.ins
  have n2 := vg.regs
  have n3 := vg.ands
  have hli : ins.length ≤ 128 := by omega
  have hls : st.length ≤ 288 := by omega
  have HI1 := Lib.hid hi1
  have HS1 := Lib.hid hs1
  clear hi1 hs1
  go_enter Try.func73, Try.ntmps73
  go_upto_region 1 with fail
  have bel := (Below.refl w.heap.size w).alloc (Nat.le_refl _) (.cells #[.slice a g.ins.length a', .slice b g.outN.length b', .slice c g.regs.length c', .slice d0 g.ands.length d', .slice e g.outs.length e'] 31)
  have X := GX.new w (.slice a g.ins.length a') (.slice b g.outN.length b') (.slice c g.regs.length c') (.slice d0 g.ands.length d') (.slice e g.outs.length e') 31
  generalize w.alloc (.cells #[.slice a g.ins.length a', .slice b g.outN.length b', .slice c g.regs.length c', .slice d0 g.ands.length d', .slice e g.outs.length e'] 31) = W0 at bel X ⊢
  generalize hk : w.heap.size = k at X ⊢
  have HK := Lib.hid hk
  clear hk
  obtain ⟨x0, x1, x2, x3, x4⟩ := id X
  have H1 := Lib.hid (nodes_ok g _ W0 sg (hG0.below bel))
  have hmk : ∀ W : World, (Instr.makeSlice 46 (.int .i64 1) (.int .i64 (1 + (g.ins.length : Int) + (g.regs.length : Int) + (g.ands.length : Int)))).run Try.prog W = .ok (.slice (some ⟨W.heap.size, 0, none⟩) 1 (n0L g + g.ands.length)) (W.alloc (.cells (madeCells #[.int .u64 0] (n0L g + g.ands.length)) 51)) := by
    intro W
    have := mkU W 1 (n0L g + g.ands.length) (by unfold n0L; omega) (by unfold n0L; omega)
    rwa [show ((1 : Nat) : Int) = 1 from rfl, show (((n0L g + g.ands.length : Nat)) : Int) = 1 + (g.ins.length : Int) + (g.regs.length : Int) + (g.ands.length : Int) by unfold n0L; omega] at this
  go_upto_region 2 with (first | (go_at_call 138; refine H1.out.mono ?_; rintro ee W1 ⟨rfl, hb1⟩))
  have bel1 := bel.trans (hb1.mono bel.size)
  have X1 := X.below hb1
  have O0 : OwnK W1.heap.size 51 1 encW (W1.alloc (.cells (madeCells #[.int .u64 0] (n0L g + g.ands.length)) 51)) (.slice (some ⟨W1.heap.size, 0, none⟩) 1 (n0L g + g.ands.length)) [0#64] := own_made (f := fun b : BitVec 64 => Value.int .u64 (U b)) W1 W1.heap.size (Nat.le_refl _) 51 0#64 1 _ (by unfold n0L; omega) (by unfold maxLen n0L; omega)
  have bA := (Below.refl W1.heap.size W1).alloc (Nat.le_refl _) (.cells (madeCells #[.int .u64 0] (n0L g + g.ands.length)) 51)
  have HX := Lib.hid (fun W (hb : Below W1.heap.size W1 W) => X1.below hb)
  have HA := Lib.hid (fun W (hb : Below W1.heap.size W1 W) => hA.ands.below (bel1.trans (hb.mono bel1.size)))
  have HI := Lib.hid (fun W (hb : Below W1.heap.size W1 W) => hir.below (bel1.trans (hb.mono bel1.size)))
  have HS := Lib.hid (fun W (hb : Below W1.heap.size W1 W) => hsr.below (bel1.trans (hb.mono bel1.size)))
  have HBEL := Lib.hid bel1
  have hLx : (0#64 :: (ins ++ st)).length = n0L g := by simp only [List.length_cons, List.length_append, HI1.out, HS1.out]; unfold n0L; omega
  have HN0 : Hid (n0L g = 1 + g.ins.length + g.regs.length) := Lib.hid rfl
  clear x0 x1 x2 x3 x4 X X1 H1 hmk hb1 bel bel1 hA hG0 hC hir hsr HI1 HS1
  generalize W1.alloc (.cells (madeCells #[.int .u64 0] (n0L g + g.ands.length)) 51) = W2 at O0 bA ⊢
  obtain ⟨i0, ihi, ihz, ihs, ihb⟩ := infoMU_parts
  go_cut [7] (fun s7 wx => OwnK W1.heap.size 51 1 encW wx s7 (0#64 :: (ins ++ st)) ∧ Below W1.heap.size W1 wx)
  case first =>
    have hs2 := bA.size
    have HI2 := HI.out _ bA
    go_wp2_with (at_builtin; refine wpList_append_row2 (f := fun b : BitVec 64 => Value.int .u64 (U b)) (fun _ => rfl) rfl _ _ 46 rfl (W1.heap.size) 51 i0 (.int .u64 0) 8 Try.underlying46 ihi ihz ihs ihb (by decide) _ ([0#64]) rfl O0.own _ ins _ rfl hin hic HI2 (by unfold maxLen; first | omega | (simp; omega)) (by first | omega | (simp; omega)) (by first | omega | (simp; omega)) ?_)
    intro v5 w5 O5 hb5 hg5
    obtain ⟨ad5, cp5, hv5⟩ := O5.ownK.slice
    subst hv5
    have B5 := bA.trans hb5
    have hs5 := B5.size
    have HS2 := HS.out _ B5
    go_wp2_with (at_builtin; refine wpList_append_row2 (f := fun b : BitVec 64 => Value.int .u64 (U b)) (fun _ => rfl) rfl _ _ 46 rfl (W1.heap.size) 51 i0 (.int .u64 0) 8 Try.underlying46 ihi ihz ihs ihb (by decide) _ ([0#64] ++ ins) rfl O5 _ st _ rfl hsn hsc HS2 (by unfold maxLen; first | omega | (simp; omega)) (by first | omega | (simp; omega)) (by first | omega | (simp; omega)) ?_)
    intro v6 w6 O6 hb6 hg6
    have O7 : OwnK W1.heap.size 51 1 encW w6 v6 (0#64 :: (ins ++ st)) := by simpa using O6.ownK
    have B6 := B5.trans hb6
    clear O5 O6 hb5 hb6 hg5 hg6
    go_wp2_with fail
    go_meet
    exact ⟨O7, B6⟩
  case rest =>
  obtain ⟨O1, B1⟩ := hcut
  clear O0 bA
  obtain ⟨x0, x1, x2, x3, x4⟩ := HX.out _ B1
  go_upto_block 0 with fail
  clear x0 x1 x2 x3 x4
  generalize hxx : 0#64 :: (ins ++ st) = x at O1 hLx
  have HXX := Lib.hid hxx
  clear hxx
  go_wp2_with fail
  go_loopw [7, 21] (fun u i wr => ∃ j : Nat, j ≤ g.ands.length ∧ i = .int .i64 (j : Int) ∧ Hid (OwnK W1.heap.size 51 1 encW wr u (valsW g x j)) ∧ Hid (Below W1.heap.size W1 wr)) (fun _ i _ => g.ands.length - (intOf i).toNat)
  case atStart => exact ⟨0, Nat.zero_le _, rfl, Lib.hid O1, Lib.hid B1⟩
  case round =>
    clear O1 B1
    obtain ⟨j, hj, rfl, hO, hB⟩ := hrel
    rename World => WR
    have hj0 : (0 : Int) ≤ (j : Int) := by omega
    by_cases hlt : j < g.ands.length
    · have hji : (j : Int) < (g.ands.length : Int) := by omega
      have HL := Lib.hid (valsW_len g x j hj)
      obtain ⟨ad, cp, hv⟩ := hO.out.slice
      subst hv
      have hlit := vg.lits j hlt
      have hlin := lit_in vg hlt
      have HT := Lib.hid (show valsW g x (j + 1) = valsW g x j ++ [litW (valsW g x j) g.ands[j]!.1 &&& litW (valsW g x j) g.ands[j]!.2] from valsW_succ g x j hlt)
      obtain ⟨bb, oo, hdd, hcell⟩ := (HA.out _ hB.out).pick (by omega)
      subst hdd
      have c0 := hcell j hlt 0 _ rfl
      have c1 := hcell j hlt 1 _ rfl
      simp only [Nat.add_zero] at c0
      clear hcell
      have hlx := hLx
      generalize valsW g x j = V at hO HL HT
      generalize g.ands[j]! = p at c0 c1 HT hlit hlin
      obtain ⟨p1, p2⟩ := p
      simp only at c0 c1 hlit HT hlin
      have hVL : V.length ≤ 5000 := by have := HL.out; have := HN0.out; omega
      go_upto_region 6 with fail
      have bA := (Below.refl WR.heap.size WR).alloc (Nat.le_refl _) (.cells #[.int .i64 p1, .int .i64 p2] 137)
      have y0 : (WR.alloc (.cells #[.int .i64 p1, .int .i64 p2] 137)).cell? ⟨WR.heap.size, 0, none⟩ = some (.int .i64 p1) := by go_simp
      have y1 : (WR.alloc (.cells #[.int .i64 p1, .int .i64 p2] 137)).cell? ⟨WR.heap.size, 1, none⟩ = some (.int .i64 p2) := by go_simp
      have O2 := hO.out.below bA
      have B2 := hB.out.trans (bA.mono hB.out.size)
      clear bA c0 c1 hO hB
      generalize WR.alloc (.cells #[.int .i64 p1, .int .i64 p2] 137) = WS at O2 B2 y0 y1 ⊢
      generalize WR.heap.size = q10 at y0 y1 ⊢
      have N1 := Lib.hid (fun W (hb : Below WS.heap.size WS W) => value_any V _ p1 hlit.1.1 (by have := HL.out; omega) W ((O2.row lenW).below hb))
      have N2 := Lib.hid (fun W (hb : Below WS.heap.size WS W) => value_any V _ p2 hlit.2.1 (by have := HL.out; omega) W ((O2.row lenW).below hb))
      clear hlit hlin hlx
      generalize litW V p1 = a1 at N1 HT
      generalize litW V p2 = a2 at N2 HT
      have HBS := Lib.hid (fun d os => below_regrown WS d os)
      have g0 := cell_regrown y0
      have g1 := cell_regrown y1
      clear y0 y1
      refine wp_region_rel 11 (by kernel_rfl) (by kernel_rfl) ?_
      simp only [List.take_succ_cons, List.take_zero, List.drop_succ_cons, List.drop_zero]
      (refine rel_fix0 (fun K hK => ?_); go_simp; refine hK _ ?_; clear hK K)
      (refine rel_fix0 (fun K hK => ?_); go_simp; refine hK _ ?_; clear hK K)
      (refine rel_fix0 (fun K hK => ?_); go_simp; refine hK _ ?_; clear hK K)
      (refine rel_fix0 (fun K hK => ?_); go_simp; refine hK _ ?_; clear hK K)
      (refine rel_fix0 (fun K hK => ?_); go_simp; apply Exists.intro; refine ⟨fun _ _ => ?_, hK _ ?_⟩; (with_reducible exact ret_fix (N1.out _ (HBS.out _ _))); clear hK K)
      (refine rel_fix0 (fun K hK => ?_); go_simp; refine hK _ ?_; clear hK K)
      (refine rel_fix0 (fun K hK => ?_); go_simp; refine hK _ ?_; clear hK K)
      (refine rel_fix0 (fun K hK => ?_); go_simp; refine hK _ ?_; clear hK K)
      (refine rel_fix0 (fun K hK => ?_); go_simp; apply Exists.intro; refine ⟨fun _ _ => ?_, hK _ ?_⟩; (with_reducible exact ret_fix (N2.out _ (HBS.out _ _))); clear hK K)
      (refine rel_fix0 (fun K hK => ?_); go_simp; refine hK _ ?_; clear hK K)
      refine rel_fact [] (FK [.int .u64 (U (a1 &&& a2))]) 35 rfl (by simp [Act.put]) (fk_sta _) (by rfl) (by kernel_rfl) (by kernel_rfl) ?_ ?_
      · intro d os
        simp only [relAll]
        go_simp
        refine ⟨⟨_, rfl, fun q u hq => ?_⟩, (Below.refl _ _).alloc (Nat.le_of_eq (by simp)) _⟩
        match q, hq with
        | 0, hq => cases hq; go_simp
      refine rel_nil ?_
      intro d os
      simp only [relAll]
      rintro v35 ⟨r35, rfl, hy⟩
      have hb5 := HBS.out d os
      have O7 := O2.below hb5
      have B7 := B2.trans (hb5.mono B2.size)
      have hs7 := B7.size
      clear g0 g1 HBS O2 B2 hb5 N1 N2
      generalize grow (redrawn WS d) os = W7 at hy O7 B7 hs7 ⊢
      refine wpList_append_one (enc := encW) (k := 1) (fun _ => rfl) (by decide) (fun x u hu => by simp at hu; rcases hu with rfl; rfl) rfl _ _ 46 rfl (W1.heap.size) 51 i0 (.int .u64 0) 8 Try.underlying46 ihi ihz ihs ihb (by decide) _ V rfl O7 r35 1 (a1 &&& a2) rfl hy (show V.length + 1 ≤ maxLen by unfold maxLen; omega) (show (V.length + 1) * 8 ≤ 140737488355328 by omega) (by first | omega | (simp; omega)) ?_
      intro v8 w8 O8 hb8 hg8
      have HO8 := Lib.hid O8
      have HB8 := Lib.hid (B7.trans hb8)
      clear O7 B7 O8 hb8 hg8 hy
      go_wp2_with fail
      go_roundw
      case rel => exact ⟨j + 1, by omega, by go_num, (by rw [HT.out]; exact HO8), HB8⟩
      all_goals first | done | (simp [intOf]; done) | (simp [intOf]; omega)
    · have hji : ¬ (j : Int) < (g.ands.length : Int) := by omega
      have hjj : j = g.ands.length := by omega
      have HO8 := Lib.hid (show OwnK w.heap.size 51 1 encW WR _ (valsW g (0#64 :: (ins ++ st)) g.ands.length) by
        rw [HXX.out, ← hjj]; exact hO.out.mono HBEL.out.size)
      have HB8 := Lib.hid (HBEL.out.trans (hB.out.mono HBEL.out.size))
      clear hO hB hjj
      go_wp2_with fail
      go_ret
      exact ⟨_, rfl, HO8.out, HB8.out⟩
end Go.Proofs.Ytcpifmhcebfglaa
namespace Go.Proofs.Ytcpifmhcebfglaa
open Go Go.RowKit Go.Sort
set_option linter.unusedVariables false
theorem hy1 (W : World) (x : Value) (t : TypeId) : ∀ (q : Nat) (u : Value), [x][q]? = some u → (W.alloc (.cells #[x] t)).cell? ⟨W.heap.size, q, none⟩ = some u := by
  intro q u hq
  match q, hq with
  | 0, hq => cases hq; go_simp
def outW (g : Gr) (V : List (BitVec 64)) : List (BitVec 64) := g.outs.map (litW V)
def nxtW (g : Gr) (V : List (BitVec 64)) : List (BitVec 64) := g.regs.map (fun r => litW V r.nx)
set_option maxRecDepth 100000 in
set_option maxHeartbeats 8000000 in
theorem sampled_any (g : Gr) (v : Value) (V : List (BitVec 64)) (vv : Value) (vg : VG g) (hV : V.length = n0L g + g.ands.length) (w : World) (hG : GO g v w) (hR : RowOf 1 encW V vv w) : Calls Try.prog 72 #[v, vv] w fun e w' => ∃ vo vn, e = .returned (.tuple #[vo, vn]) ∧ OwnK w.heap.size 51 1 encW w' vo (outW g V) ∧ OwnK w.heap.size 51 1 encW w' vn (nxtW g V) ∧ Below w.heap.size w w' := by
  have hG0 := hG
  obtain ⟨a, b, c, d0, e, a', b', c', d', e', rfl, hC, hA⟩ := hG.all
  clear hG
  have n2 := vg.regs
  have n4 : g.outs.length ≤ 128 := by have := vg.same; have := vg.outN; omega
  have HVL := Lib.hid hV
  have HIN := Lib.hid (fun l (h : 0 ≤ l ∧ l < allL g) => show ndL l < V.length by
    have h2 := h.2
    rw [allL_eq] at h2
    have := ndL_lt h.1 (n := ((n0L g + g.ands.length : Nat) : Int)) (by unfold n0L; omega)
    rw [hV]; omega)
  clear hV
  go_enter Try.func72, Try.ntmps72
  go_upto_region 1 with fail
  have bel := (Below.refl w.heap.size w).alloc (Nat.le_refl _) (.cells #[.slice a g.ins.length a', .slice b g.outN.length b', .slice c g.regs.length c', .slice d0 g.ands.length d', .slice e g.outs.length e'] 31)
  have X := GX.new w (.slice a g.ins.length a') (.slice b g.outN.length b') (.slice c g.regs.length c') (.slice d0 g.ands.length d') (.slice e g.outs.length e') 31
  generalize w.alloc (.cells #[.slice a g.ins.length a', .slice b g.outN.length b', .slice c g.regs.length c', .slice d0 g.ands.length d', .slice e g.outs.length e'] 31) = W0 at bel X ⊢
  generalize hk : w.heap.size = k at X ⊢
  have HK := Lib.hid hk
  clear hk
  obtain ⟨x0, x1, x2, x3, x4⟩ := id X
  have HX := Lib.hid (fun W (hb : Below W0.heap.size W0 W) => X.below hb)
  have HA := Lib.hid (fun W (hb : Below W0.heap.size W0 W) => hA.below (bel.trans (hb.mono bel.size)))
  have HR := Lib.hid (fun W (hb : Below W0.heap.size W0 W) => hR.below (bel.trans (hb.mono bel.size)))
  have HBEL := Lib.hid bel
  have O0 : OwnK W0.heap.size 51 1 encW W0 (.slice none 0 0) [] := OwnK.nil _ _ _ _ _
  go_upto_block 0 with fail
  clear hA hG0 hC bel X x0 x1 x2 x3 x4 hR
  obtain ⟨i0, ihi, ihz, ihs, ihb⟩ := infoMU_parts
  go_wp2_with fail
  go_loopw [4, 13] (fun u i wr => ∃ j : Nat, j ≤ g.outs.length ∧ i = .int .i64 (j : Int) ∧ Hid (OwnK W0.heap.size 51 1 encW wr u ((g.outs.take j).map (litW V))) ∧ Hid (Below W0.heap.size W0 wr)) (fun _ i _ => g.outs.length - (intOf i).toNat)
  case atStart => exact ⟨0, Nat.zero_le _, rfl, Lib.hid (by simpa using O0), Lib.hid (Below.refl _ _)⟩
  case round =>
    clear O0
    obtain ⟨j, hj, rfl, hO, hB⟩ := hrel
    rename World => WR
    have hj0 : (0 : Int) ≤ (j : Int) := by omega
    by_cases hlt : j < g.outs.length
    · have hji : (j : Int) < (g.outs.length : Int) := by omega
      have HT := Lib.hid (show (g.outs.take (j + 1)).map (litW V) = (g.outs.take j).map (litW V) ++ [litW V g.outs[j]!] by rw [tk1 _ hlt, List.map_append]; rfl)
      have HL : ((g.outs.take j).map (litW V)).length ≤ 8000000000 := by simp; omega
      obtain ⟨ad, cp, hv⟩ := hO.out.slice
      subst hv
      obtain ⟨bb, oo, hdd, hcell⟩ := (HA.out _ hB.out).outs.pick (by omega)
      subst hdd
      have c0 := hcell j hlt 0 _ rfl
      simp only [Nat.mul_one, Nat.add_zero] at c0
      have hlo := vg.out _ (mem1 g.outs hlt)
      clear hcell
      generalize (g.outs.take j).map (litW V) = L at HT HL hO
      generalize g.outs[j]! = l at c0 HT hlo
      have N1 := Lib.hid (value_any V vv l hlo.1 (HIN.out l hlo) WR (HR.out _ hB.out))
      generalize litW V l = x at N1 HT
      have O1 := hO.out
      have B1 := hB.out
      have hs1 := B1.size
      clear hO hB hlo
      go_wp2_with (first | (go_at_call 150; refine N1.out.mono ?_; rintro ee w2 ⟨rfl, hb2⟩; have hs2 := Nat.le_trans hs1 hb2.size; have O4 := (O1.below hb2).below ((Below.refl _ w2).alloc (Nat.le_refl _) (.cells #[.int .u64 (U x)] 51)); have B4 := (B1.trans (hb2.mono hs1)).alloc hs2 (.cells #[.int .u64 (U x)] 51); have hy := hy1 w2 (.int .u64 (U x)) 51) | (at_builtin; refine wpList_append_one (enc := encW) (k := 1) (fun _ => rfl) (by decide) (fun x u hu => by simp at hu; rcases hu with rfl; rfl) rfl _ _ 46 rfl (W0.heap.size) 51 i0 (.int .u64 0) 8 Try.underlying46 ihi ihz ihs ihb (by decide) _ L rfl O4 w2.heap.size 1 (x) rfl hy (show L.length + 1 ≤ maxLen by unfold maxLen; omega) (show (L.length + 1) * 8 ≤ 140737488355328 by omega) (by first | omega | (simp; omega)) ?_))
      intro v5 w5 O5 hb5 hg5
      have HO5 := Lib.hid O5
      have HB5 := Lib.hid (B4.trans hb5)
      clear O5 hb5 hg5 O4 hy O1 B1 B4 hb2
      go_wp2_with fail
      go_roundw
      case rel => exact ⟨j + 1, by omega, by go_num, (by rw [HT.out]; exact HO5), HB5⟩
      all_goals first | done | (simp [intOf]; done) | (simp [intOf]; omega)
    · have hji : ¬ (j : Int) < (g.outs.length : Int) := by omega
      have O1 := hO.out
      rw [List.take_of_length_le (by omega), show g.outs.map (litW V) = outW g V from rfl] at O1
      have B1 := hB.out
      clear hO hB
      obtain ⟨x0, x1, x2, x3, x4⟩ := HX.out _ B1
      have OZ : OwnK WR.heap.size 51 1 encW WR (.slice none 0 0) [] := OwnK.nil _ _ _ _ _
      go_upto_block 2 with fail
      clear x0 x1 x2 x3 x4
      have hsr := B1.size
      have HO1 := Lib.hid O1
      have HB1 := Lib.hid B1
      clear O1 B1
      go_wp2_with fail
      go_loopw [5, 27] (fun u i wr => ∃ j : Nat, j ≤ g.regs.length ∧ i = .int .i64 (j : Int) ∧ Hid (OwnK WR.heap.size 51 1 encW wr u ((g.regs.take j).map (fun r => litW V r.nx))) ∧ Hid (Below WR.heap.size WR wr)) (fun _ i _ => g.regs.length - (intOf i).toNat)
      case atStart => exact ⟨0, Nat.zero_le _, rfl, Lib.hid (by simpa using OZ), Lib.hid (Below.refl _ _)⟩
      case round =>
        clear OZ
        obtain ⟨j2, hj2, rfl, hO, hB⟩ := hrel
        rename World => WQ
        have hj20 : (0 : Int) ≤ (j2 : Int) := by omega
        have B0 := HB1.out.trans (hB.out.mono hsr)
        by_cases hlt2 : j2 < g.regs.length
        · have hji2 : (j2 : Int) < (g.regs.length : Int) := by omega
          have HT := Lib.hid (show (g.regs.take (j2 + 1)).map (fun r => litW V r.nx) = (g.regs.take j2).map (fun r => litW V r.nx) ++ [litW V g.regs[j2]!.nx] by rw [tk1 _ hlt2, List.map_append]; rfl)
          have HL : ((g.regs.take j2).map (fun r => litW V r.nx)).length ≤ 8000000000 := by simp; omega
          obtain ⟨ad2, cp2, hv2⟩ := hO.out.slice
          subst hv2
          obtain ⟨bb2, oo2, hdd, hcell⟩ := (HA.out _ B0).regs.pick (by omega)
          subst hdd
          have c0 := hcell j2 hlt2 0 _ rfl
          have c1 := hcell j2 hlt2 1 _ rfl
          have c2 := hcell j2 hlt2 2 _ rfl
          simp only [Nat.add_zero] at c0
          have hlo := vg.next _ (mem1 g.regs hlt2)
          clear hcell
          generalize (g.regs.take j2).map (fun r => litW V r.nx) = L at HT HL hO
          generalize g.regs[j2]! = r at c0 c1 c2 HT hlo
          obtain ⟨r0, r1, r2⟩ := r
          simp only at c0 c1 c2 HT hlo
          go_upto_region 9 with fail
          have bA := (Below.refl WQ.heap.size WQ).alloc (Nat.le_refl _) (.cells #[.string r0, .int .i64 r1, .bool r2] 128)
          have y1 : (WQ.alloc (.cells #[.string r0, .int .i64 r1, .bool r2] 128)).cell? ⟨WQ.heap.size, 1, none⟩ = some (.int .i64 r1) := by go_simp
          have O1 := hO.out.below bA
          have B1 := hB.out.trans (bA.mono hB.out.size)
          clear bA c0 c1 c2 hO hB B0
          generalize WQ.alloc (.cells #[.string r0, .int .i64 r1, .bool r2] 128) = WS at O1 B1 y1 ⊢
          generalize WQ.heap.size = q10 at y1 ⊢
          have N1 := Lib.hid (value_any V vv r1 hlo.1 (HIN.out r1 hlo) WS (HR.out _ (HB1.out.trans (B1.mono hsr))))
          generalize litW V r1 = x at N1 HT
          have hs1 := B1.size
          clear hlo
          go_wp2_with (first | (go_at_call 150; refine N1.out.mono ?_; rintro ee w2 ⟨rfl, hb2⟩; have hs2 := Nat.le_trans hs1 hb2.size; have O4 := (O1.below hb2).below ((Below.refl _ w2).alloc (Nat.le_refl _) (.cells #[.int .u64 (U x)] 51)); have B4 := (B1.trans (hb2.mono hs1)).alloc hs2 (.cells #[.int .u64 (U x)] 51); have hy := hy1 w2 (.int .u64 (U x)) 51) | (at_builtin; refine wpList_append_one (enc := encW) (k := 1) (fun _ => rfl) (by decide) (fun x u hu => by simp at hu; rcases hu with rfl; rfl) rfl _ _ 46 rfl (WR.heap.size) 51 i0 (.int .u64 0) 8 Try.underlying46 ihi ihz ihs ihb (by decide) _ L rfl O4 w2.heap.size 1 (x) rfl hy (show L.length + 1 ≤ maxLen by unfold maxLen; omega) (show (L.length + 1) * 8 ≤ 140737488355328 by omega) (by first | omega | (simp; omega)) ?_))
          intro v5 w5 O5 hb5 hg5
          have HO5 := Lib.hid O5
          have HB5 := Lib.hid (B4.trans hb5)
          clear O5 hb5 hg5 O4 hy O1 B1 B4 hb2 y1
          go_wp2_with fail
          go_roundw
          case rel => exact ⟨j2 + 1, by omega, by go_num, (by rw [HT.out]; exact HO5), HB5⟩
          all_goals first | done | (simp [intOf]; done) | (simp [intOf]; omega)
        · have hji2 : ¬ (j2 : Int) < (g.regs.length : Int) := by omega
          have HN := Lib.hid hO.out
          rw [List.take_of_length_le (by omega), show g.regs.map (fun r => litW V r.nx) = nxtW g V from rfl] at HN
          have HO2 := Lib.hid ((HO1.out.below hB.out).mono HBEL.out.size)
          have HB2 := Lib.hid (HBEL.out.trans (B0.mono HBEL.out.size))
          have hwr := Nat.le_trans HBEL.out.size hsr
          clear hO hB B0
          go_wp2_with fail
          go_ret2
          exact ⟨_, _, rfl, HO2.out, HN.out.mono hwr, HB2.out⟩
end Go.Proofs.Ytcpifmhcebfglaa
namespace Go.Proofs.Ytcpifmhcebfglaa
open Go Go.RowKit Go.Sort
set_option linter.unusedVariables false
theorem wid_ok {g : Gr} {n m : Nat} (h : widE g n m = 0) : faultG g = 0 ∧ n = g.ins.length ∧ m = g.regs.length := by
  unfold widE at h
  by_cases hf : faultG g = 0
  · rw [if_pos hf] at h
    split at h
    · rename_i q; exact ⟨hf, by omega, by omega⟩
    · omega
  · rw [if_neg hf] at h; exact absurd h hf
theorem map_colB (V : List (BitVec 64)) (k : Nat) : (V.map U).map (colB k) = V.map (·.getLsbD k) := by
  rw [List.map_map]
  exact List.map_congr_left fun b _ => colB_U k b
/-- the words of all nodes -/
def vwL (g : Gr) (ins st : List (BitVec 64)) : List (BitVec 64) := if widE g ins.length st.length = 0 then valsW g (0#64 :: (ins ++ st)) g.ands.length else []
def owL (g : Gr) (ins st : List (BitVec 64)) : List (BitVec 64) := if widE g ins.length st.length = 0 then outW g (valsW g (0#64 :: (ins ++ st)) g.ands.length) else []
def nwL (g : Gr) (ins st : List (BitVec 64)) : List (BitVec 64) := if widE g ins.length st.length = 0 then nxtW g (valsW g (0#64 :: (ins ++ st)) g.ands.length) else []
theorem x_len (g : Gr) (ins st : List (BitVec 64)) (h1 : ins.length = g.ins.length) (h2 : st.length = g.regs.length) : (0#64 :: (ins ++ st)).length = n0L g := by
  simp only [List.length_cons, List.length_append, h1, h2]; unfold n0L; omega
theorem x_lane (ins st : List (BitVec 64)) (k : Nat) : (0#64 :: (ins ++ st)).map (·.getLsbD k) = false :: (ins.map (·.getLsbD k) ++ st.map (·.getLsbD k)) := by simp
theorem v_len (g : Gr) (ins st : List (BitVec 64)) (h1 : ins.length = g.ins.length) (h2 : st.length = g.regs.length) : (valsW g (0#64 :: (ins ++ st)) g.ands.length).length = n0L g + g.ands.length := by
  rw [valsW_len g _ _ (Nat.le_refl _), x_len g ins st h1 h2]
theorem in_range {g : Gr} {l : Int} (h : 0 ≤ l ∧ l < allL g) : ndL l < n0L g + g.ands.length := by
  have h2 := h.2
  rw [allL_eq] at h2
  have := ndL_lt h.1 (n := ((n0L g + g.ands.length : Nat) : Int)) (by unfold n0L; omega)
  omega
theorem out_lane (g : Gr) (vg : VG g) (ins st : List (BitVec 64)) (h1 : ins.length = g.ins.length) (h2 : st.length = g.regs.length) (k : Nat) (hk : k < 64) : (outW g (valsW g (0#64 :: (ins ++ st)) g.ands.length)).map (·.getLsbD k) = shows g (ins.map (·.getLsbD k)) (st.map (·.getLsbD k)) := by
  unfold outW shows
  rw [List.map_map, ← x_lane, ← valsW_G g vg _ (x_len g ins st h1 h2) k hk]
  exact List.map_congr_left fun l hl => lit_lane _ k hk l (by rw [v_len g ins st h1 h2]; exact in_range (vg.out l hl))
theorem nxt_lane (g : Gr) (vg : VG g) (ins st : List (BitVec 64)) (h1 : ins.length = g.ins.length) (h2 : st.length = g.regs.length) (k : Nat) (hk : k < 64) : (nxtW g (valsW g (0#64 :: (ins ++ st)) g.ands.length)).map (·.getLsbD k) = nexts g (ins.map (·.getLsbD k)) (st.map (·.getLsbD k)) := by
  unfold nxtW nexts
  rw [List.map_map, ← x_lane, ← valsW_G g vg _ (x_len g ins st h1 h2) k hk]
  exact List.map_congr_left fun r hr => lit_lane _ k hk r.nx (by rw [v_len g ins st h1 h2]; exact in_range (vg.next r hr))
set_option maxRecDepth 100000 in
set_option maxHeartbeats 8000000 in
theorem valuesF_any (g : Gr) (v : Value) (ins st : List (BitVec 64)) (vi vs : Value) (sg : Small g) (w : World) (hG : GO g v w) (h1 : RowC (fun b => Value.int .u64 (U b)) ins vi w) (h2 : RowC (fun b => Value.int .u64 (U b)) st vs w) : Calls Try.prog 77 #[v, vi, vs] w fun e w' => ∃ u, e = .returned (.tuple #[u, .int .i64 (widE g ins.length st.length)]) ∧ OwnK w.heap.size 51 1 encW w' u (vwL g ins st) ∧ Below w.heap.size w w' := by
  have hG0 := hG
  obtain ⟨a, b, c, d0, e, a', b', c', d', e', rfl, hC, hA⟩ := hG.all
  clear hG
  have HI := Lib.hid (fun W (hb : Below w.heap.size w W) => h1.below hb)
  have HS := Lib.hid (fun W (hb : Below w.heap.size w W) => h2.below hb)
  obtain ⟨ai, ci, rfl, hic, hin, hir⟩ := h1
  obtain ⟨az, cz, rfl, hsc, hsn, hsr⟩ := h2
  clear hir hsr
  go_enter Try.func77, Try.ntmps77
  go_upto_region 1 with fail
  have bel := (Below.refl w.heap.size w).alloc (Nat.le_refl _) (.cells #[.slice a g.ins.length a', .slice b g.outN.length b', .slice c g.regs.length c', .slice d0 g.ands.length d', .slice e g.outs.length e'] 31)
  have X := GX.new w (.slice a g.ins.length a') (.slice b g.outN.length b') (.slice c g.regs.length c') (.slice d0 g.ands.length d') (.slice e g.outs.length e') 31
  generalize w.alloc (.cells #[.slice a g.ins.length a', .slice b g.outN.length b', .slice c g.regs.length c', .slice d0 g.ands.length d', .slice e g.outs.length e'] 31) = W0 at bel X ⊢
  generalize hk : w.heap.size = k at X ⊢
  have HK := Lib.hid hk
  clear hk
  obtain ⟨x0, x1, x2, x3, x4⟩ := id X
  have H0 := Lib.hid (check_any g _ sg W0 (hG0.below bel))
  by_cases hz : faultG g = 0
  rotate_left
  · have HR : Hid (widE g ins.length st.length = faultG g) := Lib.hid (if_neg hz)
    have HR2 : Hid (vwL g ins st = []) := Lib.hid (if_neg (by rw [HR.out]; exact hz))
    generalize hf : faultG g = f at H0 hz
    have HFF := Lib.hid hf
    clear hf
    have hz2 : (f == 0) = false := beq_eq_false_iff_ne.2 hz
    go_wp2_with (first | (go_at_call 71; refine H0.out.mono ?_; rintro ee w1 ⟨rfl, hb1⟩))
    go_ret2
    exact ⟨_, by rw [HR.out, HFF.out]; rfl, by rw [HR2.out]; exact OwnK.nil _ _ _ _ _, bel.trans (hb1.mono bel.size)⟩
  have vg := vg_of hz
  have HW : Hid (widE g ins.length st.length = if (ins.length : Int) = (g.ins.length : Int) ∧ (st.length : Int) = (g.regs.length : Int) then 0 else 20) := Lib.hid (if_pos hz)
  rw [hz] at H0
  clear hz
  go_upto_region 4 with (first | (go_at_call 71; refine H0.out.mono ?_; rintro ee W1 ⟨rfl, hb1⟩))
  have bel1 := bel.trans (hb1.mono bel.size)
  have X1 := X.below hb1
  clear x0 x1 x2 x3 x4 X hb1 bel H0
  obtain ⟨x0, x1, x2, x3, x4⟩ := id X1
  by_cases p1 : ins.length = g.ins.length
  rotate_left
  · have q5 : ((ins.length : Int) == (g.ins.length : Int)) = false := beq_eq_false_iff_ne.2 (by omega)
    have q6 : ¬ (ins.length : Int) = (g.ins.length : Int) := by omega
    have HR := Lib.hid (HW.out.trans (if_neg (fun h => q6 h.1)))
    have HR2 : Hid (vwL g ins st = []) := Lib.hid (if_neg (by rw [HR.out]; decide))
    clear p1
    go_wp2_with fail
    go_ret2
    exact ⟨_, by rw [HR.out]; rfl, by rw [HR2.out]; exact OwnK.nil _ _ _ _ _, bel1⟩
  have P1 := Lib.hid p1
  have q5 : ((ins.length : Int) == (g.ins.length : Int)) = true := beq_iff_eq.2 (by omega)
  have q6 : ((ins.length : Int) != (g.ins.length : Int)) = false := by simp [bne, q5]
  clear p1
  by_cases p2 : st.length = g.regs.length
  rotate_left
  · have q7 : ((st.length : Int) == (g.regs.length : Int)) = false := beq_eq_false_iff_ne.2 (by omega)
    have q8 : ¬ (st.length : Int) = (g.regs.length : Int) := by omega
    have HR := Lib.hid (HW.out.trans (if_neg (fun h => q8 h.2)))
    have HR2 : Hid (vwL g ins st = []) := Lib.hid (if_neg (by rw [HR.out]; decide))
    clear p2
    go_wp2_with fail
    go_ret2
    exact ⟨_, by rw [HR.out]; rfl, by rw [HR2.out]; exact OwnK.nil _ _ _ _ _, bel1⟩
  have P2 := Lib.hid p2
  have q7 : ((st.length : Int) == (g.regs.length : Int)) = true := beq_iff_eq.2 (by omega)
  have q8 : ((st.length : Int) != (g.regs.length : Int)) = false := by simp [bne, q7]
  clear p2
  have HR := Lib.hid (HW.out.trans (if_pos ⟨by rw [P1.out], by rw [P2.out]⟩))
  have HR2 : Hid (vwL g ins st = valsW g (0#64 :: (ins ++ st)) g.ands.length) := Lib.hid (if_pos HR.out)
  go_upto_region 6 with fail
  clear q5 q6 q7 q8
  have H2 := Lib.hid (values_any g _ ins st _ _ vg sg P1.out P2.out W1 (hG0.below bel1) (HI.out _ bel1) (HS.out _ bel1))
  go_wp2_with (first | (go_at_call 73; refine H2.out.mono ?_; rintro ee w2 ⟨u, rfl, O2, hb2⟩))
  go_ret2
  exact ⟨_, by rw [HR.out]; rfl, by rw [HR2.out]; exact O2.mono bel1.size, bel1.trans (hb2.mono bel1.size)⟩
set_option maxRecDepth 100000 in
set_option maxHeartbeats 8000000 in
theorem wordsF_any (g : Gr) (v : Value) (ins st : List (BitVec 64)) (vi vs : Value) (sg : Small g) (w : World) (hG : GO g v w) (h1 : RowC (fun b => Value.int .u64 (U b)) ins vi w) (h2 : RowC (fun b => Value.int .u64 (U b)) st vs w) : Calls Try.prog 23 #[v, vi, vs] w fun e w' => ∃ vo vn, e = .returned (.tuple #[vo, vn, .int .i64 (widE g ins.length st.length)]) ∧ RowOf 1 encW (owL g ins st) vo w' ∧ RowOf 1 encW (nwL g ins st) vn w' ∧ Below w.heap.size w w' := by
  have hG0 := hG
  obtain ⟨a, b, c, d0, e, a', b', c', d', e', rfl, hC, hA⟩ := hG.all
  clear hG
  have HI := Lib.hid (fun W (hb : Below w.heap.size w W) => h1.below hb)
  have HS := Lib.hid (fun W (hb : Below w.heap.size w W) => h2.below hb)
  obtain ⟨ai, ci, rfl, hic, hin, hir⟩ := h1
  obtain ⟨az, cz, rfl, hsc, hsn, hsr⟩ := h2
  clear hir hsr
  go_enter Try.func23, Try.ntmps23
  go_upto_region 1 with fail
  have bel := (Below.refl w.heap.size w).alloc (Nat.le_refl _) (.cells #[.slice a g.ins.length a', .slice b g.outN.length b', .slice c g.regs.length c', .slice d0 g.ands.length d', .slice e g.outs.length e'] 31)
  have X := GX.new w (.slice a g.ins.length a') (.slice b g.outN.length b') (.slice c g.regs.length c') (.slice d0 g.ands.length d') (.slice e g.outs.length e') 31
  generalize w.alloc (.cells #[.slice a g.ins.length a', .slice b g.outN.length b', .slice c g.regs.length c', .slice d0 g.ands.length d', .slice e g.outs.length e'] 31) = W0 at bel X ⊢
  generalize hk : w.heap.size = k at X ⊢
  have HK := Lib.hid hk
  clear hk
  obtain ⟨x0, x1, x2, x3, x4⟩ := id X
  have H0 := Lib.hid (valuesF_any g _ ins st _ _ sg W0 (hG0.below bel) (HI.out _ bel) (HS.out _ bel))
  by_cases hz : widE g ins.length st.length = 0
  rotate_left
  · have HR2 : Hid (owL g ins st = []) := Lib.hid (if_neg hz)
    have HR3 : Hid (nwL g ins st = []) := Lib.hid (if_neg hz)
    generalize hf : widE g ins.length st.length = f at H0 hz
    have HFF := Lib.hid hf
    clear hf
    have hz2 : (f == 0) = false := beq_eq_false_iff_ne.2 hz
    go_wp2_with (first | (go_at_call 77; refine H0.out.mono ?_; rintro ee w1 ⟨u, rfl, O1, hb1⟩))
    exact bodyPost_ret (v := .tuple #[.slice none 0 0, .slice none 0 0, .int .i64 f]) (by simp [results, Try.results23, go_sem]) rfl ⟨_, _, by rw [HFF.out], by rw [HR2.out]; exact RowOf.nil, by rw [HR3.out]; exact RowOf.nil, bel.trans (hb1.mono bel.size)⟩
  obtain ⟨hz0, p1, p2⟩ := wid_ok hz
  have vg := vg_of hz0
  have HR2 : Hid (owL g ins st = outW g (valsW g (0#64 :: (ins ++ st)) g.ands.length)) := Lib.hid (if_pos hz)
  have HR3 : Hid (nwL g ins st = nxtW g (valsW g (0#64 :: (ins ++ st)) g.ands.length)) := Lib.hid (if_pos hz)
  rw [show vwL g ins st = valsW g (0#64 :: (ins ++ st)) g.ands.length from if_pos hz, hz] at H0
  have HZ := Lib.hid hz
  have hvl := v_len g ins st p1 p2
  generalize valsW g (0#64 :: (ins ++ st)) g.ands.length = V at H0 HR2 HR3 hvl
  have HVL := Lib.hid hvl
  clear hz hz0 p1 p2 hvl
  go_upto_region 4 with (first | (go_at_call 77; refine H0.out.mono ?_; rintro ee W1 ⟨u, rfl, O1, hb1⟩))
  have bel1 := bel.trans (hb1.mono bel.size)
  have X1 := X.below hb1
  clear x0 x1 x2 x3 x4 X hb1 bel H0
  obtain ⟨x0, x1, x2, x3, x4⟩ := id X1
  have H2 := Lib.hid (sampled_any g _ V u vg HVL.out W1 (hG0.below bel1) (O1.row lenW))
  go_wp2_with (first | (go_at_call 72; refine H2.out.mono ?_; rintro ee w2 ⟨vo, vn, rfl, O2, O3, hb2⟩))
  exact bodyPost_ret (v := .tuple #[vo, vn, .int .i64 0]) (by simp [results, Try.results23, go_sem]) rfl ⟨_, _, by rw [HZ.out], by rw [HR2.out]; exact O2.row lenW, by rw [HR3.out]; exact O3.row lenW, bel1.trans (hb2.mono bel1.size)⟩
theorem values_holds : ValuesC := fun g v ins st vi vs w sg hn hs wi ws hG h1 h2 => by
  obtain ⟨I, rfl⟩ := isW_map wi
  obtain ⟨S, rfl⟩ := isW_map ws
  have h := valuesF_any g v I S vi vs sg w hG (rowC_W h1) (rowC_W h2)
  rw [List.length_map, List.length_map]
  refine h.mono fun e w' ⟨u, q1, q2, q3⟩ => ⟨u, (vwL g I S).map U, q1, row_U (q2.row lenW), ⟨isW_U _, fun hz => ?_, fun hz => ?_⟩, q3⟩
  · rw [List.length_map, List.length_map] at hz
    obtain ⟨hz0, p1, p2⟩ := wid_ok hz
    rw [show vwL g I S = valsW g (0#64 :: (I ++ S)) g.ands.length from if_pos hz]
    refine ⟨by rw [List.length_map]; exact v_len g I S p1 p2, fun k hk => ?_⟩
    rw [map_colB, map_colB, map_colB, valsW_G g (vg_of hz0) _ (x_len g I S p1 p2) k hk, x_lane]
  · rw [List.length_map, List.length_map] at hz
    rw [show vwL g I S = [] from if_neg hz]; rfl
theorem words_holds : WordsC := fun g v ins st vi vs w sg hn hs wi ws hG h1 h2 => by
  obtain ⟨I, rfl⟩ := isW_map wi
  obtain ⟨S, rfl⟩ := isW_map ws
  have h := wordsF_any g v I S vi vs sg w hG (rowC_W h1) (rowC_W h2)
  rw [List.length_map, List.length_map]
  refine h.mono fun e w' ⟨vo, vn, q1, q2, q4, q3⟩ => ⟨vo, vn, (owL g I S).map U, (nwL g I S).map U, q1, row_U q2, row_U q4, ⟨isW_U _, isW_U _, fun hz => ?_, fun hz => ?_⟩, q3⟩
  · rw [List.length_map, List.length_map] at hz
    obtain ⟨hz0, p1, p2⟩ := wid_ok hz
    rw [show owL g I S = _ from if_pos hz, show nwL g I S = _ from if_pos hz]
    intro k hk
    rw [map_colB, map_colB, map_colB, map_colB]
    exact ⟨out_lane g (vg_of hz0) I S p1 p2 k hk, nxt_lane g (vg_of hz0) I S p1 p2 k hk⟩
  · rw [List.length_map, List.length_map] at hz
    rw [show owL g I S = [] from if_neg hz, show nwL g I S = [] from if_neg hz]
    exact ⟨rfl, rfl⟩
end Go.Proofs.Ytcpifmhcebfglaa
