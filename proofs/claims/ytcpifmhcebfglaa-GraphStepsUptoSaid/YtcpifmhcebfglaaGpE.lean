/- The program's Lanes, Lane and Init: what they answer. Condition: at most 4,000,000,000 elements. -/
import Derived.Test.YtcpifmhcebfglaaGpF
import Derived.Test.YtcpifmhcebfglaaGlEd
namespace Go.Proofs.Ytcpifmhcebfglaa
open Go Go.RowKit Go.Sort
set_option linter.unusedVariables false
theorem Arr.rowc {t : TypeId} {α : Type} [Inhabited α] {f : α → Value} {g : Nat} {l : List α} {w : World} (h : Arr t f g l w) (n : Nat) (hn : l.length = n) : RowC f l (.slice (some ⟨g, 0, none⟩) n n) w := by
  subst hn
  refine ⟨_, _, rfl, Nat.le_refl _, (fun h => by cases h), .inr ⟨g, 0, rfl, fun j hj c x hx => ?_⟩⟩
  match c, hx with
  | 0, hx =>
    simp only [List.getElem?_cons_zero, Option.some.injEq] at hx
    subst hx
    simpa using h.cell hj
  | c + 1, hx => simp at hx
theorem set_mid {α : Type} (A R : List α) (y x : α) (j : Nat) (h : A.length = j) : (A ++ y :: R).set j x = A ++ x :: R := by
  subst h; simp
theorem mid_get {α : Type} [Inhabited α] (A R : List α) (y : α) (j : Nat) (h : A.length = j) : (A ++ y :: R)[j]! = y := by
  subst h
  rw [getElem!_pos _ _ (by simp)]; simp
/-- a row that is filled up to a place -/
def fillL {α β : Type} (f : α → β) (z : β) (l : List α) (j : Nat) : List β := (l.take j).map f ++ List.replicate (l.length - j) z
theorem fill_zero {α β : Type} (f : α → β) (z : β) (l : List α) : fillL f z l 0 = List.replicate l.length z := by simp [fillL]
theorem fill_all {α β : Type} (f : α → β) (z : β) (l : List α) : fillL f z l l.length = l.map f := by simp [fillL]
theorem fill_len {α β : Type} (f : α → β) (z : β) (l : List α) (j : Nat) (h : j ≤ l.length) : (fillL f z l j).length = l.length := by simp [fillL]; omega
theorem fill_set {α β : Type} [Inhabited α] (f : α → β) (z : β) (l : List α) (j : Nat) (h : j < l.length) : (fillL f z l j).set j (f l[j]!) = fillL f z l (j + 1) := by
  unfold fillL
  rw [show l.length - j = (l.length - (j + 1)) + 1 by omega, List.replicate_succ, set_mid _ _ _ _ _ (by simp; omega), tk1 l h, List.map_append]
  simp
theorem fill_skip {α β : Type} [Inhabited α] (f : α → β) (z : β) (l : List α) (j : Nat) (h : j < l.length) (hz : f l[j]! = z) : fillL f z l j = fillL f z l (j + 1) := by
  rw [← fill_set f z l j h, hz]
  unfold fillL
  rw [show l.length - j = (l.length - (j + 1)) + 1 by omega, List.replicate_succ, set_mid _ _ _ _ _ (by simp; omega)]
theorem and1 (n : Int) (h0 : 0 ≤ n) (h1 : n < 18446744073709551616) : (bits BinOp.and IntKind.u64 n 1 == 1) = colB 0 n := by
  have := bandu n 0 h0 h1
  simpa using this
set_option maxRecDepth 100000 in
set_option maxHeartbeats 4000000 in
theorem lanes_any (l : List Bool) (v : Value) (w : World) (hn : l.length ≤ 4000000000) (h : RowC (fun b => Value.bool b) l v w) : Calls Try.prog 44 #[v] w fun e w' => ∃ q, e = .returned (.slice (some ⟨q, 0, none⟩) l.length l.length) ∧ Arr 51 (fun n : Int => Value.int .u64 n) q (lanesL l) w' ∧ w.heap.size ≤ q ∧ Below w.heap.size w w' := by
  obtain ⟨ad, cp, rfl, hc, _, R⟩ := h
  have hmk := fun W => mkU W l.length l.length (Nat.le_refl _) (by omega)
  go_enter Try.func44, Try.ntmps44
  go_upto_region 2 with fail
  have A0 : Arr 51 (fun n : Int => Value.int .u64 n) w.heap.size (List.replicate l.length 0) (w.alloc (.cells (madeCells #[.int .u64 0] l.length) 51)) := Arr.made w _ 0 _
  have bA := (Below.refl w.heap.size w).alloc (Nat.le_refl _) (.cells (madeCells #[.int .u64 0] l.length) 51)
  rw [← fill_zero (fun b : Bool => if b = true then (1 : Int) else 0) 0 l] at A0
  clear hmk
  generalize w.alloc (.cells (madeCells #[.int .u64 0] l.length) 51) = W1 at A0 bA ⊢
  have HR := Lib.hid (fun W (hb : Below w.heap.size w W) => R.below hb)
  have HLL : Hid (lanesL l = l.map (fun b : Bool => if b = true then (1 : Int) else 0)) := Lib.hid rfl
  clear R
  generalize hk : w.heap.size = q at A0 bA ⊢
  have HK := Lib.hid hk
  rw [hk] at HR
  clear hk
  go_upto_block 0 with fail
  go_wp2_with fail
  go_loopw [11] (fun i wr => ∃ j : Nat, j ≤ l.length ∧ i = .int .i64 (j : Int) ∧ Hid (Arr 51 (fun n : Int => Value.int .u64 n) q (fillL (fun b : Bool => if b = true then (1 : Int) else 0) 0 l j) wr) ∧ Hid (Below q w wr)) (fun i _ => l.length - (intOf i).toNat)
  case atStart => exact ⟨0, Nat.zero_le _, rfl, Lib.hid A0, Lib.hid bA⟩
  case round =>
    clear A0 bA
    obtain ⟨j, hj, rfl, hA, hB⟩ := hrel
    rename World => WR
    have hj0 : (0 : Int) ≤ (j : Int) := by omega
    by_cases hlt : j < l.length
    · have hji : (j : Int) < (l.length : Int) := by omega
      obtain ⟨bb, oo, hdd, hcell⟩ := (HR.out _ hB.out).pick (by omega)
      subst hdd
      have c0 := hcell j hlt 0 _ rfl
      simp only [Nat.mul_one, Nat.add_zero] at c0
      clear hcell
      have A1 := hA.out
      have HBB := Lib.hid hB.out
      have HFL := Lib.hid (fill_len (fun b : Bool => if b = true then (1 : Int) else 0) 0 l j hj)
      have HS := Lib.hid (fill_set (fun b : Bool => if b = true then (1 : Int) else 0) 0 l j hlt)
      have HZ := Lib.hid (fun h => fill_skip (fun b : Bool => if b = true then (1 : Int) else 0) 0 l j hlt h)
      clear hA hB
      cases hb : l[j]! with
      | false =>
        rw [hb] at c0
        have HA := Lib.hid A1
        rw [HZ.out (by rw [hb]; rfl)] at HA
        clear hb A1
        go_wp2_with fail
        go_roundw
        case rel => exact ⟨j + 1, by omega, by go_num, HA, HBB⟩
        all_goals first | done | (simp [intOf]; done) | (simp [intOf]; omega)
      | true =>
        rw [hb] at c0 HS
        have fr := A1.free j
        have a1 := A1.cell (j := j) (by rw [HFL.out]; exact hlt)
        have HA := Lib.hid (A1.set j 1)
        have HB2 := Lib.hid (HBB.out.setCell (p := ⟨q, j, none⟩) (Nat.le_refl _) (.int .u64 1))
        have hlt1 := A1.lt
        rw [show (fillL (fun b : Bool => if b = true then (1 : Int) else 0) 0 l j).set j 1 = fillL (fun b : Bool => if b = true then (1 : Int) else 0) 0 l (j + 1) from HS.out] at HA
        clear hb A1
        go_wp2_with fail
        go_roundw
        case rel => exact ⟨j + 1, by omega, by go_num, HA, HB2⟩
        all_goals first | done | (simp [intOf]; done) | (simp [intOf]; omega)
    · have hji : ¬ (j : Int) < (l.length : Int) := by omega
      obtain rfl : j = l.length := by omega
      have HA := hA.out
      rw [fill_all, ← HLL.out] at HA
      have HB := Lib.hid hB.out
      have HA2 := Lib.hid HA
      clear hA hB HA
      go_wp2_with fail
      go_ret
      exact ⟨_, rfl, HA2.out, by rw [HK.out]; exact Nat.le_refl _, by rw [HK.out]; exact HB.out⟩
set_option maxRecDepth 100000 in
set_option maxHeartbeats 4000000 in
theorem lane_any (l : List Int) (v : Value) (w : World) (hn : l.length ≤ 4000000000) (hw : ∀ n ∈ l, 0 ≤ n ∧ n < 18446744073709551616) (h : RowOf 1 encU l v w) : Calls Try.prog 74 #[v] w fun e w' => ∃ q, e = .returned (.slice (some ⟨q, 0, none⟩) l.length l.length) ∧ Arr 4 (fun b => Value.bool b) q (l.map (colB 0)) w' ∧ w.heap.size ≤ q ∧ Below w.heap.size w w' := by
  obtain ⟨ad, cp, rfl, hc, R⟩ := h.open'
  clear h
  have hmk := fun W => mkB W l.length l.length (Nat.le_refl _) (by omega)
  go_enter Try.func74, Try.ntmps74
  go_upto_region 2 with fail
  have A0 : Arr 4 (fun b => Value.bool b) w.heap.size (List.replicate l.length false) (w.alloc (.cells (madeCells #[.bool false] l.length) 4)) := Arr.made w _ false _
  have bA := (Below.refl w.heap.size w).alloc (Nat.le_refl _) (.cells (madeCells #[.bool false] l.length) 4)
  rw [← fill_zero (colB 0) false l] at A0
  clear hmk
  generalize w.alloc (.cells (madeCells #[.bool false] l.length) 4) = W1 at A0 bA ⊢
  have HR := Lib.hid (fun W (hb : Below w.heap.size w W) => R.below hb)
  clear R
  generalize hk : w.heap.size = q at A0 bA ⊢
  have HK := Lib.hid hk
  rw [hk] at HR
  have HW := Lib.hid hw
  clear hk hw
  go_upto_block 0 with fail
  go_wp2_with fail
  go_loopw [11] (fun i wr => ∃ j : Nat, j ≤ l.length ∧ i = .int .i64 (j : Int) ∧ Hid (Arr 4 (fun b => Value.bool b) q (fillL (colB 0) false l j) wr) ∧ Hid (Below q w wr)) (fun i _ => l.length - (intOf i).toNat)
  case atStart => exact ⟨0, Nat.zero_le _, rfl, Lib.hid A0, Lib.hid bA⟩
  case round =>
    clear A0 bA
    obtain ⟨j, hj, rfl, hA, hB⟩ := hrel
    rename World => WR
    have hj0 : (0 : Int) ≤ (j : Int) := by omega
    by_cases hlt : j < l.length
    · have hji : (j : Int) < (l.length : Int) := by omega
      obtain ⟨bb, oo, hdd, hcell⟩ := (HR.out _ hB.out).pick (by omega)
      subst hdd
      have c0 := hcell j hlt 0 _ rfl
      simp only [Nat.mul_one, Nat.add_zero] at c0
      clear hcell
      have A1 := hA.out
      have HBB := Lib.hid hB.out
      have HFL := Lib.hid (fill_len (colB 0) false l j hj)
      have HS := Lib.hid (fill_set (colB 0) false l j hlt)
      have hb := HW.out _ (mem1 l hlt)
      rw [← and1 _ hb.1 hb.2] at HS
      clear hA hB hb
      generalize l[j]! = n at c0 HS
      have fr := A1.free j
      have a1 := A1.cell (j := j) (by rw [HFL.out]; exact hlt)
      have HA := Lib.hid (A1.set j (bits BinOp.and IntKind.u64 n 1 == 1))
      have HB2 := Lib.hid (HBB.out.setCell (p := ⟨q, j, none⟩) (Nat.le_refl _) (.bool (bits BinOp.and IntKind.u64 n 1 == 1)))
      have hlt1 := A1.lt
      rw [HS.out] at HA
      clear A1
      go_wp2_with fail
      go_roundw
      case rel => exact ⟨j + 1, by omega, by go_num, HA, HB2⟩
      all_goals first | done | (simp [intOf]; done) | (simp [intOf]; omega)
    · have hji : ¬ (j : Int) < (l.length : Int) := by omega
      obtain rfl : j = l.length := by omega
      have HA := hA.out
      rw [fill_all] at HA
      have HB := Lib.hid hB.out
      have HA2 := Lib.hid HA
      clear hA hB HA
      go_wp2_with fail
      go_ret
      exact ⟨_, rfl, HA2.out, by rw [HK.out]; exact Nat.le_refl _, by rw [HK.out]; exact HB.out⟩
set_option maxRecDepth 100000 in
set_option maxHeartbeats 4000000 in
theorem init_any (g : Gr) (v : Value) (w : World) (sg : Small g) (hG : GO g v w) : Calls Try.prog 20 #[v] w fun e w' => ∃ q, e = .returned (.slice (some ⟨q, 0, none⟩) g.regs.length g.regs.length) ∧ Arr 4 (fun b => Value.bool b) q (beginL g) w' ∧ w.heap.size ≤ q ∧ Below w.heap.size w w' := by
  have hG0 := hG
  obtain ⟨a, b, c, d0, e, a', b', c', d', e', rfl, hC, hA⟩ := hG.all
  clear hG
  have s3 := sg.regs
  have hmk := fun W => mkB W g.regs.length g.regs.length (Nat.le_refl _) (by omega)
  go_enter Try.func20, Try.ntmps20
  go_upto_region 1 with fail
  have bel := (Below.refl w.heap.size w).alloc (Nat.le_refl _) (.cells #[.slice a g.ins.length a', .slice b g.outN.length b', .slice c g.regs.length c', .slice d0 g.ands.length d', .slice e g.outs.length e'] 31)
  have X := GX.new w (.slice a g.ins.length a') (.slice b g.outN.length b') (.slice c g.regs.length c') (.slice d0 g.ands.length d') (.slice e g.outs.length e') 31
  generalize w.alloc (.cells #[.slice a g.ins.length a', .slice b g.outN.length b', .slice c g.regs.length c', .slice d0 g.ands.length d', .slice e g.outs.length e'] 31) = W0 at bel X ⊢
  generalize hk : w.heap.size = k at X ⊢
  have HK := Lib.hid hk
  clear hk
  obtain ⟨x0, x1, x2, x3, x4⟩ := id X
  go_upto_region 2 with fail
  have A0 : Arr 4 (fun b => Value.bool b) W0.heap.size (List.replicate g.regs.length false) (W0.alloc (.cells (madeCells #[.bool false] g.regs.length) 4)) := Arr.made W0 _ false _
  have bA := (Below.refl W0.heap.size W0).alloc (Nat.le_refl _) (.cells (madeCells #[.bool false] g.regs.length) 4)
  rw [← fill_zero (fun r : Rg => r.it) false g.regs] at A0
  have HX := Lib.hid (fun W (hb : Below W0.heap.size W0 W) => X.below hb)
  have HA := Lib.hid (fun W (hb : Below W0.heap.size W0 W) => hA.regs.below (bel.trans (hb.mono bel.size)))
  have HBEL := Lib.hid bel
  clear hmk x0 x1 x2 x3 x4 X bel hA hG0 hC
  generalize W0.alloc (.cells (madeCells #[.bool false] g.regs.length) 4) = W1 at A0 bA ⊢
  obtain ⟨x0, x1, x2, x3, x4⟩ := HX.out _ bA
  go_upto_block 0 with fail
  clear x0 x1 x2 x3 x4
  go_wp2_with fail
  go_loopw [13] (fun i wr => ∃ j : Nat, j ≤ g.regs.length ∧ i = .int .i64 (j : Int) ∧ Hid (Arr 4 (fun b => Value.bool b) W0.heap.size (fillL (fun r : Rg => r.it) false g.regs j) wr) ∧ Hid (Below W0.heap.size W0 wr)) (fun i _ => g.regs.length - (intOf i).toNat)
  case atStart => exact ⟨0, Nat.zero_le _, rfl, Lib.hid A0, Lib.hid bA⟩
  case round =>
    clear A0 bA
    obtain ⟨j, hj, rfl, hA, hB⟩ := hrel
    rename World => WR
    have hj0 : (0 : Int) ≤ (j : Int) := by omega
    by_cases hlt : j < g.regs.length
    · have hji : (j : Int) < (g.regs.length : Int) := by omega
      obtain ⟨bb, oo, hdd, hcell⟩ := (HA.out _ hB.out).pick (by omega)
      subst hdd
      have c0 := hcell j hlt 0 _ rfl
      have c1 := hcell j hlt 1 _ rfl
      have c2 := hcell j hlt 2 _ rfl
      simp only [Nat.add_zero] at c0
      clear hcell
      have HFL := Lib.hid (fill_len (fun r : Rg => r.it) false g.regs j hj)
      have HS := Lib.hid (fill_set (fun r : Rg => r.it) false g.regs j hlt)
      generalize g.regs[j]! = r at c0 c1 c2 HS
      obtain ⟨r0, r1, r2⟩ := r
      simp only at c0 c1 c2 HS
      go_upto_region 5 with fail
      have b2 := (Below.refl WR.heap.size WR).alloc (Nat.le_refl _) (.cells #[.string r0, .int .i64 r1, .bool r2] 128)
      have y2 : (WR.alloc (.cells #[.string r0, .int .i64 r1, .bool r2] 128)).cell? ⟨WR.heap.size, 2, none⟩ = some (.bool r2) := by go_simp
      have A1 := hA.out.below b2
      have B1 := hB.out.trans (b2.mono hB.out.size)
      clear b2 c0 c1 c2 hA hB
      generalize WR.alloc (.cells #[.string r0, .int .i64 r1, .bool r2] 128) = WS at A1 B1 y2 ⊢
      generalize WR.heap.size = q10 at y2 ⊢
      have fr := A1.free j
      have a1 := A1.cell (j := j) (by rw [HFL.out]; exact hlt)
      have HA := Lib.hid (A1.set j r2)
      have HB2 := Lib.hid (B1.setCell (p := ⟨W0.heap.size, j, none⟩) (Nat.le_refl _) (.bool r2))
      have hlt1 := A1.lt
      rw [HS.out] at HA
      clear A1 B1
      go_wp2_with fail
      go_roundw
      case rel => exact ⟨j + 1, by omega, by go_num, HA, HB2⟩
      all_goals first | done | (simp [intOf]; done) | (simp [intOf]; omega)
    · have hji : ¬ (j : Int) < (g.regs.length : Int) := by omega
      have HA := hA.out
      rw [show j = g.regs.length by omega, fill_all, show g.regs.map (fun r => r.it) = beginL g from rfl] at HA
      have HB := Lib.hid (HBEL.out.trans (hB.out.mono HBEL.out.size))
      have HA2 := Lib.hid HA
      have hws := HBEL.out.size
      clear hA hB HA
      go_wp2_with fail
      go_ret
      exact ⟨_, rfl, HA2.out, hws, HB.out⟩
theorem lanes_len (l : List Bool) : (lanesL l).length = l.length := by simp [lanesL]
theorem lanes_holds : LanesC := fun l v w hn h => (lanes_any l v w hn h).mono fun e w' ⟨q, h1, h2, h3, h4⟩ => ⟨_, h1, (h2.rowc _ (lanes_len l)).row, h4⟩
theorem lane_holds : LaneC := fun l v w hn hw h => (lane_any l v w hn hw h).mono fun e w' ⟨q, h1, h2, h3, h4⟩ => ⟨_, h1, (h2.rowc _ (by simp)).row, h4⟩
theorem init_holds : InitC := fun g v w sg hG => (init_any g v w sg hG).mono fun e w' ⟨q, h1, h2, h3, h4⟩ => ⟨_, h1, (h2.rowc _ (by simp [beginL])).row, h4⟩
end Go.Proofs.Ytcpifmhcebfglaa
