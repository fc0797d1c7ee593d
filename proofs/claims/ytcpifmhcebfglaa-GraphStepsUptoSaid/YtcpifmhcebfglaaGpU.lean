/- The program's Run: what it answers. Condition: rows of at most 4,000,000,000 elements. -/
import Derived.Test.YtcpifmhcebfglaaGpI
import Derived.Test.YtcpifmhcebfglaaGlRd
namespace Go.Proofs.Ytcpifmhcebfglaa
open Go Go.RowKit Go.Sort
set_option linter.unusedVariables false
theorem rows_same {n : Nat} : ∀ {l : List (List Bool)}, tfR n l = 0 → ∀ r ∈ l, r.length = n
  | [], _, r, hr => by cases hr
  | x :: l, h, r, hr => by
    unfold tfR at h
    split at h
    · rename_i hx
      rcases List.mem_cons.1 hr with rfl | hr
      · exact hx
      · exact rows_same h r hr
    · omega
theorem Arr.ownK {t : TypeId} {α : Type} {f : α → Value} {g B : Nat} {l : List α} {w : World} (h : Arr t f g l w) (hB : B ≤ g) (hl : l.length ≤ maxLen) : OwnK B t 1 (fun x => [f x]) w (.slice (some ⟨g, 0, none⟩) l.length l.length) l := by
  unfold OwnK
  rw [flat_one]
  exact ⟨by simp, .inr ⟨g, l.length, (l.map f).toArray, rfl, hB, h.blk, Nat.le_refl _, hl, by simp, by simp [List.take_of_length_le]⟩⟩
theorem OwnK.rC {B : Nat} {t : TypeId} {α : Type} [Inhabited α] {f : α → Value} {w : World} {v : Value} {l : List α} (h : OwnK B t 1 (fun x => [f x]) w v l) : RowC f l v w := h.own.rowC
theorem TRnil (w : World) : TR [] (.slice none 0 0) w := ⟨none, 0, [], rfl, Nat.le_refl _, fun _ => rfl, rfl, .inl rfl, fun j hj => by simp at hj⟩
/-- rows that the call made, one for each cycle, in blocks behind q -/
def RowsA (q : Nat) (P : List (List Bool)) (vs : List Value) (w : World) : Prop := ∀ i, i < P.length → ∃ b, vs[i]! = .slice (some ⟨b, 0, none⟩) P[i]!.length P[i]!.length ∧ q < b ∧ Arr 4 (fun b => Value.bool b) b P[i]! w
theorem RowsA.below {q : Nat} {P : List (List Bool)} {vs : List Value} {w w' : World} (h : RowsA q P vs w) (hb : Below w.heap.size w w') : RowsA q P vs w' := fun i hi => (h i hi).elim fun b ⟨h1, h2, h3⟩ => ⟨b, h1, h2, h3.below hb⟩
theorem RowsA.set {q : Nat} {P : List (List Bool)} {vs : List Value} {w : World} (h : RowsA q P vs w) (j : Nat) (hj : P.length = j) (hv : j < vs.length) {b : Nat} {r : List Bool} (hq : q < b) (A : Arr 4 (fun b => Value.bool b) b r w) : RowsA q (P ++ [r]) (vs.set j (.slice (some ⟨b, 0, none⟩) r.length r.length)) (w.setCell ⟨q, j, none⟩ (.slice (some ⟨b, 0, none⟩) r.length r.length)) := fun i hi => by
  by_cases e : i = j
  · subst e
    refine ⟨b, ?_, hq, ?_⟩
    · rw [getElem!_pos (vs.set i _) i (by simpa using hv), List.getElem_set_self, getElem!_pos (P ++ [r]) i hi, List.getElem_append_right (by omega)]
      simp [hj]
    · rw [getElem!_pos (P ++ [r]) i hi, List.getElem_append_right (by omega)]
      simp only [hj, Nat.sub_self, List.getElem_cons_zero]
      exact A.other (by show b ≠ q; omega)
  · have hi2 : i < P.length := by simp at hi; omega
    obtain ⟨b2, h1, h2, h3⟩ := h i hi2
    have e1 : (P ++ [r])[i]! = P[i]! := by rw [getElem!_pos _ i hi, getElem!_pos P i hi2, List.getElem_append_left hi2]
    refine ⟨b2, ?_, h2, ?_⟩
    · rw [e1, ← h1]
      by_cases hv2 : i < vs.length
      · rw [getElem!_pos (vs.set j _) i (by simpa using hv2), getElem!_pos vs i hv2, List.getElem_set_ne (fun e2 => e e2.symm)]
      · rw [getElem!_neg (vs.set j _) i (by simpa using hv2), getElem!_neg vs i hv2]
    · rw [e1]
      exact h3.other (by show b2 ≠ q; omega)
theorem RowsA.tr {q : Nat} {P : List (List Bool)} {vs : List Value} {w : World} (h : RowsA q P vs w) (hl : vs.length = P.length) (A : Arr 40 gV q vs w) : TR P (.slice (some ⟨q, 0, none⟩) P.length P.length) w := by
  refine ⟨_, _, vs, rfl, Nat.le_refl _, (fun h => by cases h), hl, .inr ⟨q, 0, rfl, fun j hj c x hx => ?_⟩, fun j hj => ?_⟩
  · match c, hx with
    | 0, hx =>
      simp only [List.getElem?_cons_zero, Option.some.injEq] at hx
      subst hx
      simpa using A.cell hj
    | c + 1, hx => simp at hx
  · obtain ⟨b, h1, _, h3⟩ := h j hj
    rw [h1]
    exact h3.rowc _ rfl
/-- the state of the registers as words -/
structure StW (g : Gr) (l : List (List Bool)) (q j : Nat) (u : Value) (w : World) : Prop where
  all : ∃ (B : Nat) (S : List (BitVec 64)), q < B ∧ S.length = g.regs.length ∧ S.map (·.getLsbD 0) = stL g (beginL g) (l.take j) ∧ OwnK B 51 1 encW w u S
theorem StW.below {g : Gr} {l : List (List Bool)} {q j : Nat} {u : Value} {w w' : World} (h : StW g l q j u w) (hb : Below w.heap.size w w') : StW g l q j u w' := by
  obtain ⟨B, S, h1, h2, h3, h4⟩ := h.all
  exact ⟨⟨B, S, h1, h2, h3, h4.below hb⟩⟩
/-- two rows of words -/
def WP (B : Nat) (O N : List (BitVec 64)) : Fa := fun v w => ∃ vo vn, v = .tuple #[vo, vn] ∧ RowOf 1 encW O vo w ∧ OwnK B 51 1 encW w vn N
theorem wp_sta (B : Nat) (O N : List (BitVec 64)) : Sta (WP B O N) := fun v w w' ⟨vo, vn, h1, h2, h3⟩ hb => ⟨vo, vn, h1, h2.below hb, h3.below hb⟩
set_option maxRecDepth 100000 in
set_option maxHeartbeats 16000000 in
theorem run_any (g : Gr) (v : Value) (l : List (List Bool)) (vt : Value) (sg : Small g) (hn : l.length ≤ 4000000000) (w : World) (hG : GO g v w) (hT : TR l vt w) : Calls Try.prog 18 #[v, vt] w fun e w' => ∃ vl, e = .returned (.tuple #[vl, .int .i64 (runE g l)]) ∧ TR (runR g l) vl w' ∧ Below w.heap.size w w' := by
  have hG0 := hG
  obtain ⟨a, b, c, d0, e, a', b', c', d', e', rfl, hC, hA⟩ := hG.all
  clear hG
  obtain ⟨ad, cpt, ws, rfl, hct, hnt, hwl, RT, hTj⟩ := hT
  go_enter Try.func18, Try.ntmps18
  go_upto_region 1 with fail
  have bel := (Below.refl w.heap.size w).alloc (Nat.le_refl _) (.cells #[.slice a g.ins.length a', .slice b g.outN.length b', .slice c g.regs.length c', .slice d0 g.ands.length d', .slice e g.outs.length e'] 31)
  have X := GX.new w (.slice a g.ins.length a') (.slice b g.outN.length b') (.slice c g.regs.length c') (.slice d0 g.ands.length d') (.slice e g.outs.length e') 31
  generalize w.alloc (.cells #[.slice a g.ins.length a', .slice b g.outN.length b', .slice c g.regs.length c', .slice d0 g.ands.length d', .slice e g.outs.length e'] 31) = W0 at bel X ⊢
  generalize hk : w.heap.size = k at X ⊢
  have HK := Lib.hid hk
  clear hk
  obtain ⟨x0, x1, x2, x3, x4⟩ := id X
  have H0 := Lib.hid (check_any g _ sg W0 (hG0.below bel))
  by_cases hz : faultG g = 0
  rotate_left
  · have HR : Hid (runE g l = faultG g) := Lib.hid (if_neg hz)
    have HR2 : Hid (runR g l = []) := Lib.hid (if_neg (by rw [HR.out]; exact hz))
    generalize hf : faultG g = f at H0 hz
    have HFF := Lib.hid hf
    clear hf
    have hz2 : (f == 0) = false := beq_eq_false_iff_ne.2 hz
    go_wp2_with (first | (go_at_call 71; refine H0.out.mono ?_; rintro ee w1 ⟨rfl, hb1⟩))
    go_ret2
    exact ⟨_, by rw [HR.out, HFF.out]; rfl, by rw [HR2.out]; exact TRnil _, bel.trans (hb1.mono bel.size)⟩
  have vg := vg_of hz
  have HR : Hid (runE g l = tfL l g.ins.length) := Lib.hid (if_pos hz)
  rw [hz] at H0
  clear hz
  go_upto_region 4 with (first | (go_at_call 71; refine H0.out.mono ?_; rintro ee W1 ⟨rfl, hb1⟩))
  have bel1 := bel.trans (hb1.mono bel.size)
  have X1 := X.below hb1
  clear x0 x1 x2 x3 x4 X hb1 bel H0
  by_cases hl64 : 64 < l.length
  · have q1 : (64 : Int) < (l.length : Int) := by omega
    have HE := Lib.hid (show runE g l = 3 by rw [HR.out]; unfold tfL; rw [if_pos hl64])
    have HR2 : Hid (runR g l = []) := Lib.hid (if_neg (by rw [HE.out]; decide))
    clear hl64
    go_wp2_with fail
    go_ret2
    exact ⟨_, by rw [HE.out]; rfl, by rw [HR2.out]; exact TRnil _, bel1⟩
  have q1 : ¬ (64 : Int) < (l.length : Int) := by omega
  have HE0 := Lib.hid (show runE g l = tfR g.ins.length l by rw [HR.out]; unfold tfL; rw [if_neg hl64])
  clear HR
  have HX := Lib.hid (fun W (hb : Below W1.heap.size W1 W) => X1.below hb)
  have HTV := Lib.hid (fun W (hb : Below W1.heap.size W1 W) => RT.below (bel1.trans (hb.mono bel1.size)))
  have HTJ := Lib.hid (fun j (hj : j < l.length) W (hb : Below W1.heap.size W1 W) => (hTj j hj).below (bel1.trans (hb.mono bel1.size)))
  have HG := Lib.hid (fun W (hb : Below W1.heap.size W1 W) => hG0.below (bel1.trans (hb.mono bel1.size)))
  have HBEL := Lib.hid bel1
  have HWL := Lib.hid hwl
  clear hA hG0 hC RT hTj X1 bel1 hwl
  go_upto_block 0 with fail
  go_wp2_with fail
  go_loopw [25] (fun i wr => ∃ j : Nat, j ≤ l.length ∧ i = .int .i64 (j : Int) ∧ Hid (tfR g.ins.length l = tfR g.ins.length (l.drop j)) ∧ wr = W1) (fun i _ => l.length - (intOf i).toNat)
  case atStart => exact ⟨0, Nat.zero_le _, rfl, Lib.hid rfl, rfl⟩
  case round =>
    obtain ⟨j, hj, rfl, hE, hww⟩ := hrel
    have hw2 := hww.symm
    clear hww
    subst hw2
    have hj0 : (0 : Int) ≤ (j : Int) := by omega
    by_cases hlt : j < l.length
    · have hji : (j : Int) < (l.length : Int) := by omega
      obtain ⟨bb, oo, hdd, hcell⟩ := (HTV.out W1 (Below.refl _ _)).pick (by rw [HWL.out]; omega)
      subst hdd
      have c0 := hcell j (by rw [HWL.out]; exact hlt) 0 _ rfl
      simp only [Nat.mul_one, Nat.add_zero] at c0
      obtain ⟨ad2, cp2, hv2, _, _, _⟩ := HTJ.out j hlt W1 (Below.refl _ _)
      rw [hv2] at c0
      have HQ := Lib.hid (show tfR g.ins.length l = if l[j]!.length = g.ins.length then tfR g.ins.length (l.drop (j + 1)) else 20 by rw [hE.out, drop_get l hlt]; rfl)
      clear hcell hv2 hE
      generalize l[j]!.length = n at c0 HQ
      obtain ⟨x0, x1, x2, x3, x4⟩ := HX.out W1 (Below.refl _ _)
      by_cases p1 : n = g.ins.length
      · have q5 : ((n : Int) == (g.ins.length : Int)) = true := beq_iff_eq.2 (by omega)
        have q6 : ((n : Int) != (g.ins.length : Int)) = false := by simp [bne, q5]
        rw [if_pos p1] at HQ
        clear p1
        go_wp2_with fail
        go_roundw
        case rel => exact ⟨j + 1, by omega, by go_num, HQ, by first | rfl | trivial⟩
        all_goals first | done | (simp [intOf]; done) | (simp [intOf]; omega)
      · have q5 : ((n : Int) == (g.ins.length : Int)) = false := beq_eq_false_iff_ne.2 (by omega)
        have q6 : ¬ (n : Int) = (g.ins.length : Int) := by omega
        have HE := Lib.hid (show runE g l = 20 by rw [HE0.out, HQ.out, if_neg p1])
        have HR2 : Hid (runR g l = []) := Lib.hid (if_neg (by rw [HE.out]; decide))
        clear p1
        go_wp2_with fail
        go_ret2
        exact ⟨_, by rw [HE.out]; rfl, by rw [HR2.out]; exact TRnil _, HBEL.out⟩
    · have hji : ¬ (j : Int) < (l.length : Int) := by omega
      have htf : tfR g.ins.length l = 0 := by rw [hE.out, List.drop_of_length_le (by omega)]; rfl
      have HE := Lib.hid (HE0.out.trans htf)
      have HRW := Lib.hid (rows_same htf)
      have HR2 : Hid (runR g l = playL g (beginL g) l) := Lib.hid (if_pos HE.out)
      clear hE htf HE0
      have hl64' : l.length ≤ 64 := by omega
      have hmk := fun W => mkSb W l.length l.length (Nat.le_refl _) (by omega)
      go_upto_region 13 with fail
      have A0 : Arr 40 gV W1.heap.size (List.replicate l.length (.slice none 0 0)) (W1.alloc (.cells (madeCells #[.slice none 0 0] l.length) 40)) := Arr.made (f := gV) W1 _ (.slice none 0 0) _
      have bA := (Below.refl W1.heap.size W1).alloc (Nat.le_refl _) (.cells (madeCells #[.slice none 0 0] l.length) 40)
      clear hmk
      generalize W1.alloc (.cells (madeCells #[.slice none 0 0] l.length) 40) = W2 at A0 bA ⊢
      obtain ⟨x0, x1, x2, x3, x4⟩ := HX.out _ bA
      have H1 := Lib.hid (init_any g _ W2 sg (HG.out _ bA))
      have hq2 := A0.lt
      have hrg := vg.regs
      have hbl : (beginL g).length = g.regs.length := by simp [beginL]
      have H2 := Lib.hid (fun q W (hA : Arr 4 (fun b => Value.bool b) q (beginL g) W) => lanes_any (beginL g) _ W (by omega) (hA.rowc g.regs.length hbl))
      rw [hbl] at H2
      go_upto_block 2 with (first | (go_at_call 20; refine H1.out.mono ?_; rintro ee W3 ⟨q3, rfl, A3, hq3, hb3⟩) | (go_at_call 44; refine (H2.out _ _ A3).mono ?_; rintro ee W4 ⟨q4, rfl, A4, hq4, hb4⟩))
      have b24 := hb3.trans (hb4.mono hb3.size)
      have A5 := A0.below b24
      have B5 := bA.trans (b24.mono bA.size)
      have S0 : StW g l W1.heap.size 0 (.slice (some ⟨q4, 0, none⟩) g.regs.length g.regs.length) W4 := by
        refine ⟨⟨q4, laneW (beginL g), by have := hb3.size; omega, by rw [laneW_len]; exact hbl, laneW_0 _, ?_⟩⟩
        have A6 : Arr 51 (fun b : BitVec 64 => Value.int .u64 (U b)) q4 (laneW (beginL g)) W4 := ⟨by
          rw [A4.blk, ← laneW_U, List.map_map]; rfl⟩
        have := A6.ownK (Nat.le_refl q4) (by rw [laneW_len, hbl]; unfold maxLen; omega)
        rwa [laneW_len, hbl] at this
      have R0 : RowsA W1.heap.size (playL g (beginL g) (l.take 0)) (List.replicate l.length (.slice none 0 0)) W4 := fun i hi => by simp [playL] at hi
      have HRL : Hid ((List.replicate l.length (Value.slice none 0 0)).length = l.length) := Lib.hid (by simp)
      clear A0 bA x0 x1 x2 x3 x4 H1 H2 A3 A4 hb3 hb4 b24 hq3 hq4
      generalize (List.replicate l.length (Value.slice none 0 0)) = vs0 at A5 R0 HRL
      have hq6 := A5.lt
      have HAN := vg.ands
      have HON : g.outs.length ≤ 128 := by have := vg.same; have := vg.outN; omega
      go_wp2_with fail
      go_loopw [10, 44] (fun u i wr => ∃ j : Nat, j ≤ l.length ∧ i = .int .i64 (j : Int) ∧ Hid (StW g l W1.heap.size j u wr) ∧ Hid (∃ vs : List Value, vs.length = l.length ∧ Arr 40 gV W1.heap.size vs wr ∧ RowsA W1.heap.size (playL g (beginL g) (l.take j)) vs wr) ∧ Hid (Below W1.heap.size W1 wr)) (fun _ i _ => l.length - (intOf i).toNat)
      case atStart => exact ⟨0, Nat.zero_le _, rfl, Lib.hid S0, Lib.hid ⟨vs0, HRL.out, A5, R0⟩, Lib.hid B5⟩
      case round =>
        clear S0 A5 R0 HRL B5 hq6
        obtain ⟨j, hj, rfl, hS, hV, hB⟩ := hrel
        rename World => WR
        have hj0 : (0 : Int) ≤ (j : Int) := by omega
        obtain ⟨vs, hvl, A1, RA⟩ := hV.out
        have HVL := Lib.hid hvl
        have B1 := hB.out
        clear hV hvl hB
        by_cases hlt : j < l.length
        · have hji : (j : Int) < (l.length : Int) := by omega
          obtain ⟨B, S, hqB, hSl, hS0, OS⟩ := hS.out.all
          obtain ⟨bb, oo, hdd, hcell⟩ := (HTV.out WR B1).pick (by rw [HWL.out]; omega)
          subst hdd
          have c0 := hcell j (by rw [HWL.out]; exact hlt) 0 _ rfl
          simp only [Nat.mul_one, Nat.add_zero] at c0
          have RJ := HTJ.out j hlt WR B1
          have hrl := HRW.out _ (mem1 l hlt)
          have HTK := Lib.hid (tk1 l hlt)
          have HPL := Lib.hid (show playL g (beginL g) (l.take (j + 1)) = playL g (beginL g) (l.take j) ++ [shows g l[j]! (stL g (beginL g) (l.take j))] by rw [tk1 l hlt, playL_snoc])
          have HSL := Lib.hid (show stL g (beginL g) (l.take (j + 1)) = nexts g l[j]! (stL g (beginL g) (l.take j)) by rw [tk1 l hlt, stL_snoc])
          clear hcell hS
          generalize l[j]! = r at RJ hrl HPL HSL
          generalize ws[j]! = vr at c0 RJ
          have h1r : (laneW r).length = g.ins.length := by rw [laneW_len]; exact hrl
          have HO := Lib.hid (out_lane g vg (laneW r) S h1r hSl 0 (by decide))
          have HN := Lib.hid (nxt_lane g vg (laneW r) S h1r hSl 0 (by decide))
          rw [laneW_0, hS0] at HO HN
          have hvl2 := v_len g (laneW r) S h1r hSl
          have HNL := Lib.hid (show (nxtW g (valsW g (0#64 :: (laneW r ++ S)) g.ands.length)).length = g.regs.length by unfold nxtW; simp)
          have HOL := Lib.hid (show (outW g (valsW g (0#64 :: (laneW r ++ S)) g.ands.length)).length ≤ 128 by unfold outW; simp; omega)
          have RS := OS.rC
          have hri := vg.ins
          go_upto_region 17 with fail
          have C1 := Lib.hid (fun W (hb : Below WR.heap.size WR W) => lanesF_any r _ W (by omega) (RJ.below hb))
          have C2 := Lib.hid (fun u W (hb : Below WR.heap.size WR W) (q1 : RowC (fun b => Value.int .u64 (U b)) (laneW r) u W) => (values_any g _ (laneW r) S u _ vg sg h1r hSl W (HG.out _ (B1.trans (hb.mono B1.size))) q1 (RS.below hb)).mono fun ee w' ⟨u, q1, q2, q3⟩ => (⟨u, q1, q2.row lenW, q3⟩ : ∃ u, ee = Ending.returned u ∧ RowOf 1 encW (valsW g (0#64 :: (laneW r ++ S)) g.ands.length) u w' ∧ Below W.heap.size W w'))
          generalize valsW g (0#64 :: (laneW r ++ S)) g.ands.length = V at C2 HO HN hvl2 HNL HOL
          have C3 := Lib.hid (fun u W (hb : Below WR.heap.size WR W) (q1 : RowOf 1 encW V u W) => (sampled_any g _ V u vg hvl2 W (HG.out _ (B1.trans (hb.mono B1.size))) q1).mono fun ee w' ⟨vo, vn, q1, q2, q3, q4⟩ => (⟨_, q1, ⟨vo, vn, rfl, q2.row lenW, q3.mono hb.size⟩, q4⟩ : ∃ u, ee = Ending.returned u ∧ WP WR.heap.size (outW g V) (nxtW g V) u w' ∧ Below W.heap.size W w'))
          obtain ⟨x0, x1, x2, x3, x4⟩ := HX.out _ B1
          generalize outW g V = O at C3 HO HOL
          generalize nxtW g V = N at C3 HN HNL
          generalize laneW r = LR at C1 C2
          have HBR := Lib.hid (fun d os => below_regrown WR d os)
          have g0 := cell_regrown x0
          have g1 := cell_regrown x1
          have g2 := cell_regrown x2
          have g3 := cell_regrown x3
          have g4 := cell_regrown x4
          have hwr1 := B1.size
          have hqw : W1.heap.size < WR.heap.size := A1.lt
          clear x0 x1 x2 x3 x4 c0 hvl2 h1r hrl hSl hS0 RJ RS OS
          refine wp_region_rel 12 (by kernel_rfl) (by kernel_rfl) ?_
          simp only [List.take_succ_cons, List.take_zero, List.drop_succ_cons, List.drop_zero]
          (refine rel_fix0 (fun K hK => ?_); go_simp; refine hK _ ?_; clear hK K)
          (refine rel_fix0 (fun K hK => ?_); go_simp; refine hK _ ?_; clear hK K)
          (refine rel_fix0 (fun K hK => ?_); go_simp; refine hK _ ?_; clear hK K)
          refine rel_fact [] (RowC (fun b => Value.int .u64 (U b)) LR) 53 rfl (by simp [Act.put]) (rowc_sta _ _) (by rfl) (by kernel_rfl) (by kernel_rfl) ?_ ?_
          · intro d os
            simp only [relAll]
            go_simp
            exact ret_fact (C1.out _ (HBR.out _ _))
          (refine rel_fix (by kernel_rfl) (by kernel_rfl) (fun K hK => ?_); go_simp; refine hK _ ?_; clear hK K)
          refine rel_fact [(53, _)] (RowOf 1 encW V) 55 rfl (by simp [Act.put]) (rowof_sta _ _ _) (by rfl) (by kernel_rfl) (by kernel_rfl) ?_ ?_
          · intro d os
            simp only [relAll]
            rintro u1 r1
            go_simp
            exact ret_fact (C2.out _ _ (HBR.out _ _) r1)
          refine rel_fact [(55, _)] (WP WR.heap.size O N) 56 rfl (by simp [Act.put]) (wp_sta _ _ _) (by rfl) (by kernel_rfl) (by kernel_rfl) ?_ ?_
          · intro d os
            simp only [relAll]
            rintro u1 r1
            go_simp
            exact ret_fact (C3.out _ _ (HBR.out _ _) r1)
          refine rel_fact [(56, _)] (WP WR.heap.size O N) 49 rfl (by simp [Act.put]) (wp_sta _ _ _) (by rfl) (by kernel_rfl) (by kernel_rfl) ?_ ?_
          · intro d os
            simp only [relAll]
            rintro u1 r1
            go_simp
            all_goals exact ⟨r1, Below.refl _ _⟩
          refine rel_fact [(49, _)] (RowOf 1 encW O) 57 rfl (by simp [Act.put]) (rowof_sta _ _ _) (by rfl) (by kernel_rfl) (by kernel_rfl) ?_ ?_
          · intro d os
            simp only [relAll]
            rintro u1 ⟨ga, gb, rfl, q1, q2⟩
            go_simp
            all_goals exact ⟨q1, Below.refl _ _⟩
          refine rel_fact [(49, _)] (fun v w => OwnK WR.heap.size 51 1 encW w v N) 58 rfl (by simp [Act.put]) (ownk_sta _ _ _ _ _) (by rfl) (by kernel_rfl) (by kernel_rfl) ?_ ?_
          · intro d os
            simp only [relAll]
            rintro u1 ⟨ga, gb, rfl, q1, q2⟩
            go_simp
            all_goals exact ⟨q2, Below.refl _ _⟩
          refine rel_fact [(57, _)] (RowOf 1 encW O) 13 rfl (by simp [Act.put]) (rowof_sta _ _ _) (by rfl) (by kernel_rfl) (by kernel_rfl) ?_ ?_
          · intro d os
            simp only [relAll]
            rintro u1 r1
            go_simp
            all_goals exact ⟨r1, Below.refl _ _⟩
          refine rel_fact [(58, _)] (fun v w => OwnK WR.heap.size 51 1 encW w v N) 14 rfl (by simp [Act.put]) (ownk_sta _ _ _ _ _) (by rfl) (by kernel_rfl) (by kernel_rfl) ?_ ?_
          · intro d os
            simp only [relAll]
            rintro u1 r1
            go_simp
            all_goals exact ⟨r1, Below.refl _ _⟩
          refine rel_nil ?_
          intro d os
          simp only [relAll]
          rintro v14 r14 v13 r13 v58 - v57 - v49 - v56 - v55 - v53 -
          have hb5 := HBR.out d os
          have R13 := r13
          have R14 := r14
          have A6 := A1.below hb5
          have RA6 := RA.below hb5
          have B6 := B1.trans (hb5.mono B1.size)
          have hs6 := hb5.size
          clear g0 g1 g2 g3 g4 HBR C1 C2 C3 r13 r14 hb5 A1 RA B1
          generalize grow (redrawn WR d) os = W6 at R13 R14 A6 RA6 B6 hs6 ⊢
          have D1 := Lib.hid (laneF_any O v13 W6 (by have := HOL.out; omega) R13)
          have hjv : j < vs.length := by rw [HVL.out]; exact hlt
          clear R13
          go_wp2_with (first | (go_at_call 74; refine D1.out.mono ?_; rintro ee W7 ⟨q7, rfl, A7, hq7, hb7⟩; have A8 := A6.below hb7; have f8 := A8.free j; have a8 := A8.cell hjv; have hl8 := A8.lt))
          have hqq : W1.heap.size < q7 := by omega
          have RA8 := (RA6.below hb7).set j (by rw [playL_len]; simp; omega) hjv hqq A7
          rw [List.length_map] at RA8
          have HA9 := Lib.hid (A8.set j (.slice (some ⟨q7, 0, none⟩) O.length O.length))
          have HRA9 := Lib.hid (show RowsA W1.heap.size (playL g (beginL g) (l.take (j + 1))) (vs.set j (.slice (some ⟨q7, 0, none⟩) O.length O.length)) (W7.setCell ⟨W1.heap.size, j, none⟩ (.slice (some ⟨q7, 0, none⟩) O.length O.length)) by rw [HPL.out, ← HO.out]; exact RA8)
          have HS9 := Lib.hid (show StW g l W1.heap.size (j + 1) v14 (W7.setCell ⟨W1.heap.size, j, none⟩ (.slice (some ⟨q7, 0, none⟩) O.length O.length)) from ⟨⟨WR.heap.size, N, hqw, HNL.out, by rw [HSL.out, HN.out], (R14.below hb7).set ⟨W1.heap.size, j, none⟩ _ hqw⟩⟩)
          have HB9 := Lib.hid ((B6.trans (hb7.mono B6.size)).setCell (p := ⟨W1.heap.size, j, none⟩) (Nat.le_refl _) (.slice (some ⟨q7, 0, none⟩) O.length O.length))
          have HVS := Lib.hid (show (vs.set j (.slice (some ⟨q7, 0, none⟩) O.length O.length)).length = l.length by rw [List.length_set]; exact HVL.out)
          clear a8 f8 A8 A7 A6 RA6 RA8 B6 R14 hb7 hl8
          first | go_roundw | (go_wp2_with fail; go_roundw)
          case rel => exact ⟨j + 1, by omega, by go_num, HS9, Lib.hid ⟨_, HVS.out, HA9.out, HRA9.out⟩, HB9⟩
          all_goals first | done | (simp [intOf]; done) | (simp [intOf]; omega)
        · have hji : ¬ (j : Int) < (l.length : Int) := by omega
          have hT := RA.tr (by rw [HVL.out, playL_len]; simp; omega) A1
          rw [List.take_of_length_le (by omega), playL_len, ← HR2.out] at hT
          have HTT := Lib.hid hT
          have HB9 := Lib.hid (HBEL.out.trans (B1.mono HBEL.out.size))
          clear hT RA A1 B1 hS
          go_wp2_with fail
          go_ret2
          exact ⟨_, by rw [HE.out]; rfl, HTT.out, HB9.out⟩
theorem run_holds : RunC := fun g v l vt w sg hn _ hG hT => run_any g v l vt sg hn w hG hT
end Go.Proofs.Ytcpifmhcebfglaa
