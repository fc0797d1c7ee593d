/- A sheet is made: the reference's NewSheet.
   One cycle of a valid graph: the reference's Cycle. -/
import Derived.Test.YtcpifmhcebfglaaGrIs
import Derived.Test.YtcpifmhcebfglaaGrAp
import Derived.Deep.RegionHeld
namespace Go.Proofs.Ytcpifmhcebfglaa
open Go Go.RowKit Go.Sort
set_option linter.unusedVariables false
theorem infoU : (Try.prog.info? 5).map (fun i => (i.zero, i.size, i.bytes)) = some (some (.int .u8 0), 1, 1) := by kernel_rfl
theorem infoU_parts : ∃ i, Try.prog.info? 5 = some i ∧ i.zero = some (.int .u8 0) ∧ i.size = 1 ∧ i.bytes = 1 := by
  have h := infoU
  cases hi : Try.prog.info? 5 with
  | none => rw [hi] at h; cases h
  | some i =>
    rw [hi] at h
    simp only [Option.map_some, Option.some.injEq, Prod.mk.injEq] at h
    exact ⟨i, rfl, h.1, h.2.1, h.2.2⟩
theorem Own.pick {B : Nat} {t : TypeId} {α : Type} [Inhabited α] {f : α → Value} {w : World} {v : Value} {l : List α} (h : Own B t f w v l) (hl : 0 < l.length) : ∃ b cap, v = .slice (some ⟨b, 0, none⟩) l.length cap ∧ B ≤ b ∧ l.length ≤ cap ∧ ∀ j, j < l.length → w.cell? ⟨b, j, none⟩ = some (f l[j]!) := by
  have hh := h
  rcases h.2 with ⟨h1, h0⟩ | ⟨b, cap, cur, hv, hb, hg, hc, _⟩
  · omega
  · subst hv
    refine ⟨b, cap, rfl, hb, hc, fun j hj => ?_⟩
    have := World.ownsRow.cellAt hh j (by omega)
    rw [this, List.getElem?_map, List.getElem?_eq_getElem hj, getElem!_pos l j hj]; rfl
/-- the sheet after j of the inputs and registers -/
def dSt (N : Nat) (x : List Bool) : Nat → List Int
  | 0 => (List.replicate N 0).set 0 1
  | j + 1 => (dSt N x j).set (1 + j) (if x[j]! = true then 2 else 1)
theorem dSt_len (N : Nat) (x : List Bool) : ∀ j, (dSt N x j).length = N
  | 0 => by simp [dSt]
  | j + 1 => by simp [dSt, dSt_len N x j]
theorem dSt_at (N : Nat) (x : List Bool) (hN : 0 < N) : ∀ j, j < N → ∀ i, i < N → (dSt N x j)[i]! = if i = 0 then 1 else if i - 1 < j then (if x[i - 1]! = true then 2 else 1) else 0
  | 0, _, i, hi => by
    show ((List.replicate N (0 : Int)).set 0 1)[i]! = _
    rw [at_set _ 0 i 1 (by simpa using hN), getElem!_pos _ i (by simpa using hi), List.getElem_replicate]
    by_cases h : i = 0
    · rw [if_pos h.symm, if_pos h]
    · rw [if_neg (fun e => h e.symm), if_neg h, if_neg (by omega)]
  | j + 1, hj, i, hi => by
    show ((dSt N x j).set (1 + j) (if x[j]! = true then 2 else 1))[i]! = _
    rw [at_set _ (1 + j) i _ (by rw [dSt_len]; omega), dSt_at N x hN j (by omega) i hi]
    by_cases h : 1 + j = i
    · subst h
      rw [if_pos rfl, if_neg (show ¬ 1 + j = 0 by omega), if_pos (show 1 + j - 1 < j + 1 by omega), show 1 + j - 1 = j by omega]
    · rw [if_neg h]
      by_cases h0 : i = 0
      · rw [if_pos h0, if_pos h0]
      · rw [if_neg h0, if_neg h0]
        by_cases h1 : i - 1 < j
        · rw [if_pos h1, if_pos (show i - 1 < j + 1 by omega)]
        · rw [if_neg h1, if_neg (show ¬ i - 1 < j + 1 by omega)]
theorem dSt_knows (g : Gr) (x : List Bool) (hx : 1 + x.length = n0L g) : Knows (valsG g (false :: x)) (dSt (n0L g + g.ands.length) x x.length) (n0L g + g.ands.length) := fun i hi => by
  rw [dSt_at _ x (by omega) _ (by omega) i hi]
  by_cases h0 : i = 0
  · subst h0
    right
    rw [if_pos rfl, valsG_pre g _ 0 (by simp)]; rfl
  · rw [if_neg h0]
    by_cases h1 : i - 1 < x.length
    · right
      rw [if_pos h1, valsG_pre g _ i (by simp; omega)]
      obtain ⟨j, rfl⟩ : ∃ j, i = j + 1 := ⟨i - 1, by omega⟩
      rfl
    · left; rw [if_neg h1]
theorem dSt_base (g : Gr) (x : List Bool) (hx : 1 + x.length = n0L g) : ∀ i, i < n0L g → (dSt (n0L g + g.ands.length) x x.length)[i]! ≠ 0 := fun i hi => by
  rw [dSt_at _ x (by omega) _ (by omega) i (by omega)]
  by_cases h0 : i = 0
  · rw [if_pos h0]; decide
  · rw [if_neg h0, if_pos (show i - 1 < x.length by omega)]
    split <;> decide
/-- a sheet is made -/
structure NS (g : Gr) (x : List Bool) (w : World) (en : Ending) (w' : World) : Prop where
  all : ∃ k q a b c d e a' b' c' d' e', en = .returned (.pointer (some ⟨k, 0, none⟩)) ∧ k ≠ q ∧ w.heap.size ≤ q ∧ w.heap.size ≤ k ∧ GA g a b c d e w ∧ GC g a b c d e a' b' c' d' e' ∧ SM g k q (.slice a g.ins.length a') (.slice b g.outN.length b') (.slice c g.regs.length c') (.slice d g.ands.length d') (.slice e g.outs.length e') w (dSt (n0L g + g.ands.length) x x.length) w'
set_option maxRecDepth 100000 in
set_option maxHeartbeats 16000000 in
theorem newSheet_any (g : Gr) (v vi vs : Value) (ins st : List Bool) (vg : VG g) (hi : ins.length = g.ins.length) (hst : st.length = g.regs.length) (w : World) (hG : GO g v w) (h1 : RowC (fun b => Value.bool b) ins vi w) (h2 : RowC (fun b => Value.bool b) st vs w) : Calls Try.prog 180 #[v, vi, vs] w (NS g (ins ++ st) w) := by
  obtain ⟨a, b, c, d0, e, a', b', c', d', e', rfl, hC, hA⟩ := hG.all
  clear hG
  obtain ⟨ad1, c1, rfl, k1, m1, r1⟩ := h1
  obtain ⟨ad2, c2, rfl, k2, m2, r2⟩ := h2
  have n1 := vg.ins
  have n2 := vg.regs
  have n3 := vg.ands
  go_enter Try.func180, Try.ntmps180
  go_upto_region 1 with fail
  have bel := (Below.refl w.heap.size w).alloc (Nat.le_refl _) (.cells #[.slice a g.ins.length a', .slice b g.outN.length b', .slice c g.regs.length c', .slice d0 g.ands.length d', .slice e g.outs.length e'] 31)
  have X := GX.new w (.slice a g.ins.length a') (.slice b g.outN.length b') (.slice c g.regs.length c') (.slice d0 g.ands.length d') (.slice e g.outs.length e') 31
  have hsz : w.heap.size + 1 ≤ (w.alloc (.cells #[.slice a g.ins.length a', .slice b g.outN.length b', .slice c g.regs.length c', .slice d0 g.ands.length d', .slice e g.outs.length e'] 31)).heap.size := by simp
  generalize w.alloc (.cells #[.slice a g.ins.length a', .slice b g.outN.length b', .slice c g.regs.length c', .slice d0 g.ands.length d', .slice e g.outs.length e'] 31) = W0 at bel X hsz ⊢
  generalize hk : w.heap.size = k at X ⊢
  have HK := Lib.hid hk
  clear hk
  obtain ⟨x0, x1, x2, x3, x4⟩ := id X
  have hkw := X.lt
  obtain ⟨i0, hi0, hz0, hsz0, hby0⟩ := infoU_parts
  have hmk : ∀ W : World, (Instr.makeSlice 152 (.int .i64 (1 + (g.ins.length : Int) + (g.regs.length : Int) + (g.ands.length : Int))) (.int .i64 (1 + (g.ins.length : Int) + (g.regs.length : Int) + (g.ands.length : Int)))).run Try.prog W = .ok (.slice (some ⟨W.heap.size, 0, none⟩) (n0L g + g.ands.length) (n0L g + g.ands.length)) (W.alloc (.cells (madeCells #[.int .u8 0] (n0L g + g.ands.length)) 5)) := by
    intro W
    have e1 : (1 + (g.ins.length : Int) + (g.regs.length : Int) + (g.ands.length : Int)) = ((n0L g + g.ands.length : Nat) : Int) := by unfold n0L; omega
    have hN : n0L g + g.ands.length ≤ 5000 := by unfold n0L; omega
    rw [e1]
    generalize n0L g + g.ands.length = N at *
    have := run_makeSlice (P := Try.prog) W 152 5 i0 _ Try.underlying152 hi0 hz0 .i64 .i64 (N : Int) (N : Int) (by omega) (by omega) (by rw [hsz0]; omega) (by rw [hby0]; omega) (by omega)
    rw [hsz0, show (Value.int .u8 0).cells = #[.int .u8 0] from by kernel_rfl] at this
    simpa using this
  clear hi0 hz0 hsz0 hby0
  have hw1 : IntKind.i64.wrap (1 + (g.ins.length : Int)) = 1 + (g.ins.length : Int) := IntWalk.i64_in _ (by omega)
  have hw2 : IntKind.i64.wrap (1 + (g.ins.length : Int) + (g.regs.length : Int)) = 1 + (g.ins.length : Int) + (g.regs.length : Int) := IntWalk.i64_in _ (by omega)
  have hw3 : IntKind.i64.wrap (1 + (g.ins.length : Int) + (g.regs.length : Int) + (g.ands.length : Int)) = 1 + (g.ins.length : Int) + (g.regs.length : Int) + (g.ands.length : Int) := IntWalk.i64_in _ (by omega)
  generalize hN : n0L g + g.ands.length = N at hmk ⊢
  have HN := Lib.hid hN
  clear hN
  go_region_held (fun w' => w'.cell? ⟨k, 0, none⟩ = some (.slice a g.ins.length a') ∧ w'.cell? ⟨k, 1, none⟩ = some (.slice b g.outN.length b') ∧ w'.cell? ⟨k, 2, none⟩ = some (.slice c g.regs.length c') ∧ w'.cell? ⟨k, 3, none⟩ = some (.slice d0 g.ands.length d') ∧ w'.cell? ⟨k, 4, none⟩ = some (.slice e g.outs.length e')) (first | exact ⟨x0, x1, x2, x3, x4⟩ | (refine kp5 (w := W0) ⟨x0, x1, x2, x3, x4⟩ ?_; (repeat (first | (with_reducible exact Below.refl _ _) | (with_reducible exact Nat.le_refl _) | refine Below.drew ?_ | refine Below.alloc ?_ ?_ _ | refine Below.setCell ?_ ?_ _)) <;> (first | omega | (simp <;> omega)))) (fail)
  have A0 : Arr 5 (fun n : Int => Value.int .u8 n) W0.heap.size (List.replicate N 0) (W0.alloc (.cells (madeCells #[.int .u8 0] N) 5)) := Arr.made W0 _ 0 _
  replace bel := bel.alloc bel.size (.cells (madeCells #[.int .u8 0] N) 5)
  have hs1 : (W0.alloc (.cells (madeCells #[.int .u8 0] N) 5)).heap.size = W0.heap.size + 1 := by simp
  have hwq : w.heap.size ≤ W0.heap.size := by omega
  clear x0 x1 x2 x3 x4 X hkw hsz
  generalize W0.alloc (.cells (madeCells #[.int .u8 0] N) 5) = Wm at A0 bel hs1 ⊢
  generalize W0.heap.size = q at A0 hs1 hwq ⊢
  rw [← hs1]
  have hkq : Wm.heap.size ≠ q := by omega
  have hqs : q < Wm.heap.size := by omega
  clear hs1
  have b1 : Below Wm.heap.size Wm (Wm.alloc (.cells #[.slice a g.ins.length a', .slice b g.outN.length b', .slice c g.regs.length c', .slice d0 g.ands.length d', .slice e g.outs.length e', .slice (some ⟨q, 0, none⟩) N N] 237)).drew := ((Below.refl _ Wm).alloc (Nat.le_refl _) _).drew
  have S1 : SM g Wm.heap.size q (.slice a g.ins.length a') (.slice b g.outN.length b') (.slice c g.regs.length c') (.slice d0 g.ands.length d') (.slice e g.outs.length e') w (List.replicate N 0) (Wm.alloc (.cells #[.slice a g.ins.length a', .slice b g.outN.length b', .slice c g.regs.length c', .slice d0 g.ands.length d', .slice e g.outs.length e', .slice (some ⟨q, 0, none⟩) N N] 237)).drew := ⟨⟨by go_simp, by go_simp, by go_simp, by go_simp, by go_simp⟩, by rw [HN.out]; go_simp, A0.below b1, bel.trans (b1.mono bel.size)⟩
  clear b1 A0 bel
  generalize (Wm.alloc (.cells #[.slice a g.ins.length a', .slice b g.outN.length b', .slice c g.regs.length c', .slice d0 g.ands.length d', .slice e g.outs.length e', .slice (some ⟨q, 0, none⟩) N N] 237)).drew = W1 at S1 ⊢
  generalize Wm.heap.size = kk at hkq hqs S1 ⊢
  have HS1 := Lib.hid S1
  obtain ⟨sx, ss, sa, sb⟩ := S1
  obtain ⟨x0, x1, x2, x3, x4⟩ := id sx
  rw [HN.out] at ss
  have HKW := Lib.hid (show w.heap.size ≤ kk by omega)
  have hN0 : 0 < N := by have := HN.out; unfold n0L at this; omega
  have hN1 : N ≤ 5000 := by have := HN.out; unfold n0L at this; omega
  have fr1 : W1.frozen? ⟨q, 0, none⟩ = false := sa.free _
  have a1 : W1.cell? ⟨q, 0, none⟩ = some (.int .u8 (List.replicate N (0 : Int))[0]!) := sa.cell (j := 0) (by simpa using hN0)
  go_upto_region 3 with fail
  have hS2 : SM g kk q (.slice a g.ins.length a') (.slice b g.outN.length b') (.slice c g.regs.length c') (.slice d0 g.ands.length d') (.slice e g.outs.length e') w (dSt N (ins ++ st) 0) (W1.setCell ⟨q, 0, none⟩ (.int .u8 1)) := HS1.out.set hkq hwq 0 1
  have hq2 : q < (W1.setCell ⟨q, 0, none⟩ (.int .u8 1)).heap.size := hS2.a.lt
  clear x0 x1 x2 x3 x4 sx ss sa sb fr1 a1 HS1 hmk hw1 hw2 hw3
  generalize W1.setCell ⟨q, 0, none⟩ (.int .u8 1) = W2 at hS2 hq2 ⊢
  have HS2 := Lib.hid hS2
  clear hS2
  obtain ⟨i0, hi0, hz0, hz1, hz2⟩ := infoB_parts
  have hown0 : Own W2.heap.size 4 (fun b => Value.bool b) (W2.alloc (.cells #[] 4)) (.slice (some ⟨W2.heap.size, 0, none⟩) 0 0) ([] : List Bool) := World.ownsRow_made (base := W2.heap.size) (size := 1) (e := 4) W2 #[] 0 (Nat.le_refl _) (by decide) rfl
  have HX := Lib.hid (And.intro hi hst)
  have r1' := (r1.below HS2.out.bel).below ((Below.refl _ W2).alloc (Nat.le_refl _) (.cells #[] 4))
  have r2' := (r2.below HS2.out.bel).below ((Below.refl _ W2).alloc (Nat.le_refl _) (.cells #[] 4))
  rw [← hi, ← hst]
  have hl1 : ins.length ≤ 128 := by omega
  have hl2 : st.length ≤ 288 := by omega
  clear hi hst
  go_cut [35, 36, 37] (fun s35 s36 s37 wx => Own W2.heap.size 4 (fun b => Value.bool b) wx s35 (ins ++ st) ∧ s36 = .int .i64 ((ins ++ st).length : Int) ∧ s37 = .int .i64 0 ∧ Below W2.heap.size W2 wx)
  case first =>
    go_wp2_with (at_builtin; refine wpList_append_row (f := fun b : Bool => Value.bool b) (fun _ => rfl) rfl _ _ 40 rfl W2.heap.size 4 i0 (.bool false) 1 Try.underlying40 hi0 hz0 hz1 hz2 (by decide) _ [] rfl hown0 ad1 ins c1 rfl m1 k1 r1' (show 0 + ins.length ≤ maxLen by unfold maxLen; omega) (show (0 + ins.length) * 1 ≤ 140737488355328 by omega) (by first | omega | (simp; done) | (simp; omega)) ?_)
    intro v5 w5 hO5 hb5
    have hb5' : Below W2.heap.size W2 w5 := ((Below.refl _ W2).alloc (Nat.le_refl _) _).trans hb5
    have r2'' := (r2.below HS2.out.bel).below hb5'
    have hbs := hb5'.size
    go_wp2_with (at_builtin; refine wpList_append_row (f := fun b : Bool => Value.bool b) (fun _ => rfl) rfl _ _ 40 rfl W2.heap.size 4 i0 (.bool false) 1 Try.underlying40 hi0 hz0 hz1 hz2 (by decide) _ ins rfl hO5 ad2 st c2 rfl m2 k2 r2'' (show ins.length + st.length ≤ maxLen by unfold maxLen; omega) (show (ins.length + st.length) * 1 ≤ 140737488355328 by omega) hbs ?_)
    intro v6 w6 hO6 hb6
    have hb7 := hb5'.trans hb6
    obtain ⟨ad6, cp6, hv6⟩ := hO6.slice
    subst hv6
    go_wp2_with fail
    go_meet
    exact ⟨hO6, by simp, rfl, hb7⟩
  case rest =>
    obtain ⟨hO, rfl, rfl, hb⟩ := hcut
    rename World => W3
    have S3 := HS2.out.below hb
    have hXL : 1 + (ins ++ st).length = n0L g := by rw [List.length_append, HX.out.1, HX.out.2]; unfold n0L; omega
    obtain ⟨ad6, cp6, hv6⟩ := hO.slice
    subst hv6
    have hq3 : q < W2.heap.size := hq2
    clear HS2 hown0 r1' r2' hb hl1 hl2 HX r1 r2 m1 m2 k1 k2 hi0 hz0 hz1 hz2 hq2 hqs
    generalize hx : ins ++ st = x at S3 hO hXL ⊢
    have HXE := Lib.hid hx
    clear hx
    have hXN : x.length < N := by have := HN.out; omega
    have HXL := Lib.hid hXL
    clear hXL
    go_upto_block 0 with fail
    go_wp2_with fail
    go_loopw [37] (fun i wr => ∃ j : Nat, j ≤ x.length ∧ i = .int .i64 (j : Int) ∧ Hid (SM g kk q (.slice a g.ins.length a') (.slice b g.outN.length b') (.slice c g.regs.length c') (.slice d0 g.ands.length d') (.slice e g.outs.length e') w (dSt N x j) wr) ∧ Hid (Fr q W3 wr)) (fun i _ => x.length - (intOf i).toNat)
    case atStart => exact ⟨0, Nat.zero_le _, rfl, Lib.hid S3, Lib.hid (Fr.refl _ _)⟩
    case round =>
      clear S3
      obtain ⟨j, hj, rfl, hS, hF⟩ := hrel
      rename World => WR
      have hj0 : (0 : Int) ≤ (j : Int) := by omega
      by_cases hlt : j < x.length
      · have hji : (j : Int) < (x.length : Int) := by omega
        obtain ⟨bk, cpk, hvk, hbk, hck, hcell⟩ := hO.pick (by omega)
        injection hvk with e1 _ e3
        subst e1 e3
        have c0 := hF.out.cell (show bk ≠ q by omega) (hcell j hlt)
        clear hcell hbk
        have HSU := Lib.hid (show dSt N x (j + 1) = (dSt N x j).set (1 + j) (if x[j]! = true then 2 else 1) from rfl)
        have HDL := Lib.hid (dSt_len N x j)
        generalize dSt N x j = D at hS HSU HDL
        have hS1 := Lib.hid (hS.out.set hkq hwq (1 + j) 1)
        have hF1 := Lib.hid (hF.out.set (1 + j) (.int .u8 1))
        obtain ⟨sx, ss, sa, sb⟩ := id hS.out
        obtain ⟨x0, x1, x2, x3, x4⟩ := id sx
        rw [HN.out] at ss
        have fr1 : WR.frozen? ⟨q, 1 + j, none⟩ = false := sa.free _
        have a1 : WR.cell? ⟨q, 1 + j, none⟩ = some (.int .u8 D[1 + j]!) := sa.cell (j := 1 + j) (by have := HDL.out; omega)
        cases hxj : x[j]! with
        | false =>
          rw [hxj] at c0 HSU
          go_wp2_with fail
          go_roundw
          case rel => exact ⟨j + 1, by omega, by go_num, Lib.hid (by rw [HSU.out]; exact hS1.out), hF1⟩
          all_goals first | done | (simp [intOf]; done) | (simp [intOf]; omega)
        | true =>
          rw [hxj] at c0 HSU
          go_upto_region 8 with fail
          clear sx ss sa sb x0 x1 x2 x3 x4 fr1 a1 c0
          generalize WR.setCell ⟨q, 1 + j, none⟩ (.int .u8 1) = W4 at hS1 hF1 ⊢
          have hS2 := Lib.hid (hS1.out.set hkq hwq (1 + j) 2)
          have hF2 := Lib.hid (hF1.out.set (1 + j) (.int .u8 2))
          obtain ⟨sx, ss, sa, sb⟩ := id hS1.out
          obtain ⟨x0, x1, x2, x3, x4⟩ := id sx
          rw [HN.out] at ss
          have fr1 : W4.frozen? ⟨q, 1 + j, none⟩ = false := sa.free _
          have a1 : W4.cell? ⟨q, 1 + j, none⟩ = some (.int .u8 (D.set (1 + j) 1)[1 + j]!) := sa.cell (j := 1 + j) (by rw [List.length_set]; have := HDL.out; omega)
          go_wp2_with fail
          go_roundw
          case rel => exact ⟨j + 1, by omega, by go_num, Lib.hid (by rw [HSU.out, if_pos rfl]; have := hS2.out; rwa [List.set_set] at this), hF2⟩
          all_goals first | done | (simp [intOf]; done) | (simp [intOf]; omega)
      · have hji : ¬ (j : Int) < (x.length : Int) := by omega
        have hje : j = x.length := by omega
        subst hje
        go_wp2_with fail
        go_ret
        refine ⟨⟨kk, q, a, b, c, d0, e, a', b', c', d', e', rfl, hkq, hwq, HKW.out, hA, hC, ?_⟩⟩
        rw [HN.out, HXE.out]
        exact hS.out
end Go.Proofs.Ytcpifmhcebfglaa
namespace Go.Proofs.Ytcpifmhcebfglaa
open Go Go.RowKit Go.Sort
set_option linter.unusedVariables false
/-- a sheet that knows only what is so -/
structure SK (g : Gr) (V : List Bool) (k q : Nat) (v0 v1 v2 v3 v4 : Value) (w0 w : World) : Prop where
  all : ∃ E, SM g k q v0 v1 v2 v3 v4 w0 E w ∧ E.length = n0L g + g.ands.length ∧ Knows V E (n0L g + g.ands.length) ∧ ∀ j, j < n0L g → E[j]! ≠ 0
theorem SK.below {g : Gr} {V : List Bool} {k q : Nat} {v0 v1 v2 v3 v4 : Value} {w0 w w' : World} (h : SK g V k q v0 v1 v2 v3 v4 w0 w) (hb : Below w.heap.size w w') : SK g V k q v0 v1 v2 v3 v4 w0 w' := by
  obtain ⟨E, h1, h2⟩ := h.all
  exact ⟨E, h1.below hb, h2⟩
theorem SK.mono {B : Nat} {g : Gr} {V : List Bool} {k q : Nat} {v0 v1 v2 v3 v4 : Value} {w0 w w' : World} (h : SK g V k q v0 v1 v2 v3 v4 w0 w) (hb : Below B w w') (hk : k < B) (hq : q < B) (h0 : w0.heap.size ≤ B) : SK g V k q v0 v1 v2 v3 v4 w0 w' := by
  obtain ⟨E, h1, h2⟩ := h.all
  exact ⟨E, ⟨h1.x.mono hb hk, (hb.cell (p := ⟨k, 5, none⟩) hk).trans h1.s, h1.a.mono hb hq, h1.bel.trans (hb.mono h0)⟩, h2⟩
theorem SK.klt {g : Gr} {V : List Bool} {k q : Nat} {v0 v1 v2 v3 v4 : Value} {w0 w : World} (h : SK g V k q v0 v1 v2 v3 v4 w0 w) : k < w.heap.size := by
  obtain ⟨E, h1, h2⟩ := h.all
  exact h1.x.lt
theorem SK.bel {g : Gr} {V : List Bool} {k q : Nat} {v0 v1 v2 v3 v4 : Value} {w0 w : World} (h : SK g V k q v0 v1 v2 v3 v4 w0 w) : Below w0.heap.size w0 w := by
  obtain ⟨E, h1, h2⟩ := h.all
  exact h1.bel
theorem SK.qlt {g : Gr} {V : List Bool} {k q : Nat} {v0 v1 v2 v3 v4 : Value} {w0 w : World} (h : SK g V k q v0 v1 v2 v3 v4 w0 w) : q < w.heap.size := by
  obtain ⟨E, h1, h2⟩ := h.all
  exact h1.a.lt
theorem is_sk (g : Gr) (vg : VG g) (V : List Bool) (hV : V.length = n0L g + g.ands.length) (hVA : ∀ j, j < g.ands.length → V[n0L g + j]! = (litV V g.ands[j]!.1 && litV V g.ands[j]!.2)) (k q : Nat) (v1 v4 : Value) (a c d : Option Addr) (a' c' d' : Nat) (hd' : g.ands.length ≤ d') (w0 : World) (hR : RowAt 2 encN g.ands d w0) (hkq : k ≠ q) (hq : w0.heap.size ≤ q) (l : Int) (h0 : 0 ≤ l) (h1 : l < allL g) (w : World) (S : SK g V k q (.slice a g.ins.length a') v1 (.slice c g.regs.length c') (.slice d g.ands.length d') v4 w0 w) :
    Calls Try.prog 181 #[.pointer (some ⟨k, 0, none⟩), .int .i64 l] w fun e w' => e = .returned (.bool (litV V l)) ∧ SK g V k q (.slice a g.ins.length a') v1 (.slice c g.regs.length c') (.slice d g.ands.length d') v4 w0 w' ∧ Fr q w w' := by
  obtain ⟨E, s, hl, hk, hb⟩ := S.all
  have hln : ndL l < n0L g + g.ands.length := by
    have hal : allL g = 2 * (1 + (g.ins.length : Int) + (g.regs.length : Int) + (g.ands.length : Int)) := by unfold allL baseL; omega
    unfold ndL n0L; omega
  refine (is_any g vg V hV hVA k q v1 v4 a c d a' c' d' hd' w0 hR hkq hq _ l _ E w hln h0 hln hln hl hk hb s).mono ?_
  rintro e w' ⟨F, rfl, hP, hS, hF⟩
  exact ⟨rfl, ⟨F, hS, hP.kp.1.trans hl, hP.kn, hP.base⟩, hF⟩
theorem Own.fr {B : Nat} {t : TypeId} {α : Type} {f : α → Value} {q : Nat} {w w' : World} {v : Value} {l : List α} (h : Own B t f w v l) (hF : Fr q w w') (hq : q < B) : Own B t f w' v l :=
  World.ownsRow.kept (row := some q) h hF.grown (by
    cases hv : v.ownBlock with
    | none => exact .inl rfl
    | some b => exact .inr (fun e => by injection e with e; have := (World.ownsRow.lt h b hv).1; omega))
/-- what a cycle of a graph shows, and what it leads to -/
def shows (g : Gr) (ins st : List Bool) : List Bool := g.outs.map (litV (valsG g (false :: (ins ++ st))))
def nexts (g : Gr) (ins st : List Bool) : List Bool := g.regs.map (fun r => litV (valsG g (false :: (ins ++ st))) r.nx)
set_option maxRecDepth 100000 in
set_option maxHeartbeats 16000000 in
theorem cycle_any (g : Gr) (v vi vs : Value) (ins st : List Bool) (vg : VG g) (hi : ins.length = g.ins.length) (hst : st.length = g.regs.length) (hon : g.outs.length ≤ 4000) (w : World) (hG : GO g v w) (h1 : RowC (fun b => Value.bool b) ins vi w) (h2 : RowC (fun b => Value.bool b) st vs w) : Calls Try.prog 137 #[v, vi, vs] w fun e w' => ∃ vo vn, e = .returned (.tuple #[vo, vn]) ∧ (∃ B, Own B 4 (fun b => Value.bool b) w' vo (shows g ins st)) ∧ (∃ B, Own B 4 (fun b => Value.bool b) w' vn (nexts g ins st)) ∧ Below w.heap.size w w' := by
  have hx : (false :: (ins ++ st)).length = n0L g := by simp only [List.length_cons, List.length_append, hi, hst]; unfold n0L; omega
  have HSH := Lib.hid (show shows g ins st = g.outs.map (litV (valsG g (false :: (ins ++ st)))) from rfl)
  have HNX := Lib.hid (show nexts g ins st = g.regs.map (fun r => litV (valsG g (false :: (ins ++ st))) r.nx) from rfl)
  have hV := valsG_len g _ hx
  have hVA := vals_at g vg _ hx
  have hKn := dSt_knows g (ins ++ st) (by simpa [Nat.add_comm] using hx)
  have hBs := dSt_base g (ins ++ st) (by simpa [Nat.add_comm] using hx)
  have hDl := dSt_len (n0L g + g.ands.length) (ins ++ st) (ins ++ st).length
  generalize valsG g (false :: (ins ++ st)) = V at HSH HNX hV hVA hKn
  obtain ⟨a, b, c, d0, e, a', b', c', d', e', rfl, hC, hA⟩ := hG.all
  have n1 := vg.ins
  have n2 := vg.regs
  have n3 := vg.ands
  go_enter Try.func137, Try.ntmps137
  go_upto_region 1 with fail
  have bel := (Below.refl w.heap.size w).alloc (Nat.le_refl _) (.cells #[.slice a g.ins.length a', .slice b g.outN.length b', .slice c g.regs.length c', .slice d0 g.ands.length d', .slice e g.outs.length e'] 31)
  have X := GX.new w (.slice a g.ins.length a') (.slice b g.outN.length b') (.slice c g.regs.length c') (.slice d0 g.ands.length d') (.slice e g.outs.length e') 31
  have hG0 := hG.below bel
  have h10 := h1.below bel
  have h20 := h2.below bel
  have hA0 := hA.below bel
  generalize w.alloc (.cells #[.slice a g.ins.length a', .slice b g.outN.length b', .slice c g.regs.length c', .slice d0 g.ands.length d', .slice e g.outs.length e'] 31) = W0 at bel X hG0 h10 h20 hA0 ⊢
  generalize hk : w.heap.size = k at X ⊢
  have HK := Lib.hid hk
  clear hk
  have hkw := X.lt
  obtain ⟨x0, x1, x2, x3, x4⟩ := id X
  have HNS := Lib.hid (newSheet_any g _ vi vs ins st vg hi hst W0 hG0 h10 h20)
  clear hG hG0 h1 h2 h10 h20 hA
  go_wp2_with fail
  refine HNS.out.mono ?_
  rintro en W1 ⟨⟨k1, q, sa, sb, sc, sd, se, sa', sb', sc', sd', se', rfl, hkq, hwq, hwk, hA2, hC2, S⟩⟩
  have S1 : SK g V k1 q (.slice sa g.ins.length sa') (.slice sb g.outN.length sb') (.slice sc g.regs.length sc') (.slice sd g.ands.length sd') (.slice se g.outs.length se') W0 W1 := ⟨_, S, hDl, hKn, hBs⟩
  have HI := Lib.hid (fun l h0 h1 W hS => is_sk g vg V hV hVA k1 q (.slice sb g.outN.length sb') (.slice se g.outs.length se') sa sc sd sa' sc' sd' hC2.ands W0 hA2.ands hkq hwq l h0 h1 W hS)
  generalize Value.slice sa g.ins.length sa' = va at S1 HI
  generalize Value.slice sb g.outN.length sb' = vb at S1 HI
  generalize Value.slice sc g.regs.length sc' = vc at S1 HI
  generalize Value.slice sd g.ands.length sd' = vd at S1 HI
  generalize Value.slice se g.outs.length se' = ve at S1 HI
  clear S hDl hKn hBs hV hVA hx HNS hA2 hC2 hi hst
  obtain ⟨i0, hi0, hz0, hz1, hz2⟩ := infoB_parts
  have hq1 : q < W1.heap.size := S1.qlt
  have hown0 : Own W1.heap.size 4 (fun b => Value.bool b) W1 (.slice none 0 0) ([] : List Bool) := World.ownsRow_nil W1 W1.heap.size 4 1
  have hk1 : k1 < W1.heap.size := S1.klt
  have hw1 : W0.heap.size ≤ W1.heap.size := S1.bel.size
  have HX0 := Lib.hid X
  replace X := X.below S1.bel
  have HO := Lib.hid vg.out
  have HX := Lib.hid vg.next
  clear x0 x1 x2 x3 x4
  obtain ⟨x0, x1, x2, x3, x4⟩ := id X
  go_upto_block 0 with fail
  go_wp2_with fail
  go_loopw [6, 20] (fun u i wr => ∃ j : Nat, j ≤ g.outs.length ∧ i = .int .i64 (j : Int) ∧ Hid (Own W1.heap.size 4 (fun b => Value.bool b) wr u ((g.outs.take j).map (litV V))) ∧ Hid (SK g V k1 q va vb vc vd ve W0 wr) ∧ W1.heap.size ≤ wr.heap.size) (fun _ i _ => g.outs.length - (intOf i).toNat)
  case atStart => exact ⟨0, Nat.zero_le _, rfl, Lib.hid hown0, Lib.hid S1, Nat.le_refl _⟩
  case round =>
    obtain ⟨j, hj, rfl, hO, hS, hL⟩ := hrel
    rename World => WR
    clear x0 x1 x2 x3 x4 S1 hown0 X
    have hj0 : (0 : Int) ≤ (j : Int) := by omega
    by_cases hlt : j < g.outs.length
    · have hji : (j : Int) < (g.outs.length : Int) := by omega
      have HT := Lib.hid (show (g.outs.take (j + 1)).map (litV V) = (g.outs.take j).map (litV V) ++ [litV V g.outs[j]!] by rw [tk1 g.outs hlt, List.map_append]; rfl)
      have hr := HO.out g.outs[j]! (by rw [getElem!_pos g.outs j hlt]; exact List.getElem_mem hlt)
      have hML : ((g.outs.take j).map (litV V)).length ≤ 4000 := by simp; omega
      obtain ⟨bb, oo, rfl, hcell⟩ := (hA0.outs.below hS.out.bel).pick (by omega)
      have c0 := hcell j hlt 0 _ rfl
      simp only [Nat.mul_one, Nat.add_zero] at c0
      clear hcell
      have HC := Lib.hid (fun W hW => HI.out g.outs[j]! hr.1 hr.2 W hW)
      generalize g.outs[j]! = l at c0 HC HT
      generalize litV V l = bl at HC HT
      generalize (g.outs.take j).map (litV V) = L at hO HT hML
      obtain ⟨ad, cpv, hv⟩ := hO.out.slice
      subst hv
      go_wp2_with fail
      refine (HC.out _ hS.out).mono ?_
      rintro en W3 ⟨rfl, hS3, hF3⟩
      have O3 := hO.out.fr hF3 hq1
      have O4 := O3.below ((Below.refl _ W3).alloc (Nat.le_refl _) (.cells #[.bool bl] 4))
      have h4 := Nat.le_trans hL hF3.size
      clear c0 hO hS O3
      go_wp2_with (at_builtin; refine wpList_append_row (f := fun b : Bool => Value.bool b) (fun _ => rfl) rfl _ _ 40 rfl W1.heap.size 4 i0 (.bool false) 1 Try.underlying40 hi0 hz0 hz1 hz2 (by decide) _ L rfl O4 (some ⟨W3.heap.size, 0, none⟩) [bl] 1 rfl (fun h => by cases h) (Nat.le_refl _) (one_row (fun b : Bool => Value.bool b) bl W3 4) (show L.length + 1 ≤ maxLen by unfold maxLen; omega) (show (L.length + 1) * 1 ≤ 140737488355328 by omega) (by first | omega | (simp; omega)) ?_)
      intro v5 w5 hO5 hb5
      have b5 : Below W1.heap.size W3 w5 := ((Below.refl _ W3).alloc h4 _).trans hb5
      have HS5 := Lib.hid (hS3.mono b5 hk1 hq1 hw1)
      have h5 := Nat.le_trans h4 b5.size
      have HO5 := Lib.hid (show Own W1.heap.size 4 (fun b => Value.bool b) w5 v5 (L ++ [bl]) from hO5)
      rw [← HT.out] at HO5
      clear hO5 hb5 b5 hS3 hF3 O4 HC
      go_wp2_with fail
      go_roundw
      case rel => exact ⟨j + 1, by omega, by go_num, HO5, HS5, h5⟩
      all_goals first | done | (simp [intOf]; done) | (simp [intOf]; omega)
    · have hji : ¬ (j : Int) < (g.outs.length : Int) := by omega
      have HOo := Lib.hid (show Own W1.heap.size 4 (fun b => Value.bool b) WR _ (shows g ins st) by rw [HSH.out]; have := hO.out; rwa [List.take_of_length_le (by omega)] at this)
      obtain ⟨ad, cpv, hv⟩ := HOo.out.slice
      subst hv
      have X := HX0.out.mono hS.out.bel hkw
      obtain ⟨x0, x1, x2, x3, x4⟩ := id X
      have hsb : ∀ b, (Value.slice ad (shows g ins st).length cpv).ownBlock = some b → b < WR.heap.size := fun b hb => (World.ownsRow.lt HOo.out b hb).2
      have hown0 : Own WR.heap.size 4 (fun b => Value.bool b) WR (.slice none 0 0) ([] : List Bool) := World.ownsRow_nil WR WR.heap.size 4 1
      have hqB : q < WR.heap.size := by omega
      have hkB : k1 < WR.heap.size := by omega
      have hwB : W0.heap.size ≤ WR.heap.size := by omega
      clear hO X
      go_upto_block 2 with fail
      clear x0 x1 x2 x3 x4
      go_wp2_with fail
      have HSB := Lib.hid hsb
      clear hsb
      generalize hB : WR.heap.size = B at hown0 HSB hqB hkB hwB
      have hL := (show B ≤ WR.heap.size by omega)
      clear hB
      go_loopw [7, 34] (fun u i wr => ∃ j : Nat, j ≤ g.regs.length ∧ i = .int .i64 (j : Int) ∧ Hid (Own B 4 (fun b => Value.bool b) wr u ((g.regs.take j).map (fun r => litV V r.nx))) ∧ Hid (SK g V k1 q va vb vc vd ve W0 wr) ∧ Hid (Own W1.heap.size 4 (fun b => Value.bool b) wr (.slice ad (shows g ins st).length cpv) (shows g ins st)) ∧ B ≤ wr.heap.size) (fun _ i _ => g.regs.length - (intOf i).toNat)
      case atStart => exact ⟨0, Nat.zero_le _, rfl, Lib.hid hown0, hS, HOo, hL⟩
      case round =>
        clear hown0 hS HOo hL
        obtain ⟨j, hj, rfl, hO, hS, hOo, hL⟩ := hrel
        rename World => WR
        have hj0 : (0 : Int) ≤ (j : Int) := by omega
        by_cases hlt : j < g.regs.length
        · have hji : (j : Int) < (g.regs.length : Int) := by omega
          have HT := Lib.hid (show (g.regs.take (j + 1)).map (fun r => litV V r.nx) = (g.regs.take j).map (fun r => litV V r.nx) ++ [litV V g.regs[j]!.nx] by rw [tk1 g.regs hlt, List.map_append]; rfl)
          have hr := HX.out g.regs[j]! (by rw [getElem!_pos g.regs j hlt]; exact List.getElem_mem hlt)
          have hML : ((g.regs.take j).map (fun r => litV V r.nx)).length ≤ 4000 := by simp; omega
          obtain ⟨bb, oo, rfl, hcell⟩ := (hA0.regs.below hS.out.bel).pick (by omega)
          have c0 := hcell j hlt 0 _ rfl
          have c1 := hcell j hlt 1 _ rfl
          have c2 := hcell j hlt 2 _ rfl
          simp only [Nat.add_zero] at c0
          clear hcell
          have HC := Lib.hid (fun W hW => HI.out g.regs[j]!.nx hr.1 hr.2 W hW)
          generalize g.regs[j]! = r at c0 c1 c2 HC HT hr
          generalize (g.regs.take j).map (fun r => litV V r.nx) = L at hO HT hML
          have hbl := World.block_lt_of_cell? WR _ c0
          go_upto_region 10 with fail
          have p1 : (WR.alloc (Obj.cells #[Value.string r.nm, Value.int IntKind.i64 r.nx, Value.bool r.it] 128)).cell? ⟨WR.heap.size, 1, none⟩ = some (.int .i64 r.nx) := by go_simp
          have bb3 : Below WR.heap.size WR (WR.alloc (Obj.cells #[Value.string r.nm, Value.int IntKind.i64 r.nx, Value.bool r.it] 128)) := (Below.refl _ WR).alloc (Nat.le_refl _) _
          have O2 := hO.out.below bb3
          have Oo2 := hOo.out.below bb3
          have S2 := hS.out.below bb3
          have hL2 := Nat.le_trans hL bb3.size
          generalize WR.alloc (Obj.cells #[Value.string r.nm, Value.int IntKind.i64 r.nx, Value.bool r.it] 128) = W2 at p1 O2 Oo2 S2 hL2 ⊢
          generalize WR.heap.size = rr at p1 ⊢
          generalize r.nx = l at p1 HC HT hr ⊢
          generalize litV V l = bl at HC HT
          clear c0 c1 c2 hO hS hOo hL hbl bb3
          obtain ⟨ad2, cpv2, hv⟩ := O2.slice
          subst hv
          have HO2 := Lib.hid O2
          have HOo2 := Lib.hid Oo2
          have HS2 := Lib.hid S2
          clear O2 Oo2 S2
          go_wp2_with fail
          refine (HC.out _ HS2.out).mono ?_
          rintro en W3 ⟨rfl, hS3, hF3⟩
          have O3 := HO2.out.fr hF3 hqB
          have Oo3 := HOo2.out.fr hF3 hq1
          have O4 := O3.below ((Below.refl _ W3).alloc (Nat.le_refl _) (.cells #[.bool bl] 4))
          have h4 := Nat.le_trans hL2 hF3.size
          clear p1 O3
          go_wp2_with (at_builtin; refine wpList_append_row2 (f := fun b : Bool => Value.bool b) (fun _ => rfl) rfl _ _ 40 rfl B 4 i0 (.bool false) 1 Try.underlying40 hi0 hz0 hz1 hz2 (by decide) _ L rfl O4 (some ⟨W3.heap.size, 0, none⟩) [bl] 1 rfl (fun h => by cases h) (Nat.le_refl _) (one_row (fun b : Bool => Value.bool b) bl W3 4) (show L.length + 1 ≤ maxLen by unfold maxLen; omega) (show (L.length + 1) * 1 ≤ 140737488355328 by omega) (by first | omega | (simp; omega)) ?_)
          have Oo4 := Oo3.below ((Below.refl _ W3).alloc (Nat.le_refl _) (.cells #[.bool bl] 4))
          intro v5 w5 hO5 hb5 hg5
          have HOo5 := Lib.hid (Oo4.beside O4 HSB.out hg5)
          have b5 : Below B W3 w5 := ((Below.refl _ W3).alloc h4 _).trans hb5
          have HS5 := Lib.hid (hS3.mono b5 hkB hqB hwB)
          have h5 := Nat.le_trans h4 b5.size
          have HO5 := Lib.hid (show Own B 4 (fun b => Value.bool b) w5 v5 (L ++ [bl]) from hO5)
          rw [← HT.out] at HO5
          clear hO5 hb5 hg5 b5 hS3 hF3 O4 Oo3 Oo4 HC HO2 HOo2 HS2
          go_wp2_with fail
          go_roundw
          case rel => exact ⟨j + 1, by omega, by go_num, HO5, HS5, HOo5, h5⟩
          all_goals first | done | (simp [intOf]; done) | (simp [intOf]; omega)
        · have hji : ¬ (j : Int) < (g.regs.length : Int) := by omega
          have HOn := Lib.hid (show Own B 4 (fun b => Value.bool b) WR _ (nexts g ins st) by rw [HNX.out]; have := hO.out; rwa [List.take_of_length_le (by omega)] at this)
          have HBE := Lib.hid (bel.trans (hS.out.bel.mono bel.size))
          go_wp2_with fail
          go_ret2
          exact ⟨_, _, rfl, ⟨_, hOo.out⟩, ⟨_, HOn.out⟩, HBE.out⟩
end Go.Proofs.Ytcpifmhcebfglaa
