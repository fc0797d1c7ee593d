/- Equal rows of uses; the law on loads. Asked: what is said here of Loads, and the fact. -/
import Derived.Test.YtimojbjamfckmaaNlUs
import Derived.Test.YtimojbjamfckmaaNlSm
import Derived.Test.YtimojbjamfckmaaNlU
namespace Go.Proofs.Ytimojbjamfckmaa
open Go Go.RowKit Go.Sort
set_option linter.unusedVariables false
set_option maxRecDepth 100000 in
set_option maxHeartbeats 8000000 in
theorem equalLd_any (l m : List (Int × Int × Int)) (v1 v2 : Value) (h1n : l.length ≤ 4000000000) (h2n : m.length ≤ 4000000000) (w : World) (h1 : RowOf 3 encLd l v1 w) (h2 : RowOf 3 encLd m v2 w) : Calls Try.prog 43 #[v1, v2] w fun e w' => e = .returned (.bool (decide (l = m))) ∧ Below w.heap.size w w' := by
  obtain ⟨ad1, c1, rfl, k1, r1⟩ := h1.open'
  obtain ⟨ad2, c2, rfl, k2, r2⟩ := h2.open'
  clear h1 h2
  by_cases hlen : l.length = m.length
  rotate_left
  · have hli : ¬ (l.length : Int) = (m.length : Int) := by omega
    have hlb : ((l.length : Int) == (m.length : Int)) = false := beq_eq_false_iff_ne.2 hli
    have HF : Hid (decide (l = m) = false) := Lib.hid (decide_eq_false (fun e => hlen (by rw [e])))
    go_enter Try.func43, Try.ntmps43
    go_wp2_with fail
    go_ret
    exact ⟨ret_bool HF.out.symm, Below.refl _ _⟩
  · rw [← hlen]
    rw [← hlen] at k2 h2n
    go_enter Try.func43, Try.ntmps43
    go_wp2_with fail
    go_loopw [13] (fun i wr => ∃ j : Nat, j ≤ l.length ∧ i = .int .i64 (j : Int) ∧ Hid (l.take j = m.take j) ∧ Hid (Below w.heap.size w wr)) (fun i _ => l.length - (intOf i).toNat)
    case atStart => exact ⟨0, Nat.zero_le _, rfl, rfl, Lib.hid (Below.refl _ _)⟩
    case round =>
      obtain ⟨j, hj, rfl, hE, hB⟩ := hrel
      rename World => WR
      have hj0 : (0 : Int) ≤ (j : Int) := by omega
      by_cases hlt : j < l.length
      · have hji : (j : Int) < (l.length : Int) := by omega
        obtain ⟨b1, o1, rfl, q1⟩ := (r1.below hB.out).pick (by omega)
        obtain ⟨b2, o2, rfl, q2⟩ := (r2.below hB.out).pick (by omega)
        have a0 := q1 j hlt 0 _ rfl
        have d0 := q2 j (by omega) 0 _ rfl
        have a1 := q1 j hlt 1 _ rfl
        have d1 := q2 j (by omega) 1 _ rfl
        have a2 := q1 j hlt 2 _ rfl
        have d2 := q2 j (by omega) 2 _ rfl
        simp only [Nat.add_zero] at a0 d0
        clear q1 q2
        by_cases he : l[j]! = m[j]!
        · have HS : Hid (l.take (j + 1) = m.take (j + 1)) := Lib.hid (take_eq hE.out hlt (by omega) he)
          rw [he] at a0 a1 a2
          generalize m[j]! = x at a0 d0 a1 d1 a2 d2
          obtain ⟨x0, x1, x2⟩ := x
          simp only at a0 d0 a1 d1 a2 d2
          clear he hE
          go_upto_region 6 with fail
          go_region
          all_goals go_wp2_with fail
          all_goals go_roundw
          case rel => exact ⟨j + 1, by omega, by go_num, HS, Lib.hid (below_drewN hB.out 1)⟩
          all_goals first | done | (simp [intOf]; done) | (simp [intOf]; omega)
        · have HF : Hid (decide (l = m) = false) := Lib.hid (decide_eq_false (ne_at he))
          generalize l[j]! = x at *
          generalize m[j]! = y at *
          obtain ⟨x0, x1, x2⟩ := x
          obtain ⟨y0, y1, y2⟩ := y
          simp only at a0 d0 a1 d1 a2 d2
          by_cases g0 : x0 = y0
          rotate_left
          · have f0a : ¬ x0 = y0 := g0
            obtain ⟨f0b, f0c⟩ := beqn2 f0a
            clear he hE
            go_upto_region 6 with fail
            go_region
            all_goals go_wp2_with fail
            all_goals go_ret
            all_goals exact ⟨ret_bool HF.out.symm, below_drewN hB.out 1⟩
          subst g0
          by_cases g1 : x1 = y1
          rotate_left
          · have f1a : ¬ x1 = y1 := g1
            obtain ⟨f1b, f1c⟩ := beqn2 f1a
            clear he hE
            go_upto_region 6 with fail
            go_region
            all_goals go_wp2_with fail
            all_goals go_ret
            all_goals exact ⟨ret_bool HF.out.symm, below_drewN hB.out 1⟩
          subst g1
          have f2a : ¬ x2 = y2 := fun e => he (by rw [e])
          obtain ⟨f2b, f2c⟩ := beqn2 f2a
          clear he hE
          go_upto_region 6 with fail
          go_region
          all_goals go_wp2_with fail
          all_goals go_ret
          all_goals exact ⟨ret_bool HF.out.symm, below_drewN hB.out 1⟩
      · have hji : ¬ (j : Int) < (l.length : Int) := by omega
        have HF : Hid (decide (l = m) = true) := Lib.hid (decide_eq_true (by
          have := hE.out
          rwa [List.take_of_length_le (by omega), List.take_of_length_le (by omega)] at this))
        go_wp2_with fail
        go_ret
        exact ⟨ret_bool HF.out.symm, hB.out⟩
/-- rows of uses -/
def TRL (L : List (List (Int × Int × Int))) (v : Value) (w : World) : Prop := ∃ ad cp vs, v = .slice ad L.length cp ∧ L.length ≤ cp ∧ vs.length = L.length ∧ (ad = none → cp = 0) ∧ RowAt 1 (fun x => [x]) vs ad w ∧ ∀ j, j < L.length → RowOf 3 encLd L[j]! vs[j]! w
/-- the uses of each net -/
def loadsR (n : Nl) : List (List (Int × Int × Int)) := if faultN n = 0 then (List.range (netsN n)).map (fun k : Nat => usesN n (k : Int)) else []
/-- what Loads answers -/
def LoadsC : Prop := ∀ (n : Nl) (v : Value) (w : World), SmN n → NO n v w → Calls Try.prog 42 #[v] w fun e w' => ∃ u, e = .returned (.tuple #[u, .int .i64 (faultN n)]) ∧ TRL (loadsR n) u w' ∧ Below w.heap.size w w'
theorem usesN_len (n : Nl) (net : Int) (vn : VN n) : (usesN n net).length ≤ 4000000000 := by
  have h1 := gateU_len n net n.gates.length vn.pins
  have h2 := flopU_len n net n.flops.length
  have h3 := outU_len n net n.outs.length
  have := vn.gates
  have := vn.flops
  have := vn.same
  have := vn.outN
  unfold usesN
  rw [List.length_append, List.length_append]
  omega
set_option maxRecDepth 100000 in
set_option maxHeartbeats 16000000 in
theorem nloads_law (hF : NfC) (hL : LoadsC) (n : Nl) (v : Value) (sg : SmN n) (w : World) (hG : NO n v w) : Calls Try.prog 8 #[v] w fun e w' => e = .returned (.bool true) ∧ Below w.heap.size w w' := by
  have hG0 := hG
  obtain ⟨a, b, c, d0, e, a', b', c', d', e', rfl, hC, hA⟩ := hG.all
  clear hG
  have s1 := sg.ins
  have s3 := sg.flops
  have s4 := sg.gates
  have HF := Lib.hid hF
  have HL := Lib.hid hL
  clear hF hL
  go_enter Try.func8, Try.ntmps8
  go_upto_region 2 with fail
  have bel := (Below.refl w.heap.size w).alloc (Nat.le_refl _) (.cells #[.slice a n.ins.length a', .slice b n.outN.length b', .slice c n.flops.length c', .slice d0 n.gates.length d', .slice e n.outs.length e'] 27)
  have X := GX.new w (.slice a n.ins.length a') (.slice b n.outN.length b') (.slice c n.flops.length c') (.slice d0 n.gates.length d') (.slice e n.outs.length e') 27
  generalize w.alloc (.cells #[.slice a n.ins.length a', .slice b n.outN.length b', .slice c n.flops.length c', .slice d0 n.gates.length d', .slice e n.outs.length e'] 27) = W0 at bel X ⊢
  generalize hk : w.heap.size = k at X ⊢
  have HK := Lib.hid hk
  clear hk
  obtain ⟨x0, x1, x2, x3, x4⟩ := id X
  have H1 := Lib.hid (HL.out n _ W0 sg (hG0.below bel))
  go_upto_region 2 with (first | (go_at_call 42; refine H1.out.mono ?_; rintro ee W1 ⟨vl, rfl, T1, hb1⟩; replace bel := bel.trans (hb1.mono bel.size); replace X := X.below hb1; clear hb1 H1 x0 x1 x2 x3 x4; obtain ⟨x0, x1, x2, x3, x4⟩ := id X))
  have H1 := Lib.hid (faultN_any n _ sg W1 (hG0.below bel))
  obtain ⟨al, cl, vs, rfl, hcl, hvs, hln, hvr, hrw⟩ := T1
  have HSZ := Lib.hid (show ∀ W, Below W1.heap.size W1 W → RowAt 1 (fun x => [x]) vs al W ∧ ∀ j, j < (loadsR n).length → RowOf 3 encLd (loadsR n)[j]! vs[j]! W from fun W hb => ⟨hvr.below hb, fun j hj => (hrw j hj).below hb⟩)
  have hbW : Below W1.heap.size W1 W1 := Below.refl _ _
  clear hvr hrw
  go_upto_region 3 with (first | (go_at_call 19; refine H1.out.mono ?_; rintro ee W2 ⟨rfl, hb1⟩; replace bel := bel.trans (hb1.mono bel.size); replace X := X.below hb1; replace hbW := hbW.trans hb1; clear hb1 H1 x0 x1 x2 x3 x4; obtain ⟨x0, x1, x2, x3, x4⟩ := id X))
  by_cases hf : faultN n = 0
  rotate_left
  · have hl : (loadsR n).length = 0 := by unfold loadsR; rw [if_neg hf]; rfl
    rw [hl]
    generalize faultN n = f at hf ⊢
    have hfb : (f == 0) = false := beq_eq_false_iff_ne.2 hf
    have hfc : (f != 0) = true := by simp [bne, hfb]
    clear hG0 hC hA hl HSZ hcl hvs
    go_wp2_with (first | (go_at_call 15; refine (HF.out _).mono ?_; rintro ee w3 ⟨rfl, hb3⟩))
    go_ret
    exact ⟨rfl, bel.trans (hb3.mono bel.size)⟩
  · have vn := vn_of hf
    have hl : loadsR n = (List.range (netsN n)).map (fun k : Nat => usesN n (k : Int)) := if_pos hf
    have hll : (loadsR n).length = netsN n := by rw [hl, List.length_map, List.length_range]
    have hle : ∀ j, j < netsN n → (loadsR n)[j]! = usesN n (j : Int) := fun j hj => by
      rw [hl, getElem!_pos _ j (by simpa using hj), List.getElem_map, List.getElem_range]
    rw [hll] at hcl hvs HSZ ⊢
    rw [hf]
    clear hf hl hll
    have HLE := Lib.hid hle
    clear hle
    generalize loadsR n = LL at HLE HSZ
    have n1 := vn.ins
    have n3 := vn.flops
    have n4 := vn.gates
    have hnn : ((netsN n : Nat) : Int) = 2 + (n.ins.length : Int) + (n.flops.length : Int) + (n.gates.length : Int) := by unfold netsN fstN; push_cast; rfl
    have hnb : netsN n ≤ 4000 := by unfold netsN fstN; omega
    have HV := Lib.hid vn
    have HNO := Lib.hid (fun W (hb : Below w.heap.size w W) => hG0.below hb)
    have HX := Lib.hid (fun W (hb : Below W2.heap.size W2 W) => X.below hb)
    have HB2 := Lib.hid bel
    have HW2 := Lib.hid hbW
    clear hG0 hC hA vn X
    generalize netsN n = N at hnn hnb hcl hvs HSZ HLE ⊢
    go_upto_block 0 with (first | (go_at_call 15; refine (HF.out _).mono ?_; rintro ee W3 ⟨rfl, hb3⟩; replace bel := bel.trans (hb3.mono bel.size); replace hbW := hbW.trans (hb3.mono hbW.size); clear x0 x1 x2 x3 x4; obtain ⟨x0, x1, x2, x3, x4⟩ := HX.out _ hb3))
    have HX3 := Lib.hid (fun W (hb : Below W3.heap.size W3 W) => HX.out W (hb3.trans (hb.mono hb3.size)))
    have HB3 := Lib.hid bel
    have HW3 := Lib.hid hbW
    clear x0 x1 x2 x3 x4 hb3 bel hbW HX HB2 HW2
    go_wp2_with fail
    go_loopw [53] (fun i wr => ∃ j : Nat, j ≤ N ∧ i = .int .i64 (j : Int) ∧ Hid (Below W3.heap.size W3 wr)) (fun i _ => N - (intOf i).toNat)
    case atStart => exact ⟨0, Nat.zero_le _, rfl, Lib.hid (Below.refl _ _)⟩
    case round =>
      obtain ⟨j, hj, rfl, hB⟩ := hrel
      rename World => WR
      have hj0 : (0 : Int) ≤ (j : Int) := by omega
      by_cases hlt : j < N
      · have hji : (j : Int) < (N : Int) := by omega
        have hbw := HW3.out.trans (hB.out.mono HW3.out.size)
        have hbl := HB3.out.trans (hB.out.mono HB3.out.size)
        obtain ⟨hvr, hrw⟩ := HSZ.out WR hbw
        obtain ⟨b2, o2, hdd, hcell⟩ := hvr.pick (by omega)
        subst hdd
        have c0 := hcell j (by omega) 0 _ rfl
        simp only [Nat.mul_one, Nat.add_zero] at c0
        clear hcell hvr
        have hr := hrw j hlt
        rw [HLE.out j hlt] at hr
        have HR := Lib.hid hr
        obtain ⟨a5, c5, hv5, hc5, R5⟩ := hr.open'
        rw [hv5] at c0 HR
        have HUL := Lib.hid (usesN_len n (j : Int) HV.out)
        have H1 := Lib.hid (netUses_any n _ (j : Int) HV.out WR (HNO.out WR hbl))
        obtain ⟨x0, x1, x2, x3, x4⟩ := HX3.out WR hB.out
        have hB5 := hB.out
        clear hr hv5 R5 hrw hB hbw hbl
        go_wp2_with (first | (go_at_call 44; refine H1.out.mono ?_; rintro ee W5 ⟨u5, rfl, O5, hb5⟩; obtain ⟨a6, c6, hv6⟩ := O5.slice; subst hv6; have HR6 := Lib.hid (HR.out.below hb5)) | (go_at_call 43; refine (equalLd_any (usesN n (j : Int)) (usesN n (j : Int)) _ _ HUL.out HUL.out _ HR6.out (O5.row lenLd)).mono ?_; rintro ee W6 ⟨rfl, hb6⟩; rw [decide_eq_true (rfl : usesN n (j : Int) = usesN n (j : Int))]))
        go_roundw
        case rel => exact ⟨j + 1, by omega, by go_num, Lib.hid (hB5.trans ((hb5.mono hB5.size).trans (hb6.mono (Nat.le_trans hB5.size hb5.size))))⟩
        all_goals first | done | (simp [intOf]; done) | (simp [intOf]; omega)
      · have hji : ¬ (j : Int) < (N : Int) := by omega
        go_wp2_with fail
        go_ret
        exact ⟨rfl, HB3.out.trans (hB.out.mono HB3.out.size)⟩
end Go.Proofs.Ytimojbjamfckmaa
