/- Where a net is used: the reference. Condition: the netlist is valid. -/
import Derived.Test.YtimojbjamfckmaaNlNv
namespace Go.Proofs.Ytimojbjamfckmaa
open Go Go.RowKit Go.Sort
set_option linter.unusedVariables false
abbrev encLd (x : Int × Int × Int) : List Value := [.int .i64 x.1, .int .i64 x.2.1, .int .i64 x.2.2]
theorem lenLd (x : Int × Int × Int) : (encLd x).length = 3 := rfl
theorem infoLd : (Try.prog.info? 71).map (fun i => (i.zero, i.size, i.bytes)) = some (some (.agg #[.int .i64 0, .int .i64 0, .int .i64 0]), 3, 24) := by kernel_rfl
theorem infoLd_parts : ∃ i, Try.prog.info? 71 = some i ∧ i.zero = some (.agg #[.int .i64 0, .int .i64 0, .int .i64 0]) ∧ i.size = 3 ∧ i.bytes = 24 := by
  have h := infoLd
  cases hi : Try.prog.info? 71 with
  | none => rw [hi] at h; cases h
  | some i =>
    rw [hi] at h
    simp only [Option.map_some, Option.some.injEq, Prod.mk.injEq] at h
    exact ⟨i, rfl, h.1, h.2.1, h.2.2⟩
theorem newLd (W : World) (x y z : Int) : ∀ (q : Nat) (u : Value), (encLd (x, y, z))[q]? = some u → (W.alloc (.cells #[.int .i64 x, .int .i64 y, .int .i64 z] 71)).cell? ⟨W.heap.size, q, none⟩ = some u := by
  intro q u hq
  match q, hq with
  | 0, hq => cases hq; go_simp
  | 1, hq => cases hq; go_simp
  | 2, hq => cases hq; go_simp
/-- the inputs of gate i among the first m that are the net -/
def pinL (net : Int) (i : Nat) (l : List Int) (m : Nat) : List (Int × Int × Int) := (List.range m).flatMap fun k : Nat => if l[k]! = net then [(0, (i : Int), (k : Int))] else []
def gateU (n : Nl) (net : Int) (m : Nat) : List (Int × Int × Int) := (List.range m).flatMap fun i => pinL net i n.gates[i]!.ins n.gates[i]!.ins.length
def flopU1 (net : Int) (i : Nat) (d e : Int) : List (Int × Int × Int) := (if d = net then [(1, (i : Int), 0)] else []) ++ (if e = net then [(2, (i : Int), 0)] else [])
def flopU (n : Nl) (net : Int) (m : Nat) : List (Int × Int × Int) := (List.range m).flatMap fun i => flopU1 net i n.flops[i]!.d n.flops[i]!.en
def outU (n : Nl) (net : Int) (m : Nat) : List (Int × Int × Int) := (List.range m).flatMap fun i : Nat => if n.outs[i]! = net then [(3, (i : Int), 0)] else []
/-- where a net is used -/
def usesN (n : Nl) (net : Int) : List (Int × Int × Int) := gateU n net n.gates.length ++ flopU n net n.flops.length ++ outU n net n.outs.length
theorem flatMap_succ {α : Type} (f : Nat → List α) (m : Nat) : (List.range (m + 1)).flatMap f = (List.range m).flatMap f ++ f m := by
  rw [List.range_succ, List.flatMap_append, List.flatMap_cons, List.flatMap_nil, List.append_nil]
theorem flatMap_len {α : Type} (f : Nat → List α) (B m : Nat) (h : ∀ i, i < m → (f i).length ≤ B) : ((List.range m).flatMap f).length ≤ m * B := by
  induction m with
  | zero => simp
  | succ m ih =>
    rw [flatMap_succ, List.length_append, Nat.succ_mul]
    have := ih fun i hi => h i (by omega)
    have := h m (by omega)
    omega
theorem pinL_len (net : Int) (i : Nat) (l : List Int) (m : Nat) : (pinL net i l m).length ≤ m := by
  have := flatMap_len (fun k : Nat => if l[k]! = net then [((0 : Int), (i : Int), (k : Int))] else []) 1 m (fun k _ => by
    show (if _ then _ else _ : List (Int × Int × Int)).length ≤ 1
    split <;> simp)
  rw [Nat.mul_one] at this
  exact this
theorem gateU_len (n : Nl) (net : Int) (m : Nat) (h : ∀ i, i < m → n.gates[i]!.ins.length ≤ 6) : (gateU n net m).length ≤ m * 6 :=
  flatMap_len _ 6 m fun i hi => Nat.le_trans (pinL_len ..) (h i hi)
theorem flopU_len (n : Nl) (net : Int) (m : Nat) : (flopU n net m).length ≤ m * 2 :=
  flatMap_len _ 2 m fun i hi => by
    unfold flopU1
    rw [List.length_append]
    split <;> split <;> simp
theorem outU_len (n : Nl) (net : Int) (m : Nat) : (outU n net m).length ≤ m * 1 :=
  flatMap_len _ 1 m fun i hi => by
    show (if _ then _ else _ : List (Int × Int × Int)).length ≤ 1
    split <;> simp
theorem pinL_succ (net : Int) (i : Nat) (l : List Int) (m : Nat) : pinL net i l (m + 1) = pinL net i l m ++ (if l[m]! = net then [(0, (i : Int), (m : Int))] else []) := flatMap_succ _ _
theorem gateU_succ (n : Nl) (net : Int) (m : Nat) : gateU n net (m + 1) = gateU n net m ++ pinL net m n.gates[m]!.ins n.gates[m]!.ins.length := flatMap_succ _ _
theorem flopU_succ (n : Nl) (net : Int) (m : Nat) : flopU n net (m + 1) = flopU n net m ++ flopU1 net m n.flops[m]!.d n.flops[m]!.en := flatMap_succ _ _
theorem outU_succ (n : Nl) (net : Int) (m : Nat) : outU n net (m + 1) = outU n net m ++ (if n.outs[m]! = net then [(3, (m : Int), 0)] else []) := flatMap_succ _ _
theorem cell_grown {w w' : World} {r : Option Nat} (h : w.grownBy w' r) {p : Addr} {x : Value} (hc : w.cell? p = some x) (hne : some p.block ≠ r) : w'.cell? p = some x :=
  (World.cell?_of_block (w := w) (h.block p.block (World.block_lt_of_cell? w _ hc) hne)).trans hc
theorem cellB {w w' : World} (h : Below w.heap.size w w') {p : Addr} {x : Value} (hc : w.cell? p = some x) : w'.cell? p = some x :=
  (World.cell?_of_block (w := w) (h.block p.block (World.block_lt_of_cell? w _ hc))).trans hc
theorem beqI {a b : Int} (h : ¬ a = b) : (a == b) = false := beq_eq_false_iff_ne.2 h
set_option maxRecDepth 100000 in
set_option maxHeartbeats 16000000 in
theorem netUses_any (n : Nl) (v : Value) (net : Int) (vn : VN n) (w : World) (hG : NO n v w) : Calls Try.prog 44 #[v, .int .i64 net] w fun e w' => ∃ u, e = .returned u ∧ OwnK w.heap.size 71 3 encLd w' u (usesN n net) ∧ Below w.heap.size w w' := by
  have hG0 := hG
  obtain ⟨a, b, c, d0, e, a', b', c', d', e', rfl, hC, hA⟩ := hG.all
  clear hG
  have n1 := vn.ins
  have n3 := vn.flops
  have n4 := vn.gates
  have n5 : n.outs.length ≤ 128 := by have := vn.same; have := vn.outN; omega
  go_enter Try.func44, Try.ntmps44
  go_upto_region 2 with fail
  have bel := (Below.refl w.heap.size w).alloc (Nat.le_refl _) (.cells #[.slice a n.ins.length a', .slice b n.outN.length b', .slice c n.flops.length c', .slice d0 n.gates.length d', .slice e n.outs.length e'] 27)
  have X := GX.new w (.slice a n.ins.length a') (.slice b n.outN.length b') (.slice c n.flops.length c') (.slice d0 n.gates.length d') (.slice e n.outs.length e') 27
  generalize w.alloc (.cells #[.slice a n.ins.length a', .slice b n.outN.length b', .slice c n.flops.length c', .slice d0 n.gates.length d', .slice e n.outs.length e'] 27) = W0 at bel X ⊢
  generalize hk : w.heap.size = k at X ⊢
  have HK := Lib.hid hk
  clear hk
  obtain ⟨x0, x1, x2, x3, x4⟩ := id X
  have HX := Lib.hid (fun W (hb : Below W0.heap.size W0 W) => X.below hb)
  have HA := Lib.hid (fun W (hb : Below W0.heap.size W0 W) => hA.below (bel.trans (hb.mono bel.size)))
  have HBEL := Lib.hid bel
  have HVN := Lib.hid vn
  clear X hA hG0 hC bel vn
  obtain ⟨i0, ihi, ihz, ihs, ihb⟩ := infoLd_parts
  have O1 : OwnK W0.heap.size 71 3 encLd W0 (.slice none 0 0) [] := OwnK.nil _ _ _ _ _
  go_upto_block 0 with fail
  clear x0 x1 x2 x3 x4
  go_wp2_with fail
  go_loopw [5, 17] (fun u i wr => ∃ j : Nat, j ≤ n.gates.length ∧ i = .int .i64 (j : Int) ∧ Hid (OwnK W0.heap.size 71 3 encLd wr u (gateU n net j)) ∧ Hid (Below W0.heap.size W0 wr)) (fun _ i _ => n.gates.length - (intOf i).toNat)
  case atStart => exact ⟨0, Nat.zero_le _, rfl, Lib.hid O1, Lib.hid (Below.refl _ _)⟩
  case round =>
    clear O1
    obtain ⟨j, hj, rfl, hO, hB⟩ := hrel
    rename World => WR
    have hj0 : (0 : Int) ≤ (j : Int) := by omega
    by_cases hlt : j < n.gates.length
    · have hji : (j : Int) < (n.gates.length : Int) := by omega
      have hg6 := HVN.out.pins j hlt
      have HI := Lib.hid (fun W (hb : Below W0.heap.size W0 W) => ((HA.out W hb).each j hlt).row)
      obtain ⟨bb, oo, hdd, hcell⟩ := (HA.out _ hB.out).gates.pick (by omega)
      subst hdd
      have c0 := hcell j hlt 0 _ rfl
      have c1 := hcell j hlt 1 _ rfl
      have c2 := hcell j hlt 2 _ rfl
      simp only [Nat.add_zero] at c0
      clear hcell
      have HS := Lib.hid (gateU_succ n net j)
      have HGL := gateU_len n net j (fun i hi => HVN.out.pins i (by omega))
      generalize n.gates[j]! = y at c0 c1 c2 HI hg6 HS
      obtain ⟨y0, y1, y2, y3, y4⟩ := y
      simp only at c0 c1 c2 HI hg6 HS
      generalize gateU n net j = L0 at hO HS HGL
      obtain ⟨ad, cp, hv⟩ := hO.out.slice
      subst hv
      have hB5 := hB.out
      have hO5 := hO.out
      clear hB hO
      go_upto_region 5 with fail
      have bA := (Below.refl WR.heap.size WR).alloc (Nat.le_refl _) (.cells #[.int .i64 y0, .int .u64 (U y1), .slice y3 y2.length y4] 82)
      have z2 : (WR.alloc (.cells #[.int .i64 y0, .int .u64 (U y1), .slice y3 y2.length y4] 82)).cell? ⟨WR.heap.size, 2, none⟩ = some (.slice y3 y2.length y4) := by go_simp

      generalize WR.alloc (.cells #[.int .i64 y0, .int .u64 (U y1), .slice y3 y2.length y4] 82) = WH at z2 bA ⊢
      generalize WR.heap.size = q10 at z2 ⊢
      have hB6 := hB5.trans (bA.mono hB5.size)
      have O6 := hO5.below bA
      clear c0 c1 c2 hO5 hB5 bA
      go_upto_block 2 with fail
      clear z2
      go_wp2_with fail
      go_loopw [5, 25] (fun u i wr => ∃ m : Nat, m ≤ y2.length ∧ i = .int .i64 (m : Int) ∧ Hid (OwnK W0.heap.size 71 3 encLd wr u (L0 ++ pinL net j y2 m)) ∧ Hid (Below W0.heap.size W0 wr)) (fun _ i _ => y2.length - (intOf i).toNat)
      case atStart => exact ⟨0, Nat.zero_le _, rfl, Lib.hid (by rw [show pinL net j y2 0 = [] from rfl, List.append_nil]; exact O6), Lib.hid hB6⟩
      case round =>
        clear O6 hB6
        obtain ⟨m, hm, rfl, hO, hB⟩ := hrel
        rename World => WS
        have hm0 : (0 : Int) ≤ (m : Int) := by omega
        by_cases hlm : m < y2.length
        · have hmi : (m : Int) < (y2.length : Int) := by omega
          obtain ⟨b2, o2, hdd, hcell⟩ := (HI.out _ hB.out).pick (by omega)
          subst hdd
          have c0 := hcell m hlm 0 _ rfl
          simp only [Nat.mul_one, Nat.add_zero] at c0
          clear hcell
          have HT := Lib.hid (pinL_succ net j y2 m)
          have HPL := pinL_len net j y2 m
          have HLL : (L0 ++ pinL net j y2 m).length ≤ 1000000 := by rw [List.length_append]; omega
          generalize y2[m]! = kk at c0 HT
          by_cases hq : kk = net
          · have HT2 := Lib.hid (show L0 ++ pinL net j y2 (m + 1) = L0 ++ pinL net j y2 m ++ [(0, (j : Int), (m : Int))] by rw [HT.out, if_pos hq, List.append_assoc])
            subst hq
            generalize L0 ++ pinL kk j y2 m = L1 at hO HT2 HLL
            obtain ⟨ad5, cp5, hv⟩ := hO.out.slice
            subst hv
            have hB5 := hB.out
            have hO5 := hO.out
            clear hO hB HT HPL
            have hs8 := hB5.size
            have bB := (Below.refl _ WS).alloc (Nat.le_refl _) (.cells #[.int .i64 (0), .int .i64 ((j : Int)), .int .i64 ((m : Int))] 71)
            have hs9 := Nat.le_trans hs8 bB.size
            have O4 := hO5.below bB
            have hy := newLd WS (0) ((j : Int)) ((m : Int))
            clear hO5
            go_wp2_with (at_builtin; refine wpList_append_one (enc := encLd) (k := 3) (fun _ => rfl) (by decide) (fun x u hu => by simp [encLd] at hu; rcases hu with rfl | rfl | rfl <;> rfl) rfl _ _ 68 rfl (W0.heap.size) 71 i0 (.agg #[.int .i64 0, .int .i64 0, .int .i64 0]) 24 Try.underlying68 ihi ihz ihs ihb (by decide) _ (L1) rfl O4 WS.heap.size 1 (0, (j : Int), (m : Int)) rfl hy (show (L1).length + 1 ≤ maxLen by unfold maxLen; omega) (show ((L1).length + 1) * 24 ≤ 140737488355328 by omega) (by first | omega | (simp; omega)) ?_)
            intro v5 w5 O5 hb5 hg5
            have HO5 := Lib.hid O5
            have HB5 := Lib.hid (hB5.trans ((bB.mono hB5.size).trans hb5))
            rw [← HT2.out] at HO5
            clear O5 hb5 hg5 O4 hy hB5 bB
            go_wp2_with fail
            go_roundw
            case rel => exact ⟨m + 1, by omega, by go_num, HO5, HB5⟩
            all_goals first | done | (simp [intOf]; done) | (simp [intOf]; omega)
          · have q1 := beqI hq
            have HO5 := Lib.hid (show OwnK W0.heap.size 71 3 encLd WS _ (L0 ++ pinL net j y2 (m + 1)) by rw [HT.out, if_neg hq, List.append_nil]; exact hO.out)
            have HB5 := hB
            clear hO hB HT hq
            go_wp2_with fail
            go_roundw
            case rel => exact ⟨m + 1, by omega, by go_num, HO5, HB5⟩
            all_goals first | done | (simp [intOf]; done) | (simp [intOf]; omega)
        · have hmi : ¬ (m : Int) < (y2.length : Int) := by omega
          have hO2 := hO.out
          rw [show m = y2.length by omega, ← HS.out] at hO2
          have HO5 := Lib.hid hO2
          have HB5 := hB
          clear hO2 hO hB
          go_wp2_with fail
          go_roundw
          case rel => exact ⟨j + 1, by omega, by go_num, HO5, HB5⟩
          all_goals first | done | (simp [intOf]; done) | (simp [intOf]; omega)
    · have hji : ¬ (j : Int) < (n.gates.length : Int) := by omega
      have hO2 := hO.out
      rw [show j = n.gates.length by omega] at hO2
      have HGL := gateU_len n net n.gates.length HVN.out.pins
      have HE1 : Hid (usesN n net = gateU n net n.gates.length ++ flopU n net n.flops.length ++ outU n net n.outs.length) := Lib.hid rfl
      generalize gateU n net n.gates.length = L0 at hO2 HGL HE1
      obtain ⟨x0, x1, x2, x3, x4⟩ := HX.out _ hB.out
      obtain ⟨ad, cp, hv⟩ := hO2.slice
      subst hv
      have hB2 := hB.out
      clear hO hB
      go_upto_block 4 with fail
      clear x0 x1 x2 x3 x4
      go_wp2_with fail
      go_loopw [5, 44] (fun u i wr => ∃ q : Nat, q ≤ n.flops.length ∧ i = .int .i64 (q : Int) ∧ Hid (OwnK W0.heap.size 71 3 encLd wr u (L0 ++ flopU n net q)) ∧ Hid (Below W0.heap.size W0 wr)) (fun _ i _ => n.flops.length - (intOf i).toNat)
      case atStart => exact ⟨0, Nat.zero_le _, rfl, Lib.hid (by rw [show flopU n net 0 = [] from rfl, List.append_nil]; exact hO2), Lib.hid hB2⟩
      case round =>
        clear hO2 hB2 hlt hji
        obtain ⟨q, hq, rfl, hO, hB⟩ := hrel
        rename World => WF
        have hq0 : (0 : Int) ≤ (q : Int) := by omega
        by_cases hlq : q < n.flops.length
        · have hqi : (q : Int) < (n.flops.length : Int) := by omega
          obtain ⟨bb, oo, hdd, hcell⟩ := (HA.out _ hB.out).flops.pick (by omega)
          subst hdd
          have c0 := hcell q hlq 0 _ rfl
          have c1 := hcell q hlq 1 _ rfl
          have c2 := hcell q hlq 2 _ rfl
          have c3 := hcell q hlq 3 _ rfl
          have c4 := hcell q hlq 4 _ rfl
          simp only [Nat.add_zero] at c0
          clear hcell
          have HT := Lib.hid (show L0 ++ flopU n net (q + 1) = L0 ++ flopU n net q ++ flopU1 net q n.flops[q]!.d n.flops[q]!.en by rw [flopU_succ, List.append_assoc])
          have HLL : (L0 ++ flopU n net q).length ≤ 1000000 := by have := flopU_len n net q; rw [List.length_append]; omega
          generalize n.flops[q]! = r at c0 c1 c2 c3 c4 HT
          obtain ⟨r0, r1, r2, r3, r4⟩ := r
          simp only at c0 c1 c2 c3 c4 HT
          generalize L0 ++ flopU n net q = L1 at hO HT HLL
          obtain ⟨ad5, cp5, hv⟩ := hO.out.slice
          subst hv
          have hB4 := hB.out
          have hO4 := hO.out
          have hbk := fun b hb => (World.ownsRow.lt hO4 b hb).2
          clear hO hB
          go_upto_region 15 with fail
          have bA := (Below.refl WF.heap.size WF).alloc (Nat.le_refl _) (.cells #[.string r0, .int .i64 r1, .int .i64 r2, .int .i64 r3, .bool r4] 84)
          have z2 : (WF.alloc (.cells #[.string r0, .int .i64 r1, .int .i64 r2, .int .i64 r3, .bool r4] 84)).cell? ⟨WF.heap.size, 2, none⟩ = some (.int .i64 r2) := by go_simp
          have z3 : (WF.alloc (.cells #[.string r0, .int .i64 r1, .int .i64 r2, .int .i64 r3, .bool r4] 84)).cell? ⟨WF.heap.size, 3, none⟩ = some (.int .i64 r3) := by go_simp

          generalize WF.alloc (.cells #[.string r0, .int .i64 r1, .int .i64 r2, .int .i64 r3, .bool r4] 84) = WH at z2 z3 bA ⊢
          generalize WF.heap.size = q10 at z2 z3 hbk ⊢
          have hB5 := hB4.trans (bA.mono hB4.size)
          have hO5 := hO4.below bA
          clear c0 c1 c2 c3 c4 hO4 hB4 bA
          by_cases hd : r2 = net
          · subst hd
            by_cases he : r3 = r2
            · subst he
              have HT2 := Lib.hid (show L0 ++ flopU n r3 (q + 1) = (L1 ++ [(1, (q : Int), 0)]) ++ [(2, (q : Int), 0)] by rw [HT.out]; unfold flopU1; rw [if_pos rfl, if_pos rfl, List.append_assoc])
              clear HT
              have hs8 := hB5.size
              have bB := (Below.refl _ WH).alloc (Nat.le_refl _) (.cells #[.int .i64 (1), .int .i64 ((q : Int)), .int .i64 (0)] 71)
              have hs9 := Nat.le_trans hs8 bB.size
              have O4 := hO5.below bB
              have hy := newLd WH (1) ((q : Int)) (0)
              have z3' := cellB bB z3
              clear hO5
              go_wp2_with (at_builtin; refine wpList_append_one (enc := encLd) (k := 3) (fun _ => rfl) (by decide) (fun x u hu => by simp [encLd] at hu; rcases hu with rfl | rfl | rfl <;> rfl) rfl _ _ 68 rfl (W0.heap.size) 71 i0 (.agg #[.int .i64 0, .int .i64 0, .int .i64 0]) 24 Try.underlying68 ihi ihz ihs ihb (by decide) _ (L1) rfl O4 WH.heap.size 1 (1, (q : Int), 0) rfl hy (show (L1).length + 1 ≤ maxLen by unfold maxLen; omega) (show ((L1).length + 1) * 24 ≤ 140737488355328 by omega) (by first | omega | (simp; omega)) ?_)
              intro v5 w5 O5 hb5 hg5
              have z3'' := cell_grown hg5 z3' (fun e => Nat.lt_irrefl _ (hbk _ e.symm))
              have hB6 := hB5.trans ((bB.mono hB5.size).trans hb5)
              have HLL2 : (L1 ++ [((1 : Int), (q : Int), (0 : Int))]).length ≤ 1000001 := by rw [List.length_append]; simp; omega
              generalize L1 ++ [((1 : Int), (q : Int), (0 : Int))] = L2 at O5 HT2 HLL2
              obtain ⟨ad6, cp6, hv⟩ := O5.slice
              subst hv
              have hO6 := O5
              clear O5 hb5 hg5 O4 hy hB5 bB z2 z3 z3' hs8 hs9
              have hs8 := hB6.size
              have bB := (Below.refl _ w5).alloc (Nat.le_refl _) (.cells #[.int .i64 (2), .int .i64 ((q : Int)), .int .i64 (0)] 71)
              have hs9 := Nat.le_trans hs8 bB.size
              have O4 := hO6.below bB
              have hy := newLd w5 (2) ((q : Int)) (0)
              clear hO6
              go_wp2_with (at_builtin; refine wpList_append_one (enc := encLd) (k := 3) (fun _ => rfl) (by decide) (fun x u hu => by simp [encLd] at hu; rcases hu with rfl | rfl | rfl <;> rfl) rfl _ _ 68 rfl (W0.heap.size) 71 i0 (.agg #[.int .i64 0, .int .i64 0, .int .i64 0]) 24 Try.underlying68 ihi ihz ihs ihb (by decide) _ (L2) rfl O4 w5.heap.size 1 (2, (q : Int), 0) rfl hy (show (L2).length + 1 ≤ maxLen by unfold maxLen; omega) (show ((L2).length + 1) * 24 ≤ 140737488355328 by omega) (by first | omega | (simp; omega)) ?_)
              intro v7 w7 O5 hb5 hg5
              have HO5 := Lib.hid O5
              have HB5 := Lib.hid (hB6.trans ((bB.mono hB6.size).trans hb5))
              rw [← HT2.out] at HO5
              clear O5 hb5 hg5 O4 hy hB6 bB
              go_wp2_with fail
              go_roundw
              case rel => exact ⟨q + 1, by omega, by go_num, HO5, HB5⟩
              all_goals first | done | (simp [intOf]; done) | (simp [intOf]; omega)
            · have q1 := beqI he
              have HT2 := Lib.hid (show L0 ++ flopU n r2 (q + 1) = L1 ++ [(1, (q : Int), 0)] by rw [HT.out]; unfold flopU1; rw [if_pos rfl, if_neg he, List.append_nil])
              clear HT he
              have hs8 := hB5.size
              have bB := (Below.refl _ WH).alloc (Nat.le_refl _) (.cells #[.int .i64 (1), .int .i64 ((q : Int)), .int .i64 (0)] 71)
              have hs9 := Nat.le_trans hs8 bB.size
              have O4 := hO5.below bB
              have hy := newLd WH (1) ((q : Int)) (0)
              have z3' := cellB bB z3
              clear hO5
              go_wp2_with (at_builtin; refine wpList_append_one (enc := encLd) (k := 3) (fun _ => rfl) (by decide) (fun x u hu => by simp [encLd] at hu; rcases hu with rfl | rfl | rfl <;> rfl) rfl _ _ 68 rfl (W0.heap.size) 71 i0 (.agg #[.int .i64 0, .int .i64 0, .int .i64 0]) 24 Try.underlying68 ihi ihz ihs ihb (by decide) _ (L1) rfl O4 WH.heap.size 1 (1, (q : Int), 0) rfl hy (show (L1).length + 1 ≤ maxLen by unfold maxLen; omega) (show ((L1).length + 1) * 24 ≤ 140737488355328 by omega) (by first | omega | (simp; omega)) ?_)
              intro v5 w5 O5 hb5 hg5
              have z3'' := cell_grown hg5 z3' (fun e => Nat.lt_irrefl _ (hbk _ e.symm))
              have HO5 := Lib.hid O5
              have HB5 := Lib.hid (hB5.trans ((bB.mono hB5.size).trans hb5))
              rw [← HT2.out] at HO5
              clear O5 hb5 hg5 O4 hy hB5 bB z2 z3 z3'
              go_wp2_with fail
              go_roundw
              case rel => exact ⟨q + 1, by omega, by go_num, HO5, HB5⟩
              all_goals first | done | (simp [intOf]; done) | (simp [intOf]; omega)
          · have q1 := beqI hd
            by_cases he : r3 = net
            · subst he
              have HT2 := Lib.hid (show L0 ++ flopU n r3 (q + 1) = L1 ++ [(2, (q : Int), 0)] by rw [HT.out]; unfold flopU1; rw [if_neg hd, if_pos rfl, List.nil_append])
              clear HT hd
              have hs8 := hB5.size
              have bB := (Below.refl _ WH).alloc (Nat.le_refl _) (.cells #[.int .i64 (2), .int .i64 ((q : Int)), .int .i64 (0)] 71)
              have hs9 := Nat.le_trans hs8 bB.size
              have O4 := hO5.below bB
              have hy := newLd WH (2) ((q : Int)) (0)
              clear hO5
              go_wp2_with (at_builtin; refine wpList_append_one (enc := encLd) (k := 3) (fun _ => rfl) (by decide) (fun x u hu => by simp [encLd] at hu; rcases hu with rfl | rfl | rfl <;> rfl) rfl _ _ 68 rfl (W0.heap.size) 71 i0 (.agg #[.int .i64 0, .int .i64 0, .int .i64 0]) 24 Try.underlying68 ihi ihz ihs ihb (by decide) _ (L1) rfl O4 WH.heap.size 1 (2, (q : Int), 0) rfl hy (show (L1).length + 1 ≤ maxLen by unfold maxLen; omega) (show ((L1).length + 1) * 24 ≤ 140737488355328 by omega) (by first | omega | (simp; omega)) ?_)
              intro v5 w5 O5 hb5 hg5
              have HO5 := Lib.hid O5
              have HB5 := Lib.hid (hB5.trans ((bB.mono hB5.size).trans hb5))
              rw [← HT2.out] at HO5
              clear O5 hb5 hg5 O4 hy hB5 bB z2 z3
              go_wp2_with fail
              go_roundw
              case rel => exact ⟨q + 1, by omega, by go_num, HO5, HB5⟩
              all_goals first | done | (simp [intOf]; done) | (simp [intOf]; omega)
            · have q2 := beqI he
              have HT2 := Lib.hid (show L0 ++ flopU n net (q + 1) = L1 by rw [HT.out]; unfold flopU1; rw [if_neg hd, if_neg he, List.append_nil, List.append_nil])
              have HO5 := Lib.hid (show OwnK W0.heap.size 71 3 encLd WH _ (L0 ++ flopU n net (q + 1)) by rw [HT2.out]; exact hO5)
              have HB5 := Lib.hid hB5
              clear HT hd he hO5 hB5
              go_wp2_with fail
              go_roundw
              case rel => exact ⟨q + 1, by omega, by go_num, HO5, HB5⟩
              all_goals first | done | (simp [intOf]; done) | (simp [intOf]; omega)
        · have hqi : ¬ (q : Int) < (n.flops.length : Int) := by omega
          have hO2 := hO.out
          rw [show q = n.flops.length by omega] at hO2
          have HGF := flopU_len n net n.flops.length
          have HLF : (L0 ++ flopU n net n.flops.length).length ≤ 1000000 := by rw [List.length_append]; omega
          generalize L0 ++ flopU n net n.flops.length = L1 at hO2 HLF HE1
          obtain ⟨x0, x1, x2, x3, x4⟩ := HX.out _ hB.out
          obtain ⟨ad5, cp5, hv⟩ := hO2.slice
          subst hv
          have hB2 := hB.out
          clear hO hB
          go_upto_block 6 with fail
          clear x0 x1 x2 x3 x4
          go_wp2_with fail
          go_loopw [5, 71] (fun u i wr => ∃ p : Nat, p ≤ n.outs.length ∧ i = .int .i64 (p : Int) ∧ Hid (OwnK W0.heap.size 71 3 encLd wr u (L1 ++ outU n net p)) ∧ Hid (Below W0.heap.size W0 wr)) (fun _ i _ => n.outs.length - (intOf i).toNat)
          case atStart => exact ⟨0, Nat.zero_le _, rfl, Lib.hid (by rw [show outU n net 0 = [] from rfl, List.append_nil]; exact hO2), Lib.hid hB2⟩
          case round =>
            clear hO2 hB2 hlq hqi
            obtain ⟨p, hp, rfl, hO, hB⟩ := hrel
            rename World => WG
            have hp0 : (0 : Int) ≤ (p : Int) := by omega
            by_cases hlp : p < n.outs.length
            · have hpi : (p : Int) < (n.outs.length : Int) := by omega
              obtain ⟨bb, oo, hdd, hcell⟩ := (HA.out _ hB.out).outs.pick (by omega)
              subst hdd
              have c0 := hcell p hlp 0 _ rfl
              simp only [Nat.mul_one, Nat.add_zero] at c0
              clear hcell
              have HT := Lib.hid (outU_succ n net p)
              have HLL : (L1 ++ outU n net p).length ≤ 2000000 := by have := outU_len n net p; rw [List.length_append]; omega
              generalize n.outs[p]! = kk at c0 HT
              by_cases hk : kk = net
              · have HT2 := Lib.hid (show L1 ++ outU n net (p + 1) = L1 ++ outU n net p ++ [(3, (p : Int), 0)] by rw [HT.out, if_pos hk, List.append_assoc])
                subst hk
                generalize L1 ++ outU n kk p = L2 at hO HT2 HLL
                obtain ⟨ad6, cp6, hv⟩ := hO.out.slice
                subst hv
                have hB5 := hB.out
                have hO5 := hO.out
                clear hO hB HT
                have hs8 := hB5.size
                have bB := (Below.refl _ WG).alloc (Nat.le_refl _) (.cells #[.int .i64 (3), .int .i64 ((p : Int)), .int .i64 (0)] 71)
                have hs9 := Nat.le_trans hs8 bB.size
                have O4 := hO5.below bB
                have hy := newLd WG (3) ((p : Int)) (0)
                clear hO5
                go_wp2_with (at_builtin; refine wpList_append_one (enc := encLd) (k := 3) (fun _ => rfl) (by decide) (fun x u hu => by simp [encLd] at hu; rcases hu with rfl | rfl | rfl <;> rfl) rfl _ _ 68 rfl (W0.heap.size) 71 i0 (.agg #[.int .i64 0, .int .i64 0, .int .i64 0]) 24 Try.underlying68 ihi ihz ihs ihb (by decide) _ (L2) rfl O4 WG.heap.size 1 (3, (p : Int), 0) rfl hy (show (L2).length + 1 ≤ maxLen by unfold maxLen; omega) (show ((L2).length + 1) * 24 ≤ 140737488355328 by omega) (by first | omega | (simp; omega)) ?_)
                intro v5 w5 O5 hb5 hg5
                have HO5 := Lib.hid O5
                have HB5 := Lib.hid (hB5.trans ((bB.mono hB5.size).trans hb5))
                rw [← HT2.out] at HO5
                clear O5 hb5 hg5 O4 hy hB5 bB
                go_wp2_with fail
                go_roundw
                case rel => exact ⟨p + 1, by omega, by go_num, HO5, HB5⟩
                all_goals first | done | (simp [intOf]; done) | (simp [intOf]; omega)
              · have q1 := beqI hk
                have HO5 := Lib.hid (show OwnK W0.heap.size 71 3 encLd WG _ (L1 ++ outU n net (p + 1)) by rw [HT.out, if_neg hk, List.append_nil]; exact hO.out)
                have HB5 := hB
                clear hO hB HT hk
                go_wp2_with fail
                go_roundw
                case rel => exact ⟨p + 1, by omega, by go_num, HO5, HB5⟩
                all_goals first | done | (simp [intOf]; done) | (simp [intOf]; omega)
            · have hpi : ¬ (p : Int) < (n.outs.length : Int) := by omega
              have hO2 := hO.out
              rw [show p = n.outs.length by omega, ← HE1.out] at hO2
              have HO2 := Lib.hid (World.ownsRow.mono hO2 HBEL.out.size : OwnK w.heap.size 71 3 encLd WG _ (usesN n net))
              have HB2 := Lib.hid (HBEL.out.trans (hB.out.mono HBEL.out.size))
              clear hO hB hO2
              go_wp2_with fail
              go_ret
              exact ⟨_, rfl, HO2.out, HB2.out⟩
end Go.Proofs.Ytimojbjamfckmaa
