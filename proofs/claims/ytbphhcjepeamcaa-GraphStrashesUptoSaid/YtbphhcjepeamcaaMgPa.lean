/- The program's Make, Node, Inverted, Not, First, Nodes and what they call: what they answer. Conditions: a number fits into 64 bits; a graph's rows have at most 4,000,000,000 elements.
   slices.Clone at texts, literals, nodes and registers: a row of the call's own with the same elements. Condition: at most 4,000,000,000 elements.
   The program's Roots and checkRoots: what they answer. Condition: a graph's rows have at most 4,000,000,000 elements.
   A graph in a block that is written. No condition.
   The program's Name and Names: what they answer. Conditions: sizes below 2^63. -/
import Derived.Test.YtbphhcjepeamcaaGlLd
import Derived.Test.YtbphhcjepeamcaaGrOk
import Derived.Lib.SliceRun
import Derived.Lib.Walk
import Derived.Deep.Onto
import Derived.Test.YtbphhcjepeamcaaGlC
import Derived.Lib.ConvBytes
import Derived.MapKept
import Derived.Carry
namespace Go.Proofs.Ytbphhcjepeamcaa
open Go Go.RowKit Go.Sort
set_option linter.unusedVariables false
set_option maxRecDepth 100000 in
set_option maxHeartbeats 1600000 in
theorem node_any (l : Int) (w : World) : Calls Try.prog 17 #[.int .i64 l] w fun e w' => e = .returned (.int .i64 (nodeL l)) ∧ Below w.heap.size w w' := by
  go_enter Try.func17, Try.ntmps17
  by_cases q : 0 ≤ l
  · have e1 : nodeL l = l / 2 := if_pos q
    have q2 : ¬ l < 0 := by omega
    rw [e1]
    go_wp2_with fail
    go_ret
    exact ⟨rfl, Below.refl _ _⟩
  · have e1 : nodeL l = -1 := if_neg q
    have q2 : l < 0 := by omega
    rw [e1]
    go_wp2_with fail
    go_ret
    exact ⟨rfl, Below.refl _ _⟩
set_option maxRecDepth 100000 in
set_option maxHeartbeats 1600000 in
theorem inv_any (l : Int) (w : World) : Calls Try.prog 18 #[.int .i64 l] w fun e w' => e = .returned (.bool (invL l)) ∧ Below w.heap.size w w' := by
  go_enter Try.func18, Try.ntmps18
  by_cases q : 0 ≤ l
  · have e1 : Hid (invL l = (bits BinOp.and IntKind.i64 l 1 == 1)) := Lib.hid (by unfold invL; rw [band1_is, decide_eq_true q, Bool.true_and])
    go_wp2_with fail
    go_ret
    exact ⟨ret_bool e1.out.symm, Below.refl _ _⟩
  · have e1 : Hid (invL l = false) := Lib.hid (by unfold invL; rw [decide_eq_false q, Bool.false_and])
    go_wp2_with fail
    go_ret
    exact ⟨ret_bool e1.out.symm, Below.refl _ _⟩
set_option maxRecDepth 100000 in
set_option maxHeartbeats 1600000 in
theorem not_any (l : Int) (w : World) : Calls Try.prog 19 #[.int .i64 l] w fun e w' => e = .returned (.int .i64 (notL l)) ∧ Below w.heap.size w w' := by
  go_enter Try.func19, Try.ntmps19
  by_cases q : 0 ≤ l
  · have e1 : Hid (notL l = bits BinOp.xor IntKind.i64 l 1) := Lib.hid (if_pos q)
    have q2 : ¬ l < 0 := by omega
    go_wp2_with fail
    go_ret
    exact ⟨ret_num e1.out.symm, Below.refl _ _⟩
  · have e1 : Hid (notL l = l) := Lib.hid (if_neg q)
    have q2 : l < 0 := by omega
    go_wp2_with fail
    go_ret
    exact ⟨ret_num e1.out.symm, Below.refl _ _⟩
set_option maxRecDepth 100000 in
set_option maxHeartbeats 1600000 in
theorem literal_ok (n : Int) (w : World) (hn : -4000000000000000000 ≤ n ∧ n ≤ 4000000000000000000) : Calls Try.prog 71 #[.int .i64 n] w fun e w' => e = .returned (.int .i64 (2 * n)) ∧ Below w.heap.size w w' := by
  go_enter Try.func71, Try.ntmps71
  obtain ⟨h1, h2⟩ := hn
  have hw : IntKind.i64.wrap (2 * n) = 2 * n := IntWalk.i64_in _ (by omega)
  go_wp2_with fail
  go_ret
  exact ⟨rfl, Below.refl _ _⟩
theorem notL_even (n : Int) (h0 : 0 ≤ n) (h : n ≤ 4000000000000000000) : notL (2 * n) = 2 * n + 1 := by
  unfold notL
  rw [if_pos (by omega)]
  show IntKind.i64.wrap (((BitVec.ofInt 64 (2 * n) ^^^ BitVec.ofInt 64 1).toNat : Nat) : Int) = _
  have e1 : (BitVec.ofInt 64 (2 * n)).toNat = 2 * n.toNat := by rw [BitVec.toNat_ofInt]; omega
  have e2 : (BitVec.ofInt 64 1).toNat = 1 := by rfl
  have e3 : (2 * n.toNat) ^^^ 1 = 2 * n.toNat + 1 := by
    apply Nat.eq_of_testBit_eq
    intro i
    rw [Nat.testBit_xor]
    cases i with
    | zero => simp [Nat.testBit_zero]
    | succ i =>
      simp only [Nat.testBit_succ]
      rw [show 2 * n.toNat / 2 = n.toNat by omega, show (2 * n.toNat + 1) / 2 = n.toNat by omega, show (1 : Nat) / 2 = 0 from rfl]
      simp
  rw [BitVec.toNat_xor, e1, e2, e3, IntWalk.i64_in _ (by omega)]
  omega
set_option maxRecDepth 100000 in
set_option maxHeartbeats 1600000 in
theorem make_ok (n : Int) (b : Bool) (w : World) (hn : I64 n) : Calls Try.prog 16 #[.int .i64 n, .bool b] w fun e w' => e = .returned (.int .i64 (makeL n b)) ∧ Below w.heap.size w w' := by
  go_enter Try.func16, Try.ntmps16
  obtain ⟨h1, h2⟩ := hn
  by_cases q1 : 0 ≤ n
  · have p1 : ¬ n < 0 := by omega
    by_cases q2 : n ≤ 4416
    · have p2 : ¬ 4416 < n := by omega
      have L1 := Lib.hid (literal_ok n w (by omega))
      cases b with
      | true =>
        have e1 : Hid (makeL n true = notL (2 * n)) := Lib.hid (by rw [notL_even n q1 (by omega)]; unfold makeL; rw [if_pos ⟨q1, q2⟩]; rfl)
        have L2 := Lib.hid (fun W => not_any (2 * n) W)
        go_wp2_with (first | (go_at_call 71; refine L1.out.mono ?_; rintro ee w1 ⟨rfl, hb1⟩) | (go_at_call 19; refine (L2.out _).mono ?_; rintro ee w2 ⟨rfl, hb2⟩))
        go_ret
        exact ⟨ret_num e1.out.symm, hb1.trans (hb2.mono hb1.size)⟩
      | false =>
        have e1 : Hid (makeL n false = 2 * n) := Lib.hid (by unfold makeL; rw [if_pos ⟨q1, q2⟩]; simp)
        go_wp2_with (first | (go_at_call 71; refine L1.out.mono ?_; rintro ee w1 ⟨rfl, hb1⟩))
        go_ret
        exact ⟨ret_num e1.out.symm, hb1⟩
    · have p2 : 4416 < n := by omega
      have e1 : Hid (makeL n b = 0) := Lib.hid (if_neg (fun h => q2 h.2))
      go_wp2_with fail
      go_ret
      exact ⟨ret_num e1.out.symm, Below.refl _ _⟩
  · have p1 : n < 0 := by omega
    have e1 : Hid (makeL n b = 0) := Lib.hid (if_neg (fun h => q1 h.1))
    go_wp2_with fail
    go_ret
    exact ⟨ret_num e1.out.symm, Below.refl _ _⟩
/-- a literal is that of one of so many nodes -/
def hasL (n l : Int) : Bool := decide (0 ≤ l) && decide (l / 2 < n)
set_option maxRecDepth 100000 in
set_option maxHeartbeats 1600000 in
theorem has_any (n l : Int) (w : World) : Calls Try.prog 75 #[.int .i64 n, .int .i64 l] w fun e w' => e = .returned (.bool (hasL n l)) ∧ Below w.heap.size w w' := by
  go_enter Try.func75, Try.ntmps75
  have L1 := Lib.hid (fun W => node_any l W)
  by_cases q : 0 ≤ l
  · have e1 : Hid (hasL n l = decide (l / 2 < n)) := Lib.hid (by unfold hasL; rw [decide_eq_true q, Bool.true_and])
    rw [show nodeL l = l / 2 from if_pos q] at L1
    go_wp2_with (first | (go_at_call 17; refine (L1.out _).mono ?_; rintro ee w1 ⟨rfl, hb1⟩))
    go_ret
    exact ⟨ret_bool e1.out.symm, hb1⟩
  · have e1 : Hid (hasL n l = false) := Lib.hid (by unfold hasL; rw [decide_eq_false q, Bool.false_and])
    clear L1
    go_wp2_with fail
    go_ret
    exact ⟨ret_bool e1.out.symm, Below.refl _ _⟩
set_option maxRecDepth 100000 in
set_option maxHeartbeats 1600000 in
theorem first_ok (g : Gr) (v : Value) (w : World) (sg : Small g) (hG : GO g v w) : Calls Try.prog 20 #[v] w fun e w' => e = .returned (.int .i64 (1 + (g.ins.length : Int) + (g.regs.length : Int))) ∧ Below w.heap.size w w' := by
  obtain ⟨a, b, c, d0, e, a', b', c', d', e', rfl, hC, hA⟩ := hG.all
  clear hG
  have s1 := sg.ins
  have s3 := sg.regs
  go_enter Try.func20, Try.ntmps20
  go_upto_region 1 with fail
  have bel := (Below.refl w.heap.size w).alloc (Nat.le_refl _) (.cells #[.slice a g.ins.length a', .slice b g.outN.length b', .slice c g.regs.length c', .slice d0 g.ands.length d', .slice e g.outs.length e'] 28)
  have X := GX.new w (.slice a g.ins.length a') (.slice b g.outN.length b') (.slice c g.regs.length c') (.slice d0 g.ands.length d') (.slice e g.outs.length e') 28
  generalize w.alloc (.cells #[.slice a g.ins.length a', .slice b g.outN.length b', .slice c g.regs.length c', .slice d0 g.ands.length d', .slice e g.outs.length e'] 28) = W0 at bel X ⊢
  generalize hk : w.heap.size = k at X ⊢
  have HK := Lib.hid hk
  clear hk
  obtain ⟨x0, x1, x2, x3, x4⟩ := id X
  go_wp2_with fail
  go_ret
  exact ⟨rfl, bel⟩
set_option maxRecDepth 100000 in
set_option maxHeartbeats 1600000 in
theorem nodes_ok (g : Gr) (v : Value) (w : World) (sg : Small g) (hG : GO g v w) : Calls Try.prog 21 #[v] w fun e w' => e = .returned (.int .i64 (1 + (g.ins.length : Int) + (g.regs.length : Int) + (g.ands.length : Int))) ∧ Below w.heap.size w w' := by
  have hG0 := hG
  obtain ⟨a, b, c, d0, e, a', b', c', d', e', rfl, hC, hA⟩ := hG.all
  clear hG
  have s1 := sg.ins
  have s3 := sg.regs
  have s4 := sg.ands
  go_enter Try.func21, Try.ntmps21
  go_upto_region 1 with fail
  have bel := (Below.refl w.heap.size w).alloc (Nat.le_refl _) (.cells #[.slice a g.ins.length a', .slice b g.outN.length b', .slice c g.regs.length c', .slice d0 g.ands.length d', .slice e g.outs.length e'] 28)
  have X := GX.new w (.slice a g.ins.length a') (.slice b g.outN.length b') (.slice c g.regs.length c') (.slice d0 g.ands.length d') (.slice e g.outs.length e') 28
  generalize w.alloc (.cells #[.slice a g.ins.length a', .slice b g.outN.length b', .slice c g.regs.length c', .slice d0 g.ands.length d', .slice e g.outs.length e'] 28) = W0 at bel X ⊢
  generalize hk : w.heap.size = k at X ⊢
  have HK := Lib.hid hk
  clear hk
  obtain ⟨x0, x1, x2, x3, x4⟩ := id X
  have H1 := Lib.hid (fun W (hb : Below w.heap.size w W) => first_ok g _ W sg (hG0.below hb))
  have hwr : IntKind.i64.wrap (1 + (g.ins.length : Int) + (g.regs.length : Int) + (g.ands.length : Int)) = 1 + (g.ins.length : Int) + (g.regs.length : Int) + (g.ands.length : Int) := IntWalk.i64_in _ (by omega)
  clear hG0 hC hA
  have HB := Lib.hid (fun d os => bel.trans ((below_regrown W0 d os).mono bel.size))
  have g0 := cell_regrown x0
  have g1 := cell_regrown x1
  have g2 := cell_regrown x2
  have g3 := cell_regrown x3
  have g4 := cell_regrown x4
  clear x0 x1 x2 x3 x4
  refine wp_region_rel 6 (by kernel_rfl) (by kernel_rfl) ?_
  simp only [List.take_succ_cons, List.take_zero, List.drop_succ_cons, List.drop_zero]
  (refine rel_fix0 (fun K hK => ?_); go_simp; refine hK _ ?_; clear hK K)
  (refine rel_fix0 (fun K hK => ?_); go_simp; apply Exists.intro; refine ⟨fun _ _ => ?_, hK _ ?_⟩; (with_reducible exact ret_fix (H1.out _ (HB.out _ _))); clear hK K)
  (refine rel_fix0 (fun K hK => ?_); go_simp; refine hK _ ?_; clear hK K)
  (refine rel_fix0 (fun K hK => ?_); go_simp; refine hK _ ?_; clear hK K)
  (refine rel_fix0 (fun K hK => ?_); go_simp; refine hK _ ?_; clear hK K)
  (refine rel_fix0 (fun K hK => ?_); go_simp; refine hK _ ?_; clear hK K)
  refine rel_nil ?_
  intro d os
  simp only [relAll]
  replace bel := HB.out d os
  clear g0 g1 g2 g3 g4
  clear HB
  generalize grow (redrawn _ d) os = WZ at bel ⊢
  go_wp2_with fail
  go_ret
  exact ⟨rfl, bel⟩
theorem node_holds : NodeC := fun l w _ => node_any l w
theorem inv_holds : InvC := fun l w _ => inv_any l w
theorem not_holds : NotC := fun l w _ => not_any l w
theorem make_holds : MakeC := fun n b w h => make_ok n b w h
theorem first_holds : FirstC := fun g v w sg hG => first_ok g v w sg hG
theorem nodes_holds : NodesC := fun g v w sg hG => nodes_ok g v w sg hG
end Go.Proofs.Ytbphhcjepeamcaa
namespace Go.Proofs.Ytbphhcjepeamcaa
open Go Go.RowKit Go.Sort
set_option linter.unusedVariables false
theorem row_flat {α : Type} [Inhabited α] {k : Nat} {enc : α → List Value} {l : List α} {e : Addr} {w : World} (hk : ∀ x, (enc x).length = k) (hk0 : 0 < k) (h : RowAt k enc l (some e) w) : ∀ j u, (l.flatMap enc)[j]? = some u → w.cell? (e.add j) = some u := by
  rcases h with h0 | ⟨bb, oo, he, hcell⟩
  · intro j u hj
    rw [List.eq_nil_of_length_eq_zero h0] at hj
    simp at hj
  · cases he
    intro j u hj
    have hlt : j < (l.flatMap enc).length := (List.getElem?_eq_some_iff.1 hj).1
    rw [flat_len hk] at hlt
    have hd : j / k < l.length := Nat.div_lt_of_lt_mul (by rw [Nat.mul_comm]; exact hlt)
    have e1 : j / k * k + j % k = j := by rw [Nat.mul_comm]; exact Nat.div_add_mod j k
    rw [← e1, flat_get hk l (j / k) (j % k) hd (Nat.mod_lt _ hk0)] at hj
    have := hcell (j / k) hd (j % k) u hj
    rw [show (⟨bb, oo, none⟩ : Addr).add j = ⟨bb, oo + j, none⟩ from Addr.add_lit _ _ _]
    rwa [show oo + j / k * k + j % k = oo + j by omega] at this
/-- an owned row of k cells, opened -/
theorem OwnK.rowC {B : Nat} {t : TypeId} {k : Nat} {α : Type} [Inhabited α] {enc : α → List Value} (hk : ∀ x, (enc x).length = k) {w : World} {v : Value} {l : List α} (h : OwnK B t k enc w v l) : ∃ ad cap, v = .slice ad l.length cap ∧ l.length ≤ cap ∧ (ad = none → cap = 0) ∧ RowAt k enc l ad w := by
  obtain ⟨ad, cap, h1, h2, h3⟩ := (h.row hk).open'
  refine ⟨ad, cap, h1, h2, fun hn => ?_, h3⟩
  subst hn
  rcases h.2 with ⟨e1, _⟩ | ⟨g, cap', cur, hv, _⟩
  · rw [e1] at h1; injection h1 with _ _ e3; exact e3.symm
  · rw [hv] at h1; cases h1
theorem flat_one {α : Type} {f : α → Value} (l : List α) : l.flatMap (fun x => [f x]) = l.map f := by
  induction l with
  | nil => rfl
  | cons x l ih => simp [ih]
theorem OwnK.own {B : Nat} {t : TypeId} {α : Type} {f : α → Value} {w : World} {v : Value} {l : List α} (h : OwnK B t 1 (fun x => [f x]) w v l) : Own B t f w v l := by
  unfold OwnK at h
  rw [flat_one] at h
  exact h
theorem Own.ownK {B : Nat} {t : TypeId} {α : Type} {f : α → Value} {w : World} {v : Value} {l : List α} (h : Own B t f w v l) : OwnK B t 1 (fun x => [f x]) w v l := by
  unfold OwnK
  rw [flat_one]
  exact h
theorem infoCT : (Try.prog.info? 9).map (fun i => (i.zero, i.size, i.bytes)) = some (some (.string ⟨#[]⟩), 1, 16) := by kernel_rfl
theorem infoCT_parts : ∃ i, Try.prog.info? 9 = some i ∧ i.zero = some (.string ⟨#[]⟩) ∧ i.size = 1 ∧ i.bytes = 16 := by
  have h := infoCT
  cases hi : Try.prog.info? 9 with
  | none => rw [hi] at h; cases h
  | some i =>
    rw [hi] at h
    simp only [Option.map_some, Option.some.injEq, Prod.mk.injEq] at h
    exact ⟨i, rfl, h.1, h.2.1, h.2.2⟩
theorem lenT (x : ByteArray) : (encT x).length = 1 := rfl
theorem oneT (x : ByteArray) : ∀ u ∈ encT x, u.oneCell' = true := by
  intro u hu
  simp [encT] at hu
  rcases hu with rfl <;> rfl
set_option maxHeartbeats 2000000 in
set_option maxRecDepth 100000 in
theorem cloneT_any (l : List ByteArray) (v : Value) (w : World) (hn : l.length ≤ 4000000000) (h : RowOf 1 encT l v w) : Calls Try.prog 74 #[v] w fun e w' => ∃ u, e = .returned u ∧ OwnK w.heap.size 9 1 encT w' u l ∧ Below w.heap.size w w' := by
  obtain ⟨ad, cap, rfl, hc, R⟩ := h.open'
  have hfl := flat_len lenT l
  have q32 : ∀ (w : World) (a : Option Addr) (n c n' c' : Nat), (binOp .eql 23 (.slice a n c) (.slice none n' c')).run Try.prog w = .ok (.bool a.isNone) w := fun w a n c n' c' => Lib.run_eql_slice_nil w _ _ a n c n' c' Try.underlying23
  cases ad with
  | none =>
    have h0 : l = [] := by
      rcases R with h0 | ⟨b, o, h1, _⟩
      · exact List.eq_nil_of_length_eq_zero h0
      · cases h1
    subst h0
    go_enter Try.func74, Try.ntmps74
    go_wp2_with fail
    go_ret
    exact ⟨_, rfl, OwnK.nil _ _ _ _ _, Below.refl _ _⟩
  | some e =>
    have A := Lib.hid (row_flat lenT (by decide) R)
    obtain ⟨i0, hi, hz0, hz1, hz2⟩ := infoCT_parts
    have h1 := Lib.hid (fun u (hu : u ∈ l.flatMap encT) => (List.mem_flatMap.1 hu).elim fun x hx => oneT x u hx.2)
    clear R h
    go_enter Try.func74, Try.ntmps74
    go_wp2_with (at_builtin; refine wpList_append_own _ rfl _ _ 23 rfl w.heap.size 9 i0 _ 1 16 Try.underlying23 hi hz0 hz1 hz2 rfl (by decide) _ _ _ rfl (World.ownsRow_made w #[] 0 (Nat.le_refl _) (Nat.zero_le _) rfl) e l.length cap (l.flatMap encT) rfl ?qc1 ?qc2 ?qc3 ?qc4 ?qc5 ?qc6 ?_)
    case qc1 => exact hfl
    case qc2 =>
      intro j u hj
      exact Lib.cell?_alloc_some _ (A.out j u hj)
    case qc3 => exact h1.out
    case qc4 => unfold maxLen; omega
    case qc5 => omega
    case qc6 => simp
    intro v' w1 hown hgrow hnil
    go_wp2_with fail
    go_ret
    refine ⟨v', rfl, ?_, ((Below.refl _ w).alloc (Nat.le_refl _) _).grown hgrow (by simp) (by intro k hk; simp [Value.ownBlock] at hk; omega)⟩
    unfold OwnK
    simpa using hown
theorem infoCI : (Try.prog.info? 22).map (fun i => (i.zero, i.size, i.bytes)) = some (some (.int .i64 0), 1, 8) := by kernel_rfl
theorem infoCI_parts : ∃ i, Try.prog.info? 22 = some i ∧ i.zero = some (.int .i64 0) ∧ i.size = 1 ∧ i.bytes = 8 := by
  have h := infoCI
  cases hi : Try.prog.info? 22 with
  | none => rw [hi] at h; cases h
  | some i =>
    rw [hi] at h
    simp only [Option.map_some, Option.some.injEq, Prod.mk.injEq] at h
    exact ⟨i, rfl, h.1, h.2.1, h.2.2⟩
theorem lenI (x : Int) : (encI x).length = 1 := rfl
theorem oneI (x : Int) : ∀ u ∈ encI x, u.oneCell' = true := by
  intro u hu
  simp [encI] at hu
  rcases hu with rfl <;> rfl
set_option maxHeartbeats 2000000 in
set_option maxRecDepth 100000 in
theorem cloneI_any (l : List Int) (v : Value) (w : World) (hn : l.length ≤ 4000000000) (h : RowOf 1 encI l v w) : Calls Try.prog 72 #[v] w fun e w' => ∃ u, e = .returned u ∧ OwnK w.heap.size 22 1 encI w' u l ∧ Below w.heap.size w w' := by
  obtain ⟨ad, cap, rfl, hc, R⟩ := h.open'
  have hfl := flat_len lenI l
  have q32 : ∀ (w : World) (a : Option Addr) (n c n' c' : Nat), (binOp .eql 26 (.slice a n c) (.slice none n' c')).run Try.prog w = .ok (.bool a.isNone) w := fun w a n c n' c' => Lib.run_eql_slice_nil w _ _ a n c n' c' Try.underlying26
  cases ad with
  | none =>
    have h0 : l = [] := by
      rcases R with h0 | ⟨b, o, h1, _⟩
      · exact List.eq_nil_of_length_eq_zero h0
      · cases h1
    subst h0
    go_enter Try.func72, Try.ntmps72
    go_wp2_with fail
    go_ret
    exact ⟨_, rfl, OwnK.nil _ _ _ _ _, Below.refl _ _⟩
  | some e =>
    have A := Lib.hid (row_flat lenI (by decide) R)
    obtain ⟨i0, hi, hz0, hz1, hz2⟩ := infoCI_parts
    have h1 := Lib.hid (fun u (hu : u ∈ l.flatMap encI) => (List.mem_flatMap.1 hu).elim fun x hx => oneI x u hx.2)
    clear R h
    go_enter Try.func72, Try.ntmps72
    go_wp2_with (at_builtin; refine wpList_append_own _ rfl _ _ 26 rfl w.heap.size 22 i0 _ 1 8 Try.underlying26 hi hz0 hz1 hz2 rfl (by decide) _ _ _ rfl (World.ownsRow_made w #[] 0 (Nat.le_refl _) (Nat.zero_le _) rfl) e l.length cap (l.flatMap encI) rfl ?qc1 ?qc2 ?qc3 ?qc4 ?qc5 ?qc6 ?_)
    case qc1 => exact hfl
    case qc2 =>
      intro j u hj
      exact Lib.cell?_alloc_some _ (A.out j u hj)
    case qc3 => exact h1.out
    case qc4 => unfold maxLen; omega
    case qc5 => omega
    case qc6 => simp
    intro v' w1 hown hgrow hnil
    go_wp2_with fail
    go_ret
    refine ⟨v', rfl, ?_, ((Below.refl _ w).alloc (Nat.le_refl _) _).grown hgrow (by simp) (by intro k hk; simp [Value.ownBlock] at hk; omega)⟩
    unfold OwnK
    simpa using hown
theorem infoCN : (Try.prog.info? 110).map (fun i => (i.zero, i.size, i.bytes)) = some (some (.agg #[.int .i64 0, .int .i64 0]), 2, 16) := by kernel_rfl
theorem infoCN_parts : ∃ i, Try.prog.info? 110 = some i ∧ i.zero = some (.agg #[.int .i64 0, .int .i64 0]) ∧ i.size = 2 ∧ i.bytes = 16 := by
  have h := infoCN
  cases hi : Try.prog.info? 110 with
  | none => rw [hi] at h; cases h
  | some i =>
    rw [hi] at h
    simp only [Option.map_some, Option.some.injEq, Prod.mk.injEq] at h
    exact ⟨i, rfl, h.1, h.2.1, h.2.2⟩
theorem lenN (x : Int × Int) : (encN x).length = 2 := rfl
theorem oneN (x : Int × Int) : ∀ u ∈ encN x, u.oneCell' = true := by
  intro u hu
  simp [encN] at hu
  rcases hu with rfl | rfl <;> rfl
set_option maxHeartbeats 2000000 in
set_option maxRecDepth 100000 in
theorem cloneN_any (l : List (Int × Int)) (v : Value) (w : World) (hn : l.length ≤ 4000000000) (h : RowOf 2 encN l v w) : Calls Try.prog 84 #[v] w fun e w' => ∃ u, e = .returned u ∧ OwnK w.heap.size 110 2 encN w' u l ∧ Below w.heap.size w w' := by
  obtain ⟨ad, cap, rfl, hc, R⟩ := h.open'
  have hfl := flat_len lenN l
  have q32 : ∀ (w : World) (a : Option Addr) (n c n' c' : Nat), (binOp .eql 25 (.slice a n c) (.slice none n' c')).run Try.prog w = .ok (.bool a.isNone) w := fun w a n c n' c' => Lib.run_eql_slice_nil w _ _ a n c n' c' Try.underlying25
  cases ad with
  | none =>
    have h0 : l = [] := by
      rcases R with h0 | ⟨b, o, h1, _⟩
      · exact List.eq_nil_of_length_eq_zero h0
      · cases h1
    subst h0
    go_enter Try.func84, Try.ntmps84
    go_wp2_with fail
    go_ret
    exact ⟨_, rfl, OwnK.nil _ _ _ _ _, Below.refl _ _⟩
  | some e =>
    have A := Lib.hid (row_flat lenN (by decide) R)
    obtain ⟨i0, hi, hz0, hz1, hz2⟩ := infoCN_parts
    have h1 := Lib.hid (fun u (hu : u ∈ l.flatMap encN) => (List.mem_flatMap.1 hu).elim fun x hx => oneN x u hx.2)
    clear R h
    go_enter Try.func84, Try.ntmps84
    go_wp2_with (at_builtin; refine wpList_append_own _ rfl _ _ 25 rfl w.heap.size 110 i0 _ 2 16 Try.underlying25 hi hz0 hz1 hz2 rfl (by decide) _ _ _ rfl (World.ownsRow_made w #[] 0 (Nat.le_refl _) (Nat.zero_le _) rfl) e l.length cap (l.flatMap encN) rfl ?qc1 ?qc2 ?qc3 ?qc4 ?qc5 ?qc6 ?_)
    case qc1 => exact hfl
    case qc2 =>
      intro j u hj
      exact Lib.cell?_alloc_some _ (A.out j u hj)
    case qc3 => exact h1.out
    case qc4 => unfold maxLen; omega
    case qc5 => omega
    case qc6 => simp
    intro v' w1 hown hgrow hnil
    go_wp2_with fail
    go_ret
    refine ⟨v', rfl, ?_, ((Below.refl _ w).alloc (Nat.le_refl _) _).grown hgrow (by simp) (by intro k hk; simp [Value.ownBlock] at hk; omega)⟩
    unfold OwnK
    simpa using hown
theorem infoCR : (Try.prog.info? 89).map (fun i => (i.zero, i.size, i.bytes)) = some (some (.agg #[.string ⟨#[]⟩, .int .i64 0, .bool false]), 3, 32) := by kernel_rfl
theorem infoCR_parts : ∃ i, Try.prog.info? 89 = some i ∧ i.zero = some (.agg #[.string ⟨#[]⟩, .int .i64 0, .bool false]) ∧ i.size = 3 ∧ i.bytes = 32 := by
  have h := infoCR
  cases hi : Try.prog.info? 89 with
  | none => rw [hi] at h; cases h
  | some i =>
    rw [hi] at h
    simp only [Option.map_some, Option.some.injEq, Prod.mk.injEq] at h
    exact ⟨i, rfl, h.1, h.2.1, h.2.2⟩
theorem lenR (x : Rg) : (encR x).length = 3 := rfl
theorem oneR (x : Rg) : ∀ u ∈ encR x, u.oneCell' = true := by
  intro u hu
  simp [encR] at hu
  rcases hu with rfl | rfl | rfl <;> rfl
set_option maxHeartbeats 2000000 in
set_option maxRecDepth 100000 in
theorem cloneR_any (l : List Rg) (v : Value) (w : World) (hn : l.length ≤ 4000000000) (h : RowOf 3 encR l v w) : Calls Try.prog 83 #[v] w fun e w' => ∃ u, e = .returned u ∧ OwnK w.heap.size 89 3 encR w' u l ∧ Below w.heap.size w w' := by
  obtain ⟨ad, cap, rfl, hc, R⟩ := h.open'
  have hfl := flat_len lenR l
  have q32 : ∀ (w : World) (a : Option Addr) (n c n' c' : Nat), (binOp .eql 24 (.slice a n c) (.slice none n' c')).run Try.prog w = .ok (.bool a.isNone) w := fun w a n c n' c' => Lib.run_eql_slice_nil w _ _ a n c n' c' Try.underlying24
  cases ad with
  | none =>
    have h0 : l = [] := by
      rcases R with h0 | ⟨b, o, h1, _⟩
      · exact List.eq_nil_of_length_eq_zero h0
      · cases h1
    subst h0
    go_enter Try.func83, Try.ntmps83
    go_wp2_with fail
    go_ret
    exact ⟨_, rfl, OwnK.nil _ _ _ _ _, Below.refl _ _⟩
  | some e =>
    have A := Lib.hid (row_flat lenR (by decide) R)
    obtain ⟨i0, hi, hz0, hz1, hz2⟩ := infoCR_parts
    have h1 := Lib.hid (fun u (hu : u ∈ l.flatMap encR) => (List.mem_flatMap.1 hu).elim fun x hx => oneR x u hx.2)
    clear R h
    go_enter Try.func83, Try.ntmps83
    go_wp2_with (at_builtin; refine wpList_append_own _ rfl _ _ 24 rfl w.heap.size 89 i0 _ 3 32 Try.underlying24 hi hz0 hz1 hz2 rfl (by decide) _ _ _ rfl (World.ownsRow_made w #[] 0 (Nat.le_refl _) (Nat.zero_le _) rfl) e l.length cap (l.flatMap encR) rfl ?qc1 ?qc2 ?qc3 ?qc4 ?qc5 ?qc6 ?_)
    case qc1 => exact hfl
    case qc2 =>
      intro j u hj
      exact Lib.cell?_alloc_some _ (A.out j u hj)
    case qc3 => exact h1.out
    case qc4 => unfold maxLen; omega
    case qc5 => omega
    case qc6 => simp
    intro v' w1 hown hgrow hnil
    go_wp2_with fail
    go_ret
    refine ⟨v', rfl, ?_, ((Below.refl _ w).alloc (Nat.le_refl _) _).grown hgrow (by simp) (by intro k hk; simp [Value.ownBlock] at hk; omega)⟩
    unfold OwnK
    simpa using hown
end Go.Proofs.Ytbphhcjepeamcaa
namespace Go.Proofs.Ytbphhcjepeamcaa
open Go Go.RowKit Go.Sort
set_option linter.unusedVariables false
theorem OwnK.mono {B B' : Nat} {t : TypeId} {k : Nat} {α : Type} {enc : α → List Value} {w : World} {v : Value} {l : List α} (h : OwnK B t k enc w v l) (hb : B' ≤ B) : OwnK B' t k enc w v l := World.ownsRow.mono h hb
set_option maxRecDepth 100000 in
set_option maxHeartbeats 4000000 in
theorem roots_any (g : Gr) (v : Value) (w : World) (sg : Small g) (hG : GO g v w) : Calls Try.prog 23 #[v] w fun e w' => ∃ u, e = .returned u ∧ OwnK w.heap.size 22 1 encI w' u (goalsL g) ∧ Below w.heap.size w w' := by
  have hG0 := hG
  obtain ⟨a, b, c, d0, e, a', b', c', d', e', rfl, hC, hA⟩ := hG.all
  clear hG
  have s3 := sg.regs
  have s5 := sg.outs
  go_enter Try.func23, Try.ntmps23
  go_upto_region 1 with fail
  have bel := (Below.refl w.heap.size w).alloc (Nat.le_refl _) (.cells #[.slice a g.ins.length a', .slice b g.outN.length b', .slice c g.regs.length c', .slice d0 g.ands.length d', .slice e g.outs.length e'] 28)
  have X := GX.new w (.slice a g.ins.length a') (.slice b g.outN.length b') (.slice c g.regs.length c') (.slice d0 g.ands.length d') (.slice e g.outs.length e') 28
  generalize w.alloc (.cells #[.slice a g.ins.length a', .slice b g.outN.length b', .slice c g.regs.length c', .slice d0 g.ands.length d', .slice e g.outs.length e'] 28) = W0 at bel X ⊢
  generalize hk : w.heap.size = k at X ⊢
  have HK := Lib.hid hk
  clear hk
  obtain ⟨x0, x1, x2, x3, x4⟩ := id X
  have H1 := Lib.hid (cloneI_any g.outs _ W0 sg.outs (RowOf.mk hC.outs (hA.outs.below bel)))
  go_upto_region 2 with (first | (go_at_call 72; refine H1.out.mono ?_; rintro ee w1 ⟨u, rfl, O1, hb1⟩))
  rename World => W1
  have X1 := X.below hb1
  clear x0 x1 x2 x3 x4 H1
  obtain ⟨x0, x1, x2, x3, x4⟩ := id X1
  go_upto_block 0 with fail
  clear x0 x1 x2 x3 x4 X1 X
  have HA := Lib.hid (fun W (hb : Below W0.heap.size W0 W) => hA.below (bel.trans (hb.mono bel.size)))
  obtain ⟨i0, ihi, ihz, ihs, ihb⟩ := infoCI_parts
  go_wp2_with fail
  go_loopw [3, 12] (fun u i wr => ∃ j : Nat, j ≤ g.regs.length ∧ i = .int .i64 (j : Int) ∧ Hid (OwnK W0.heap.size 22 1 encI wr u (g.outs ++ (g.regs.take j).map (·.nx))) ∧ Hid (Below W0.heap.size W0 wr)) (fun _ i _ => g.regs.length - (intOf i).toNat)
  case atStart => exact ⟨0, Nat.zero_le _, rfl, Lib.hid (by simpa using O1), Lib.hid hb1⟩
  case round =>
    clear O1
    obtain ⟨j, hj, rfl, hO, hB⟩ := hrel
    rename World => WR
    have hj0 : (0 : Int) ≤ (j : Int) := by omega
    by_cases hlt : j < g.regs.length
    · have hji : (j : Int) < (g.regs.length : Int) := by omega
      have HT := Lib.hid (show g.outs ++ (g.regs.take (j + 1)).map (·.nx) = (g.outs ++ (g.regs.take j).map (·.nx)) ++ [g.regs[j]!.nx] by rw [tk1 _ hlt, List.map_append, List.append_assoc]; rfl)
      have HL : (g.outs ++ (g.regs.take j).map (·.nx)).length ≤ 9000000000 := by simp; omega
      obtain ⟨bb, oo, hdd, hcell⟩ := (HA.out _ hB.out).regs.pick (by omega)
      subst hdd
      have c0 := hcell j hlt 0 _ rfl
      have c1 := hcell j hlt 1 _ rfl
      have c2 := hcell j hlt 2 _ rfl
      simp only [Nat.add_zero] at c0
      clear hcell
      generalize g.outs ++ (g.regs.take j).map (·.nx) = L at HT HL hO
      generalize g.regs[j]! = r at c0 c1 c2 HT
      obtain ⟨r0, r1, r2⟩ := r
      simp only at c0 c1 c2 HT
      obtain ⟨ad, cp, hv⟩ := hO.out.slice
      subst hv
      go_upto_region 5 with fail
      have bA := (Below.refl WR.heap.size WR).alloc (Nat.le_refl _) (.cells #[.string r0, .int .i64 r1, .bool r2] 89)
      have y1 : (WR.alloc (.cells #[.string r0, .int .i64 r1, .bool r2] 89)).cell? ⟨WR.heap.size, 1, none⟩ = some (.int .i64 r1) := by go_simp
      have O2 := hO.out.below bA
      have B2 := hB.out.trans (bA.mono hB.out.size)
      have hs2 := B2.size
      clear bA c0 c1 c2
      generalize WR.alloc (.cells #[.string r0, .int .i64 r1, .bool r2] 89) = WS at O2 B2 hs2 y1 ⊢
      generalize WR.heap.size = q10 at y1 ⊢
      have O4 := O2.below ((Below.refl _ WS).alloc (Nat.le_refl _) (.cells #[.int .i64 r1] 22))
      have hy : ∀ (q : Nat) (u : Value), (encI r1)[q]? = some u → (WS.alloc (.cells #[.int .i64 (r1)] 22)).cell? ⟨WS.heap.size, q, none⟩ = some u := by
        intro q u hq
        match q, hq with
        | 0, hq => cases hq; go_simp
      go_wp2_with (at_builtin; refine wpList_append_one (enc := encI) (k := 1) (fun _ => rfl) (by decide) (fun x u hu => by simp at hu; rcases hu with rfl; rfl) rfl _ _ 26 rfl (W0.heap.size) 22 i0 (.int .i64 0) 8 Try.underlying26 ihi ihz ihs ihb (by decide) _ L rfl O4 WS.heap.size 1 (r1) rfl hy (show L.length + 1 ≤ maxLen by unfold maxLen; omega) (show (L.length + 1) * 8 ≤ 140737488355328 by omega) (by first | omega | (simp; omega)) ?_)
      intro v5 w5 O5 hb5 hg5
      have HO5 := Lib.hid O5
      have HB5 := Lib.hid (B2.trans (((Below.refl _ WS).alloc hs2 _).trans hb5))
      clear O5 hb5 hg5 O4 hy hO hB y1 O2 B2
      go_wp2_with fail
      go_roundw
      case rel => exact ⟨j + 1, by omega, by go_num, (by rw [HT.out]; exact HO5), HB5⟩
      all_goals first | done | (simp [intOf]; done) | (simp [intOf]; omega)
    · have hji : ¬ (j : Int) < (g.regs.length : Int) := by omega
      have HF : Hid (OwnK w.heap.size 22 1 encI WR _ (goalsL g)) := Lib.hid (by
        have := hO.out.mono bel.size
        rw [List.take_of_length_le (by omega)] at this
        exact this)
      have HB := Lib.hid (bel.trans (hB.out.mono bel.size))
      clear hO hB
      go_wp2_with fail
      go_ret
      exact ⟨_, rfl, HF.out, HB.out⟩
theorem roots_holds : RootsC := fun g v w sg hG => (roots_any g v w sg hG).mono fun e w' ⟨u, h1, h2, h3⟩ => ⟨u, h1, h2.row lenI, h3⟩
/-- ErrRange if a literal is not that of a node -/
def rootsE (n : Int) (l : List Int) : Int := if l.any (fun x => !hasL n x) = true then 2 else 0
theorem rootsE_cons (n x : Int) (l : List Int) : rootsE n (x :: l) = if hasL n x = true then rootsE n l else 2 := by
  unfold rootsE
  cases h : hasL n x <;> simp [h]
set_option maxRecDepth 100000 in
set_option maxHeartbeats 4000000 in
theorem checkRoots_any (g : Gr) (v : Value) (l : List Int) (vl : Value) (w : World) (sg : Small g) (hn : l.length ≤ 9000000000) (hG : GO g v w) (hR : RowOf 1 encI l vl w) : Calls Try.prog 76 #[v, vl] w fun e w' => e = .returned (.int .i64 (rootsE (1 + (g.ins.length : Int) + (g.regs.length : Int) + (g.ands.length : Int)) l)) ∧ Below w.heap.size w w' := by
  have hG0 := hG
  obtain ⟨a, b, c, d0, e, a', b', c', d', e', rfl, hC, hA⟩ := hG.all
  clear hG
  obtain ⟨ad, cp, rfl, hcp, R⟩ := hR.open'
  go_enter Try.func76, Try.ntmps76
  go_upto_region 1 with fail
  have bel := (Below.refl w.heap.size w).alloc (Nat.le_refl _) (.cells #[.slice a g.ins.length a', .slice b g.outN.length b', .slice c g.regs.length c', .slice d0 g.ands.length d', .slice e g.outs.length e'] 28)
  have X := GX.new w (.slice a g.ins.length a') (.slice b g.outN.length b') (.slice c g.regs.length c') (.slice d0 g.ands.length d') (.slice e g.outs.length e') 28
  generalize w.alloc (.cells #[.slice a g.ins.length a', .slice b g.outN.length b', .slice c g.regs.length c', .slice d0 g.ands.length d', .slice e g.outs.length e'] 28) = W0 at bel X ⊢
  generalize hk : w.heap.size = k at X ⊢
  have HK := Lib.hid hk
  clear hk
  obtain ⟨x0, x1, x2, x3, x4⟩ := id X
  have H1 := Lib.hid (fun W (hb : Below w.heap.size w W) => nodes_ok g _ W sg (hG0.below hb))
  generalize hN : 1 + (g.ins.length : Int) + (g.regs.length : Int) + (g.ands.length : Int) = n at H1
  have HNN := Lib.hid hN
  clear hN
  have H2 := Lib.hid (fun x W => has_any n x W)
  have HX := Lib.hid (fun W (hb : Below W0.heap.size W0 W) => X.below hb)
  have HR := Lib.hid (fun W (hb : Below w.heap.size w W) => R.below hb)
  clear hC hA hG0 hR x0 x1 x2 x3 x4
  go_wp2_with fail
  go_loopw [9] (fun i wr => ∃ j : Nat, j ≤ l.length ∧ i = .int .i64 (j : Int) ∧ Hid (rootsE n l = rootsE n (l.drop j)) ∧ Hid (Below W0.heap.size W0 wr)) (fun i _ => l.length - (intOf i).toNat)
  case atStart => exact ⟨0, Nat.zero_le _, rfl, Lib.hid rfl, Lib.hid (Below.refl _ _)⟩
  case round =>
    obtain ⟨j, hj, rfl, hE, hB⟩ := hrel
    rename World => WR
    have hj0 : (0 : Int) ≤ (j : Int) := by omega
    have bR := bel.trans (hB.out.mono bel.size)
    by_cases hlt : j < l.length
    · have hji : (j : Int) < (l.length : Int) := by omega
      have hd : l.drop j = l[j]! :: l.drop (j + 1) := by rw [getElem!_pos l j hlt]; exact List.drop_eq_getElem_cons hlt
      have HE := Lib.hid (show rootsE n l = if hasL n l[j]! = true then rootsE n (l.drop (j + 1)) else 2 by rw [hE.out, hd, rootsE_cons])
      obtain ⟨bb, oo, hdd, hcell⟩ := (HR.out _ bR).pick (by omega)
      subst hdd
      have c0 := hcell j hlt 0 _ rfl
      simp only [Nat.mul_one, Nat.add_zero] at c0
      have H3 := Lib.hid (H2.out l[j]!)
      clear hcell hd hE
      generalize l[j]! = x at c0 HE H3
      obtain ⟨x0, x1, x2, x3, x4⟩ := HX.out _ hB.out
      have HBB := Lib.hid hB.out
      cases hh : hasL n x with
      | true =>
        rw [hh] at H3 HE
        rw [if_pos rfl] at HE
        clear hh
        go_wp2_with (first | (go_at_call 21; refine (H1.out _ bR).mono ?_; rintro ee w1 ⟨rfl, hb1⟩) | (go_at_call 75; refine (H3.out _).mono ?_; rintro ee w2 ⟨rfl, hb2⟩))
        have HB2 := Lib.hid ((HBB.out.trans (hb1.mono HBB.out.size)).trans (hb2.mono (Nat.le_trans HBB.out.size hb1.size)))
        clear hb1 hb2 x0 x1 x2 x3 x4
        first | go_roundw | (go_wp2_with fail; go_roundw)
        case rel => exact ⟨j + 1, by omega, by go_num, HE, HB2⟩
        all_goals first | done | (simp [intOf]; done) | (simp [intOf]; omega)
      | false =>
        rw [hh] at H3 HE
        rw [if_neg (by decide)] at HE
        clear hh
        go_wp2_with (first | (go_at_call 21; refine (H1.out _ bR).mono ?_; rintro ee w1 ⟨rfl, hb1⟩) | (go_at_call 75; refine (H3.out _).mono ?_; rintro ee w2 ⟨rfl, hb2⟩))
        have HB2 := Lib.hid ((bR.trans (hb1.mono bR.size)).trans (hb2.mono (Nat.le_trans bR.size hb1.size)))
        go_ret
        exact ⟨ret_num (by rw [HNN.out]; exact HE.out.symm), HB2.out⟩
    · have hji : ¬ (j : Int) < (l.length : Int) := by omega
      have HE := Lib.hid (show rootsE n l = 0 by rw [hE.out, List.drop_of_length_le (by omega)]; rfl)
      have HB2 := Lib.hid bR
      go_wp2_with fail
      go_ret
      exact ⟨ret_num (by rw [HNN.out]; exact HE.out.symm), HB2.out⟩
end Go.Proofs.Ytbphhcjepeamcaa
namespace Go.Proofs.Ytbphhcjepeamcaa
open Go Go.RowKit Go.Sort
set_option linter.unusedVariables false
abbrev gV (v : Value) : Value := v
/-- a graph in a block that is written -/
abbrev BG (k : Nat) (v0 v1 v2 v3 v4 : Value) (w : World) : Prop := Arr 28 gV k [v0, v1, v2, v3, v4] w
theorem BG.gx {k : Nat} {v0 v1 v2 v3 v4 : Value} {w : World} (h : BG k v0 v1 v2 v3 v4 w) : GX k v0 v1 v2 v3 v4 w :=
  ⟨Arr.cell (j := 0) h (by simp), Arr.cell (j := 1) h (by simp), Arr.cell (j := 2) h (by simp), Arr.cell (j := 3) h (by simp), Arr.cell (j := 4) h (by simp)⟩
abbrev put5 (w : World) (k : Nat) (u0 u1 u2 u3 u4 : Value) : World := ((((w.setCell ⟨k, 0, none⟩ u0).setCell ⟨k, 1, none⟩ u1).setCell ⟨k, 2, none⟩ u2).setCell ⟨k, 3, none⟩ u3).setCell ⟨k, 4, none⟩ u4
theorem BG.all {k : Nat} {v0 v1 v2 v3 v4 : Value} {w : World} (h : BG k v0 v1 v2 v3 v4 w) (u0 u1 u2 u3 u4 : Value) : BG k u0 u1 u2 u3 u4 (put5 w k u0 u1 u2 u3 u4) :=
  ((((Arr.set h 0 u0).set 1 u1).set 2 u2).set 3 u3).set 4 u4
theorem BG.set3 {k : Nat} {v0 v1 v2 v3 v4 : Value} {w : World} (h : BG k v0 v1 v2 v3 v4 w) (u : Value) : BG k v0 v1 v2 u v4 (w.setCell ⟨k, 3, none⟩ u) := Arr.set h 3 u
theorem put5_below {k : Nat} {w0 w : World} (h : Below k w0 w) (u0 u1 u2 u3 u4 : Value) : Below k w0 (put5 w k u0 u1 u2 u3 u4) :=
  ((((h.setCell (Nat.le_refl _) u0).setCell (Nat.le_refl _) u1).setCell (Nat.le_refl _) u2).setCell (Nat.le_refl _) u3).setCell (Nat.le_refl _) u4
theorem b5_mono {k q : Nat} {w0 w : World} (h : Below q w0 w) (hq : q ≤ k) (u0 u1 u2 u3 u4 : Value) : Below q w0 (put5 w k u0 u1 u2 u3 u4) :=
  ((((h.setCell hq u0).setCell hq u1).setCell hq u2).setCell hq u3).setCell hq u4
theorem Arr.allocV (w : World) (l : List Value) (t : TypeId) : Arr t gV w.heap.size l (w.alloc (.cells l.toArray t)) := ⟨by
  show (w.heap.push _)[w.heap.size]? = _
  simp⟩
theorem grown_put (w : World) (p : Addr) (v : Value) : w.grownBy (w.setCell p v) (some p.block) :=
  ⟨rfl, rfl, rfl, by simp [World.setCell], fun k _ hne => Below.heap_setCell w p v k (fun e => hne (by rw [e]))⟩
theorem OwnK.set {B : Nat} {t : TypeId} {k : Nat} {α : Type} {enc : α → List Value} {w : World} {v : Value} {l : List α} (h : OwnK B t k enc w v l) (p : Addr) (u : Value) (hp : p.block < B) : OwnK B t k enc (w.setCell p u) v l :=
  World.ownsRow.kept h (grown_put w p u) (by
    cases hv : v.ownBlock with
    | none => exact .inl rfl
    | some b => exact .inr (fun e => by have := (World.ownsRow.lt h b hv).1; simp only [Option.some.injEq] at e; omega))
theorem OwnK.put5 {B : Nat} {t : TypeId} {k : Nat} {α : Type} {enc : α → List Value} {w : World} {v : Value} {l : List α} (h : OwnK B t k enc w v l) (q : Nat) (u0 u1 u2 u3 u4 : Value) (hq : q < B) : OwnK B t k enc (put5 w q u0 u1 u2 u3 u4) v l :=
  ((((OwnK.set h ⟨q, 0, none⟩ u0 hq).set ⟨q, 1, none⟩ u1 hq).set ⟨q, 2, none⟩ u2 hq).set ⟨q, 3, none⟩ u3 hq).set ⟨q, 4, none⟩ u4 hq
theorem OwnK.sl {B : Nat} {t : TypeId} {k : Nat} {α : Type} {enc : α → List Value} {w : World} {v : Value} {l : List α} (h : OwnK B t k enc w v l) : ∃ ad n cp, v = .slice ad n cp := by
  obtain ⟨ad, cp, h⟩ := h.slice
  exact ⟨ad, _, cp, h⟩
theorem ownk_sta (B : Nat) (t : TypeId) (k : Nat) {α : Type} (enc : α → List Value) (l : List α) : Sta (fun v w => OwnK B t k enc w v l) := fun v w w' h hb => h.below hb
/-- a graph whose rows are a call's own -/
structure OG (B : Nat) (g : Gr) (v : Value) (w : World) : Prop where
  all : ∃ v0 v1 v2 v3 v4, v = .agg #[v0, v1, v2, v3, v4] ∧ OwnK B 9 1 encT w v0 g.ins ∧ OwnK B 9 1 encT w v1 g.outN ∧ OwnK B 89 3 encR w v2 g.regs ∧ OwnK B 110 2 encN w v3 g.ands ∧ OwnK B 22 1 encI w v4 g.outs
theorem OG.go {B : Nat} {g : Gr} {v : Value} {w : World} (h : OG B g v w) : GO g v w := by
  obtain ⟨v0, v1, v2, v3, v4, rfl, h0, h1, h2, h3, h4⟩ := h.all
  obtain ⟨a0, c0, rfl, q0, n0, r0⟩ := h0.rowC lenT
  obtain ⟨a1, c1, rfl, q1, n1, r1⟩ := h1.rowC lenT
  obtain ⟨a2, c2, rfl, q2, n2, r2⟩ := h2.rowC lenR
  obtain ⟨a3, c3, rfl, q3, n3, r3⟩ := h3.rowC lenN
  obtain ⟨a4, c4, rfl, q4, n4, r4⟩ := h4.rowC lenI
  exact ⟨⟨a0, a1, a2, a3, a4, c0, c1, c2, c3, c4, rfl, ⟨q0, q1, q2, q3, q4, n0, n1, n2, n3, n4⟩, ⟨r0, r1, r2, r3, r4⟩⟩⟩
theorem OG.mono {B B' : Nat} {g : Gr} {v : Value} {w : World} (h : OG B g v w) (hb : B' ≤ B) : OG B' g v w := by
  obtain ⟨v0, v1, v2, v3, v4, h, h0, h1, h2, h3, h4⟩ := h.all
  exact ⟨⟨v0, v1, v2, v3, v4, h, h0.mono hb, h1.mono hb, h2.mono hb, h3.mono hb, h4.mono hb⟩⟩
theorem OG.below {B : Nat} {g : Gr} {v : Value} {w w' : World} (h : OG B g v w) (hb : Below w.heap.size w w') : OG B g v w' := by
  obtain ⟨v0, v1, v2, v3, v4, h, h0, h1, h2, h3, h4⟩ := h.all
  exact ⟨⟨v0, v1, v2, v3, v4, h, h0.below hb, h1.below hb, h2.below hb, h3.below hb, h4.below hb⟩⟩
end Go.Proofs.Ytbphhcjepeamcaa
namespace Go.Proofs.Ytbphhcjepeamcaa
open Go Go.RowKit Go.Sort
set_option linter.unusedVariables false
theorem bytesWorld_below (w : World) (e : TypeId) (s : ByteArray) : Below w.heap.size w (Lib.bytesWorld w e s) :=
  ⟨rfl, rfl, rfl, by rw [Lib.bytesWorld_size]; omega, fun j hj => Lib.bytesWorld_at_old w e s j hj⟩
set_option maxRecDepth 100000 in
set_option maxHeartbeats 1600000 in
theorem name_any (s : ByteArray) (hs : s.size ≤ 9223372036854775000) (w : World) : Calls Try.prog 25 #[.string s] w fun e w' => e = .returned (.bool (nmB s)) ∧ Below w.heap.size w w' := by
  have hl := len_data s
  by_cases h1 : 1 ≤ s.size
  · have h1i : ¬ (s.size : Int) < 1 := by omega
    by_cases h2 : s.size ≤ 128
    · have h2i : ¬ (128 : Int) < (s.size : Int) := by omega
      have HP : Hid (nmB s = s.data.toList.all (fun c => decide (33 ≤ c.toNat) && decide (c.toNat ≤ 126))) := Lib.hid (by unfold nmB; rw [decide_eq_true h1, decide_eq_true h2, Bool.and_true, Bool.and_true])
      go_enter Try.func25, Try.ntmps25
      go_upto_region 3 with fail
      have hcv := Lib.run_convert_string_bytes (P := Try.prog) w 9 105 5 s Try.underlying9 Try.underlying105 Try.underlying5
      obtain ⟨cap, hcap⟩ : ∃ cap, grownCap w s.size 0 5 = cap := ⟨_, rfl⟩
      rw [hcap] at hcv
      have hcells : ∀ j (hj : j < s.size), (Lib.bytesWorld w 5 s).cell? ⟨w.heap.size, j, none⟩ = some (.int .u8 (s[j].toNat : Nat)) := fun j hj => by
        rw [Lib.bytesWorld_cell w 5 s j hj, List.getD_eq_getElem?_getD, List.getElem?_eq_getElem (by rw [hl]; exact hj)]; rfl
      have hbw := bytesWorld_below w 5 s
      generalize Lib.bytesWorld w 5 s = W1 at hcv hcells hbw
      clear hcap
      have HB := Lib.hid hbw
      have HC := Lib.hid hcells
      clear hbw hcells
      go_upto_block 0 with fail
      clear hcv
      go_wp2_with fail
      go_loopw [16] (fun i wr => ∃ k : Nat, k ≤ s.size ∧ i = .int .i64 k ∧ Hid ((s.data.toList.take k).all (fun c => decide (33 ≤ c.toNat) && decide (c.toNat ≤ 126)) = true) ∧ wr = W1) (fun i _ => s.size - (intOf i).toNat)
      case atStart => exact ⟨0, Nat.zero_le _, rfl, Lib.hid rfl, rfl⟩
      case round =>
        obtain ⟨k, hk, rfl, hz, rfl⟩ := hrel
        have hk0 : (0 : Int) ≤ (k : Int) := by omega
        by_cases hlt : k < s.size
        · have hki : (k : Int) < (s.size : Int) := by omega
          have hmem : s[k] ∈ s.data.toList := List.getElem_mem (by rw [hl]; exact hlt)
          have hcell := HC.out k hlt
          have HF0 : Hid (¬ (33 ≤ s[k].toNat ∧ s[k].toNat ≤ 126) → nmB s = false) := Lib.hid (fun hh => by
            rw [HP.out]
            cases e : s.data.toList.all (fun c => decide (33 ≤ c.toNat) && decide (c.toNat ≤ 126)) with
            | false => rfl
            | true => have := List.all_eq_true.1 e _ hmem; simp at this; omega)
          by_cases h3 : s[k].toNat < 33
          · have HF := Lib.hid (HF0.out (by omega))
            have h3i : (s[k].toNat : Int) < 33 := by omega
            clear hmem HF0
            go_wp2_with fail
            go_ret
            exact ⟨ret_bool HF.out.symm, HB.out⟩
          · have h3i : ¬ (s[k].toNat : Int) < 33 := by omega
            by_cases h4 : 126 < s[k].toNat
            · have HF := Lib.hid (HF0.out (by omega))
              have h4i : (126 : Int) < (s[k].toNat : Int) := by omega
              clear hmem HF0
              go_wp2_with fail
              go_ret
              exact ⟨ret_bool HF.out.symm, HB.out⟩
            · have h4i : ¬ (126 : Int) < (s[k].toNat : Int) := by omega
              have HS : Hid ((s.data.toList.take (k + 1)).all (fun c => decide (33 ≤ c.toNat) && decide (c.toNat ≤ 126)) = true) := Lib.hid (by
                rw [tk_data s k hlt, List.all_append, hz.out]; simp; omega)
              clear hmem HF0
              go_wp2_with fail
              go_roundw
              case rel => exact ⟨k + 1, by omega, by go_num, HS, by first | rfl | trivial⟩
              case measure => first | done | (simp [intOf]; done) | (simp [intOf]; omega)
        · have hki : ¬ (k : Int) < (s.size : Int) := by omega
          have HF := Lib.hid (show nmB s = true by
            rw [HP.out]
            have := hz.out
            rwa [List.take_of_length_le (by omega)] at this)
          go_wp2_with fail
          go_ret
          exact ⟨ret_bool HF.out.symm, HB.out⟩
    · have h2i : (128 : Int) < (s.size : Int) := by omega
      have HF : Hid (nmB s = false) := Lib.hid (by unfold nmB; rw [decide_eq_false h2, Bool.and_false])
      go_enter Try.func25, Try.ntmps25
      go_wp2_with fail
      go_ret
      exact ⟨ret_bool HF.out.symm, Below.refl _ _⟩
  · have h1i : (s.size : Int) < 1 := by omega
    have HF : Hid (nmB s = false) := Lib.hid (by unfold nmB; rw [decide_eq_false h1, Bool.and_false, Bool.false_and])
    go_enter Try.func25, Try.ntmps25
    go_wp2_with fail
    go_ret
    exact ⟨ret_bool HF.out.symm, Below.refl _ _⟩
theorem mapSB : Try.prog.underlying 106 = some (.map 9 4) := by kernel_rfl
theorem keyS : Try.prog.underlying 9 = some .string := by kernel_rfl
theorem zeroB (w : World) : (zeroValue 4).run Try.prog w = .ok (.bool false) w := by kernel_rfl
/-- a map of the texts that were seen -/
def Seen (b : Nat) (L : List ByteArray) (w : World) : Prop :=
  ∃ es clock, w.heap[b]? = some (.map es clock) ∧ (∀ e ∈ es.toList, ∃ s, e.key = .string s ∧ e.val = .bool true ∧ s ∈ L) ∧ ∀ s ∈ L, ∃ e ∈ es.toList, e.key = .string s
theorem Seen.lt {b : Nat} {L : List ByteArray} {w : World} (h : Seen b L w) : b < w.heap.size := by
  obtain ⟨es, clock, hb, _⟩ := h
  exact (Array.getElem?_eq_some_iff.1 hb).1
theorem Seen.below {b : Nat} {L : List ByteArray} {w w' : World} (h : Seen b L w) (hb : Below w.heap.size w w') : Seen b L w' := by
  have hlt := h.lt
  obtain ⟨es, clock, h1, h2, h3⟩ := h
  exact ⟨es, clock, (hb.block b hlt).trans h1, h2, h3⟩
theorem Seen.made (w : World) : Seen w.heap.size [] (w.alloc (.map #[] 0)) := ⟨#[], 0, (MapKept.heap_alloc w _).1, by simp, by simp⟩
theorem Seen.keys {es : Array MapEntry} {L : List ByteArray} (h : ∀ e ∈ es.toList, ∃ s, e.key = .string s ∧ e.val = .bool true ∧ s ∈ L) : ∀ x ∈ es.toList, MapKept.IsKey .string x.key := fun x hx => by
  obtain ⟨s, h1, _⟩ := h x hx
  rw [h1]; trivial
theorem Seen.look {b : Nat} {L : List ByteArray} {w : World} (h : Seen b L w) (s : ByteArray) : (Instr.lookup 106 (.map (some b)) (.string s) false).run Try.prog w = .ok (.bool (inT s L)) w := by
  obtain ⟨es, clock, hb, h2, h3⟩ := h
  have hk : MapKept.IsKey .string (.string s) := trivial
  rcases MapKept.findNow_spec hk es.toList 0 (Seen.keys h2) with ⟨h4, h5⟩ | ⟨j, e, h4, h5, h6⟩
  · have hn : inT s L = false := inT_no (fun hm => by obtain ⟨e, he, hq⟩ := h3 s hm; exact h5 e he hq)
    have hfk := MapKept.run_findKey (P := Try.prog) (w := w) keyS h4
    rw [hn]
    simp [Instr.lookup, run_underlying mapSB, MapKept.run_getObj_map hb, MapKept.run_checkKey keyS hk, hfk, zeroB, Result.andThen]
  · have hmem : e ∈ es.toList := List.mem_of_getElem? h5
    obtain ⟨t, q1, q2, q3⟩ := h2 e hmem
    rw [q1] at h6
    cases h6
    have hn : inT s L = true := inT_iff.2 q3
    have hfk := MapKept.run_findKey (P := Try.prog) (w := w) keyS h4
    rw [hn]
    simp [Instr.lookup, run_underlying mapSB, MapKept.run_getObj_map hb, MapKept.run_checkKey keyS hk, hfk, q2, Result.andThen]
theorem Seen.put {b : Nat} {L : List ByteArray} {w : World} (h : Seen b L w) (s : ByteArray) (hs : s ∉ L) : ∃ w', (Instr.mapUpdate 106 (.map (some b)) (.string s) (.bool true)).run Try.prog w = .ok () w' ∧ Seen b (L ++ [s]) w' ∧ Below b w w' := by
  obtain ⟨es, clock, hb, h2, h3⟩ := h
  have hk : MapKept.IsKey .string (.string s) := trivial
  have hlt := (Array.getElem?_eq_some_iff.1 hb).1
  rcases MapKept.findNow_spec hk es.toList 0 (Seen.keys h2) with ⟨h4, h5⟩ | ⟨j, e, h4, h5, h6⟩
  · refine ⟨{ w with heap := w.heap.setIfInBounds b (.map (es.push ⟨.string s, .bool true, clock⟩) (clock + 1)) }, ?_, ⟨_, _, (MapKept.heap_set hb).1, ?_, ?_⟩, ⟨rfl, rfl, rfl, by simp, fun k hk => (MapKept.heap_set hb).2 k (by omega)⟩⟩
    · simp [Instr.mapUpdate, run_underlying mapSB, MapKept.run_getObj_map hb, MapKept.run_checkKey keyS hk, MapKept.run_findKey keyS h4, MapKept.run_setObj_map _ hb, Result.andThen]
    · intro e he
      simp only [Array.toList_push, List.mem_append, List.mem_singleton] at he
      rcases he with he | rfl
      · obtain ⟨t, q1, q2, q3⟩ := h2 e he
        exact ⟨t, q1, q2, List.mem_append_left _ q3⟩
      · exact ⟨s, rfl, rfl, by simp⟩
    · intro t ht
      simp only [Array.toList_push, List.mem_append, List.mem_singleton] at ht ⊢
      rcases ht with ht | rfl
      · obtain ⟨e, he, hq⟩ := h3 t ht
        exact ⟨e, .inl he, hq⟩
      · exact ⟨_, .inr rfl, rfl⟩
  · have hmem : e ∈ es.toList := List.mem_of_getElem? h5
    obtain ⟨t, q1, q2, q3⟩ := h2 e hmem
    rw [q1] at h6
    cases h6
    exact absurd q3 hs
set_option maxRecDepth 100000 in
set_option maxHeartbeats 1600000 in
theorem names_any (l : List ByteArray) (v : Value) (hn : l.length ≤ 9000000000000000) (hz : ∀ x ∈ l, x.size ≤ 9223372036854775000) (w : World) (h : RowOf 1 encT l v w) : Calls Try.prog 27 #[v] w fun e w' => e = .returned (.int .i64 (namesF l)) ∧ Below w.heap.size w w' := by
  obtain ⟨ad, cap, rfl, hc, R⟩ := h.open'
  have HZ := Lib.hid hz
  clear hz h
  have hmk := @run_makeMap Try.prog
  go_enter Try.func27, Try.ntmps27
  go_upto_region 2 with fail
  have bel := (Below.refl w.heap.size w).alloc (Nat.le_refl _) (.map #[] 0)
  have S0 := Seen.made w
  have hsz : w.heap.size < (w.alloc (.map #[] 0)).heap.size := S0.lt
  generalize w.alloc (.map #[] 0) = W0 at bel S0 hsz ⊢
  generalize hk : w.heap.size = k0 at S0 bel hsz ⊢
  have HK := Lib.hid hk
  clear hk hmk
  have HR := Lib.hid (fun W (hb : Below k0 w W) => R.below (by rw [HK.out]; exact hb))
  go_upto_block 0 with fail
  go_wp2_with fail
  go_loopw [9] (fun i wr => ∃ k : Nat, k ≤ l.length ∧ i = .int .i64 k ∧ Hid (namesF l = nfL (l.take k) (l.drop k)) ∧ Hid (Seen k0 (l.take k) wr) ∧ Hid (Below k0 w wr)) (fun i _ => l.length - (intOf i).toNat)
  case atStart => exact ⟨0, Nat.zero_le _, rfl, Lib.hid rfl, Lib.hid S0, Lib.hid bel⟩
  case round =>
    clear S0 bel hsz
    obtain ⟨k, hk, rfl, hq, hS, hB⟩ := hrel
    rename World => WR
    have hk1 : (0 : Int) ≤ (k : Int) := by omega
    by_cases hlt : k < l.length
    · have hki : (k : Int) < (l.length : Int) := by omega
      have HT := Lib.hid (tk1 l hlt)
      have HM := Lib.hid (mem1 l hlt)
      have hd : l.drop k = l[k]! :: l.drop (k + 1) := by rw [getElem!_pos l k hlt]; exact List.drop_eq_getElem_cons hlt
      have HQ : Hid (namesF l = if nmB l[k]! = false then 9 else if inT l[k]! (l.take k) = true then 6 else nfL (l.take (k + 1)) (l.drop (k + 1))) := Lib.hid (by rw [hq.out, hd, HT.out]; rfl)
      have hnm := Lib.hid (name_any l[k]! (HZ.out _ HM.out) WR)
      obtain ⟨b, o, hdd, hcell⟩ := (HR.out _ hB.out).pick (by omega)
      subst hdd
      have c0 := hcell k hlt 0 _ rfl
      simp only [Nat.mul_one, Nat.add_zero] at c0
      clear hcell hd hq
      generalize l[k]! = x at c0 HQ hnm HM HT
      have hsS := hS.out.lt
      cases hb : nmB x with
      | false =>
        rw [hb] at hnm
        have HR : Hid (namesF l = 9) := Lib.hid (by rw [HQ.out, if_pos hb])
        clear hb
        have HB := Lib.hid hB.out
        go_wp2_with (first | (go_at_call 25; refine hnm.out.mono ?_; rintro e w3 ⟨rfl, hb3⟩))
        go_ret
        exact ⟨ret_num HR.out.symm, by rw [HK.out]; exact HB.out.trans (hb3.mono (Nat.le_of_lt hsS))⟩
      | true =>
        rw [hb] at hnm
        by_cases hm : x ∈ l.take k
        · have HR : Hid (namesF l = 6) := Lib.hid (by rw [HQ.out, if_neg (by rw [hb]; simp), if_pos (inT_iff.2 hm)])
          have hi := inT_iff.2 hm
          have HI := Lib.hid hi
          clear hb hm hi
          have HB := Lib.hid hB.out
          have HSS := Lib.hid hS.out
          clear hS
          go_upto_region 7 with (first | (go_at_call 25; refine hnm.out.mono ?_; rintro e w3 ⟨rfl, hb3⟩))
          have hlk := (HSS.out.below hb3).look x
          rw [HI.out] at hlk
          have HB3 := Lib.hid (HB.out.trans (hb3.mono (Nat.le_of_lt hsS)))
          go_wp2_with fail
          go_ret
          exact ⟨ret_num HR.out.symm, by rw [HK.out]; exact HB3.out⟩
        · have HR : Hid (namesF l = nfL (l.take (k + 1)) (l.drop (k + 1))) := Lib.hid (by rw [HQ.out, if_neg (by rw [hb]; simp), if_neg (by rw [inT_no hm]; simp)])
          have HM2 := Lib.hid hm
          have HI := Lib.hid (inT_no hm)
          clear hb hm
          have HB := Lib.hid hB.out
          have HSS := Lib.hid hS.out
          clear hS
          go_upto_region 7 with (first | (go_at_call 25; refine hnm.out.mono ?_; rintro e w3 ⟨rfl, hb3⟩))
          have S3 := HSS.out.below hb3
          have hlk := S3.look x
          rw [HI.out] at hlk
          obtain ⟨w4, hup, S4, B4⟩ := S3.put x HM2.out
          rw [← HT.out] at S4
          have HS4 := Lib.hid S4
          have HB4 := Lib.hid ((HB.out.trans (hb3.mono (Nat.le_of_lt hsS))).trans B4)
          clear S3 S4 B4 hb3
          go_wp2_with fail
          go_roundw
          case rel => exact ⟨k + 1, by omega, by go_num, HR, HS4, HB4⟩
          case measure => first | done | (simp [intOf]; done) | (simp [intOf]; omega)
    · have hki : ¬ (k : Int) < (l.length : Int) := by omega
      have HR : Hid (namesF l = 0) := Lib.hid (by rw [hq.out, List.drop_of_length_le (by omega)]; rfl)
      have HB := Lib.hid hB.out
      clear hq hS hB
      go_wp2_with fail
      go_ret
      exact ⟨ret_num HR.out.symm, by rw [HK.out]; exact HB.out⟩
end Go.Proofs.Ytbphhcjepeamcaa
