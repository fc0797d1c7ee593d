/- The kinds of the nodes that are visited, kept in a slice behind a variable. -/
import Derived.Test.YtkgikienfdgmfaaSyTree
import Derived.LoopTactic
import Derived.OneCell
import Derived.Deep.CutBlock
import Derived.Deep.DeepCutAuto
import Derived.Laws.AppendOwn
import Derived.Laws.OwnMore
namespace Go.Proofs.Ytkgikienfdgmfaa
open Go Go.RowKit
set_option linter.unusedVariables false
mutual
/-- the kinds in order; nothing is visited below a node of the kind stop -/
def vis (stop : Int) : Nd → List Int | .mk k _ _ _ _ _ _ _ _ _ _ ks => k :: (if k = stop then [] else visL stop ks)
def visL (stop : Int) : List Nd → List Int
  | [] => []
  | x :: r => vis stop x ++ visL stop r
end
theorem visL_take (stop : Int) : ∀ (ks : List Nd) (j : Nat) (h : j < ks.length), visL stop (ks.take (j + 1)) = visL stop (ks.take j) ++ vis stop ks[j]
  | x :: r, 0, _ => by simp [visL]
  | x :: r, j + 1, h => by
    have := visL_take stop r j (by simpa using h)
    simp only [List.take_succ_cons, visL, List.getElem_cons_succ]
    rw [this, List.append_assoc]
mutual
theorem vis_len (stop : Int) : ∀ T : Nd, (vis stop T).length ≤ T.cnt
  | .mk k _ _ _ _ _ _ _ _ _ _ ks => by
    have := visL_len stop ks
    unfold vis Nd.cnt
    split <;> simp <;> omega
theorem visL_len (stop : Int) : ∀ ks : List Nd, (visL stop ks).length ≤ cntL ks
  | [] => Nat.le_refl _
  | x :: r => by
    have := vis_len stop x
    have := visL_len stop r
    unfold visL cntL
    simp; omega
end
def IC (l : List Int) : List Value := l.map (Value.int .i64)
theorem IC_app (l : List Int) (k : Int) : IC (l ++ [k]) = IC l ++ [.int .i64 k] := by simp [IC]
theorem IC_len (l : List Int) : (IC l).length = l.length := by simp [IC]
/-- an owned slice of ints -/
def OI (B : Nat) (w : World) (v : Value) (l : List Int) : Prop := w.ownsRow B 3 1 v l.length (IC l)
theorem OI.form {w : World} {B : Nat} {v : Value} {l : List Int} (h : OI B w v l) : ∃ a cap, v = .slice a l.length cap := by
  rcases h.2 with ⟨h1, h0⟩ | ⟨g, cap, cur, hv, _⟩
  · exact ⟨none, 0, by rw [h1, h0]⟩
  · exact ⟨_, _, hv⟩
theorem infoI : (Try.prog.info? 3).map (fun i => (i.zero, i.size, i.bytes)) = some (some (.int .i64 0), 1, 8) := by kernel_rfl
theorem infoI_parts : ∃ i, Try.prog.info? 3 = some i ∧ i.zero = some (.int .i64 0) ∧ i.size = 1 ∧ i.bytes = 8 := by
  have h := infoI
  cases hi : Try.prog.info? 3 with
  | none => rw [hi] at h; cases h
  | some i =>
    rw [hi] at h
    simp only [Option.map_some, Option.some.injEq, Prod.mk.injEq] at h
    exact ⟨i, rfl, h.1, h.2.1, h.2.2⟩
/-- the world has changed in block p and in rows of ints at B and behind alone, and grown -/
structure Fr (B p : Nat) (w w' : World) : Prop where
  os : w'.os = w.os
  tape : w'.tape = w.tape
  output : w'.output = w.output
  size : w.heap.size ≤ w'.heap.size
  block : ∀ k, k < w.heap.size → k ≠ p → (k < B ∨ ∀ cur, w.heap[k]? ≠ some (.cells cur 3 (0, 0))) → w'.heap[k]? = w.heap[k]?
theorem Fr.refl (B p : Nat) (w : World) : Fr B p w w := ⟨rfl, rfl, rfl, Nat.le_refl _, fun _ _ _ _ => rfl⟩
theorem Fr.trans {B p : Nat} {a b c : World} (h : Fr B p a b) (k : Fr B p b c) : Fr B p a c :=
  ⟨k.os.trans h.os, k.tape.trans h.tape, k.output.trans h.output, Nat.le_trans h.size k.size, fun i hi hp hb => by
    have e := h.block i hi hp hb
    exact (k.block i (Nat.lt_of_lt_of_le hi h.size) hp (by rw [e]; exact hb)).trans e⟩
theorem Fr.of_below {B p : Nat} {w w' : World} (h : Below w.heap.size w w') : Fr B p w w' := ⟨h.os, h.tape, h.output, h.size, fun k hk _ _ => h.block k hk⟩
theorem Fr.setp {B p : Nat} {a w : World} (h : Fr B p a w) (u : Value) : Fr B p a (w.setCell ⟨p, 0, none⟩ u) :=
  h.trans ⟨rfl, rfl, rfl, by simp [World.setCell], fun k hk hs _ => Below.heap_setCell _ _ _ _ (by rintro rfl; exact hs rfl)⟩
theorem Fr.of_grown {B p : Nat} {w w' : World} {v : Value} {l : List Int} (h : w.grownBy w' v.ownBlock) (ho : OI B w v l) : Fr B p w w' :=
  ⟨h.os, h.tape, h.output, h.size, fun k hk _ hb => h.block k hk (by
    intro e
    rcases ho.2 with ⟨h1, _⟩ | ⟨g, cap, cur, hv, hB, hg, _⟩
    · rw [h1] at e; cases e
    · rw [hv] at e
      cases e
      rcases hb with hb | hb
      · have hb2 : g < B := hb
        omega
      · exact hb cur hg)⟩
theorem Fr.below {B p B0 : Nat} {W0 w w' : World} (h : Fr B p w w') (hb : Below B0 W0 w) (h1 : B0 ≤ B) (h2 : B0 ≤ p) (h3 : B0 ≤ w.heap.size) : Below B0 W0 w' :=
  hb.trans ⟨h.os, h.tape, h.output, h.size, fun k hk => h.block k (Nat.lt_of_lt_of_le hk h3) (by omega) (.inl (by omega))⟩
/-- a block that is no row of ints holds what it held -/
theorem Fr.cell {B p : Nat} {w w' : World} (h : Fr B p w w') {b o : Nat} {v : Value} (hc : w.cell? ⟨b, o, none⟩ = some v) (hp : b ≠ p) (hb : b < B ∨ ∀ cur, w.heap[b]? ≠ some (.cells cur 3 (0, 0))) : w'.cell? ⟨b, o, none⟩ = some v :=
  (World.cell?_of_block (a := ⟨b, o, none⟩) (h.block b (World.block_lt_of_cell? w _ hc) hp hb)).trans hc
theorem Fr.frozen {B p : Nat} {w w' : World} (h : Fr B p w w') {b o : Nat} (hl : b < w.heap.size) (hp : b ≠ p) (hb : b < B ∨ ∀ cur, w.heap[b]? ≠ some (.cells cur 3 (0, 0))) : w'.frozen? ⟨b, o, none⟩ = w.frozen? ⟨b, o, none⟩ :=
  World.frozen?_of_block (a := ⟨b, o, none⟩) (h.block b hl hp hb)
/-- a variable of a slice of ints, one of an int -/
structure GS (B : Nat) (w : World) (p q : Nat) (stop : Int) (v : Value) (l : List Int) : Prop where
  own : OI B w v l
  cp : w.cell? ⟨p, 0, none⟩ = some v
  fp : w.frozen? ⟨p, 0, none⟩ = false
  cq : w.cell? ⟨q, 0, none⟩ = some (.int .i64 stop)
  pB : p < B
  qB : q < B
  pq : p ≠ q
  hB : B ≤ w.heap.size
theorem GS.below {B : Nat} {w w' : World} {p q : Nat} {stop : Int} {v : Value} {l : List Int} (h : GS B w p q stop v l) (hb : Below w.heap.size w w') : GS B w' p q stop v l :=
  ⟨World.ownsRow.kept (row := none) h.own ⟨hb.os, hb.tape, hb.output, hb.size, fun k hk _ => hb.block k hk⟩ (by cases v.ownBlock <;> simp),
    (hb.cell (p := ⟨p, 0, none⟩) (World.block_lt_of_cell? w _ h.cp)).trans h.cp, (hb.frozen (p := ⟨p, 0, none⟩) (World.block_lt_of_cell? w _ h.cp)).trans h.fp,
    (hb.cell (p := ⟨q, 0, none⟩) (World.block_lt_of_cell? w _ h.cq)).trans h.cq, h.pB, h.qB, h.pq, Nat.le_trans h.hB hb.size⟩
theorem cell_set_at {w : World} {p q i j : Nat} {u : Value} (h : p ≠ q) : (w.setCell ⟨p, i, none⟩ u).cell? ⟨q, j, none⟩ = w.cell? ⟨q, j, none⟩ := by
  apply World.cell?_setCell_other
  simp <;> omega
/-- what was appended is stored -/
theorem GS.push {B : Nat} {w w' : World} {p q : Nat} {stop : Int} {v v' : Value} {l : List Int} {k : Int} (h : GS B w p q stop v l) (ho : OI B w' v' (l ++ [k])) (hg : w.grownBy w' v.ownBlock) : GS B (w'.setCell ⟨p, 0, none⟩ v') p q stop v' (l ++ [k]) := by
  have hf : Fr B w'.heap.size w w' := Fr.of_grown hg h.own
  have hpl : p < w.heap.size := World.block_lt_of_cell? w _ h.cp
  have hql : q < w.heap.size := World.block_lt_of_cell? w _ h.cq
  have hs := hg.size
  have c1 := hf.cell h.cp (by omega) (.inl h.pB)
  have c2 := hf.cell h.cq (by omega) (.inl h.qB)
  have c3 := (hf.frozen (o := 0) hpl (by omega) (.inl h.pB)).trans h.fp
  have hpB := h.pB
  have hpq := h.pq
  refine ⟨ownsRow_setCell_below ho hpB _, by go_simp, by go_simp, ?_, hpB, h.qB, hpq, ?_⟩
  · rw [cell_set_at hpq]; exact c2
  · have := h.hB; simp [World.setCell]; omega
set_option maxRecDepth 100000 in
set_option maxHeartbeats 2000000 in
/-- the visitor of the program's Walk -/
theorem visitor (T : Nd) (B p q : Nat) (stop : Int) (v : Value) (l : List Int) (w : World) (hG : GS B w p q stop v l) (hl : l.length ≤ 4000000000000) (R : Bool) (hR : T.kind = stop ↔ R = false) :
    Calls Try.prog 12 (#[T.val] ++ #[.pointer (some ⟨p, 0, none⟩), .pointer (some ⟨q, 0, none⟩)]) w fun e w' => e = .returned (.bool R) ∧ ∃ v', GS B w' p q stop v' (l ++ [T.kind]) ∧ Fr B p w w' := by
  obtain ⟨k, ln, c, nm, tx, n, vv, x, s, a, cap, ks⟩ := T
  simp only [Nd.val, Nd.kind] at *
  obtain ⟨i0, hi, hz0, hz1, hz2⟩ := infoI_parts
  obtain ⟨W1, hW1⟩ : ∃ W, W = w.alloc (.cells #[.int .i64 k, .int .i64 ln, .int .i64 c, .string nm, .string tx, .int .i64 n, .int .u64 vv, .int .u64 x, .bool s, .slice a ks.length cap] 27) := ⟨_, rfl⟩
  have b0 : Below w.heap.size w W1 := by rw [hW1]; exact (Below.refl _ _).alloc (Nat.le_refl _) _
  have n0 : W1.cell? ⟨w.heap.size, 0, none⟩ = some (.int .i64 k) := by rw [hW1]; go_simp
  have i0' : ∀ cur, W1.heap[w.heap.size]? ≠ some (.cells cur 3 (0, 0)) := by
    rw [hW1, heap_alloc_new]
    intro cur e
    simp at e
  have G1 := hG.below b0
  have hp := World.block_lt_of_cell? w _ hG.cp
  have hq := World.block_lt_of_cell? w _ hG.cq
  have HG := Lib.hid hG
  have HW := Lib.hid hW1
  go_enter Try.func12, Try.ntmps12
  go_upto_region 1 with fail
  rw [← hW1]
  clear HW hW1
  obtain ⟨g0, g1, g2, g3, -, -, -, -⟩ := id G1
  have hz := b0.size
  go_wp2_with (at_builtin; refine wpList_append_own _ rfl _ _ 36 rfl B 3 i0 (.int .i64 0) 1 8 Try.underlying36 hi hz0 hz1 hz2 rfl (by decide) _ _ _ rfl (World.ownsRow.alloc (show W1.ownsRow B 3 1 v l.length (IC l) from g0) _) ⟨W1.heap.size, 0, none⟩ 1 1 [.int .i64 k] rfl rfl ?d1 ?d2 ?d3 ?d4 ?d5 ?_)
  try case d1 =>
    intro q u hq
    match q, hq with
    | 0, hq => simp at hq; subst hq; simp [Addr.add]
  case d2 => first | (intro u hu; simp at hu; subst hu; rfl) | rfl
  case d3 => unfold maxLen; omega
  case d4 => omega
  case d5 => have := G1.hB; simp; omega
  intro v5 w5 hown5 hgr5 _
  have ho : OI B w5 v5 (l ++ [k]) := by unfold OI; rw [IC_app]; simpa using hown5
  clear hown5
  have bA : Below W1.heap.size W1 (W1.alloc (Obj.cells #[Value.int IntKind.i64 k] 3)) := (Below.refl _ _).alloc (Nat.le_refl _) _
  have G2 := G1.below bA
  have hF : Fr B p W1 w5 := (Fr.of_below bA).trans (Fr.of_grown hgr5 G2.own)
  have G3 := G2.push ho hgr5
  have fp5 : w5.frozen? ⟨p, 0, none⟩ = false := (World.frozen?_of_block (a := ⟨p, 0, none⟩) ((Fr.of_grown (p := w5.heap.size) hgr5 G2.own).block p (Nat.lt_of_lt_of_le (Nat.lt_of_lt_of_le hp b0.size) bA.size) (by have h1 := hF.size; have h2 : p < w.heap.size := hp; omega) (.inl hG.pB))).trans G2.fp
  have cp5 : w5.cell? ⟨p, 0, none⟩ = some v := (World.cell?_of_block (a := ⟨p, 0, none⟩) ((Fr.of_grown (p := w5.heap.size) hgr5 G2.own).block p (Nat.lt_of_lt_of_le (Nat.lt_of_lt_of_le hp b0.size) bA.size) (by have h1 := hF.size; have h2 : p < w.heap.size := hp; omega) (.inl hG.pB))).trans G2.cp
  have hpn : w.heap.size ≠ p := by have h2 : p < w.heap.size := hp; omega
  have n5 : w5.cell? ⟨w.heap.size, 0, none⟩ = some (.int .i64 k) := hF.cell n0 hpn (.inr i0')
  have hE : Fr B p w (w5.setCell ⟨p, 0, none⟩ v5) := ((Fr.of_below b0).trans hF).setp v5
  have q5 := G3.cq
  have m5 : (w5.setCell ⟨p, 0, none⟩ v5).cell? ⟨w.heap.size, 0, none⟩ = some (.int .i64 k) := by rw [cell_set_at (Ne.symm hpn)]; exact n5
  obtain ⟨a5, m6, c5, hv5⟩ : ∃ a5 m6 c5, v5 = .slice a5 m6 c5 := by obtain ⟨x1, x2, x3⟩ := ho.form; exact ⟨x1, _, x2, x3⟩
  have HG3 := Lib.hid G3
  have HE := Lib.hid hE
  subst hv5
  clear G3 hE HG G2 hF G1 g0 g1 g2 g3 hG ho hgr5 n0 n5 bA
  go_upto_region 2 with fail
  generalize w5.setCell ⟨p, 0, none⟩ _ = W6 at *
  by_cases hk : k = stop
  · obtain rfl : R = false := hR.1 hk
    clear hR
    subst hk
    go_wp2_with fail
    go_ret
    exact ⟨rfl, _, HG3.out, HE.out⟩
  · obtain rfl : R = true := by cases R; exact absurd (hR.2 rfl) hk; rfl
    clear hR
    have hkb : (k == stop) = false := beq_eq_false_iff_ne.2 hk
    go_wp2_with fail
    go_ret
    exact ⟨by simp [hk], _, HG3.out, HE.out⟩
end Go.Proofs.Ytkgikienfdgmfaa
