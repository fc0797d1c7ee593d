/- A map of pairs that a call made: what it holds. No condition but that the keys are numbers in range.
   Strash: the program's literals and the reference's. No condition.
   The program's pairs: and. Conditions: literals in range, few pairs.
   Strash: what becomes of the nodes, in the program's words and in the reference's. No condition.
   The program's newPairs. No condition. -/
import Derived.Test.YtbphhcjepeamcaaGrHs
import Derived.Test.YtbphhcjepeamcaaMgPa
import Derived.DeepKeys3
import Derived.Test.YtbphhcjepeamcaaMgPc
import Derived.Test.YtbphhcjepeamcaaFree
import Derived.Test.YtbphhcjepeamcaaMgPb
import Derived.Test.YtbphhcjepeamcaaMgPe
namespace Go.Proofs.Ytbphhcjepeamcaa
open Go Go.RowKit Go.Sort
set_option linter.unusedVariables false
abbrev nV (p : Int × Int) : Value := .agg #[.int .i64 p.1, .int .i64 p.2]
theorem mapNL : Try.prog.underlying 135 = some (.map 110 22) := by kernel_rfl
theorem zeroL (w : World) : (zeroValue 22).run Try.prog w = .ok (.int .i64 0) w := by kernel_rfl
theorem nodeLaw : WideMaps.KeyLaw Try.prog 110 := deep_law (m := 3) (by decide) (by kernel_rfl) (by kernel_rfl) (by kernel_rfl)
def okI (a : Int) : Prop := -9223372036854775808 ≤ a ∧ a ≤ 9223372036854775807
theorem wf_ok {a : Int} (h : okI a) : (Lit.int .i64 a).wf = true := by
  show (decide (IntKind.i64.min ≤ a) && decide (a ≤ IntKind.i64.max)) = true
  rw [show IntKind.i64.min = -9223372036854775808 from rfl, show IntKind.i64.max = 9223372036854775807 from rfl, decide_eq_true h.1, decide_eq_true h.2]; rfl
theorem key_lits (a b : Int) (ha : okI a) (hb : okI b) : Try.prog.keyLits (Try.prog.types.size + 1) 110 [.int .i64 a, .int .i64 b] = some [.int .i64 a, .int .i64 b] := by
  have e : Try.prog.keyLits (Try.prog.types.size + 1) 110 [.int .i64 a, .int .i64 b] = ((if IntKind.i64 = IntKind.i64 ∧ (Lit.int .i64 a).wf = true then some [Lit.int .i64 a] else none).bind fun x => ((if IntKind.i64 = IntKind.i64 ∧ (Lit.int .i64 b).wf = true then some [Lit.int .i64 b] else none).bind fun y => some [x, y])).map List.flatten := by kernel_rfl
  rw [e, if_pos ⟨rfl, wf_ok ha⟩, if_pos ⟨rfl, wf_ok hb⟩]; rfl
theorem key_of (p : Int × Int) (ha : okI p.1) (hb : okI p.2) : ∃ l, keyOf Try.prog 110 (nV p) = some l := by
  have e : keyOf Try.prog 110 (nV p) = (Try.prog.keyLits (Try.prog.types.size + 1) 110 [.int .i64 p.1, .int .i64 p.2]).map fun ls => .string (keyBytes ls) := by kernel_rfl
  rw [e, key_lits p.1 p.2 ha hb]
  exact ⟨_, rfl⟩
theorem idxF_no (p : Int × Int) : ∀ (l : List (Int × Int)) (k : Nat), p ∉ l → idxF p k l = -1
  | [], _, _ => rfl
  | x :: l, k, h => by
    unfold idxF
    rw [if_neg (fun e => h (by rw [e]; exact List.mem_cons_self)), idxF_no p l (k + 1) (fun hm => h (List.mem_cons_of_mem _ hm))]
theorem idxF_yes (p : Int × Int) : ∀ (l : List (Int × Int)) (k j : Nat), l.Nodup → l[j]? = some p → idxF p k l = ((k + j : Nat) : Int)
  | [], _, _, _, h => by simp at h
  | x :: l, k, 0, _, h => by
    unfold idxF
    rw [if_pos (by simpa using h)]; simp
  | x :: l, k, j + 1, hn, h => by
    unfold idxF
    have hl : l[j]? = some p := by simpa using h
    rw [if_neg (fun e => by
      have := (List.nodup_cons.1 hn).1
      rw [e] at this
      exact this (List.mem_of_getElem? hl)), idxF_yes p l (k + 1) j (List.nodup_cons.1 hn).2 hl]
    congr 1; omega
/-- a map of the pairs that were made, each to its literal -/
def Tab (b F : Nat) (A : List (Int × Int)) (w : World) : Prop :=
  ∃ es clock, w.heap[b]? = some (.map es clock) ∧ es.size = A.length ∧ (∀ (j : Nat) (e : MapEntry) (p : Int × Int), es.toList[j]? = some e → A[j]? = some p → e.key = nV p ∧ e.val = .int .i64 (2 * ((F : Int) + (j : Int)))) ∧ A.Nodup ∧ ∀ p ∈ A, okI p.1 ∧ okI p.2
theorem Tab.lt {b F : Nat} {A : List (Int × Int)} {w : World} (h : Tab b F A w) : b < w.heap.size := by
  obtain ⟨es, clock, hb, _⟩ := h
  exact (Array.getElem?_eq_some_iff.1 hb).1
theorem Tab.below {b F : Nat} {A : List (Int × Int)} {w w' : World} (h : Tab b F A w) (hb : Below w.heap.size w w') : Tab b F A w' := by
  have hlt := h.lt
  obtain ⟨es, clock, h1, h2⟩ := h
  exact ⟨es, clock, (hb.block b hlt).trans h1, h2⟩
theorem Tab.made (w : World) (F : Nat) : Tab w.heap.size F [] (w.alloc (.map #[] 0)) := ⟨#[], 0, (MapKept.heap_alloc w _).1, rfl, by simp, List.nodup_nil, by simp⟩
theorem Tab.keys {F : Nat} {es : Array MapEntry} {A : List (Int × Int)} (hs : es.size = A.length) (h : ∀ (j : Nat) (e : MapEntry) (p : Int × Int), es.toList[j]? = some e → A[j]? = some p → e.key = nV p ∧ e.val = .int .i64 (2 * ((F : Int) + (j : Int)))) (hk : ∀ p ∈ A, okI p.1 ∧ okI p.2) : ∀ e ∈ es.toList, ∃ l, keyOf Try.prog 110 e.key = some l := fun e he => by
  obtain ⟨j, hj⟩ := List.getElem?_of_mem he
  have hjl : j < A.length := by
    have := (List.getElem?_eq_some_iff.1 hj).1
    rw [Array.length_toList] at this; omega
  have hp : A[j]? = some A[j] := List.getElem?_eq_getElem hjl
  rw [(h j e _ hj hp).1]
  have := hk _ (List.getElem_mem hjl)
  exact key_of _ this.1 this.2
theorem nV_inj {p q : Int × Int} (h : nV p = nV q) : p = q := by
  obtain ⟨a, b⟩ := p
  obtain ⟨c, d⟩ := q
  simp [nV] at h
  rw [h.1, h.2]
theorem Tab.find {b F : Nat} {A : List (Int × Int)} {w : World} (h : Tab b F A w) (p : Int × Int) (hp : okI p.1 ∧ okI p.2) : ∃ es clock, w.heap[b]? = some (.map es clock) ∧ ∀ W : World, ((Instr.findKey 110 (nV p) es.toList).run Try.prog W = .ok none W ∧ p ∉ A) ∨ ∃ j : Nat, (Instr.findKey 110 (nV p) es.toList).run Try.prog W = .ok (some (j, .int .i64 (2 * ((F : Int) + (j : Int))))) W ∧ A[j]? = some p := by
  obtain ⟨es, clock, hb, hs, he, hn, hk⟩ := h
  refine ⟨es, clock, hb, fun W => ?_⟩
  obtain ⟨lx, hx⟩ := key_of p hp.1 hp.2
  rcases nodeLaw.find W hx es.toList (Tab.keys hs he hk) with ⟨h1, h2⟩ | ⟨j, e, h1, h2, h3⟩
  · refine .inl ⟨h1, fun hm => ?_⟩
    obtain ⟨j, hj⟩ := List.getElem?_of_mem hm
    have hjl : j < es.toList.length := by
      have := (List.getElem?_eq_some_iff.1 hj).1
      rw [Array.length_toList]; omega
    have he2 : es.toList[j]? = some es.toList[j] := List.getElem?_eq_getElem hjl
    exact h2 _ (List.getElem_mem hjl) (he j _ p he2 hj).1
  · have hjl : j < A.length := by
      have := (List.getElem?_eq_some_iff.1 h2).1
      rw [Array.length_toList] at this; omega
    have hq : A[j]? = some A[j] := List.getElem?_eq_getElem hjl
    obtain ⟨q1, q2⟩ := he j e _ h2 hq
    rw [q2] at h1
    have := nV_inj (q1.symm.trans h3)
    exact .inr ⟨j, h1, by rw [hq, this]⟩
theorem Tab.look {b F : Nat} {A : List (Int × Int)} {w : World} (h : Tab b F A w) (p : Int × Int) (hp : okI p.1 ∧ okI p.2) : (Instr.lookup 135 (.map (some b)) (nV p) true).run Try.prog w = .ok (.tuple #[.int .i64 (if 0 ≤ idxN A p then 2 * ((F : Int) + idxN A p) else 0), .bool (decide (0 ≤ idxN A p))]) w := by
  obtain ⟨lx, hx⟩ := key_of p hp.1 hp.2
  have hnd : A.Nodup := by obtain ⟨_, _, _, _, _, hn, _⟩ := h; exact hn
  obtain ⟨es, clock, hb, hf⟩ := h.find p hp
  have hck := nodeLaw.check w es.isEmpty hx
  rcases hf w with ⟨h1, h2⟩ | ⟨j, h1, h2⟩
  · have e : idxN A p = -1 := idxF_no p A 0 h2
    rw [e]
    simp [Instr.lookup, run_underlying mapNL, MapKept.run_getObj_map hb, hck, h1, zeroL, Result.andThen]
  · have e : idxN A p = (j : Int) := by
      have := idxF_yes p A 0 j hnd h2
      rwa [Nat.zero_add] at this
    have h0 : (0 : Int) ≤ (j : Int) := by omega
    rw [e, if_pos h0, decide_eq_true h0]
    simp [Instr.lookup, run_underlying mapNL, MapKept.run_getObj_map hb, hck, h1, Result.andThen]
theorem Tab.put {b F : Nat} {A : List (Int × Int)} {w : World} (h : Tab b F A w) (p : Int × Int) (hp : okI p.1 ∧ okI p.2) (hi : ¬ 0 ≤ idxN A p) : ∃ w', (Instr.mapUpdate 135 (.map (some b)) (nV p) (.int .i64 (2 * ((F : Int) + (A.length : Int))))).run Try.prog w = .ok () w' ∧ Tab b F (A ++ [p]) w' ∧ Below b w w' ∧ w.grownBy w' (some b) := by
  obtain ⟨lx, hx⟩ := key_of p hp.1 hp.2
  have hlt := h.lt
  obtain ⟨es0, clock0, hb0, hs, he, hn, hk⟩ := id h
  obtain ⟨es, clock, hb, hf⟩ := h.find p hp
  rw [hb0] at hb
  cases hb
  have hck := nodeLaw.check w false hx
  rcases hf w with ⟨h1, h2⟩ | ⟨j, h1, h2⟩
  · refine ⟨{ w with heap := w.heap.setIfInBounds b (.map (es0.push ⟨nV p, .int .i64 (2 * ((F : Int) + (A.length : Int))), clock0⟩) (clock0 + 1)) }, ?_, ⟨_, _, (MapKept.heap_set hb0).1, ?_, ?_, ?_, ?_⟩, ⟨rfl, rfl, rfl, by simp, fun k hk => (MapKept.heap_set hb0).2 k (by omega)⟩, ⟨rfl, rfl, rfl, by simp, fun k _ hne => (MapKept.heap_set hb0).2 k (fun e => hne (by rw [e]))⟩⟩
    · simp [Instr.mapUpdate, run_underlying mapNL, MapKept.run_getObj_map hb0, hck, h1, MapKept.run_setObj_map _ hb0, Result.andThen]
    · simp [hs]
    · intro j e q hj hq
      simp only [Array.toList_push] at hj
      by_cases hjl : j < A.length
      · rw [List.getElem?_append_left (by rw [Array.length_toList]; omega)] at hj
        rw [List.getElem?_append_left hjl] at hq
        exact he j e q hj hq
      · have hje : j = A.length := by
          have := (List.getElem?_eq_some_iff.1 hq).1
          simp at this; omega
        subst hje
        rw [List.getElem?_append_right (Nat.le_refl _)] at hq
        rw [List.getElem?_append_right (by rw [Array.length_toList]; omega)] at hj
        simp [hs] at hj hq
        subst hj hq
        exact ⟨rfl, rfl⟩
    · rw [List.nodup_append]
      exact ⟨hn, by simp, fun a ha b hb => by
        rw [List.mem_singleton] at hb
        intro e
        exact h2 (by rw [← hb, ← e]; exact ha)⟩
    · intro q hq
      rcases List.mem_append.1 hq with hq | hq
      · exact hk q hq
      · rw [List.mem_singleton] at hq
        rw [hq]; exact hp
  · exfalso
    have := idxF_yes p A 0 j hn h2
    exact hi (by show 0 ≤ idxF p 0 A; rw [this]; omega)
end Go.Proofs.Ytbphhcjepeamcaa
namespace Go.Proofs.Ytbphhcjepeamcaa
open Go Go.RowKit Go.Sort
set_option linter.unusedVariables false
theorem notL_odd (n : Int) (h0 : 0 ≤ n) (h : n ≤ 4000000000000000000) : notL (2 * n + 1) = 2 * n := by
  unfold notL
  rw [if_pos (by omega)]
  show IntKind.i64.wrap (((BitVec.ofInt 64 (2 * n + 1) ^^^ BitVec.ofInt 64 1).toNat : Nat) : Int) = _
  have e1 : (BitVec.ofInt 64 (2 * n + 1)).toNat = 2 * n.toNat + 1 := by rw [BitVec.toNat_ofInt]; omega
  have e2 : (BitVec.ofInt 64 1).toNat = 1 := by rfl
  have e3 : (2 * n.toNat + 1) ^^^ 1 = 2 * n.toNat := by
    apply Nat.eq_of_testBit_eq
    intro i
    rw [Nat.testBit_xor]
    cases i with
    | zero => simp [Nat.testBit_zero]
    | succ i =>
      simp only [Nat.testBit_succ]
      rw [show (2 * n.toNat + 1) / 2 = n.toNat by omega, show 2 * n.toNat / 2 = n.toNat by omega, show (1 : Nat) / 2 = 0 from rfl]
      simp
  rw [BitVec.toNat_xor, e1, e2, e3, IntWalk.i64_in _ (by omega)]
  omega
/-- a literal in range -/
def okL (l : Int) : Prop := 0 ≤ l ∧ l ≤ 4000000000000000000
theorem notL_val {l : Int} (h : okL l) : notL l = if l % 2 = 1 then l - 1 else l + 1 := by
  obtain ⟨h0, h1⟩ := h
  by_cases ho : l % 2 = 1
  · rw [if_pos ho]
    have := notL_odd (l / 2) (by omega) (by omega)
    rw [show 2 * (l / 2) + 1 = l by omega] at this
    rw [this]; omega
  · rw [if_neg ho]
    have := notL_even (l / 2) (by omega) (by omega)
    rw [show 2 * (l / 2) = l by omega] at this
    exact this
theorem notL_pos {l : Int} (h : okL l) : 0 ≤ notL l ∧ notL l ≤ l + 1 := by
  rw [notL_val h]
  have := h.1
  split <;> omega
theorem xr_not {l : Int} (h : okL l) : xr l 1 = notL l := by
  unfold notL xr
  rw [if_pos h.1]
theorem not_not {l : Int} (h : okL l) : notL (notL l) = l := by
  have hp := notL_pos h
  have e := notL_val h
  obtain ⟨h0, h1⟩ := h
  by_cases ho : l % 2 = 1
  · rw [if_pos ho] at e
    rw [e, notL_val ⟨by omega, by omega⟩, if_neg (by omega)]; omega
  · rw [if_neg ho] at e
    rw [e]
    by_cases hm : l + 1 ≤ 4000000000000000000
    · rw [notL_val ⟨by omega, hm⟩, if_pos (by omega)]; omega
    · have : l = 4000000000000000000 := by omega
      subst this
      have := notL_odd 2000000000000000000 (by decide) (by decide)
      exact this
theorem not_swap {a b : Int} (ha : okL a) (hb : okL b) : a = notL b ↔ xr a 1 = b := by
  rw [xr_not ha]
  constructor
  · intro h
    rw [h, not_not hb]
  · intro h
    rw [← h, not_not ha]
theorem xr_zero {l : Int} (h : okL l) : xr l 0 = l := by
  unfold xr
  show IntKind.i64.wrap (((BitVec.ofInt 64 l ^^^ BitVec.ofInt 64 0).toNat : Nat) : Int) = _
  have e2 : BitVec.ofInt 64 0 = 0#64 := by rfl
  rw [e2, BitVec.xor_zero, BitVec.toNat_ofInt]
  obtain ⟨h0, h1⟩ := h
  rw [show (l % ((2 ^ 64 : Nat) : Int)).toNat = l.toNat by omega, IntWalk.i64_in _ (by omega)]
  omega
theorem toL_fl {T : List Int} {l : Int} (h0 : 0 ≤ l) (h : okL T[ndL l]!) : toL T l = flL T l := by
  unfold toL flL
  by_cases ho : l % 2 = 1
  · rw [if_pos ho, ho, xr_not h]
  · rw [if_neg ho, show l % 2 = 0 by omega, xr_zero h]
end Go.Proofs.Ytbphhcjepeamcaa
namespace Go.Proofs.Ytbphhcjepeamcaa
open Go Go.RowKit Go.Sort
set_option linter.unusedVariables false
def anS (F : Nat) (A : List (Int × Int)) (q1 q2 : Int) : Int × List (Int × Int) :=
  if q1 = 0 ∨ xr q1 1 = q2 then (0, A) else if q1 = 1 ∨ q1 = q2 then (q2, A) else if 0 ≤ idxN A (q1, q2) then (2 * ((F : Int) + idxN A (q1, q2)), A) else (2 * ((F : Int) + (A.length : Int)), A ++ [(q1, q2)])
/-- the pairs that a call made -/
structure PB (p m F B : Nat) (A : List (Int × Int)) (v : Value) (w : World) : Prop where
  box : Arr 137 gV p [.int .i64 (F : Int), v, .map (some m)] w
  row : OwnK B 110 2 encN w v A
  tab : Tab m F A w
theorem PB.below {p m F B : Nat} {A : List (Int × Int)} {v : Value} {w w' : World} (h : PB p m F B A v w) (hb : Below w.heap.size w w') : PB p m F B A v w' :=
  ⟨Arr.below h.box hb, h.row.below hb, h.tab.below hb⟩
/-- rows of literals stay -/
def KeptL (B : Nat) (w w' : World) : Prop := ∀ (u : Value) (T : List Int) (B2 : Nat), B ≤ B2 → OwnK B2 22 1 encI w u T → OwnK B2 22 1 encI w' u T
theorem KeptL.of {B : Nat} {w w' : World} (hb : Below w.heap.size w w') : KeptL B w w' := fun u T B2 _ h => h.below hb
theorem KeptL.trans {B : Nat} {w w1 w' : World} (h : KeptL B w w1) (h2 : KeptL B w1 w') : KeptL B w w' := fun u T B2 hB q => h2 u T B2 hB (h u T B2 hB q)
theorem Arr.grownB {α : Type} {t : TypeId} {f : α → Value} {g : Nat} {l : List α} {w w' : World} {r : Option Nat} (h : Arr t f g l w) (hg : w.grownBy w' r) (hne : r ≠ some g) : Arr t f g l w' := ⟨by
  obtain ⟨_, _, _, _, h5⟩ := hg
  exact (h5 g (Arr.lt h) hne.symm).trans h.blk⟩
theorem Tab.belowB {b F B : Nat} {A : List (Int × Int)} {w w' : World} (h : Tab b F A w) (hb : Below B w w') (hlt : b < B) : Tab b F A w' := by
  obtain ⟨es, clock, h1, h2⟩ := h
  exact ⟨es, clock, (hb.block b hlt).trans h1, h2⟩
theorem Tab.set {b F : Nat} {A : List (Int × Int)} {w : World} (h : Tab b F A w) (q : Addr) (u : Value) (hne : b ≠ q.block) : Tab b F A (w.setCell q u) := by
  obtain ⟨es, clock, h1, h2⟩ := h
  exact ⟨es, clock, (Below.heap_setCell w q u b hne).trans h1, h2⟩
theorem OwnK.other1 {B : Nat} {t : TypeId} {k : Nat} {α : Type} {enc : α → List Value} {w w' : World} {v : Value} {l : List α} {q : Nat} (h : OwnK B t k enc w v l) (hg : w.grownBy w' (some q)) (hq : q < B) : OwnK B t k enc w' v l :=
  World.ownsRow.kept h hg (by
    cases hv : v.ownBlock with
    | none => exact .inl rfl
    | some b => exact .inr (fun e => by have := (World.ownsRow.lt h b hv).1; simp only [Option.some.injEq] at e; omega))
set_option maxRecDepth 100000 in
set_option maxHeartbeats 4000000 in
theorem pnodes_any (p m F B : Nat) (A : List (Int × Int)) (v : Value) (hF : F ≤ 1000000) (hA : A.length ≤ 1000000) (w : World) (hP : PB p m F B A v w) : Calls Try.prog 111 #[.pointer (some ⟨p, 0, none⟩)] w fun e w' => e = .returned (.int .i64 ((F : Int) + (A.length : Int))) ∧ Below w.heap.size w w' := by
  obtain ⟨ad, n, cp, rfl⟩ := OwnK.sl hP.row
  have hn := hP.row.num
  subst hn
  have b0 := hP.box.cell (j := 0) (by simp)
  have b1 := hP.box.cell (j := 1) (by simp)
  simp only [List.getElem!_cons_zero, List.getElem!_cons_succ, gV] at b0 b1
  have hw : IntKind.i64.wrap ((F : Int) + (A.length : Int)) = (F : Int) + (A.length : Int) := IntWalk.i64_in _ (by omega)
  go_enter Try.func111, Try.ntmps111
  go_upto_region 1 with fail
  clear hP
  go_region
  all_goals go_wp2_with fail
  all_goals go_ret
  all_goals exact ⟨by first | rfl | trivial, by first | exact Below.refl _ _ | exact below_drewN (Below.refl _ _) _ | exact Below.drew (Below.refl _ _)⟩
set_option maxRecDepth 100000 in
set_option maxHeartbeats 8000000 in
theorem and_any (p m F B : Nat) (A : List (Int × Int)) (v : Value) (a b q1 q2 : Int) (hq : q1 ≤ q2 ∧ ((a = q1 ∧ b = q2) ∨ (a = q2 ∧ b = q1))) (h1 : 0 ≤ q1) (h2 : q2 ≤ 4000000000) (hF : F ≤ 1000000) (hA : A.length ≤ 1000000) (hm : m < p) (hp : p < B) (w : World) (hB : B ≤ w.heap.size) (hP : PB p m F B A v w) : Calls Try.prog 98 #[.pointer (some ⟨p, 0, none⟩), .int .i64 a, .int .i64 b] w fun e w' => e = .returned (.int .i64 (anS F A q1 q2).1) ∧ (∃ v', PB p m F B (anS F A q1 q2).2 v' w') ∧ Below m w w' ∧ KeptL B w w' := by
  obtain ⟨ad, n, cp, rfl⟩ := OwnK.sl hP.row
  have hn := hP.row.num
  subst hn
  have hq12 := hq.1
  have hmin : min a b = q1 := by omega
  have hmax : max a b = q2 := by omega
  go_enter Try.func98, Try.ntmps98
  go_upto_block 0 with fail
  have HN := Lib.hid (fun W => not_any q2 W)
  have hsw := not_swap (a := q1) (b := q2) ⟨h1, by omega⟩ ⟨by omega, by omega⟩
  have HSW := Lib.hid hsw
  have HPP := Lib.hid hP
  clear hmin hmax hq hP hsw
  by_cases c0 : q1 = 0
  · subst c0
    have hr : anS F A 0 q2 = (0, A) := if_pos (.inl rfl)
    have HR := Lib.hid hr
    clear hr
    go_wp2_with fail
    go_ret
    exact ⟨ret_num (by rw [HR.out]), ⟨_, by rw [HR.out]; exact HPP.out⟩, Below.refl _ _, KeptL.of (Below.refl _ _)⟩
  · have c0b : (q1 == 0) = false := beq_eq_false_iff_ne.2 c0
    by_cases c1 : q1 = notL q2
    · have c1b : (q1 == notL q2) = true := by rw [beq_iff_eq]; exact c1
      have hr : anS F A q1 q2 = (0, A) := if_pos (.inr (HSW.out.1 c1))
      have HR := Lib.hid hr
      clear hr c1 c0
      go_wp2_with (first | (go_at_call 19; refine (HN.out _).mono ?_; rintro ee W1 ⟨rfl, hb1⟩))
      go_ret
      exact ⟨ret_num (by rw [HR.out]), ⟨_, by rw [HR.out]; exact HPP.out.below hb1⟩, hb1.mono (by omega), KeptL.of hb1⟩
    · have c1b : (q1 == notL q2) = false := beq_eq_false_iff_ne.2 c1
      have hno : ¬ (q1 = 0 ∨ xr q1 1 = q2) := fun h => h.elim c0 (fun h => c1 (HSW.out.2 h))
      have HNO := Lib.hid hno
      clear hno
      by_cases c2 : q1 = 1
      · have hr : anS F A q1 q2 = (q2, A) := by unfold anS; rw [if_neg HNO.out, if_pos (.inl c2)]
        have HR := Lib.hid hr
        clear hr c1 c0
        subst c2
        go_wp2_with (first | (go_at_call 19; refine (HN.out _).mono ?_; rintro ee W1 ⟨rfl, hb1⟩))
        go_ret
        exact ⟨ret_num (by rw [HR.out]), ⟨_, by rw [HR.out]; exact HPP.out.below hb1⟩, hb1.mono (by omega), KeptL.of hb1⟩
      · have c2b : (q1 == 1) = false := beq_eq_false_iff_ne.2 c2
        by_cases c3 : q1 = q2
        · have hr : anS F A q1 q2 = (q2, A) := by unfold anS; rw [if_neg HNO.out, if_pos (.inr c3)]
          have HR := Lib.hid hr
          have c3b : (q1 == q2) = true := by rw [beq_iff_eq]; exact c3
          clear hr c1 c0 c3
          go_wp2_with (first | (go_at_call 19; refine (HN.out _).mono ?_; rintro ee W1 ⟨rfl, hb1⟩))
          go_ret
          exact ⟨ret_num (by rw [HR.out]), ⟨_, by rw [HR.out]; exact HPP.out.below hb1⟩, hb1.mono (by omega), KeptL.of hb1⟩
        · have c3b : (q1 == q2) = false := beq_eq_false_iff_ne.2 c3
          have hno2 : ¬ (q1 = 1 ∨ q1 = q2) := fun h => h.elim c2 c3
          have hok : okI q1 ∧ okI q2 := ⟨⟨by omega, by omega⟩, by omega, by omega⟩
          have HOK := Lib.hid hok
          clear hok
          have hr : anS F A q1 q2 = if 0 ≤ idxN A (q1, q2) then (2 * ((F : Int) + idxN A (q1, q2)), A) else (2 * ((F : Int) + (A.length : Int)), A ++ [(q1, q2)]) := by unfold anS; rw [if_neg HNO.out, if_neg hno2]
          have HR := Lib.hid hr
          clear hr c1 c0 c2 c3 hno2 HNO HSW
          by_cases c4 : 0 ≤ idxN A (q1, q2)
          · rw [if_pos c4] at HR
            have HLK := Lib.hid (fun (W : World) (hP : PB p m F B A (.slice ad A.length cp) W) => (by have := hP.tab.look (q1, q2) HOK.out; rwa [if_pos c4, decide_eq_true c4] at this : (Instr.lookup 135 (.map (some m)) (.agg #[.int .i64 q1, .int .i64 q2]) true).run Try.prog W = .ok (.tuple #[.int .i64 (2 * ((F : Int) + idxN A (q1, q2))), .bool true]) W))
            clear c4
            generalize idxN A (q1, q2) = ix at HR HLK
            go_upto_region 7 with (first | (go_at_call 19; refine (HN.out _).mono ?_; rintro ee W1 ⟨rfl, hb1⟩))
            have hs1 := hb1.size
            have ba := (Below.refl _ W1).alloc (Nat.le_refl _) (.cells #[.int .i64 q1, .int .i64 q2] 110)
            have X : Arr 110 gV W1.heap.size [.int .i64 q1, .int .i64 q2] (W1.alloc (.cells #[.int .i64 q1, .int .i64 q2] 110)) := Arr.allocV W1 [.int .i64 q1, .int .i64 q2] _
            have HLR := Lib.hid (fun (q : Nat) (e : (Value.slice ad A.length cp).ownBlock = some q) => Nat.lt_of_lt_of_le (World.ownsRow.lt HPP.out.row q e).2 hs1)
            generalize W1.alloc (.cells #[.int .i64 q1, .int .i64 q2] 110) = W2 at ba X ⊢
            have B2 := hb1.trans (ba.mono hs1)
            have hs2 := B2.size
            have P2 := HPP.out.below B2
            have hk7 : w.heap.size ≤ W1.heap.size := hs1
            generalize W1.heap.size = k7 at X HLR hk7 ⊢
            have HLD := Lib.hid (fun d os => HLK.out _ (P2.below (below_regrown W2 d os)))
            have HBR := Lib.hid (fun d os => below_regrown W2 d os)
            have p2 := P2.box.cell (j := 2) (by simp)
            have x0 := X.cell (j := 0) (by simp)
            have x1 := X.cell (j := 1) (by simp)
            simp only [List.getElem!_cons_zero, List.getElem!_cons_succ, gV] at p2 x0 x1
            have g2 := cell_regrown p2
            have gx0 := cell_regrown x0
            have gx1 := cell_regrown x1
            have hld := HLD.out
            clear ba hb1 hs1 p2 x0 x1 HLD
            refine wp_region_rel 11 (by kernel_rfl) (by kernel_rfl) ?_
            simp only [List.take_succ_cons, List.take_zero, List.drop_succ_cons, List.drop_zero]
            iterate 11 (refine rel_fix0 (fun K hK => ?_); go_simp; refine hK _ ?_; clear hK K)
            refine rel_nil ?_
            intro d os
            simp only [relAll]
            have hbr := HBR.out d os
            have B3 := B2.trans (hbr.mono hs2)
            have hs3 := B3.size
            have HP3 := Lib.hid (P2.below hbr)
            have HX3 := Lib.hid (X.below hbr)
            have HB3 := Lib.hid (B3.mono (show m ≤ w.heap.size by omega))
            have HK3 := Lib.hid (KeptL.of (B := B) B3)
            clear g2 gx0 gx1 hld HBR hbr B2 P2 X
            generalize grow (redrawn W2 d) os = W3 at HP3 HX3 HB3 HK3 B3 hs3 ⊢
            clear B3
            go_wp2_with fail
            go_ret
            exact ⟨ret_num (by rw [HR.out]), ⟨_, by rw [HR.out]; exact HP3.out⟩, HB3.out, HK3.out⟩
          · rw [if_neg c4] at HR
            have HNI := Lib.hid c4
            have HLK := Lib.hid (fun (W : World) (hP : PB p m F B A (.slice ad A.length cp) W) => (by have := hP.tab.look (q1, q2) HOK.out; rwa [if_neg c4, decide_eq_false c4] at this : (Instr.lookup 135 (.map (some m)) (.agg #[.int .i64 q1, .int .i64 q2]) true).run Try.prog W = .ok (.tuple #[.int .i64 0, .bool false]) W))
            clear c4
            go_upto_region 7 with (first | (go_at_call 19; refine (HN.out _).mono ?_; rintro ee W1 ⟨rfl, hb1⟩))
            have hs1 := hb1.size
            have ba := (Below.refl _ W1).alloc (Nat.le_refl _) (.cells #[.int .i64 q1, .int .i64 q2] 110)
            have X : Arr 110 gV W1.heap.size [.int .i64 q1, .int .i64 q2] (W1.alloc (.cells #[.int .i64 q1, .int .i64 q2] 110)) := Arr.allocV W1 [.int .i64 q1, .int .i64 q2] _
            have HLR := Lib.hid (fun (q : Nat) (e : (Value.slice ad A.length cp).ownBlock = some q) => Nat.lt_of_lt_of_le (World.ownsRow.lt HPP.out.row q e).2 hs1)
            generalize W1.alloc (.cells #[.int .i64 q1, .int .i64 q2] 110) = W2 at ba X ⊢
            have B2 := hb1.trans (ba.mono hs1)
            have hs2 := B2.size
            have P2 := HPP.out.below B2
            have hk7 : w.heap.size ≤ W1.heap.size := hs1
            generalize W1.heap.size = k7 at X HLR hk7 ⊢
            have HLD := Lib.hid (fun d os => HLK.out _ (P2.below (below_regrown W2 d os)))
            have HBR := Lib.hid (fun d os => below_regrown W2 d os)
            have p2 := P2.box.cell (j := 2) (by simp)
            have x0 := X.cell (j := 0) (by simp)
            have x1 := X.cell (j := 1) (by simp)
            simp only [List.getElem!_cons_zero, List.getElem!_cons_succ, gV] at p2 x0 x1
            have g2 := cell_regrown p2
            have gx0 := cell_regrown x0
            have gx1 := cell_regrown x1
            have hld := HLD.out
            clear ba hb1 hs1 p2 x0 x1 HLD
            refine wp_region_rel 11 (by kernel_rfl) (by kernel_rfl) ?_
            simp only [List.take_succ_cons, List.take_zero, List.drop_succ_cons, List.drop_zero]
            iterate 11 (refine rel_fix0 (fun K hK => ?_); go_simp; refine hK _ ?_; clear hK K)
            refine rel_nil ?_
            intro d os
            simp only [relAll]
            have hbr := HBR.out d os
            have B3 := B2.trans (hbr.mono hs2)
            have hs3 := B3.size
            have HP3 := Lib.hid (P2.below hbr)
            have HX3 := Lib.hid (X.below hbr)
            have HB3 := Lib.hid (B3.mono (show m ≤ w.heap.size by omega))
            have HK3 := Lib.hid (KeptL.of (B := B) B3)
            clear g2 gx0 gx1 hld HBR hbr B2 P2 X
            generalize grow (redrawn W2 d) os = W3 at HP3 HX3 HB3 HK3 B3 hs3 ⊢
            clear B3
            have HPN := Lib.hid (fun (W : World) (hP : PB p m F B A (.slice ad A.length cp) W) => pnodes_any p m F B A _ hF hA W hP)
            have P3 := HP3.out
            have X3 := HX3.out
            go_upto_region 11 with (first | (go_at_call 111; refine (HPN.out _ P3).mono ?_; rintro ee W4 ⟨rfl, hb4⟩) | (go_at_call 71; refine (literal_ok _ _ ⟨by omega, by omega⟩).mono ?_; rintro ee W5 ⟨rfl, hb5⟩))
            have hs5 := hb5.size
            have hs4 := hb4.size
            have P5 := (P3.below hb4).below hb5
            have X5 := (X3.below hb4).below hb5
            have B5 := (HB3.out.trans (hb4.mono (by omega))).trans (hb5.mono (by omega))
            have K5 := (HK3.out.trans (KeptL.of hb4)).trans (KeptL.of hb5)
            have lx5 := Arr.lt X5
            clear hb4 hb5 P3 X3 HP3 HX3 HB3 HK3 HLK HPN
            have p1 := P5.box.cell (j := 1) (by simp)
            have x0 := X5.cell (j := 0) (by simp)
            have x1 := X5.cell (j := 1) (by simp)
            simp only [List.getElem!_cons_zero, List.getElem!_cons_succ, gV] at p1 x0 x1
            have g1 := cell_regrown p1
            have gx0 := cell_regrown x0
            have gx1 := cell_regrown x1
            have HBR := Lib.hid (fun d os => below_regrown W5 d os)
            clear p1 x0 x1
            refine wp_region_free 0 6 52 (.pointer (some ⟨p, 0, none⟩)) (by kernel_rfl) (by kernel_rfl) (by kernel_rfl) (fun oj hj w => by simp at hj; subst hj; go_simp) ?_
            intro Q0 hQ0
            simp only [List.eraseIdx_cons_succ, List.eraseIdx_cons_zero, List.take_succ_cons, List.take_zero, List.drop_succ_cons, List.drop_zero]
            iterate 5 (refine rel_fix0 (fun K hK => ?_); go_simp; refine hK _ ?_; clear hK K)
            refine rel_fact [] (FK [.int .i64 q1, .int .i64 q2]) 58 rfl (by simp [Act.put]) (fk_sta _) (by rfl) (by kernel_rfl) (by kernel_rfl) ?_ ?_
            · intro d os
              simp only [relAll]
              go_simp
              refine ⟨⟨_, rfl, fun q u hq => ?_⟩, (Below.refl _ _).alloc (Nat.le_of_eq (by simp)) _⟩
              match q, hq with
              | 0, hq => cases hq; go_simp
              | 1, hq => cases hq; go_simp
            refine rel_nil ?_
            intro d os
            simp only [relAll]
            rintro v58 ⟨r58, rfl, hy⟩
            have hbr := HBR.out d os
            have hsr := hbr.size
            have P6 := P5.below hbr
            have X6 := X5.below hbr
            have B6 := B5.trans (hbr.mono (by omega))
            have K6 := K5.trans (KeptL.of hbr)
            clear g1 gx0 gx1 HBR hbr P5 X5 B5 K5
            generalize grow (redrawn W5 d) os = W6 at P6 X6 B6 K6 hy hsr ⊢
            obtain ⟨i0, hi0, hz0, hz1, hz2⟩ := infoCN_parts
            refine wpList_append_one (enc := encN) (k := 2) (fun _ => rfl) (by decide) (fun x u hu => by simp [encN] at hu; rcases hu with rfl | rfl <;> rfl) rfl _ _ 25 rfl B 110 i0 (.agg #[.int .i64 0, .int .i64 0]) 16 Try.underlying25 hi0 hz0 hz1 hz2 (by decide) _ A rfl P6.row r58 1 (q1, q2) rfl hy (show A.length + 1 ≤ maxLen by unfold maxLen; omega) (show (A.length + 1) * 16 ≤ 140737488355328 by omega) (by omega) ?_
            intro v7 W7 O7 hb7 hg7
            obtain ⟨ad7, n7, cp7, rfl⟩ := OwnK.sl O7
            have hs7 := hb7.size
            have A7 := Arr.mono P6.box hb7 hp
            have T7 := P6.tab.belowB hb7 (by omega)
            have hnx : (Value.slice ad A.length cp).ownBlock ≠ some k7 := fun e => by
              have := HLR.out k7 e
              omega
            have X7 := X6.grownB hg7 hnx
            have K7 : KeptL B w W7 := K6.trans (fun u T B2 hB q => World.ownsRow.kept q hg7 (OwnK.tags q P6.row (by decide)))
            have B7 := B6.trans (hb7.mono (by omega))
            clear hy hb7 hg7 P6 X6 B6 K6 hnx
            have f1 := Arr.free A7 1
            have lp7 := Arr.lt A7
            have p1 := A7.cell (j := 1) (by simp)
            simp only [List.getElem!_cons_zero, List.getElem!_cons_succ, gV] at p1
            have A8 : Arr 137 gV p [.int .i64 (F : Int), .slice ad7 n7 cp7, .map (some m)] (W7.setCell ⟨p, 1, none⟩ (.slice ad7 n7 cp7)) := Arr.set A7 1 (.slice ad7 n7 cp7)
            have O8 := O7.set ⟨p, 1, none⟩ (.slice ad7 n7 cp7) hp
            have T8 := T7.set ⟨p, 1, none⟩ (.slice ad7 n7 cp7) (by show m ≠ p; omega)
            have X8 : Arr 110 gV k7 [.int .i64 q1, .int .i64 q2] (W7.setCell ⟨p, 1, none⟩ (.slice ad7 n7 cp7)) := Arr.other X7 (by show k7 ≠ p; omega)
            have K8 : KeptL B w (W7.setCell ⟨p, 1, none⟩ (.slice ad7 n7 cp7)) := K7.trans (fun u T B2 hB q => q.set ⟨p, 1, none⟩ _ (by show p < B2; omega))
            have B8 := B7.setCell (p := ⟨p, 1, none⟩) (by show m ≤ p; omega) (.slice ad7 n7 cp7)
            have HA8 := Lib.hid A8
            have HO8 := Lib.hid O8
            have HT8 := Lib.hid T8
            have HX8 := Lib.hid X8
            have HK8 := Lib.hid K8
            have HB8 := Lib.hid B8
            clear A7 O7 T7 X7 K7 B7 A8 O8 T8 X8 K8 B8
            go_upto_region 12 with fail
            clear f1 p1 lp7
            generalize W7.setCell ⟨p, 1, none⟩ (.slice ad7 n7 cp7) = W8 at HA8 HO8 HT8 HX8 HK8 HB8 ⊢
            have A8 := HA8.out
            have O8 := HO8.out
            have T8 := HT8.out
            have X8 := HX8.out
            have lp8 := Arr.lt A8
            have lm8 := T8.lt
            have p2 := A8.cell (j := 2) (by simp)
            have x0 := X8.cell (j := 0) (by simp)
            have x1 := X8.cell (j := 1) (by simp)
            simp only [List.getElem!_cons_zero, List.getElem!_cons_succ, gV] at p2 x0 x1
            have g2 := cell_regrown p2
            have gx0 := cell_regrown x0
            have gx1 := cell_regrown x1
            have HBR := Lib.hid (fun d os => below_regrown W8 d os)
            clear p2 x0 x1 X8 HX8
            refine wp_region_rel 6 (by kernel_rfl) (by kernel_rfl) ?_
            simp only [List.take_succ_cons, List.take_zero, List.drop_succ_cons, List.drop_zero]
            iterate 6 (refine rel_fix0 (fun K hK => ?_); go_simp; refine hK _ ?_; clear hK K)
            refine rel_nil ?_
            intro d os
            simp only [relAll]
            have hbr := HBR.out d os
            have A9 := A8.below hbr
            have O9 := O8.below hbr
            obtain ⟨W10, hup, T10, B10, G10⟩ := (T8.below hbr).put (q1, q2) HOK.out (by have := HNI.out; omega)
            have A10 := A9.grownB G10 (by intro e; cases e; omega)
            have O10 := O9.other1 G10 (by omega)
            have HP10 := Lib.hid (⟨A10, O10, T10⟩ : PB p m F B (A ++ [(q1, q2)]) (.slice ad7 n7 cp7) W10)
            have HB10 := Lib.hid ((HB8.out.trans (hbr.mono (by omega))).trans B10)
            have HK10 := Lib.hid ((HK8.out.trans (KeptL.of hbr)).trans (fun u T B2 hB q => q.other1 G10 (by omega)))
            clear g2 gx0 gx1 HBR hbr A8 O8 T8 HA8 HO8 HT8 HK8 HB8 A9 O9 A10 O10 T10 B10 G10
            generalize grow (redrawn W8 d) os = W9 at hup ⊢
            go_wp2_with fail
            go_ret
            exact ⟨ret_num (by rw [HR.out]), ⟨_, by rw [HR.out]; exact HP10.out⟩, HB10.out, HK10.out⟩
end Go.Proofs.Ytbphhcjepeamcaa
namespace Go.Proofs.Ytbphhcjepeamcaa
open Go Go.RowKit Go.Sort
set_option linter.unusedVariables false
theorem base_kept (n : Nat) : hBase n = keptL n := by
  unfold hBase keptL
  exact List.map_congr_left (fun i _ => by omega)
theorem step_an (n : Nat) (S : List Int × List (Int × Int)) (p : Int × Int) {q1 q2 : Int} (h : hPair S.1 p = (q1, q2)) : hStep n S p = (S.1 ++ [(anS n S.2 q1 q2).1], (anS n S.2 q1 q2).2) := by
  unfold hStep anS
  rw [h]
  (repeat' split) <;> simp_all
theorem mem_bang {T : List Int} {i : Nat} (h : i < T.length) : T[i]! ∈ T := by
  rw [getElem!_pos T i h]; exact List.getElem_mem h
theorem tol_b {T : List Int} {l M : Int} (h0 : 0 ≤ l) (hT : ∀ x ∈ T, 0 ≤ x ∧ x ≤ 2 * M + 1) (hl : ndL l < T.length) (hM : 2 * M + 1 ≤ 4000000000) : 0 ≤ toL T l ∧ toL T l ≤ 2 * M + 1 := by
  have hx := hT _ (mem_bang hl)
  have ho : okL T[ndL l]! := ⟨hx.1, by omega⟩
  rw [toL_fl h0 ho]
  unfold flL
  split
  · rw [notL_val ho]
    split <;> omega
  · exact hx
theorem pair_of {T : List Int} {p : Int × Int} : ∃ q1 q2, hPair T p = (q1, q2) ∧ q1 ≤ q2 ∧ ((toL T p.1 = q1 ∧ toL T p.2 = q2) ∨ (toL T p.1 = q2 ∧ toL T p.2 = q1)) := by
  unfold hPair
  split
  · exact ⟨_, _, rfl, by omega, .inr ⟨rfl, rfl⟩⟩
  · exact ⟨_, _, rfl, by omega, .inl ⟨rfl, rfl⟩⟩
theorem nd_lits {g : Gr} (vg : VG g) {j : Nat} (hj : j < g.ands.length) : ndL g.ands[j]!.1 < n0L g + j ∧ ndL g.ands[j]!.2 < n0L g + j := by
  have hlit := vg.lits j hj
  have hb : baseL g = 2 * (1 + (g.ins.length : Int) + (g.regs.length : Int)) := rfl
  unfold ndL n0L
  omega
theorem hAll_b {g : Gr} (vg : VG g) : ∀ j, j ≤ g.ands.length → ∀ x ∈ (hAll g j).1, 0 ≤ x ∧ x ≤ 2 * ((n0L g + j : Nat) : Int) + 1
  | 0, _ => fun x hx => by
    have e : (hAll g 0).1 = hBase (n0L g) := by unfold hAll; simp
    rw [e, base_kept] at hx
    unfold keptL at hx
    obtain ⟨i, hi, rfl⟩ := List.mem_map.1 hx
    rw [List.mem_range] at hi
    omega
  | j + 1, h => fun x hx => by
    have hj : j < g.ands.length := by omega
    have n1 := vg.ins
    have n2 := vg.regs
    have n3 := vg.ands
    have hn0 : n0L g ≤ 1000 := by unfold n0L; omega
    have ih := hAll_b vg j (by omega)
    obtain ⟨l1, l2⟩ := hAll_len g j (by omega)
    have hlit := vg.lits j hj
    have hnd := nd_lits vg hj
    have t1 := tol_b (M := ((n0L g + j : Nat) : Int)) hlit.1.1 ih (by rw [l1]; exact hnd.1) (by omega)
    have t2 := tol_b (M := ((n0L g + j : Nat) : Int)) hlit.2.1 ih (by rw [l1]; exact hnd.2) (by omega)
    obtain ⟨q1, q2, hp, hq, hc⟩ := pair_of (T := (hAll g j).1) (p := g.ands[j]!)
    rw [hAll_succ g hj, step_an _ _ _ hp] at hx
    rcases List.mem_append.1 hx with hx | hx
    · have := ih x hx; omega
    · rw [List.mem_singleton] at hx
      subst hx
      have hb1 : 0 ≤ q1 ∧ q1 ≤ 2 * ((n0L g + j : Nat) : Int) + 1 := by rcases hc with ⟨e1, e2⟩ | ⟨e1, e2⟩ <;> omega
      have hb2 : 0 ≤ q2 ∧ q2 ≤ 2 * ((n0L g + j : Nat) : Int) + 1 := by rcases hc with ⟨e1, e2⟩ | ⟨e1, e2⟩ <;> omega
      have hix := idxF_le (q1, q2) (hAll g j).2 0
      have hix2 : idxN (hAll g j).2 (q1, q2) = idxF (q1, q2) 0 (hAll g j).2 := rfl
      unfold anS
      (repeat' split) <;> (try dsimp only) <;> omega
theorem fl_tol {g : Gr} (vg : VG g) {j : Nat} (hj : j ≤ g.ands.length) {l : Int} (h0 : 0 ≤ l) (hl : ndL l < n0L g + j) : flL (hAll g j).1 l = toL (hAll g j).1 l := by
  have n1 := vg.ins
  have n2 := vg.regs
  have n3 := vg.ands
  have hn0 : n0L g ≤ 1000 := by unfold n0L; omega
  have hb := hAll_b vg j hj _ (mem_bang (by rw [(hAll_len g j hj).1]; exact hl))
  exact (toL_fl h0 ⟨hb.1, by omega⟩).symm
theorem re_hash {g : Gr} (vg : VG g) : reG g (hAll g g.ands.length).2 (hAll g g.ands.length).1 = hashG g := by
  unfold reG hashG litsG
  have h1 : g.regs.map (flR (hAll g g.ands.length).1) = g.regs.map (toR (hAll g g.ands.length).1) := List.map_congr_left (fun r hr => by
    unfold flR toR
    rw [fl_tol vg (Nat.le_refl _) (vg.next r hr).1 (goals_in vg r.nx (List.mem_append_right _ (List.mem_map.2 ⟨r, hr, rfl⟩)))])
  have h2 : g.outs.map (flL (hAll g g.ands.length).1) = g.outs.map (toL (hAll g g.ands.length).1) := List.map_congr_left (fun l hl => fl_tol vg (Nat.le_refl _) (vg.out l hl).1 (goals_in vg l (List.mem_append_left _ hl)))
  rw [h1, h2]
end Go.Proofs.Ytbphhcjepeamcaa
namespace Go.Proofs.Ytbphhcjepeamcaa
open Go Go.RowKit Go.Sort
set_option linter.unusedVariables false
set_option maxRecDepth 100000 in
set_option maxHeartbeats 4000000 in
theorem newPairs_any (F : Nat) (w : World) : Calls Try.prog 97 #[.int .i64 (F : Int)] w fun e w' => e = .returned (.pointer (some ⟨w.heap.size + 1, 0, none⟩)) ∧ PB (w.heap.size + 1) w.heap.size F (w.heap.size + 2) [] (.slice none 0 0) w' ∧ w.heap.size + 2 ≤ w'.heap.size ∧ Below w.heap.size w w' := by
  have hmk : (Instr.makeMap 135 none).run Try.prog w = .ok (.map (some w.heap.size)) (w.alloc (.map #[] 0)) := by
    simp [Instr.makeMap, run_underlying mapNL, Result.andThen]
    try rfl
  go_enter Try.func97, Try.ntmps97
  go_wp2_with fail
  go_ret
  have hA : Arr 137 gV (w.heap.size + 1) [.int .i64 (F : Int), .slice none 0 0, .map (some w.heap.size)] ((w.alloc (.map #[] 0)).alloc (.cells #[.int .i64 (F : Int), .slice none 0 0, .map (some w.heap.size)] 137)) := by
    have := Arr.allocV (w.alloc (.map #[] 0)) [.int .i64 (F : Int), .slice none 0 0, .map (some w.heap.size)] 137
    rwa [show (w.alloc (.map #[] 0)).heap.size = w.heap.size + 1 by simp] at this
  have T0 := (Tab.made w F).below ((Below.refl _ _).alloc (Nat.le_refl _) (.cells #[.int .i64 (F : Int), .slice none 0 0, .map (some w.heap.size)] 137))
  exact ⟨by first | rfl | simp, ⟨hA, OwnK.nil _ _ _ _ _, T0⟩, by simp, ((Below.refl _ _).alloc (Nat.le_refl _) _).alloc (by simp) _⟩
end Go.Proofs.Ytbphhcjepeamcaa
