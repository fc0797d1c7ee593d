/- A row appended to a row of a call's own: nil or not, one law; a row that knows its capacity. -/
import Derived.Test.YtcpifmhcebfglaaGrGo
namespace Go.Proofs.Ytcpifmhcebfglaa
open Go Go.RowKit
set_option linter.unusedVariables false
/-- a row of single cells: as RowOf, and a nil row has no capacity -/
def RowC {α : Type} [Inhabited α] (f : α → Value) (l : List α) (v : Value) (w : World) : Prop :=
  ∃ ad cap, v = .slice ad l.length cap ∧ l.length ≤ cap ∧ (ad = none → cap = 0) ∧ RowAt 1 (fun x => [f x]) l ad w
theorem RowC.row {α : Type} [Inhabited α] {f : α → Value} {l : List α} {v : Value} {w : World} (h : RowC f l v w) : RowOf 1 (fun x => [f x]) l v w := by
  obtain ⟨ad, cap, h1, h2, _, h3⟩ := h
  exact ⟨ad, cap, h1, h2, h3⟩
theorem RowC.below {α : Type} [Inhabited α] {f : α → Value} {l : List α} {v : Value} {w w' : World} (h : RowC f l v w) (hb : Below w.heap.size w w') : RowC f l v w' := by
  obtain ⟨ad, cap, h1, h2, h3, h4⟩ := h
  exact ⟨ad, cap, h1, h2, h3, h4.below hb⟩
theorem Own.rowC {B : Nat} {t : TypeId} {α : Type} [Inhabited α] {f : α → Value} {w : World} {v : Value} {l : List α} (h : Own B t f w v l) : RowC f l v w := by
  obtain ⟨ad, cap, hv, hc, hr⟩ := h.row
  refine ⟨ad, cap, hv, hc, fun hn => ?_, hr⟩
  rcases h.2 with ⟨h1, h0⟩ | ⟨g, cap', cur, hv', _⟩
  · rw [h1, h0] at hv; injection hv with _ _ e3; exact e3.symm
  · rw [hv', hn] at hv; cases hv
theorem row_news {α : Type} [Inhabited α] {f : α → Value} {l : List α} {e : Addr} {w : World} (hr : RowAt 1 (fun x => [f x]) l (some e) w) : ∀ j u, (l.map f)[j]? = some u → w.cell? (e.add j) = some u := by
  rcases hr with h0 | ⟨bb, oo, he, hcell⟩
  · intro j u hj
    rw [List.eq_nil_of_length_eq_zero h0] at hj
    simp at hj
  · cases he
    intro j u hj
    rw [List.getElem?_map] at hj
    cases hq : l[j]? with
    | none => rw [hq] at hj; cases hj
    | some q =>
      rw [hq] at hj
      cases hj
      obtain ⟨hlt, rfl⟩ := List.getElem?_eq_some_iff.1 hq
      have := hcell j hlt 0 _ rfl
      rw [getElem!_pos l j hlt] at this
      rw [show (⟨bb, oo, none⟩ : Addr).add j = ⟨bb, oo + j, none⟩ from Addr.add_lit _ _ _]
      simpa using this
theorem wpList_append_row2 {P : Program} {α : Type} [Inhabited α] {f : α → Value} (hf : ∀ x, (f x).oneCell' = true) {w : World} {ops : Array Oper} {rest : List Oper} {o : Oper} {a : Act} {Q : Exit → Act → World → Prop} (hgd : o.guard = none) (s x : Operand) (t : TypeId)
    (ho : o.op = .call { callee := .builtin .append, args := #[s, x], argTypes := #[t, t] }) (base : Nat) (e : TypeId) (i : TypeInfo) (z : Value) (bytes : Nat) (ht : P.underlying t = some (.slice e)) (hi : P.info? e = some i) (hz : i.zero = some z) (hsize : i.size = 1) (hby : i.bytes = bytes) (hzs : z.cells.size = 1)
    (v : Value) (xs : List α) (hs : a.eval s = v) (hown : Own base e f w v xs) (ad : Option Addr) (l : List α) (cap : Nat) (hx : a.eval x = .slice ad l.length cap) (hn : ad = none → cap = 0) (hc : l.length ≤ cap) (hr : RowAt 1 (fun x => [f x]) l ad w)
    (h63 : xs.length + l.length ≤ maxLen) (hbytes : (xs.length + l.length) * bytes ≤ 140737488355328) (hbase : base ≤ w.heap.size)
    (h : ∀ v' w', Own base e f w' v' (xs ++ l) → Below base w w' → w.grownBy w' v.ownBlock → wpList P ops Q rest (a.put o.dst v') w') : wpList P ops Q (o :: rest) a w := by
  cases ad with
  | none =>
    have h0 := hn rfl
    subst h0
    have hl : l = [] := List.eq_nil_of_length_eq_zero (by omega)
    subst hl
    refine wpList_append_own_none hgd s x t ho base e i 1 ht hi v xs.length (xs.map f) hs hown hx (h v w ?_ (Below.refl _ _) ⟨rfl, rfl, rfl, Nat.le_refl _, fun _ _ _ => rfl⟩)
    rwa [List.append_nil]
  | some e' =>
    refine wpList_append_own w hgd s x t ho base e i z 1 bytes ht hi hz hsize hby hzs (by decide) v xs.length (xs.map f) hs hown e' l.length cap (l.map f) hx (by simp) (row_news hr) (fun u hu => by obtain ⟨n, _, rfl⟩ := List.mem_map.1 hu; exact hf n) h63 hbytes hbase ?_
    intro v' w' ho' hg _
    refine h v' w' ?_ ((Below.refl base w).grown hg hbase (fun q hq => (World.ownsRow.lt hown q hq).1)) hg
    unfold Own
    simpa using ho'
theorem wpList_append_row {P : Program} {α : Type} [Inhabited α] {f : α → Value} (hf : ∀ x, (f x).oneCell' = true) {w : World} {ops : Array Oper} {rest : List Oper} {o : Oper} {a : Act} {Q : Exit → Act → World → Prop} (hgd : o.guard = none) (s x : Operand) (t : TypeId)
    (ho : o.op = .call { callee := .builtin .append, args := #[s, x], argTypes := #[t, t] }) (base : Nat) (e : TypeId) (i : TypeInfo) (z : Value) (bytes : Nat) (ht : P.underlying t = some (.slice e)) (hi : P.info? e = some i) (hz : i.zero = some z) (hsize : i.size = 1) (hby : i.bytes = bytes) (hzs : z.cells.size = 1)
    (v : Value) (xs : List α) (hs : a.eval s = v) (hown : Own base e f w v xs) (ad : Option Addr) (l : List α) (cap : Nat) (hx : a.eval x = .slice ad l.length cap) (hn : ad = none → cap = 0) (hc : l.length ≤ cap) (hr : RowAt 1 (fun x => [f x]) l ad w)
    (h63 : xs.length + l.length ≤ maxLen) (hbytes : (xs.length + l.length) * bytes ≤ 140737488355328) (hbase : base ≤ w.heap.size)
    (h : ∀ v' w', Own base e f w' v' (xs ++ l) → Below base w w' → wpList P ops Q rest (a.put o.dst v') w') : wpList P ops Q (o :: rest) a w :=
  wpList_append_row2 hf hgd s x t ho base e i z bytes ht hi hz hsize hby hzs v xs hs hown ad l cap hx hn hc hr h63 hbytes hbase fun v' w' h1 h2 _ => h v' w' h1 h2
/-- a row beside another that grows -/
theorem Own.beside {B B2 : Nat} {t t2 : TypeId} {α β : Type} {f : α → Value} {f2 : β → Value} {w w' : World} {v v2 : Value} {l : List α} {l2 : List β} (h : Own B t f w v l) (h2 : Own B2 t2 f2 w v2 l2) (hlt : ∀ b, v.ownBlock = some b → b < B2) (hg : w.grownBy w' v2.ownBlock) : Own B t f w' v l :=
  World.ownsRow.kept h hg (by
    cases hv : v.ownBlock with
    | none => exact .inl rfl
    | some b => exact .inr (fun e => by have h3 := hlt b hv; have h4 := (World.ownsRow.lt h2 b e.symm).1; omega))
theorem one_row {α : Type} [Inhabited α] (f : α → Value) (x : α) (W : World) (t : TypeId) : RowAt 1 (fun x => [f x]) [x] (some ⟨W.heap.size, 0, none⟩) (W.alloc (.cells #[f x] t)) := by
  refine .inr ⟨_, 0, rfl, fun j hj c y hy => ?_⟩
  have hj0 : j = 0 := by simpa using hj
  subst hj0
  match c, hy with
  | 0, hy => simp only [List.getElem?_cons_zero, Option.some.injEq] at hy; subst hy; go_simp
  | c + 1, hy => simp at hy
end Go.Proofs.Ytcpifmhcebfglaa
