/- Rows of a call's own whose elements are of several cells (nodes, registers); literals that are made of a number and a sign. -/
import Derived.Test.YtcpifmhcebfglaaGrAp
import Derived.Test.YtcpifmhcebfglaaGrHt
import Derived.Deep.AppendLies
import Derived.Deep.RegionHeldLaw
namespace Go.Proofs.Ytcpifmhcebfglaa
open Go Go.RowKit
set_option linter.unusedVariables false
/-- an owned row of elements of k cells -/
def OwnK (B : Nat) (t : TypeId) (k : Nat) {α : Type} (enc : α → List Value) (w : World) (v : Value) (l : List α) : Prop := w.ownsRow B t k v l.length (l.flatMap enc)
theorem OwnK.below {B : Nat} {t : TypeId} {k : Nat} {α : Type} {enc : α → List Value} {w w' : World} {v : Value} {l : List α} (h : OwnK B t k enc w v l) (hb : Below w.heap.size w w') : OwnK B t k enc w' v l :=
  World.ownsRow.kept (row := none) h ⟨hb.os, hb.tape, hb.output, hb.size, fun k hk _ => hb.block k hk⟩ (by cases v.ownBlock <;> simp)
theorem OwnK.slice {B : Nat} {t : TypeId} {k : Nat} {α : Type} {enc : α → List Value} {w : World} {v : Value} {l : List α} (h : OwnK B t k enc w v l) : ∃ ad cp, v = .slice ad l.length cp := by
  rcases h.2 with ⟨h1, h0⟩ | ⟨g, cap, cur, hv, _⟩
  · exact ⟨none, 0, by rw [h1, h0]⟩
  · exact ⟨_, _, hv⟩
theorem OwnK.nil (B : Nat) (t : TypeId) (k : Nat) {α : Type} (enc : α → List Value) (w : World) : OwnK B t k enc w (.slice none 0 0) [] := World.ownsRow_nil w B t k
theorem OwnK.tags {B B2 : Nat} {t t2 : TypeId} {k k2 : Nat} {v v2 : Value} {n n2 : Nat} {xs xs2 : List Value} {w : World} (h : w.ownsRow B t k v n xs) (h2 : w.ownsRow B2 t2 k2 v2 n2 xs2) (ht : t ≠ t2) : v.ownBlock = none ∨ v.ownBlock ≠ v2.ownBlock := by
  rcases h.2 with ⟨h1, _⟩ | ⟨g, cap, cur, hv, _, hg, _⟩
  · rw [h1]; exact .inl rfl
  · rcases h2.2 with ⟨h1', _⟩ | ⟨g2, cap2, cur2, hv2, _, hg2, _⟩
    · right; rw [hv, h1']; intro e; cases e
    · right; rw [hv, hv2]; intro e
      simp only [Value.ownBlock, Option.some.injEq] at e
      subst e
      rw [hg] at hg2
      injection hg2 with e
      injection e with _ e2 _
      exact ht e2
theorem flat_len {α : Type} {enc : α → List Value} {k : Nat} (hk : ∀ x, (enc x).length = k) : ∀ l : List α, (l.flatMap enc).length = l.length * k
  | [] => by simp
  | x :: l => by rw [List.flatMap_cons, List.length_append, flat_len hk l, hk, List.length_cons, Nat.add_mul]; omega
theorem flat_get {α : Type} [Inhabited α] {enc : α → List Value} {k : Nat} (hk : ∀ x, (enc x).length = k) : ∀ (l : List α) (j c : Nat), j < l.length → c < k → (l.flatMap enc)[j * k + c]? = (enc l[j]!)[c]?
  | [], j, c, h, _ => by simp at h
  | x :: l, 0, c, _, hc => by
    rw [List.flatMap_cons, Nat.zero_mul, Nat.zero_add, List.getElem?_append_left (by rw [hk]; exact hc)]; simp
  | x :: l, j + 1, c, h, hc => by
    rw [List.flatMap_cons, List.getElem?_append_right (by rw [hk, Nat.add_mul]; omega), hk, show (j + 1) * k + c - k = j * k + c by rw [Nat.add_mul]; omega, flat_get hk l j c (by simpa using h) hc]
    simp
theorem OwnK.row {B : Nat} {t : TypeId} {k : Nat} {α : Type} [Inhabited α] {enc : α → List Value} (hk : ∀ x, (enc x).length = k) {w : World} {v : Value} {l : List α} (h : OwnK B t k enc w v l) : RowOf k enc l v w := by
  have hh := h
  rcases h.2 with ⟨h1, h0⟩ | ⟨g, cap, cur, hv, hb, hg, hc, _⟩
  · exact ⟨none, 0, by rw [h1, h0], by omega, .inl h0⟩
  · subst hv
    refine ⟨_, cap, rfl, hc, .inr ⟨g, 0, rfl, fun j hj c x hx => ?_⟩⟩
    have hck : c < k := by rw [← hk l[j]!]; exact (List.getElem?_eq_some_iff.1 hx).1
    have hjk : j * k + c < l.length * k := by
      have : (j + 1) * k ≤ l.length * k := Nat.mul_le_mul_right k hj
      rw [Nat.add_mul] at this; omega
    have := World.ownsRow.cellAt hh (j * k + c) hjk
    rw [flat_get hk l j c hj hck, hx] at this
    rw [Nat.zero_add]; exact this
theorem wpList_append_one {P : Program} {α : Type} {enc : α → List Value} {k : Nat} (hk : ∀ x, (enc x).length = k) (hk0 : 0 < k) (hf : ∀ x, ∀ u ∈ enc x, u.oneCell' = true) {w : World} {ops : Array Oper} {rest : List Oper} {o : Oper} {a : Act} {Q : Exit → Act → World → Prop} (hgd : o.guard = none) (s x : Operand) (t : TypeId)
    (ho : o.op = .call { callee := .builtin .append, args := #[s, x], argTypes := #[t, t] }) (base : Nat) (e : TypeId) (i : TypeInfo) (z : Value) (bytes : Nat) (ht : P.underlying t = some (.slice e)) (hi : P.info? e = some i) (hz : i.zero = some z) (hsize : i.size = k) (hby : i.bytes = bytes) (hzs : z.cells.size = k)
    (v : Value) (xs : List α) (hs : a.eval s = v) (hown : OwnK base e k enc w v xs) (r cap : Nat) (y : α) (hx : a.eval x = .slice (some ⟨r, 0, none⟩) 1 cap) (hy : ∀ j u, (enc y)[j]? = some u → w.cell? ⟨r, j, none⟩ = some u)
    (h63 : xs.length + 1 ≤ maxLen) (hbytes : (xs.length + 1) * bytes ≤ 140737488355328) (hbase : base ≤ w.heap.size)
    (h : ∀ v' w', OwnK base e k enc w' v' (xs ++ [y]) → Below base w w' → w.grownBy w' v.ownBlock → wpList P ops Q rest (a.put o.dst v') w') : wpList P ops Q (o :: rest) a w := by
  refine wpList_append_own w hgd s x t ho base e i z k bytes ht hi hz hsize hby hzs hk0 v xs.length (xs.flatMap enc) hs hown ⟨r, 0, none⟩ 1 cap (enc y) hx (by rw [hk]; omega) (fun j u hj => ?_) (hf y) h63 hbytes hbase ?_
  · rw [show (⟨r, 0, none⟩ : Addr).add j = ⟨r, 0 + j, none⟩ from Addr.add_lit _ _ _, Nat.zero_add]
    exact hy j u hj
  · intro v' w' ho' hg _
    refine h v' w' ?_ ((Below.refl base w).grown hg hbase (fun q hq => (World.ownsRow.lt hown q hq).1)) hg
    unfold OwnK
    rw [List.flatMap_append, List.length_append]
    simpa using ho'
theorem step_append_one {P : Program} {α : Type} {enc : α → List Value} {k : Nat} (hk : ∀ x, (enc x).length = k) (hk0 : 0 < k) (hf : ∀ x, ∀ u ∈ enc x, u.oneCell' = true) {w : World} {ops : Array Oper} {o : Oper} {a : Act} {K : Act → World → Prop} {Q : Exit → Act → World → Prop} {E : Prop} (hgd : o.guard = none) (s x : Operand) (t : TypeId)
    (ho : o.op = .call { callee := .builtin .append, args := #[s, x], argTypes := #[t, t] }) (base : Nat) (e : TypeId) (i : TypeInfo) (z : Value) (bytes : Nat) (ht : P.underlying t = some (.slice e)) (hi : P.info? e = some i) (hz : i.zero = some z) (hsize : i.size = k) (hby : i.bytes = bytes) (hzs : z.cells.size = k)
    (v : Value) (xs : List α) (hs : a.eval s = v) (hown : OwnK base e k enc w v xs) (r cap : Nat) (y : α) (hx : a.eval x = .slice (some ⟨r, 0, none⟩) 1 cap) (hy : ∀ j u, (enc y)[j]? = some u → w.cell? ⟨r, j, none⟩ = some u)
    (h63 : xs.length + 1 ≤ maxLen) (hbytes : (xs.length + 1) * bytes ≤ 140737488355328) (hbase : base ≤ w.heap.size)
    (h : ∀ g cap w', OwnK base e k enc w' (.slice (some ⟨g, 0, none⟩) (xs.length + 1) cap) (xs ++ [y]) → Below base w w' → w.grownBy w' v.ownBlock → K (a.put o.dst (.slice (some ⟨g, 0, none⟩) (xs.length + 1) cap)) w') :
    if Region.wanted o (yielded ops a.tmps) = true then Oper.wp P o a w K Q else E := by
  refine step_append_lies w hgd s x t ho base e i z k bytes ht hi hz hsize hby hzs hk0 v xs.length (xs.flatMap enc) hs hown ⟨r, 0, none⟩ 1 cap (enc y) hx (by rw [hk]; omega) (fun j u hj => ?_) (hf y) (by decide) h63 hbytes hbase _ rfl ?_
  · rw [show (⟨r, 0, none⟩ : Addr).add j = ⟨r, 0 + j, none⟩ from Addr.add_lit _ _ _, Nat.zero_add]
    exact hy j u hj
  · intro g cap' w' ho' hg _ _
    refine h g cap' w' ?_ ((Below.refl base w).grown hg hbase (fun q hq => (World.ownsRow.lt hown q hq).1)) hg
    unfold OwnK
    rw [List.flatMap_append, List.length_append]
    simpa using ho'
/-- a number times two, and a sign -/
theorem bor1 (p b : Int) (h0 : -1 ≤ p) (h1 : p < 1000000000) (hb : b = 0 ∨ b = 1) : bits BinOp.or IntKind.i64 (2 * p) b = 2 * p + b := by
  show IntKind.i64.wrap (((BitVec.ofInt 64 (2 * p) ||| BitVec.ofInt 64 b).toNat : Nat) : Int) = _
  by_cases hp : 0 ≤ p
  · have e1 : (BitVec.ofInt 64 (2 * p)).toNat = 2 * p.toNat := by rw [BitVec.toNat_ofInt]; omega
    have e2 : (BitVec.ofInt 64 b).toNat = b.toNat := by rw [BitVec.toNat_ofInt]; omega
    have e3 := Nat.two_pow_add_eq_or_of_lt (i := 1) (b := b.toNat) (by omega) p.toNat
    rw [BitVec.toNat_or, e1, e2, show 2 * p.toNat = 2 ^ 1 * p.toNat from rfl, ← e3, IntWalk.i64_in _ (by omega)]
    omega
  · have : p = -1 := by omega
    subst this
    rcases hb with rfl | rfl <;> decide
end Go.Proofs.Ytcpifmhcebfglaa
