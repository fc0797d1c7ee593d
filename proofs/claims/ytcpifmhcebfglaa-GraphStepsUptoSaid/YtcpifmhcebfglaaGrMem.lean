/- Rows in memory: slices whose elements lie one after the other. No condition. -/
import Derived.Test.YtcpifmhcebfglaaBase
import Derived.Lib.QuietBelow
import Derived.LoopTactic
import Derived.RegionTactic
import Derived.Deep.CutBlock
import Derived.Deep.DeepCutAuto
import Derived.Deep.RegionLaw
import Derived.Laws.AppendOwn
namespace Go.Proofs.Ytcpifmhcebfglaa
open Go Go.RowKit
set_option linter.unusedVariables false
theorem ret_bool {a b : Bool} (h : a = b) : Ending.returned (.bool a) = .returned (.bool b) := by rw [h]
theorem ret_num {a b : Int} (h : a = b) : Ending.returned (.int .i64 a) = .returned (.int .i64 b) := by rw [h]
/-- the elements of a slice, k cells each -/
def RowOf {α : Type} [Inhabited α] (k : Nat) (enc : α → List Value) (l : List α) (v : Value) (w : World) : Prop :=
  ∃ ad cap, v = .slice ad l.length cap ∧ l.length ≤ cap ∧ (l.length = 0 ∨ ∃ b o, ad = some ⟨b, o, none⟩ ∧ ∀ j, j < l.length → ∀ c x, (enc l[j]!)[c]? = some x → w.cell? ⟨b, o + j * k + c, none⟩ = some x)
/-- where the elements lie -/
def RowAt {α : Type} [Inhabited α] (k : Nat) (enc : α → List Value) (l : List α) (ad : Option Addr) (w : World) : Prop :=
  l.length = 0 ∨ ∃ b o, ad = some ⟨b, o, none⟩ ∧ ∀ j, j < l.length → ∀ c x, (enc l[j]!)[c]? = some x → w.cell? ⟨b, o + j * k + c, none⟩ = some x
theorem RowAt.below {α : Type} [Inhabited α] {k : Nat} {enc : α → List Value} {l : List α} {ad : Option Addr} {w w' : World} (h : RowAt k enc l ad w) (hb : Below w.heap.size w w') : RowAt k enc l ad w' := by
  rcases h with h | ⟨b, o, h1, h2⟩
  · exact .inl h
  · exact .inr ⟨b, o, h1, fun j hj c x hx => (hb.cell (p := ⟨b, o + j * k + c, none⟩) (World.block_lt_of_cell? w _ (h2 j hj c x hx))).trans (h2 j hj c x hx)⟩
theorem RowAt.on {α : Type} [Inhabited α] {B k : Nat} {enc : α → List Value} {l : List α} {ad : Option Addr} {w0 w w' : World} (h0 : RowAt k enc l ad w0) (h : Below w0.heap.size w0 w) : RowAt k enc l ad w := h0.below h
theorem RowAt.pick {α : Type} [Inhabited α] {k : Nat} {enc : α → List Value} {l : List α} {ad : Option Addr} {w : World} (h : RowAt k enc l ad w) (hl : 0 < l.length) : ∃ b o, ad = some ⟨b, o, none⟩ ∧ ∀ j, j < l.length → ∀ c x, (enc l[j]!)[c]? = some x → w.cell? ⟨b, o + j * k + c, none⟩ = some x := by
  rcases h with h | h
  · omega
  · exact h
theorem RowAt.take {α : Type} [Inhabited α] {k : Nat} {enc : α → List Value} {l : List α} {ad : Option Addr} {w : World} (h : RowAt k enc l ad w) (n : Nat) (hn : n ≤ l.length) : RowAt k enc (l.take n) ad w := by
  rcases h with h | ⟨b, o, h1, h2⟩
  · exact .inl (by simp; omega)
  · refine .inr ⟨b, o, h1, fun j hj c x hx => h2 j (by simp at hj; omega) c x ?_⟩
    have hj' : j < n := by simp at hj; omega
    have hj2 : j < l.length := by omega
    have e : (l.take n)[j]! = l[j]! := by
      rw [getElem!_pos _ j hj, getElem!_pos l j hj2, List.getElem_take]
    rwa [e] at hx
theorem RowOf.mk {α : Type} [Inhabited α] {k : Nat} {enc : α → List Value} {l : List α} {ad : Option Addr} {cap : Nat} {w : World} (hc : l.length ≤ cap) (h : RowAt k enc l ad w) : RowOf k enc l (.slice ad l.length cap) w := ⟨ad, cap, rfl, hc, h⟩
theorem RowOf.open' {α : Type} [Inhabited α] {k : Nat} {enc : α → List Value} {l : List α} {v : Value} {w : World} (h : RowOf k enc l v w) : ∃ ad cap, v = .slice ad l.length cap ∧ l.length ≤ cap ∧ RowAt k enc l ad w := h
theorem RowOf.below {α : Type} [Inhabited α] {k : Nat} {enc : α → List Value} {l : List α} {v : Value} {w w' : World} (h : RowOf k enc l v w) (hb : Below w.heap.size w w') : RowOf k enc l v w' := by
  obtain ⟨ad, cap, h1, h2, h3⟩ := h.open'
  exact ⟨ad, cap, h1, h2, h3.below hb⟩
theorem RowOf.nil {α : Type} [Inhabited α] {k : Nat} {enc : α → List Value} {w : World} : RowOf k enc ([] : List α) (.slice none 0 0) w := ⟨none, 0, rfl, Nat.le_refl _, .inl rfl⟩
theorem tk1 {α : Type} [Inhabited α] (l : List α) {i : Nat} (h : i < l.length) : l.take (i + 1) = l.take i ++ [l[i]!] := by
  rw [List.take_succ_eq_append_getElem h, getElem!_pos l i h]
theorem mem1 {α : Type} [Inhabited α] (l : List α) {i : Nat} (h : i < l.length) : l[i]! ∈ l := by
  rw [getElem!_pos l i h]; exact List.getElem_mem h
abbrev encT : ByteArray → List Value := fun s => [.string s]
abbrev encI : Int → List Value := fun n => [.int .i64 n]
abbrev encB : Bool → List Value := fun b => [.bool b]
abbrev encN : Int × Int → List Value := fun p => [.int .i64 p.1, .int .i64 p.2]
/-- a register -/
structure Rg where
  nm : ByteArray
  nx : Int
  it : Bool
  deriving Inhabited
abbrev encR : Rg → List Value := fun r => [.string r.nm, .int .i64 r.nx, .bool r.it]
/-- a graph -/
structure Gr where
  ins : List ByteArray
  outN : List ByteArray
  regs : List Rg
  ands : List (Int × Int)
  outs : List Int
/-- the five slices of a graph -/
structure GA (g : Gr) (a b c d e : Option Addr) (w : World) : Prop where
  ins : RowAt 1 encT g.ins a w
  outN : RowAt 1 encT g.outN b w
  regs : RowAt 3 encR g.regs c w
  ands : RowAt 2 encN g.ands d w
  outs : RowAt 1 encI g.outs e w
theorem GA.below {g : Gr} {a b c d e : Option Addr} {w w' : World} (h : GA g a b c d e w) (hb : Below w.heap.size w w') : GA g a b c d e w' :=
  ⟨h.ins.below hb, h.outN.below hb, h.regs.below hb, h.ands.below hb, h.outs.below hb⟩
/-- the capacities are large enough -/
structure GC (g : Gr) (a b c d e : Option Addr) (a' b' c' d' e' : Nat) : Prop where
  ins : g.ins.length ≤ a'
  outN : g.outN.length ≤ b'
  regs : g.regs.length ≤ c'
  ands : g.ands.length ≤ d'
  outs : g.outs.length ≤ e'
  insN : a = none → a' = 0
  outNN : b = none → b' = 0
  regsN : c = none → c' = 0
  andsN : d = none → d' = 0
  outsN : e = none → e' = 0
/-- all that is known of a graph that is handed in -/
structure GO (g : Gr) (v : Value) (w : World) : Prop where
  all : ∃ a b c d e a' b' c' d' e', v = .agg #[.slice a g.ins.length a', .slice b g.outN.length b', .slice c g.regs.length c', .slice d g.ands.length d', .slice e g.outs.length e'] ∧ GC g a b c d e a' b' c' d' e' ∧ GA g a b c d e w
theorem GO.below {g : Gr} {v : Value} {w w' : World} (h : GO g v w) (hb : Below w.heap.size w w') : GO g v w' := by
  obtain ⟨a, b, c, d, e, a', b', c', d', e', h1, h2, h3⟩ := h.all
  exact ⟨⟨a, b, c, d, e, a', b', c', d', e', h1, h2, h3.below hb⟩⟩
/-- the graph in a box -/
structure GX (k : Nat) (v0 v1 v2 v3 v4 : Value) (w : World) : Prop where
  c0 : w.cell? ⟨k, 0, none⟩ = some v0
  c1 : w.cell? ⟨k, 1, none⟩ = some v1
  c2 : w.cell? ⟨k, 2, none⟩ = some v2
  c3 : w.cell? ⟨k, 3, none⟩ = some v3
  c4 : w.cell? ⟨k, 4, none⟩ = some v4
theorem GX.lt {k : Nat} {v0 v1 v2 v3 v4 : Value} {w : World} (h : GX k v0 v1 v2 v3 v4 w) : k < w.heap.size := World.block_lt_of_cell? w _ h.c0
theorem GX.mono {k B : Nat} {v0 v1 v2 v3 v4 : Value} {w w' : World} (h : GX k v0 v1 v2 v3 v4 w) (hb : Below B w w') (hk : k < B) : GX k v0 v1 v2 v3 v4 w' := by
  have e := fun j => hb.cell (p := ⟨k, j, none⟩) hk
  exact ⟨(e 0).trans h.c0, (e 1).trans h.c1, (e 2).trans h.c2, (e 3).trans h.c3, (e 4).trans h.c4⟩
theorem GX.below {k : Nat} {v0 v1 v2 v3 v4 : Value} {w w' : World} (h : GX k v0 v1 v2 v3 v4 w) (hb : Below w.heap.size w w') : GX k v0 v1 v2 v3 v4 w' := h.mono hb h.lt
theorem GX.new (w : World) (v0 v1 v2 v3 v4 : Value) (t : TypeId) : GX w.heap.size v0 v1 v2 v3 v4 (w.alloc (.cells #[v0, v1, v2, v3, v4] t)) := by
  constructor <;> go_simp
end Go.Proofs.Ytcpifmhcebfglaa
