/- Netlists in memory: a gate is known with where its inputs lie. No condition. -/
import Derived.Test.YtimojbjamfckmaaGrFa
import Derived.Test.YtimojbjamfckmaaGrAp
import Derived.Test.YtimojbjamfckmaaWord
namespace Go.Proofs.Ytimojbjamfckmaa
open Go Go.RowKit
set_option linter.unusedVariables false
/-- a gate, and where its inputs lie -/
structure Ga where
  cell : Int
  tab : BitVec 64
  ins : List Int
  ad : Option Addr
  cp : Nat
  deriving Inhabited
abbrev encGa : Ga → List Value := fun g => [.int .i64 g.cell, .int .u64 (U g.tab), .slice g.ad g.ins.length g.cp]
/-- a flip-flop -/
structure Fl where
  nm : ByteArray
  cell : Int
  d : Int
  en : Int
  it : Bool
  deriving Inhabited
abbrev encFl : Fl → List Value := fun f => [.string f.nm, .int .i64 f.cell, .int .i64 f.d, .int .i64 f.en, .bool f.it]
/-- a netlist -/
structure Nl where
  ins : List ByteArray
  outN : List ByteArray
  flops : List Fl
  gates : List Ga
  outs : List Int
  deriving Inhabited
/-- the inputs of a gate lie there -/
structure GaIn (g : Ga) (w : World) : Prop where
  row : RowAt 1 encI g.ins g.ad w
  cap : g.ins.length ≤ g.cp
  nil : g.ad = none → g.cp = 0
theorem GaIn.below {g : Ga} {w w' : World} (h : GaIn g w) (hb : Below w.heap.size w w') : GaIn g w' := ⟨h.row.below hb, h.cap, h.nil⟩
/-- the five slices of a netlist -/
structure NA (n : Nl) (a b c d e : Option Addr) (w : World) : Prop where
  ins : RowAt 1 encT n.ins a w
  outN : RowAt 1 encT n.outN b w
  flops : RowAt 5 encFl n.flops c w
  gates : RowAt 3 encGa n.gates d w
  outs : RowAt 1 encI n.outs e w
  each : ∀ j, j < n.gates.length → GaIn n.gates[j]! w
theorem NA.below {n : Nl} {a b c d e : Option Addr} {w w' : World} (h : NA n a b c d e w) (hb : Below w.heap.size w w') : NA n a b c d e w' :=
  ⟨h.ins.below hb, h.outN.below hb, h.flops.below hb, h.gates.below hb, h.outs.below hb, fun j hj => (h.each j hj).below hb⟩
/-- the capacities are large enough -/
structure NC (n : Nl) (a b c d e : Option Addr) (a' b' c' d' e' : Nat) : Prop where
  ins : n.ins.length ≤ a'
  outN : n.outN.length ≤ b'
  flops : n.flops.length ≤ c'
  gates : n.gates.length ≤ d'
  outs : n.outs.length ≤ e'
  insN : a = none → a' = 0
  outNN : b = none → b' = 0
  flopsN : c = none → c' = 0
  gatesN : d = none → d' = 0
  outsN : e = none → e' = 0
/-- all that is known of a netlist that is handed in -/
structure NO (n : Nl) (v : Value) (w : World) : Prop where
  all : ∃ a b c d e a' b' c' d' e', v = .agg #[.slice a n.ins.length a', .slice b n.outN.length b', .slice c n.flops.length c', .slice d n.gates.length d', .slice e n.outs.length e'] ∧ NC n a b c d e a' b' c' d' e' ∧ NA n a b c d e w
theorem NO.below {n : Nl} {v : Value} {w w' : World} (h : NO n v w) (hb : Below w.heap.size w w') : NO n v w' := by
  obtain ⟨a, b, c, d, e, a', b', c', d', e', h1, h2, h3⟩ := h.all
  exact ⟨⟨a, b, c, d, e, a', b', c', d', e', h1, h2, h3.below hb⟩⟩
/-- the sizes of a netlist that came in, and the numbers that its tables are -/
structure SmN (n : Nl) : Prop where
  ins : n.ins.length ≤ 1048576
  outN : n.outN.length ≤ 1048576
  flops : n.flops.length ≤ 1048576
  gates : n.gates.length ≤ 1048576
  outs : n.outs.length ≤ 1048576
  all : n.ins.length + n.outN.length + n.flops.length + n.gates.length + n.outs.length ≤ 1048576
  insT : ∀ x ∈ n.ins, x.size ≤ 1048576
  outT : ∀ x ∈ n.outN, x.size ≤ 1048576
  flopT : ∀ x ∈ n.flops, x.nm.size ≤ 1048576
  gateI : ∀ j, j < n.gates.length → n.gates[j]!.ins.length ≤ 1048576
/-- the number of the first gate's net -/
def fstN (n : Nl) : Nat := 2 + n.ins.length + n.flops.length
def netsN (n : Nl) : Nat := fstN n + n.gates.length
/-- the net k is not there -/
def badN (m k : Int) : Bool := decide (k < 0) || decide (m ≤ k)
theorem badN_no {m k : Int} (h : badN m k = false) : 0 ≤ k ∧ k < m := by
  unfold badN at h
  simp only [Bool.or_eq_false_iff, decide_eq_false_iff_not] at h
  omega
theorem badN_yes {m k : Int} (h : badN m k = true) : ¬ (0 ≤ k ∧ k < m) := by
  unfold badN at h
  simp only [Bool.or_eq_true, decide_eq_true_eq] at h
  omega
def anyN (m : Int) (l : List Int) : Bool := l.any (badN m)
/-- the k lowest bits -/
def loB : Nat → BitVec 64
  | 0 => 0#64
  | k + 1 => loB k ||| (1#64 <<< k)
/-- the bits of a table of m inputs -/
def roomB (m : Nat) : BitVec 64 := if m ≤ 6 then loB (2 ^ m) else 0#64
/-- the table has no bit that is not asked for -/
def okT (m : Nat) (t : BitVec 64) : Bool := decide (t &&& ~~~ roomB m = 0#64)
theorem okT_or (m : Nat) (t : BitVec 64) : (t ||| roomB m = roomB m) ↔ okT m t = true := by
  unfold okT
  rw [decide_eq_true_iff]
  constructor
  · intro h
    ext i hi
    have := congrArg (fun x => x[i]) h
    simp at this
    simp
    exact this
  · intro h
    ext i hi
    have := congrArg (fun x => x[i]) h
    simp at this
    simp
    exact this
/-- the error of a gate, whose net is m -/
def gateF (m : Int) (g : Ga) : Int := if 6 < g.ins.length then 3 else if okT g.ins.length g.tab = false then 4 else if anyN m g.ins = true then 2 else 0
def gatesF : Int → List Ga → Int
  | _, [] => 0
  | m, g :: l => if gateF m g ≠ 0 then gateF m g else gatesF (m + 1) l
/-- the names inside -/
def innL (n : Nl) : List ByteArray := n.ins ++ n.flops.map (·.nm)
def endsF (n : Nl) : Int := if (n.flops.any fun f => badN (netsN n) f.d || badN (netsN n) f.en) = true ∨ anyN (netsN n) n.outs = true then 2 else 0
/-- the error of a netlist without its cells -/
def faultN (n : Nl) : Int :=
  if 128 < n.ins.length ∨ 128 < n.outN.length ∨ 288 < n.flops.length ∨ 1200 < n.gates.length then 3 else
  if n.outs.length ≠ n.outN.length then 4 else
  if namesF (innL n) ≠ 0 then namesF (innL n) else if namesF n.outN ≠ 0 then namesF n.outN else
  if gatesF (fstN n) n.gates ≠ 0 then gatesF (fstN n) n.gates else endsF n
/-- what is known of a valid netlist -/
structure VN (n : Nl) : Prop where
  ins : n.ins.length ≤ 128
  outN : n.outN.length ≤ 128
  flops : n.flops.length ≤ 288
  gates : n.gates.length ≤ 1200
  same : n.outs.length = n.outN.length
  pins : ∀ j, j < n.gates.length → n.gates[j]!.ins.length ≤ 6
  tabs : ∀ j, j < n.gates.length → okT n.gates[j]!.ins.length n.gates[j]!.tab = true
  nets : ∀ j, j < n.gates.length → ∀ k ∈ n.gates[j]!.ins, 0 ≤ k ∧ k < (fstN n + j : Nat)
  d : ∀ j, j < n.flops.length → 0 ≤ n.flops[j]!.d ∧ n.flops[j]!.d < (netsN n : Nat)
  en : ∀ j, j < n.flops.length → 0 ≤ n.flops[j]!.en ∧ n.flops[j]!.en < (netsN n : Nat)
  out : ∀ k ∈ n.outs, 0 ≤ k ∧ k < (netsN n : Nat)
theorem anyN_no {m : Int} {l : List Int} (h : anyN m l = false) : ∀ k ∈ l, 0 ≤ k ∧ k < m := fun k hk => by
  refine badN_no ?_
  unfold anyN at h
  cases e : badN m k with
  | false => rfl
  | true => rw [List.any_eq_true.2 ⟨k, hk, e⟩] at h; cases h
theorem gateF_no {m : Int} {g : Ga} (h : gateF m g = 0) : g.ins.length ≤ 6 ∧ okT g.ins.length g.tab = true ∧ ∀ k ∈ g.ins, 0 ≤ k ∧ k < m := by
  unfold gateF at h
  split at h
  · omega
  split at h
  · omega
  split at h
  · omega
  rename_i h1 h2 h3
  exact ⟨by omega, by simpa using h2, anyN_no (by simpa using h3)⟩
theorem gatesF_no : ∀ {l : List Ga} {m : Int}, gatesF m l = 0 → ∀ j, j < l.length → gateF (m + j) l[j]! = 0
  | [], _, _, j, hj => by simp at hj
  | g :: l, m, h, j, hj => by
    simp only [gatesF] at h
    split at h
    · omega
    rename_i h1
    cases j with
    | zero => simpa using h1
    | succ j =>
      have := gatesF_no h j (by simpa using hj)
      have e : (g :: l)[j + 1]! = l[j]! := by simp
      rw [e]
      rwa [show m + ((j + 1 : Nat) : Int) = m + 1 + (j : Int) by omega]
theorem vn_of {n : Nl} (h : faultN n = 0) : VN n := by
  unfold faultN at h
  split at h
  · omega
  rename_i h1
  split at h
  · omega
  rename_i h2
  split at h
  · omega
  split at h
  · omega
  split at h
  · omega
  rename_i h5
  have h6 := gatesF_no (Classical.not_not.1 h5)
  unfold endsF at h
  split at h
  · omega
  rename_i h7
  have h8 : (n.flops.any fun f => badN (netsN n) f.d || badN (netsN n) f.en) = false := by
    cases e : (n.flops.any fun f => badN (netsN n) f.d || badN (netsN n) f.en) with
    | false => rfl
    | true => exact absurd (.inl e) h7
  have h9 : anyN (netsN n) n.outs = false := by
    cases e : anyN (netsN n) n.outs with
    | false => rfl
    | true => exact absurd (.inr e) h7
  have hf : ∀ j, j < n.flops.length → badN (netsN n) n.flops[j]!.d = false ∧ badN (netsN n) n.flops[j]!.en = false := fun j hj => by
    have hm := mem1 n.flops hj
    have e : (badN (netsN n) n.flops[j]!.d || badN (netsN n) n.flops[j]!.en) = false := by
      cases e : (badN (netsN n) n.flops[j]!.d || badN (netsN n) n.flops[j]!.en) with
      | false => rfl
      | true => rw [List.any_eq_true.2 ⟨_, hm, e⟩] at h8; cases h8
    simpa using e
  exact ⟨by omega, by omega, by omega, by omega, by omega, fun j hj => (gateF_no (h6 j hj)).1, fun j hj => (gateF_no (h6 j hj)).2.1, fun j hj k hk => by have := (gateF_no (h6 j hj)).2.2 k hk; omega, fun j hj => badN_no (hf j hj).1, fun j hj => badN_no (hf j hj).2, anyN_no h9⟩
theorem GX.newN (w : World) (v0 v1 v2 v3 v4 : Value) (t : TypeId) : GX w.heap.size v0 v1 v2 v3 v4 (w.alloc (.cells #[v0, v1, v2, v3, v4] t)) := GX.new w v0 v1 v2 v3 v4 t
end Go.Proofs.Ytimojbjamfckmaa
