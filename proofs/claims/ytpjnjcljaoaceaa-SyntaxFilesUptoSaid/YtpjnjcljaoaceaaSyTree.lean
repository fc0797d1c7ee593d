/- Trees of a source: a node, what lies below it, and where this lies in memory. -/
import Derived.Test.YtpjnjcljaoaceaaBase
namespace Go.Proofs.Ytpjnjcljaoaceaa
open Go Go.RowKit
set_option linter.unusedVariables false
/-- a node: its fields, where its kids lie, and the kids -/
inductive Nd where
  | mk (k l c : Int) (nm tx : ByteArray) (n v x : Int) (s : Bool) (a : Option Addr) (cap : Nat) (kids : List Nd)
def Nd.kids : Nd → List Nd | .mk _ _ _ _ _ _ _ _ _ _ _ ks => ks
def Nd.kind : Nd → Int | .mk k _ _ _ _ _ _ _ _ _ _ _ => k
def Nd.val : Nd → Value | .mk k l c nm tx n v x s a cap ks => .agg #[.int .i64 k, .int .i64 l, .int .i64 c, .string nm, .string tx, .int .i64 n, .int .u64 v, .int .u64 x, .bool s, .slice a ks.length cap]
def Nd.cells : Nd → Array Value | .mk k l c nm tx n v x s a cap ks => #[.int .i64 k, .int .i64 l, .int .i64 c, .string nm, .string tx, .int .i64 n, .int .u64 v, .int .u64 x, .bool s, .slice a ks.length cap]
/-- ten cells of a block hold a node -/
structure NC (w : World) (b p : Nat) (k l c : Int) (nm tx : ByteArray) (n v x : Int) (s : Bool) (a : Option Addr) (len cap : Nat) : Prop where
  c0 : w.cell? ⟨b, p, none⟩ = some (.int .i64 k)
  c1 : w.cell? ⟨b, p + 1, none⟩ = some (.int .i64 l)
  c2 : w.cell? ⟨b, p + 2, none⟩ = some (.int .i64 c)
  c3 : w.cell? ⟨b, p + 3, none⟩ = some (.string nm)
  c4 : w.cell? ⟨b, p + 4, none⟩ = some (.string tx)
  c5 : w.cell? ⟨b, p + 5, none⟩ = some (.int .i64 n)
  c6 : w.cell? ⟨b, p + 6, none⟩ = some (.int .u64 v)
  c7 : w.cell? ⟨b, p + 7, none⟩ = some (.int .u64 x)
  c8 : w.cell? ⟨b, p + 8, none⟩ = some (.bool s)
  c9 : w.cell? ⟨b, p + 9, none⟩ = some (.slice a len cap)
def NCs (w : World) (b p : Nat) : Nd → Prop | .mk k l c nm tx n v x s a cap ks => NC w b p k l c nm tx n v x s a ks.length cap
theorem NC.below {w w' : World} {b p : Nat} {k l c : Int} {nm tx : ByteArray} {n v x : Int} {s : Bool} {a : Option Addr} {len cap : Nat} (h : NC w b p k l c nm tx n v x s a len cap) (hb : Below w.heap.size w w') : NC w' b p k l c nm tx n v x s a len cap := by
  have q : b < w.heap.size := World.block_lt_of_cell? w _ h.c0
  have K : ∀ i, w'.cell? ⟨b, i, none⟩ = w.cell? ⟨b, i, none⟩ := fun i => hb.cell (p := ⟨b, i, none⟩) q
  exact ⟨(K _).trans h.c0, (K _).trans h.c1, (K _).trans h.c2, (K _).trans h.c3, (K _).trans h.c4, (K _).trans h.c5, (K _).trans h.c6, (K _).trans h.c7, (K _).trans h.c8, (K _).trans h.c9⟩
theorem NCs.below {w w' : World} {b p : Nat} : ∀ {T : Nd}, NCs w b p T → Below w.heap.size w w' → NCs w' b p T
  | .mk .., h, hb => NC.below h hb
/-- the kids of a node lie in memory -/
def Row (w : World) (a : Option Addr) (cap : Nat) (ks : List Nd) : Prop := ks.length ≤ cap ∧ (ks ≠ [] → ∃ b o, a = some ⟨b, o, none⟩ ∧ ∀ j (h : j < ks.length), NCs w b (o + j * 10) ks[j])
theorem Row.below {w w' : World} {a : Option Addr} {cap : Nat} {ks : List Nd} (h : Row w a cap ks) (hb : Below w.heap.size w w') : Row w' a cap ks :=
  ⟨h.1, fun hk => by obtain ⟨b, o, e, f⟩ := h.2 hk; exact ⟨b, o, e, fun j hj => (f j hj).below hb⟩⟩
/-- a tree lies in memory -/
inductive Nin (w : World) : Nd → Prop
  | mk {k l c : Int} {nm tx : ByteArray} {n v x : Int} {s : Bool} {a : Option Addr} {cap : Nat} {ks : List Nd} (row : Row w a cap ks) (all : ∀ T ∈ ks, Nin w T) : Nin w (.mk k l c nm tx n v x s a cap ks)
theorem Nin.keep {w w' : World} (hb : Below w.heap.size w w') {T : Nd} (h : Nin w T) : Nin w' T := by
  induction h with
  | mk row _ ih => exact .mk (row.below hb) ih
theorem Nin.row {w : World} {k l c : Int} {nm tx : ByteArray} {n v x : Int} {s : Bool} {a : Option Addr} {cap : Nat} {ks : List Nd} : Nin w (.mk k l c nm tx n v x s a cap ks) → Row w a cap ks
  | .mk r _ => r
theorem Nin.all {w : World} {k l c : Int} {nm tx : ByteArray} {n v x : Int} {s : Bool} {a : Option Addr} {cap : Nat} {ks : List Nd} : Nin w (.mk k l c nm tx n v x s a cap ks) → ∀ T ∈ ks, Nin w T
  | .mk _ h => h
mutual
/-- the number of nodes -/
def Nd.cnt : Nd → Nat | .mk _ _ _ _ _ _ _ _ _ _ _ ks => 1 + cntL ks
def cntL : List Nd → Nat
  | [] => 0
  | x :: r => x.cnt + cntL r
end
mutual
def Nd.dep : Nd → Nat | .mk _ _ _ _ _ _ _ _ _ _ _ ks => depL ks + 1
def depL : List Nd → Nat
  | [] => 0
  | x :: r => max x.dep (depL r)
end
theorem cnt_pos : ∀ T : Nd, 1 ≤ T.cnt
  | .mk .. => by unfold Nd.cnt; omega
theorem cntL_mem {T : Nd} : ∀ {ks : List Nd}, T ∈ ks → T.cnt ≤ cntL ks
  | x :: r, h => by
    unfold cntL
    rcases List.mem_cons.1 h with rfl | h
    · omega
    · have := cntL_mem h; omega
theorem depL_mem {T : Nd} : ∀ {ks : List Nd}, T ∈ ks → T.dep ≤ depL ks
  | x :: r, h => by
    unfold depL
    rcases List.mem_cons.1 h with rfl | h
    · omega
    · have := depL_mem h; omega
theorem len_cntL : ∀ ks : List Nd, ks.length ≤ cntL ks
  | [] => Nat.le_refl _
  | x :: r => by have := len_cntL r; have := cnt_pos x; unfold cntL; simp; omega
mutual
theorem dep_le : ∀ T : Nd, T.dep ≤ T.cnt
  | .mk _ _ _ _ _ _ _ _ _ _ _ ks => by have := depL_le ks; unfold Nd.dep Nd.cnt; omega
theorem depL_le : ∀ ks : List Nd, depL ks ≤ cntL ks
  | [] => Nat.le_refl _
  | x :: r => by have := dep_le x; have := depL_le r; unfold depL cntL; omega
end
theorem cntL_take : ∀ (ks : List Nd) (j : Nat) (h : j < ks.length), cntL (ks.take (j + 1)) = cntL (ks.take j) + ks[j].cnt
  | x :: r, 0, _ => by simp [cntL]
  | x :: r, j + 1, h => by
    have := cntL_take r j (by simpa using h)
    simp only [List.take_succ_cons, cntL, List.getElem_cons_succ]
    omega
theorem depL_take : ∀ (ks : List Nd) (j : Nat) (h : j < ks.length), depL (ks.take (j + 1)) = max (depL (ks.take j)) ks[j].dep
  | x :: r, 0, _ => by simp [depL]
  | x :: r, j + 1, h => by
    have := depL_take r j (by simpa using h)
    simp only [List.take_succ_cons, depL, List.getElem_cons_succ]
    omega
theorem cntL_take_le (ks : List Nd) (j : Nat) : cntL (ks.take j) ≤ cntL ks := by
  induction ks generalizing j with
  | nil => simp
  | cons x r ih => cases j <;> simp [cntL]; exact ih _
theorem depL_take_le (ks : List Nd) (j : Nat) : depL (ks.take j) ≤ depL ks := by
  induction ks generalizing j with
  | nil => simp
  | cons x r ih => cases j <;> simp [depL]; have := ih ‹_›; omega
end Go.Proofs.Ytpjnjcljaoaceaa
