/- The steps of a walk through a region that draws its order and reads a stream. No condition. -/
import Derived.Test.YtmaokbdjahgkiaaGreatDoorRels
import Derived.Test.YtmaokbdjahgkiaaGreatDoorInAll
import Derived.Test.YtmaokbdjahgkiaaGreatDoorDigits
import Derived.Tactics
import Derived.Tactics2
import Derived.KernelRfl
namespace Go.Proofs.YtmaokbdjahgkiaaGreatDoor.Rels
open Go Go.RowKit Go.Sort
set_option linter.unusedVariables false
section
variable {G : World → World → Prop} {J : Nat → World → Prop} {N : Nat}
theorem rel_nil {P : Program} {ops : Array Oper} {w : World} {Q : Act → World → Prop} {E : En} {a : Act} (h : ∀ W, G w W → J N W → relAll E a W fun a' => Q a' W) : wpRel G J N P ops w Q [] E a := h
/-- an operation of which its value is known, and which looks at no slot of which facts alone are known -/
theorem rel_fix {P : Program} {ops : Array Oper} {w : World} {Q : Act → World → Prop} {E : En} {a : Act} {o : Oper} {l : List Oper} (hE : lookE ops o E = []) (hg : guardFree ops o E = true)
    (h : ∀ K : Act → Prop, (∀ a, wpRel G J N P ops w Q l E a → K a) → if Region.wanted o (yielded ops a.tmps) then ∃ v, (∀ W i, i < N → G w W → J i W → relAt G J i P o a W fun u _ => u = v) ∧ K (a.put o.dst v) else isA o = false ∧ K (a.put o.dst undef)) : wpRel G J N P ops w Q (o :: l) E a := by
  refine ⟨hg, ?_⟩
  have := h _ fun _ h => h
  split at this
  · rename_i hw
    rw [if_pos hw]
    obtain ⟨v, h1, h2⟩ := this
    exact .inl ⟨v, fun W i h3 h4 h5 => by rw [hE]; exact h1 W i h3 h4 h5, h2⟩
  · rename_i hw
    rw [if_neg hw]; exact this
/-- an operation of which its value is known, and which looks at the slots E' -/
theorem rel_use {P : Program} {ops : Array Oper} {w : World} {Q : Act → World → Prop} {E : En} {a : Act} {o : Oper} {l : List Oper} (E' : En) (v : Value) (hE : lookE ops o E = E') (hg : guardFree ops o E = true) (hw : Region.wanted o (yielded ops a.tmps) = true)
    (h1 : ∀ W i, i < N → G w W → J i W → relAll E' a W fun a' => relAt G J i P o a' W fun u _ => u = v) (h2 : wpRel G J N P ops w Q l E (a.put o.dst v)) : wpRel G J N P ops w Q (o :: l) E a := by
  refine ⟨hg, ?_⟩
  rw [if_pos hw]
  exact .inl ⟨v, fun W i h3 h4 h5 => by rw [hE]; exact h1 W i h3 h4 h5, h2⟩
/-- an operation of whose value a fact alone is known -/
theorem rel_fact {P : Program} {ops : Array Oper} {w : World} {Q : Act → World → Prop} {E : En} {a : Act} {o : Oper} {l : List Oper} (E' : En) (F : Fa) (t : Tmp) (hd : o.dst = some t) (ht : t < a.tmps.size) (hF : Sta G F) (hE : lookE ops o E = E') (hg : guardFree ops o E = true) (hw : Region.wanted o (yielded ops a.tmps) = true)
    (h1 : ∀ W i, i < N → G w W → J i W → relAll E' a W fun a' => relAt G J i P o a' W F) (h2 : wpRel G J N P ops w Q l ((t, F) :: E) a) : wpRel G J N P ops w Q (o :: l) E a := by
  refine ⟨hg, ?_⟩
  rw [if_pos hw]
  exact .inr ⟨t, F, hd, ht, hF, fun W i h3 h4 h5 => by rw [hE]; exact h1 W i h3 h4 h5, h2⟩
theorem pin_no {w w' : World} {u : Value} : Pin false w u w' := fun h => by cases h
/-- what an operation that leaves the memory alone hands back -/
def quietAt (P : Program) (o : Oper) (a : Act) (w : World) (F : Value → Prop) : Prop :=
  match (execOp a.eval o).run P w with
  | .ok (.value u) w' => F u ∧ w' = w
  | .ok .skip w' => F undef ∧ w' = w
  | _ => False
theorem quietAt.rel (S : Sys G J) {P : Program} {o : Oper} {a : Act} {w : World} {i : Nat} {F : Fa} (hA : isA o = false) (hj : J i w) (h : quietAt P o a w (fun u => F u w)) : relAt G J i P o a w F := by
  unfold quietAt at h
  unfold relAt
  generalize (execOp a.eval o).run P w = r at h ⊢
  cases r with
  | halt x w' => exact h
  | ok nx w' =>
    cases nx with
    | value u => obtain ⟨h1, rfl⟩ := h; exact ⟨h1, S.refl _, S.mono hj (Nat.le_succ i), by rw [hA]; exact pin_no⟩
    | skip => obtain ⟨h1, rfl⟩ := h; exact ⟨h1, S.refl _, S.mono hj (Nat.le_succ i), hA⟩
    | _ => exact h.elim
/-- a quiet operation of which its value is known, and which looks at the slots E' -/
theorem rel_q {P : Program} {ops : Array Oper} {w : World} {Q : Act → World → Prop} {E : En} {a : Act} {o : Oper} {l : List Oper} (S : Sys G J) (hE : lookE ops o E = []) (hg : guardFree ops o E = true) (hw : Region.wanted o (yielded ops a.tmps) = true) (hA : isA o = false)
    (h : ∃ v, (∀ W, G w W → quietAt P o a W (· = v)) ∧ ∀ K : Act → Prop, (∀ a, wpRel G J N P ops w Q l E a → K a) → K (a.put o.dst v)) : wpRel G J N P ops w Q (o :: l) E a := by
  obtain ⟨v, h1, h2⟩ := h
  exact rel_use [] v hE hg hw (fun W i h3 h4 h5 => quietAt.rel S hA h5 (h1 W h4)) (h2 _ fun _ h => h)
theorem relAll_mono : ∀ (E : En) (a : Act) (w : World) (K K' : Act → Prop), (∀ a, K a → K' a) → relAll E a w K → relAll E a w K'
  | [], a, _, _, _, h, k => h a k
  | e :: E, a, w, K, K', h, k => fun v hv => relAll_mono E _ w K K' h (k v hv)
/-- a quiet operation of whose value a fact alone is known -/
theorem rel_qf {P : Program} {ops : Array Oper} {w : World} {Q : Act → World → Prop} {E : En} {a : Act} {o : Oper} {l : List Oper} (S : Sys G J) (E' : En) (F : Value → Prop) (t : Tmp) (hd : o.dst = some t) (ht : t < a.tmps.size) (hE : lookE ops o E = E') (hg : guardFree ops o E = true) (hw : Region.wanted o (yielded ops a.tmps) = true) (hA : isA o = false)
    (h1 : ∀ W, G w W → relAll E' a W fun a' => quietAt P o a' W F) (h2 : wpRel G J N P ops w Q l ((t, fun v _ => F v) :: E) a) : wpRel G J N P ops w Q (o :: l) E a :=
  rel_fact E' (fun v _ => F v) t hd ht (fun _ _ _ h _ => h) hE hg hw (fun W i h3 h4 h5 => relAll_mono E' a W _ _ (fun a' h6 => quietAt.rel S hA h5 h6) (h1 W h4)) h2
end
/-- the relation of a program that reads the stream at b: all else is kept -/
def GS (b : Nat) (w w' : World) : Prop := w.grownBy w' (some b)
/-- and what it has read so far -/
def JS (b : Nat) (ad : Option Addr) (len cap K c : Nat) (i : Nat) (w : World) : Prop := ∃ k, k ≤ K + c * i ∧ Str b ad len cap k w
theorem sysS (b : Nat) (ad : Option Addr) (len cap K c : Nat) : Sys (GS b) (JS b ad len cap K c) :=
  ⟨fun w => grown_refl w _, fun h k => grown_trans h k, fun h => grown_below _ h, fun ⟨k, hk, s⟩ hij => ⟨k, Nat.le_trans hk (Nat.add_le_add_left (Nat.mul_le_mul_left c hij) K), s⟩, fun h => h.size, fun ⟨k, hk, s⟩ hb => ⟨k, hk, s.below hb⟩⟩
theorem gs_cell {b : Nat} {w W : World} (hg : GS b w W) {p o : Nat} {v : Value} (hne : b ≠ p) (h : w.cell? ⟨p, o, none⟩ = some v) : W.cell? ⟨p, o, none⟩ = some v :=
  ((grown_cell hg (World.block_lt_of_cell? w _ h) hne).1 o).trans h
/-- a call that reads at most c numbers of the stream -/
theorem ret_adv {b : Nat} {ad : Option Addr} {len cap K c i k c0 : Nat} {w w' : World} {F : Fa} {v : Value} (hk : k ≤ K + c * i) (hc : c0 ≤ c) (hF : F v w') (A : Adv b ad len cap k c0 w w') : RetF (GS b) (JS b ad len cap K c) i F w (.returned v) w' := by
  obtain ⟨k1, hk1, s1⟩ := A.st
  exact ⟨v, rfl, hF, A.gr, k1, by rw [Nat.mul_add, Nat.mul_one]; omega, s1⟩
theorem gs_box {b : Nat} {w W : World} (hg : GS b w W) {p : Nat} {n v x : Int} (hne : p ≠ b) (h : Box w p n v x) : Box W p n v x :=
  ⟨gs_cell hg (Ne.symm hne) h.c0, gs_cell hg (Ne.symm hne) h.c1, gs_cell hg (Ne.symm hne) h.c2, fun o => ((grown_cell hg h.lt (Ne.symm hne)).2.1 o).trans (h.fz o)⟩
/-- a new variable: a vector of no bits -/
def New3 (b lo : Nat) : Fa := fun v w => ∃ p, v = .pointer (some ⟨p, 0, none⟩) ∧ lo ≤ p ∧ p ≠ b ∧ Box w p 0 0 0
theorem new3_sta (b lo : Nat) : Sta (GS b) (New3 b lo) := fun v w w' ⟨p, h1, h2, h3, h4⟩ hg => ⟨p, h1, h2, h3, gs_box hg h3 h4⟩
theorem new3_alloc {b : Nat} {ad : Option Addr} {len cap K c i k lo : Nat} {W : World} (hlo : lo ≤ W.heap.size) (hk : k ≤ K + c * i) (s : Str b ad len cap k W) :
    New3 b lo (.pointer (some ⟨W.heap.size, 0, none⟩)) (W.alloc (.cells #[.int .i64 0, .int .u64 0, .int .u64 0] 29)) ∧ GS b W (W.alloc (.cells #[.int .i64 0, .int .u64 0, .int .u64 0] 29)) ∧ JS b ad len cap K c (i + 1) (W.alloc (.cells #[.int .i64 0, .int .u64 0, .int .u64 0] 29)) ∧ Pin true W (.pointer (some ⟨W.heap.size, 0, none⟩)) (W.alloc (.cells #[.int .i64 0, .int .u64 0, .int .u64 0] 29)) := by
  have hB : Below W.heap.size W (W.alloc (.cells #[.int .i64 0, .int .u64 0, .int .u64 0] 29)) := (Below.refl _ _).alloc (Nat.le_refl _) _
  have hb : b < W.heap.size := World.block_lt_of_cell? W _ s.c0
  exact ⟨⟨_, rfl, hlo, by omega, Box.new W 0 0 0⟩, grown_below _ hB, ⟨k, by rw [Nat.mul_add, Nat.mul_one]; omega, s.below hB⟩, fun _ => ⟨_, rfl, Nat.le_refl _, by simp⟩⟩
/-- a vector of n bits, whatever its states -/
def VecF (n : Nat) : Fa := fun v _ => ∃ V : Vx, V.ok n ∧ v = .agg #[.int .i64 n, .int .u64 (U V.v), .int .u64 (U V.x)]
theorem vecF_sta (n : Nat) (G : World → World → Prop) : Sta G (VecF n) := fun _ _ _ h _ => h
attribute [go_sem] relAt relUpon quietAt isA
end Go.Proofs.YtmaokbdjahgkiaaGreatDoor.Rels
