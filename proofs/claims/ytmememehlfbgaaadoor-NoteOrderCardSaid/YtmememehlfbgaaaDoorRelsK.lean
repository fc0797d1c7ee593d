/- The steps of a walk through a region that draws its order and keeps a relation. No condition. -/
import Derived.Test.YtmememehlfbgaaaDoorRels
import Derived.Tactics
import Derived.Tactics2
import Derived.KernelRfl
namespace Go.Proofs.YtmememehlfbgaaaDoor.Rels
open Go Go.RowKit Go.Sort
set_option linter.unusedVariables false
section
variable {G : World → World → Prop} {J : Nat → World → Prop} {N : Nat}
theorem rel_nil {P : Program} {ops : Array Oper} {w : World} {Q : Act → World → Prop} {E : En} {a : Act} (h : ∀ W, G w W → J N W → relAll E a W fun a' => Q a' W) : wpRel G J N P ops w Q [] E a := h
/-- an operation of which its value is known, and which looks at no slot of which facts alone are known -/
theorem rel_fix {P : Program} {ops : Array Oper} {w : World} {Q : Act → World → Prop} {E : En} {a : Act} {o : Oper} {l : List Oper} (hE : lookE ops o E = []) (hg : guardFree ops o E = true)
    (h : ∀ K : Act → Prop, (∀ a, wpRel G J N P ops w Q l E a → K a) → if Region.wanted o (yielded ops a.tmps) then ∃ v, (∀ W i, i < N → G w W → J i W → relAt G J i P o a W fun u _ => u = v) ∧ K (a.put o.dst v) else isA o = false ∧ K (a.put o.dst undef)) : wpRel G J N P ops w Q (o :: l) E a := by
  refine ⟨hg, ?_⟩
  have := h _ fun _ h => h
  split at this
  · rename_i hw
    rw [if_pos hw]
    obtain ⟨v, h1, h2⟩ := this
    exact .inl ⟨v, fun W i h3 h4 h5 => by rw [hE]; exact h1 W i h3 h4 h5, h2⟩
  · rename_i hw
    rw [if_neg hw]; exact this
/-- an operation of which its value is known, and which looks at the slots E' -/
theorem rel_use {P : Program} {ops : Array Oper} {w : World} {Q : Act → World → Prop} {E : En} {a : Act} {o : Oper} {l : List Oper} (E' : En) (v : Value) (hE : lookE ops o E = E') (hg : guardFree ops o E = true) (hw : Region.wanted o (yielded ops a.tmps) = true)
    (h1 : ∀ W i, i < N → G w W → J i W → relAll E' a W fun a' => relAt G J i P o a' W fun u _ => u = v) (h2 : wpRel G J N P ops w Q l E (a.put o.dst v)) : wpRel G J N P ops w Q (o :: l) E a := by
  refine ⟨hg, ?_⟩
  rw [if_pos hw]
  exact .inl ⟨v, fun W i h3 h4 h5 => by rw [hE]; exact h1 W i h3 h4 h5, h2⟩
/-- an operation of whose value a fact alone is known -/
theorem rel_fact {P : Program} {ops : Array Oper} {w : World} {Q : Act → World → Prop} {E : En} {a : Act} {o : Oper} {l : List Oper} (E' : En) (F : Fa) (t : Tmp) (hd : o.dst = some t) (ht : t < a.tmps.size) (hF : Sta G F) (hE : lookE ops o E = E') (hg : guardFree ops o E = true) (hw : Region.wanted o (yielded ops a.tmps) = true)
    (h1 : ∀ W i, i < N → G w W → J i W → relAll E' a W fun a' => relAt G J i P o a' W F) (h2 : wpRel G J N P ops w Q l ((t, F) :: E) a) : wpRel G J N P ops w Q (o :: l) E a := by
  refine ⟨hg, ?_⟩
  rw [if_pos hw]
  exact .inr ⟨t, F, hd, ht, hF, fun W i h3 h4 h5 => by rw [hE]; exact h1 W i h3 h4 h5, h2⟩
theorem pin_no {w w' : World} {u : Value} : Pin false w u w' := fun h => by cases h
/-- what an operation that leaves the memory alone hands back -/
def quietAt (P : Program) (o : Oper) (a : Act) (w : World) (F : Value → Prop) : Prop :=
  match (execOp a.eval o).run P w with
  | .ok (.value u) w' => F u ∧ w' = w
  | .ok .skip w' => F undef ∧ w' = w
  | _ => False
theorem quietAt.rel (S : Sys G J) {P : Program} {o : Oper} {a : Act} {w : World} {i : Nat} {F : Fa} (hA : isA o = false) (hj : J i w) (h : quietAt P o a w (fun u => F u w)) : relAt G J i P o a w F := by
  unfold quietAt at h
  unfold relAt
  generalize (execOp a.eval o).run P w = r at h ⊢
  cases r with
  | halt x w' => exact h
  | ok nx w' =>
    cases nx with
    | value u => obtain ⟨h1, rfl⟩ := h; exact ⟨h1, S.refl _, S.mono hj (Nat.le_succ i), by rw [hA]; exact pin_no⟩
    | skip => obtain ⟨h1, rfl⟩ := h; exact ⟨h1, S.refl _, S.mono hj (Nat.le_succ i), hA⟩
    | _ => exact h.elim
/-- a quiet operation of which its value is known, and which looks at the slots E' -/
theorem rel_q {P : Program} {ops : Array Oper} {w : World} {Q : Act → World → Prop} {E : En} {a : Act} {o : Oper} {l : List Oper} (S : Sys G J) (hE : lookE ops o E = []) (hg : guardFree ops o E = true) (hw : Region.wanted o (yielded ops a.tmps) = true) (hA : isA o = false)
    (h : ∃ v, (∀ W, G w W → quietAt P o a W (· = v)) ∧ ∀ K : Act → Prop, (∀ a, wpRel G J N P ops w Q l E a → K a) → K (a.put o.dst v)) : wpRel G J N P ops w Q (o :: l) E a := by
  obtain ⟨v, h1, h2⟩ := h
  exact rel_use [] v hE hg hw (fun W i h3 h4 h5 => quietAt.rel S hA h5 (h1 W h4)) (h2 _ fun _ h => h)
theorem relAll_mono : ∀ (E : En) (a : Act) (w : World) (K K' : Act → Prop), (∀ a, K a → K' a) → relAll E a w K → relAll E a w K'
  | [], a, _, _, _, h, k => h a k
  | e :: E, a, w, K, K', h, k => fun v hv => relAll_mono E _ w K K' h (k v hv)
/-- a quiet operation of whose value a fact alone is known -/
theorem rel_qf {P : Program} {ops : Array Oper} {w : World} {Q : Act → World → Prop} {E : En} {a : Act} {o : Oper} {l : List Oper} (S : Sys G J) (E' : En) (F : Value → Prop) (t : Tmp) (hd : o.dst = some t) (ht : t < a.tmps.size) (hE : lookE ops o E = E') (hg : guardFree ops o E = true) (hw : Region.wanted o (yielded ops a.tmps) = true) (hA : isA o = false)
    (h1 : ∀ W, G w W → relAll E' a W fun a' => quietAt P o a' W F) (h2 : wpRel G J N P ops w Q l ((t, fun v _ => F v) :: E) a) : wpRel G J N P ops w Q (o :: l) E a :=
  rel_fact E' (fun v _ => F v) t hd ht (fun _ _ _ h _ => h) hE hg hw (fun W i h3 h4 h5 => relAll_mono E' a W _ _ (fun a' h6 => quietAt.rel S hA h5 h6) (h1 W h4)) h2
end
attribute [go_sem] relAt relUpon quietAt isA
end Go.Proofs.YtmememehlfbgaaaDoor.Rels
