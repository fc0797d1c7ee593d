/- The steps of a walk through a region that draws its order, in the order of the text. No condition. -/
import Derived.Test.YtimojbjamfckmaaRelB
import Derived.Tactics
import Derived.Tactics2
import Derived.KernelRfl
namespace Go.Proofs.Ytimojbjamfckmaa
open Go Go.RowKit Go.Sort
set_option linter.unusedVariables false
theorem below_self (B : Nat) (w : World) : Below B w w = True := eq_true (Below.refl B w)
attribute [go_sem] relAt relUpon below_self relAll
theorem rel_nil {P : Program} {ops : Array Oper} {w : World} {Q : Act → World → Prop} {E : En} {a : Act} (h : ∀ d os, relAll E a (grow (redrawn w d) os) fun a' => Q a' (grow (redrawn w d) os)) : wpRel P ops w Q [] E a := h
/-- an operation of which its value is known, and which looks at no slot of which facts alone are known -/
theorem rel_fix {P : Program} {ops : Array Oper} {w : World} {Q : Act → World → Prop} {E : En} {a : Act} {o : Oper} {l : List Oper} (hE : lookE ops o E = []) (hg : guardFree ops o E = true)
    (h : ∀ K : Act → Prop, (∀ a, wpRel P ops w Q l E a → K a) → if Region.wanted o (yielded ops a.tmps) then ∃ v, (∀ d os, relAt P o a (grow (redrawn w d) os) fun u _ => u = v) ∧ K (a.put o.dst v) else K (a.put o.dst undef)) : wpRel P ops w Q (o :: l) E a := by
  refine ⟨hg, ?_⟩
  have := h _ fun _ h => h
  split at this
  · rename_i hw
    rw [if_pos hw]
    obtain ⟨v, h1, h2⟩ := this
    exact .inl ⟨v, fun d os => by rw [hE]; exact h1 d os, h2⟩
  · rename_i hw
    rw [if_neg hw]; exact this
/-- the same for no such slot -/
theorem rel_fix0 {P : Program} {ops : Array Oper} {w : World} {Q : Act → World → Prop} {a : Act} {o : Oper} {l : List Oper}
    (h : ∀ K : Act → Prop, (∀ a, wpRel P ops w Q l [] a → K a) → if Region.wanted o (yielded ops a.tmps) then ∃ v, (∀ d os, relAt P o a (grow (redrawn w d) os) fun u _ => u = v) ∧ K (a.put o.dst v) else K (a.put o.dst undef)) : wpRel P ops w Q (o :: l) [] a :=
  rel_fix rfl (by unfold guardFree; split; · rfl
                  · split <;> rfl) h
/-- an operation of which its value is known, and which looks at the slots E' -/
theorem rel_use {P : Program} {ops : Array Oper} {w : World} {Q : Act → World → Prop} {E : En} {a : Act} {o : Oper} {l : List Oper} (E' : En) (v : Value) (hE : lookE ops o E = E') (hg : guardFree ops o E = true) (hw : Region.wanted o (yielded ops a.tmps) = true)
    (h1 : ∀ d os, relAll E' a (grow (redrawn w d) os) fun a' => relAt P o a' (grow (redrawn w d) os) fun u _ => u = v) (h2 : wpRel P ops w Q l E (a.put o.dst v)) : wpRel P ops w Q (o :: l) E a := by
  refine ⟨hg, ?_⟩
  rw [if_pos hw]
  exact .inl ⟨v, fun d os => by rw [hE]; exact h1 d os, h2⟩
/-- an operation of whose value a fact alone is known -/
theorem rel_fact {P : Program} {ops : Array Oper} {w : World} {Q : Act → World → Prop} {E : En} {a : Act} {o : Oper} {l : List Oper} (E' : En) (F : Fa) (t : Tmp) (hd : o.dst = some t) (ht : t < a.tmps.size) (hF : Sta F) (hE : lookE ops o E = E') (hg : guardFree ops o E = true) (hw : Region.wanted o (yielded ops a.tmps) = true)
    (h1 : ∀ d os, relAll E' a (grow (redrawn w d) os) fun a' => relAt P o a' (grow (redrawn w d) os) F) (h2 : wpRel P ops w Q l ((t, F) :: E) a) : wpRel P ops w Q (o :: l) E a := by
  refine ⟨hg, ?_⟩
  rw [if_pos hw]
  exact .inr ⟨t, F, hd, ht, hF, fun d os => by rw [hE]; exact h1 d os, h2⟩
theorem ret_fix {P : Program} {f : FuncId} {args : Array Value} {w : World} {v : Value} (h : Calls P f args w fun e w' => e = .returned v ∧ Below w.heap.size w w') : Calls P f args w (RetF (fun u _ => u = v) w) :=
  h.mono fun _ _ ⟨he, hb⟩ => ⟨v, he, rfl, hb⟩
theorem ret_same {P : Program} {f : FuncId} {args : Array Value} {w : World} {v : Value} (h : Calls P f args w fun e w' => e = .returned v ∧ w = w') : Calls P f args w (RetF (fun u _ => u = v) w) :=
  h.mono fun _ w' ⟨he, hb⟩ => ⟨v, he, rfl, hb ▸ Below.refl _ _⟩
theorem ret_fact {P : Program} {f : FuncId} {args : Array Value} {w : World} {F : Fa} (h : Calls P f args w fun e w' => ∃ v, e = .returned v ∧ F v w' ∧ Below w.heap.size w w') : Calls P f args w (RetF F w) := h
/-- a new slice of one byte -/
def One8 (z : Nat) : Fa := fun v w => ∃ b, v = .slice (some ⟨b, 0, none⟩) 1 1 ∧ w.cell? ⟨b, 0, none⟩ = some (.int .u8 (z : Int))
theorem one8_sta (z : Nat) : Sta (One8 z) := fun v w w' ⟨b, h1, h2⟩ hb => ⟨b, h1, (hb.cell (p := ⟨b, 0, none⟩) (World.block_lt_of_cell? w _ h2)).trans h2⟩
theorem own_below {w w' : World} {base : Nat} {e : TypeId} {size : Nat} {v : Value} {n : Nat} {xs : List Value} (h : w.ownsRow base e size v n xs) (hb : Below w.heap.size w w') : w'.ownsRow base e size v n xs :=
  h.kept (row := none) ⟨hb.os, hb.tape, hb.output, hb.size, fun k hk _ => hb.block k hk⟩ (by cases hv : v.ownBlock <;> simp)
end Go.Proofs.Ytimojbjamfckmaa
