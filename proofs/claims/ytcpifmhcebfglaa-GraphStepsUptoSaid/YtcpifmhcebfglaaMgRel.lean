/- Regions that draw their order, walked once in the order of the text: operations that only add to the memory, of which some hand back a value of which a stable fact alone is known (a new slice, say). No condition.
   Regions that draw their order, walked once in the order of the text: whatever order is drawn. No condition.
   The steps of a walk through a region that draws its order, in the order of the text. No condition. -/
import Derived.StillTail
import Derived.Lib.QuietBelow
import Derived.Tactics
import Derived.Tactics2
import Derived.KernelRfl
namespace Go.Proofs.Ytcpifmhcebfglaa
open Go Go.RowKit Go.Sort
set_option linter.unusedVariables false
/-- a fact about a value and the memory that stays when the memory grows -/
abbrev Fa := Value → World → Prop
def Sta (F : Fa) : Prop := ∀ v w w', F v w → Below w.heap.size w w' → F v w'
/-- how a call that only adds to the memory ends -/
def RetF (F : Fa) (w : World) (e : Ending) (w' : World) : Prop := ∃ v, e = .returned v ∧ F v w' ∧ Below w.heap.size w w'
/-- what is asked of an operation that only adds to the memory -/
def relUpon (P : Program) (w : World) (F : Fa) : Result Next → Prop
  | .ok (.value u) w' => F u w' ∧ Below w.heap.size w w'
  | .ok .skip w' => F undef w' ∧ Below w.heap.size w w'
  | .ok (.enter f args) w' => w' = w ∧ Calls P f args w (RetF F w)
  | _ => False
def relAt (P : Program) (o : Oper) (a : Act) (w : World) (F : Fa) : Prop := relUpon P w F ((execOp a.eval o).run P w)
/-- the slots of which facts alone are known -/
abbrev En := List (Tmp × Fa)
def fillE (E : En) (f : Tmp → Value) (a : Act) : Act := E.foldl (fun a e => a.put (some e.1) (f e.1)) a
def relAll : En → Act → World → (Act → Prop) → Prop
  | [], a, _, K => K a
  | e :: E, a, w, K => ∀ v, e.2 v w → relAll E (a.put (some e.1) v) w K
theorem relAll_use : ∀ (E : En) (a : Act) (w : World) (K : Act → Prop) (f : Tmp → Value), relAll E a w K → (∀ e ∈ E, e.2 (f e.1) w) → K (fillE E f a)
  | [], _, _, _, _, h, _ => h
  | e :: E, a, w, K, f, h, hf => relAll_use E _ w K f (h (f e.1) (hf e List.mem_cons_self)) fun e' he' => hf e' (List.mem_cons_of_mem _ he')
def lookE (ops : Array Oper) (o : Oper) (E : En) : En := E.filter fun e => (o.looksAt ops).contains e.1
def guardFree (ops : Array Oper) (o : Oper) (E : En) : Bool :=
  match o.guard with
  | none => true
  | some (g, _) => match (ops[g]?).bind (·.dst) with
    | none => true
    | some t => E.all fun e => e.1 != t
/-- THE WALK in the order of the text -/
def wpRel (P : Program) (ops : Array Oper) (w : World) (Q : Act → World → Prop) : List Oper → En → Act → Prop
  | [], E, a => ∀ d os, relAll E a (grow (redrawn w d) os) fun a' => Q a' (grow (redrawn w d) os)
  | o :: l, E, a => guardFree ops o E = true ∧
    if Region.wanted o (yielded ops a.tmps) then
      (∃ v, (∀ d os, relAll (lookE ops o E) a (grow (redrawn w d) os) fun a' => relAt P o a' (grow (redrawn w d) os) fun u _ => u = v) ∧ wpRel P ops w Q l E (a.put o.dst v)) ∨
      (∃ t F, o.dst = some t ∧ t < a.tmps.size ∧ Sta F ∧ (∀ d os, relAll (lookE ops o E) a (grow (redrawn w d) os) fun a' => relAt P o a' (grow (redrawn w d) os) F) ∧ wpRel P ops w Q l ((t, F) :: E) a)
    else wpRel P ops w Q l E (a.put o.dst undef)
/-- the same, up to an end that is named -/
def Lex (P : Program) (ops : Array Oper) (w : World) : List Oper → En → Act → En → Act → Prop
  | [], E, a, Ef, af => Ef = E ∧ af = a
  | o :: l, E, a, Ef, af => guardFree ops o E = true ∧
    ((Region.wanted o (yielded ops a.tmps) = true ∧
      ((∃ v, (∀ d os, relAll (lookE ops o E) a (grow (redrawn w d) os) fun a' => relAt P o a' (grow (redrawn w d) os) fun u _ => u = v) ∧ Lex P ops w l E (a.put o.dst v) Ef af) ∨
       (∃ t F, o.dst = some t ∧ t < a.tmps.size ∧ Sta F ∧ (∀ d os, relAll (lookE ops o E) a (grow (redrawn w d) os) fun a' => relAt P o a' (grow (redrawn w d) os) F) ∧ Lex P ops w l ((t, F) :: E) a Ef af))) ∨
     (Region.wanted o (yielded ops a.tmps) = false ∧ Lex P ops w l E (a.put o.dst undef) Ef af))
theorem wpRel_lex {P : Program} {ops : Array Oper} {w : World} {Q : Act → World → Prop} : ∀ (l : List Oper) (E : En) (a : Act), wpRel P ops w Q l E a →
    ∃ Ef af, Lex P ops w l E a Ef af ∧ ∀ d os, relAll Ef af (grow (redrawn w d) os) fun a' => Q a' (grow (redrawn w d) os)
  | [], E, a, h => ⟨E, a, ⟨rfl, rfl⟩, h⟩
  | o :: l, E, a, h => by
    obtain ⟨hg, h⟩ := h
    split at h
    · rename_i hw
      rcases h with ⟨v, h1, h2⟩ | ⟨t, F, h1, h2, h3, h4, h5⟩
      · obtain ⟨Ef, af, hl, hq⟩ := wpRel_lex l _ _ h2
        exact ⟨Ef, af, ⟨hg, .inl ⟨hw, .inl ⟨v, h1, hl⟩⟩⟩, hq⟩
      · obtain ⟨Ef, af, hl, hq⟩ := wpRel_lex l _ _ h5
        exact ⟨Ef, af, ⟨hg, .inl ⟨hw, .inr ⟨t, F, h1, h2, h3, h4, hl⟩⟩⟩, hq⟩
    · rename_i hw
      obtain ⟨Ef, af, hl, hq⟩ := wpRel_lex l _ _ h
      exact ⟨Ef, af, ⟨hg, .inr ⟨by simpa using hw, hl⟩⟩, hq⟩
/-- what a slot may hold -/
def Slot (E : En) (a : Act) (t : Tmp) (u : Option Value) (w : World) : Prop :=
  (∀ e ∈ E, e.1 = t → ∃ v, u = some v ∧ e.2 v w) ∧ ((∀ e ∈ E, e.1 ≠ t) → u = a.tmps[t]?)
theorem put_get (a : Act) (x : Option Tmp) (v : Value) (t : Tmp) : (a.put x v).tmps[t]? = if x = some t ∧ t < a.tmps.size then some v else a.tmps[t]? := by
  cases x with
  | none => simp [Act.put]
  | some d =>
    simp only [Act.put, Option.some.injEq, Array.getElem?_setIfInBounds]
    by_cases h : d = t
    · subst h
      by_cases h2 : d < a.tmps.size
      · simp [h2]
      · simp [h2]
    · simp [h]
theorem put_size (a : Act) (x : Option Tmp) (v : Value) : (a.put x v).tmps.size = a.tmps.size := by cases x <;> simp [Act.put]
theorem put_def (a : Act) (x : Option Tmp) (v : Value) : (a.put x v).defers = a.defers := by cases x <;> rfl
theorem slot_put {E : En} {a : Act} {x : Option Tmp} {v : Value} {t : Tmp} (h : x ≠ some t) (u : Option Value) (w : World) : Slot E (a.put x v) t u w ↔ Slot E a t u w := by
  unfold Slot; rw [put_get, if_neg (fun h2 => h h2.1)]
theorem slot_cons {E : En} {a : Act} {t' : Tmp} {F : Fa} {t : Tmp} (h : t' ≠ t) (u : Option Value) (w : World) : Slot ((t', F) :: E) a t u w ↔ Slot E a t u w := by
  unfold Slot
  constructor
  · rintro ⟨h1, h2⟩
    exact ⟨fun e he => h1 e (List.mem_cons_of_mem _ he), fun hn => h2 fun e he => by
      rcases List.mem_cons.1 he with rfl | he
      · exact h
      · exact hn e he⟩
  · rintro ⟨h1, h2⟩
    exact ⟨fun e he ht => by
      rcases List.mem_cons.1 he with rfl | he
      · exact absurd ht h
      · exact h1 e he ht, fun hn => h2 fun e he => hn e (List.mem_cons_of_mem _ he)⟩
def dsts (l : List Oper) : List Tmp := l.filterMap (·.dst)
theorem dsts_cons_some {o : Oper} {l : List Oper} {t : Tmp} (h : o.dst = some t) : dsts (o :: l) = t :: dsts l := by simp [dsts, h]
theorem dst_ne {o : Oper} {l : List Oper} {t : Tmp} (h : t ∉ dsts (o :: l)) : o.dst ≠ some t := fun e => h (by simp [dsts, e])
theorem dsts_tail {o : Oper} {l : List Oper} {t : Tmp} (h : t ∉ dsts (o :: l)) : t ∉ dsts l := fun e => h (by
  unfold dsts at e ⊢; rw [List.filterMap_cons]; split
  · exact e
  · exact List.mem_cons_of_mem _ e)
theorem Lex.size {P : Program} {ops : Array Oper} {w : World} : ∀ {l : List Oper} {E : En} {a : Act} {Ef : En} {af : Act}, Lex P ops w l E a Ef af → af.tmps.size = a.tmps.size ∧ af.defers = a.defers
  | [], E, a, Ef, af, h => by rw [h.2]; exact ⟨rfl, rfl⟩
  | o :: l, E, a, Ef, af, h => by
    rcases h.2 with ⟨_, ⟨v, _, h2⟩ | ⟨t, F, _, _, _, _, h2⟩⟩ | ⟨_, h2⟩
    · have := Lex.size h2; rw [put_size, put_def] at this; exact this
    · exact Lex.size h2
    · have := Lex.size h2; rw [put_size, put_def] at this; exact this
theorem Lex.sta {P : Program} {ops : Array Oper} {w : World} : ∀ {l : List Oper} {E : En} {a : Act} {Ef : En} {af : Act}, Lex P ops w l E a Ef af → (∀ e ∈ E, Sta e.2 ∧ e.1 < a.tmps.size) → ∀ e ∈ Ef, Sta e.2 ∧ e.1 < a.tmps.size
  | [], E, a, Ef, af, h, hE => by rw [h.1]; exact hE
  | o :: l, E, a, Ef, af, h, hE => by
    rcases h.2 with ⟨_, ⟨v, _, h2⟩ | ⟨t, F, _, hlt, hs, _, h2⟩⟩ | ⟨_, h2⟩
    · have := Lex.sta h2; rw [put_size] at this; exact this hE
    · exact Lex.sta h2 fun e he => by
        rcases List.mem_cons.1 he with rfl | he
        · exact ⟨hs, hlt⟩
        · exact hE e he
    · have := Lex.sta h2; rw [put_size] at this; exact this hE
theorem Lex.kept {P : Program} {ops : Array Oper} {w : World} : ∀ {l : List Oper} {E : En} {a : Act} {Ef : En} {af : Act}, Lex P ops w l E a Ef af → ∀ t, t ∉ dsts l → ∀ u w', Slot Ef af t u w' ↔ Slot E a t u w'
  | [], E, a, Ef, af, h, t, _, u, w' => by rw [h.1, h.2]
  | o :: l, E, a, Ef, af, h, t, ht, u, w' => by
    rcases h.2 with ⟨_, ⟨v, _, h2⟩ | ⟨t', F, hd, hlt, hs, _, h2⟩⟩ | ⟨_, h2⟩
    · exact (Lex.kept h2 t (dsts_tail ht) u w').trans (slot_put (dst_ne ht) u w')
    · exact (Lex.kept h2 t (dsts_tail ht) u w').trans (slot_cons (fun e => dst_ne ht (hd.trans (congrArg some e))) u w')
    · exact (Lex.kept h2 t (dsts_tail ht) u w').trans (slot_put (dst_ne ht) u w')
/-- what the walk shows of the operation number j, held against the walk's end -/
structure Ob (P : Program) (ops : Array Oper) (w : World) (E0 : En) (a0 : Act) (before after : List Tmp) (o : Oper) (Ef : En) (af : Act) (E1 : En) (a1 : Act) : Prop where
  old : ∀ t, t ∉ before → ∀ u w', Slot E1 a1 t u w' ↔ Slot E0 a0 t u w'
  new : ∀ t, o.dst ≠ some t → t ∉ after → ∀ u w', Slot Ef af t u w' ↔ Slot E1 a1 t u w'
  gf : guardFree ops o E1 = true
  sz : a1.tmps.size = a0.tmps.size
  bd : ∀ e ∈ E1, e.1 < a0.tmps.size
  nofact : ∀ t, t ∉ before → ∀ e ∈ E1, e.1 = t → e ∈ E0
  run : (Region.wanted o (yielded ops a1.tmps) = true ∧ ∃ F, (∀ d os, relAll (lookE ops o E1) a1 (grow (redrawn w d) os) fun a' => relAt P o a' (grow (redrawn w d) os) F) ∧ ∀ t, o.dst = some t → t < a0.tmps.size → t ∉ after → (∀ e ∈ E1, e.1 ≠ t) → ∀ v w', F v w' → Slot Ef af t (some v) w') ∨
    (Region.wanted o (yielded ops a1.tmps) = false ∧ ∀ t, o.dst = some t → t < a0.tmps.size → t ∉ after → (∀ e ∈ E1, e.1 ≠ t) → ∀ w', Slot Ef af t (some undef) w')
theorem slot_new {E : En} {a : Act} {t : Tmp} {v : Value} (h : t < a.tmps.size) (hE : ∀ e ∈ E, e.1 ≠ t) (w : World) : Slot E (a.put (some t) v) t (some v) w :=
  ⟨fun e he ht => absurd ht (hE e he), fun _ => by rw [put_get, if_pos ⟨rfl, h⟩]⟩
theorem slot_fact {E : En} {a : Act} {t : Tmp} {v : Value} {F : Fa} {w : World} (hE : ∀ e ∈ E, e.1 ≠ t) (hF : F v w) : Slot ((t, F) :: E) a t (some v) w :=
  ⟨fun e he ht => by
    rcases List.mem_cons.1 he with rfl | he
    · exact ⟨v, rfl, hF⟩
    · exact absurd ht (hE e he), fun hn => absurd rfl (hn (t, F) List.mem_cons_self)⟩
theorem Lex.ob {P : Program} {ops : Array Oper} {w : World} : ∀ {l : List Oper} {E : En} {a : Act} {Ef : En} {af : Act}, Lex P ops w l E a Ef af → (∀ e ∈ E, e.1 < a.tmps.size) → ∀ (j : Nat) (o : Oper), l[j]? = some o → ∃ E1 a1, Ob P ops w E a (dsts (l.take j)) (dsts (l.drop (j + 1))) o Ef af E1 a1
  | [], E, a, Ef, af, h, _, j, o, ho => by simp at ho
  | o' :: l, E, a, Ef, af, h, hbd, 0, o, ho => by
    obtain rfl : o' = o := by simpa using ho
    refine ⟨E, a, fun t _ u w' => Iff.rfl, ?_, h.1, rfl, hbd, fun _ _ e he _ => he, ?_⟩
    · intro t ht ht2 u w'
      have ht2' : t ∉ dsts l := by simpa using ht2
      rcases h.2 with ⟨_, ⟨v, _, h2⟩ | ⟨t', F, hd, hlt, hs, _, h2⟩⟩ | ⟨_, h2⟩
      · exact (Lex.kept h2 t ht2' u w').trans (slot_put ht u w')
      · exact (Lex.kept h2 t ht2' u w').trans (slot_cons (fun e => ht (hd.trans (congrArg some e))) u w')
      · exact (Lex.kept h2 t ht2' u w').trans (slot_put ht u w')
    · rcases h.2 with ⟨hw, ⟨v, h1, h2⟩ | ⟨t', F, hd, hlt, hs, h1, h2⟩⟩ | ⟨hw, h2⟩
      · refine .inl ⟨hw, _, h1, fun t hd hlt ht hE v' w' hv => ?_⟩
        subst hv
        exact (Lex.kept h2 t (by simpa using ht) _ _).2 (by rw [hd]; exact slot_new hlt hE w')
      · refine .inl ⟨hw, F, h1, fun t hd' hlt' ht hE v' w' hv => ?_⟩
        have ht' : t' = t := Option.some.inj (hd.symm.trans hd')
        subst ht'
        exact (Lex.kept h2 t' (by simpa using ht) _ _).2 (slot_fact hE hv)
      · refine .inr ⟨hw, fun t hd hlt ht hE w' => ?_⟩
        exact (Lex.kept h2 t (by simpa using ht) _ _).2 (by rw [hd]; exact slot_new hlt hE w')
  | o' :: l, E, a, Ef, af, h, hbd, j + 1, o, ho => by
    have ho' : l[j]? = some o := by simpa using ho
    have key : ∀ (E2 : En) (a2 : Act), (∀ t, o'.dst ≠ some t → ∀ u w', Slot E2 a2 t u w' ↔ Slot E a t u w') → (∀ t, o'.dst ≠ some t → ∀ e ∈ E2, e.1 = t → e ∈ E) → a2.tmps.size = a.tmps.size → (∀ e ∈ E2, e.1 < a2.tmps.size) → Lex P ops w l E2 a2 Ef af →
        ∃ E1 a1, Ob P ops w E a (dsts ((o' :: l).take (j + 1))) (dsts ((o' :: l).drop (j + 1 + 1))) o Ef af E1 a1 := by
      intro E2 a2 hst hnf hsz hb2 h2
      obtain ⟨E1, a1, k1, k2, k3, k4, k5, k7, k6⟩ := Lex.ob h2 hb2 j o ho'
      refine ⟨E1, a1, fun t ht u w' => ?_, by simpa using k2, k3, k4.trans hsz, by rw [← hsz]; exact k5, fun t ht e he het => ?_, by simpa [hsz] using k6⟩
      · have ht' : t ∉ dsts (o' :: l.take j) := by simpa using ht
        exact (k1 t (dsts_tail ht') u w').trans (hst t (dst_ne ht') u w')
      · have ht' : t ∉ dsts (o' :: l.take j) := by simpa using ht
        exact hnf t (dst_ne ht') e (k7 t (dsts_tail ht') e he het) het
    rcases h.2 with ⟨_, ⟨v, _, h2⟩ | ⟨t', F, hd, hlt, hs, _, h2⟩⟩ | ⟨_, h2⟩
    · exact key _ _ (fun t ht u w' => slot_put ht u w') (fun t ht e he _ => he) (put_size _ _ _) (by rw [put_size]; exact hbd) h2
    · exact key _ _ (fun t ht u w' => slot_cons (fun e => ht (hd.trans (congrArg some e))) u w') (fun t ht e he het => by
        rcases List.mem_cons.1 he with rfl | he
        · exact absurd (hd.trans (congrArg some het)) ht
        · exact he) rfl (fun e he => by
        rcases List.mem_cons.1 he with rfl | he
        · exact hlt
        · exact hbd e he) h2
    · exact key _ _ (fun t ht u w' => slot_put ht u w') (fun t ht e he _ => he) (put_size _ _ _) (by rw [put_size]; exact hbd) h2
end Go.Proofs.Ytcpifmhcebfglaa
namespace Go.Proofs.Ytcpifmhcebfglaa
open Go Go.RowKit Go.Sort
set_option linter.unusedVariables false
theorem fill_size (f : Tmp → Value) : ∀ (E : En) (a : Act), (fillE E f a).tmps.size = a.tmps.size ∧ (fillE E f a).defers = a.defers
  | [], a => ⟨rfl, rfl⟩
  | e :: E, a => by
    have := fill_size f E (a.put (some e.1) (f e.1))
    rw [put_size, put_def] at this; exact this
theorem fill_out (f : Tmp → Value) (t : Tmp) : ∀ (E : En) (a : Act), (∀ e ∈ E, e.1 ≠ t) → (fillE E f a).tmps[t]? = a.tmps[t]?
  | [], a, _ => rfl
  | e :: E, a, h => by
    have := fill_out f t E (a.put (some e.1) (f e.1)) fun e' he' => h e' (List.mem_cons_of_mem _ he')
    rw [put_get, if_neg (fun h2 => h e List.mem_cons_self (Option.some.inj h2.1))] at this; exact this
theorem fill_in (f : Tmp → Value) (t : Tmp) : ∀ (E : En) (a : Act), (∃ e ∈ E, e.1 = t) → t < a.tmps.size → (fillE E f a).tmps[t]? = some (f t)
  | [], a, h, _ => by obtain ⟨e, he, _⟩ := h; cases he
  | e :: E, a, h, ht => by
    by_cases hE : ∃ e' ∈ E, e'.1 = t
    · exact fill_in f t E (a.put (some e.1) (f e.1)) hE (by rw [put_size]; exact ht)
    · have := fill_out f t E (a.put (some e.1) (f e.1)) fun e' he' h2 => hE ⟨e', he', h2⟩
      obtain ⟨e', he', rfl⟩ := h
      rcases List.mem_cons.1 he' with rfl | he'
      · rw [put_get, if_pos ⟨rfl, ht⟩] at this; exact this
      · exact absurd ⟨e', he', rfl⟩ hE
/-- a frame whose slots hold what they may hold is the walk's frame, filled -/
theorem fill_agree {E : En} {a1 a : Act} {w : World} {t : Tmp} (f : Tmp → Value) (hf : f t = (a.tmps[t]?).getD undef) (hE : ∀ e ∈ E, e.1 < a1.tmps.size) (h : Slot E a1 t (a.tmps[t]?) w) : (fillE E f a1).tmps[t]? = a.tmps[t]? := by
  by_cases hx : ∃ e ∈ E, e.1 = t
  · obtain ⟨e, he, het⟩ := hx
    obtain ⟨v, hv, _⟩ := h.1 e he het
    rw [fill_in f t E a1 ⟨e, he, het⟩ (het ▸ hE e he), hf, hv]; rfl
  · have hn : ∀ e ∈ E, e.1 ≠ t := fun e he h2 => hx ⟨e, he, h2⟩
    rw [fill_out f t E a1 hn, h.2 hn]
def Region.relB (md : Region.Mode) (ops : Array Oper) (n : Nat) : Bool :=
  Region.noSelect ops && decide (n ≤ ops.size) &&
  ((List.range n).all fun j => (List.range j).all fun k => Region.waitsFor md ops j k || (match ops[k]?, ops[j]? with | some x, some y => x.apart ops y | _, _ => false)) &&
  ((List.range n).all fun j => match ops[j]? with | some o => o.after.all fun e => !Region.binds md e || decide (e.on < j) | none => false) &&
  ((List.range n).all fun j => (List.range j).all fun k => match ops[k]?, ops[j]? with | some x, some y => x.dst.isNone || x.dst != y.dst | _, _ => false) &&
  (n == ops.size || (Region.sinkB md ops n && Region.chainB md ops n)) &&
  Region.seqB md ops (ops.size - n) n (((List.range ops.size).map fun j => decide (j < n)).toArray)
structure RelB (md : Region.Mode) (ops : Array Oper) (n : Nat) : Prop where
  sel : Region.noSelect ops = true
  le : n ≤ ops.size
  pair : ∀ j k x y, k < j → j < n → ops[k]? = some x → ops[j]? = some y → Region.waitsFor md ops j k = true ∨ x.apart ops y = true
  back : ∀ j o, j < n → ops[j]? = some o → ∀ e ∈ o.after, Region.binds md e = true → e.on < j
  once : ∀ j k x y, k < j → j < n → ops[k]? = some x → ops[j]? = some y → x.dst = none ∨ x.dst ≠ y.dst
  sink : n = ops.size ∨ (Region.sinkB md ops n = true ∧ Region.chainB md ops n = true)
  seq : Region.seqB md ops (ops.size - n) n (((List.range ops.size).map fun j => decide (j < n)).toArray) = true
theorem relB_spec {md : Region.Mode} {ops : Array Oper} {n : Nat} (h : Region.relB md ops n = true) : RelB md ops n := by
  simp only [Region.relB, Bool.and_eq_true, decide_eq_true_eq] at h
  obtain ⟨⟨⟨⟨⟨⟨h1, h2⟩, h3⟩, h4⟩, h5⟩, h6⟩, h7⟩ := h
  refine ⟨h1, h2, ?_, ?_, ?_, ?_, h7⟩
  · intro j k x y hkj hj hx hy
    have := List.all_eq_true.1 (List.all_eq_true.1 h3 j (List.mem_range.2 hj)) k (List.mem_range.2 hkj)
    rw [hx, hy] at this
    simpa using this
  · intro j o hj ho e he hb
    have := List.all_eq_true.1 h4 j (List.mem_range.2 hj)
    rw [ho] at this
    have := Array.all_eq_true_iff_forall_mem.1 this e he
    simpa [hb] using this
  · intro j k x y hkj hj hx hy
    have := List.all_eq_true.1 (List.all_eq_true.1 h5 j (List.mem_range.2 hj)) k (List.mem_range.2 hkj)
    rw [hx, hy] at this
    simpa using this
  · simpa using h6
theorem waits_on {md : Region.Mode} {ops : Array Oper} {j k : Nat} {o : Oper} (h : Region.waitsFor md ops j k = true) (ho : ops[j]? = some o) : ∃ e ∈ o.after, Region.binds md e = true ∧ e.on = k := by
  obtain ⟨o', ho', e, he, hb, hon⟩ := Region.waitsFor_spec h
  have : o' = o := Option.some.inj (ho'.symm.trans ho)
  subst this
  exact ⟨e, he, hb, hon⟩
section
variable {P : Program} {ops : Array Oper} {md : Region.Mode} {w0 : World} {n : Nat} {a0 : Act} {Ef : En} {af : Act}
/-- what holds of frame and memory once the operations that are listed have come up -/
structure Real (ops : Array Oper) (n : Nat) (w0 : World) (a0 : Act) (Ef : En) (af : Act) (listed : Array Bool) (a : Act) (w : World) : Prop where
  lo : Below w0.heap.size w0 w
  def_ : a.defers = a0.defers
  size : a.tmps.size = a0.tmps.size
  done : ∀ k o t, k < n → ops[k]? = some o → listed.getD k false = true → o.dst = some t → t < a0.tmps.size → Slot Ef af t (a.tmps[t]?) w
  rest : ∀ t, (∀ k o, k < n → ops[k]? = some o → listed.getD k false = true → o.dst ≠ some t) → a.tmps[t]? = a0.tmps[t]?
theorem Slot.grown {E : En} {a : Act} {t : Tmp} {u : Option Value} {w w' : World} (hE : ∀ e ∈ E, Sta e.2) (h : Slot E a t u w) (hb : Below w.heap.size w w') : Slot E a t u w' :=
  ⟨fun e he ht => let ⟨v, h1, h2⟩ := h.1 e he ht; ⟨v, h1, hE e he v w w' h2 hb⟩, h.2⟩
theorem getD_set {listed : Array Bool} {i : Nat} (h : i < listed.size) : (listed.setIfInBounds i true).getD i false = true := by
  simp [h]
theorem Real.step (hR : RelB md ops n) (hE : ∀ e ∈ Ef, Sta e.2) {listed : Array Bool} {a : Act} {w w2 : World} (h : Real ops n w0 a0 Ef af listed a w) {j : Nat} {o : Oper} (hj : j < n) (ho : ops[j]? = some o) (hun : listed.getD j false = false) (hsz : listed.size = ops.size) {u : Value}
    (hb : Below w.heap.size w w2) (hu : ∀ t, o.dst = some t → t < a0.tmps.size → Slot Ef af t (some u) w2) : Real ops n w0 a0 Ef af (listed.setIfInBounds j true) (a.put o.dst u) w2 := by
  have hjs : j < listed.size := by rw [hsz]; exact (Array.getElem?_eq_some_iff.1 ho).1
  refine ⟨h.lo.trans (hb.mono h.lo.size), by rw [put_def]; exact h.def_, by rw [put_size]; exact h.size, ?_, ?_⟩
  · intro k ok t hk hok hl ht hlt
    by_cases hkj : j = k
    · subst hkj
      have : ok = o := Option.some.inj (hok.symm.trans ho)
      subst this
      rw [put_get, if_pos ⟨ht, by rw [h.size]; exact hlt⟩]; exact hu t ht hlt
    · rw [getD_set_ne false hkj] at hl
      have hne : o.dst ≠ some t := by
        intro e
        rcases Nat.lt_or_ge k j with hlt' | hge
        · rcases hR.once j k ok o hlt' hj hok ho with h1 | h1
          · rw [h1] at ht; cases ht
          · exact h1 (ht.trans e.symm)
        · rcases hR.once k j o ok (by omega) hk ho hok with h1 | h1
          · rw [h1] at e; cases e
          · exact h1 (e.trans ht.symm)
      rw [put_get, if_neg (fun h2 => hne h2.1)]
      exact (h.done k ok t hk hok hl ht hlt).grown hE hb
  · intro t ht
    have hne : o.dst ≠ some t := ht j o hj ho (getD_set hjs)
    rw [put_get, if_neg (fun h2 => hne h2.1)]
    exact h.rest t fun k ok hk hok hl => ht k ok hk hok (getD_set_true hl)
theorem mem_dsts {l : List Oper} {t : Tmp} (h : t ∈ dsts l) : ∃ (k : Nat) (o : Oper), l[k]? = some o ∧ o.dst = some t := by
  unfold dsts at h
  obtain ⟨o, ho, ht⟩ := List.mem_filterMap.1 h
  obtain ⟨k, hk⟩ := List.getElem?_of_mem ho
  exact ⟨k, o, hk, ht⟩
theorem Act.eval_same {a b : Act} {x : Operand} (h : ∀ t, x = .tmp t → a.tmps[t]? = b.tmps[t]?) : a.eval x = b.eval x := by
  cases x with
  | tmp t => simp only [Act.eval, Array.getD_eq_getD_getElem?, h t rfl]
  | _ => rfl
/-- an operation that may come up now does what the walk in the order of the text has shown of it -/
theorem Real.op (hR : RelB md ops n) (hL : Lex P ops w0 (ops.toList.take n) [] a0 Ef af) (hE : ∀ e ∈ Ef, Sta e.2) {listed : Array Bool} (hI : HeadInv md ops n listed) {a : Act} {w : World} (h : Real ops n w0 a0 Ef af listed a w) {j : Nat} (hj : j < n) (hr : j ∈ Region.ready md ops listed)
    {Q : Exit → Act → World → Prop} {K : Act → World → Prop} (hK : ∀ a' w', Real ops n w0 a0 Ef af (listed.setIfInBounds j true) a' w' → K a' w') : wpOp P ops Q j K a w := by
  obtain ⟨hun, o, ho, hall⟩ := mem_ready.1 hr
  have hunF := getD_both hun
  have hl : (ops.toList.take n)[j]? = some o := by rw [List.getElem?_take_of_lt hj]; simpa using ho
  have hget : ∀ k, k < n → (ops.toList.take n)[k]? = ops[k]? := fun k hk => by rw [List.getElem?_take_of_lt hk]; simp
  obtain ⟨E1, a1, O⟩ := Lex.ob hL (fun e he => by cases he) j o hl
  -- a slot that an earlier operation of the text fills
  have hbefore : ∀ t, t ∈ dsts ((ops.toList.take n).take j) → ∃ k ok, k < j ∧ ops[k]? = some ok ∧ ok.dst = some t := by
    intro t ht
    obtain ⟨k, ok, hk, hd⟩ := mem_dsts ht
    rcases Nat.lt_or_ge k j with hkj | hkj
    · rw [List.getElem?_take_of_lt hkj, hget k (by omega)] at hk; exact ⟨k, ok, hkj, hk, hd⟩
    · rw [List.getElem?_take_eq_none hkj] at hk; cases hk
  have hafter : ∀ t k ok, k ≤ j → ops[k]? = some ok → ok.dst = some t → t ∉ dsts ((ops.toList.take n).drop (j + 1)) := by
    intro t k ok hkj hok hd ht
    obtain ⟨i, oi, hi, hdi⟩ := mem_dsts ht
    rw [List.getElem?_drop] at hi
    have hin : j + 1 + i < n := by
      rcases Nat.lt_or_ge (j + 1 + i) n with h' | h'
      · exact h'
      · rw [List.getElem?_take_eq_none h'] at hi; cases hi
    rw [hget _ hin] at hi
    rcases hR.once (j + 1 + i) k ok oi (by omega) hin hok hi with h1 | h1
    · rw [h1] at hd; cases hd
    · exact h1 (hd.trans hdi.symm)
  have hslot : ∀ t ∈ o.looksAt ops, Slot E1 a1 t (a.tmps[t]?) w := by
    intro t ht
    by_cases hb : t ∈ dsts ((ops.toList.take n).take j)
    · obtain ⟨k, ok, hkj, hok, hd⟩ := hbefore t hb
      have hwait : Region.waitsFor md ops j k = true := by
        rcases hR.pair j k ok o hkj hj hok ho with h1 | h1
        · exact h1
        · exact absurd ht ((Oper.apart_spec h1).1 t hd)
      obtain ⟨e, he, hbi, hon⟩ := waits_on hwait ho
      have hlist := hall e he hbi
      rw [hon] at hlist
      have hne : o.dst ≠ some t := by
        intro e'
        rcases hR.once j k ok o hkj hj hok ho with h1 | h1
        · rw [h1] at hd; cases hd
        · exact h1 (hd.trans e'.symm)
      by_cases hlt : t < a0.tmps.size
      · exact (O.new t hne (hafter t k ok (by omega) hok hd) _ _).1 (h.done k ok t (by omega) hok hlist hd hlt)
      · refine ⟨fun e he het => absurd (het ▸ O.bd e he) hlt, fun _ => ?_⟩
        rw [Array.getElem?_eq_none (by rw [h.size]; exact Nat.le_of_not_lt hlt), Array.getElem?_eq_none (by rw [O.sz]; exact Nat.le_of_not_lt hlt)]
    · refine (O.old t hb _ _).2 ⟨fun e he => (by cases he), fun _ => h.rest t fun k ok hk hok hlist hd => ?_⟩
      rcases Nat.lt_trichotomy k j with hkj | hkj | hkj
      · refine hb ?_
        unfold dsts
        exact List.mem_filterMap.2 ⟨ok, List.mem_of_getElem? (i := k) (by rw [List.getElem?_take_of_lt hkj, hget k hk]; exact hok), hd⟩
      · subst hkj; rw [hunF] at hlist; cases hlist
      · rcases hR.pair k j o ok hkj hk ho hok with h1 | h1
        · obtain ⟨e, he, hbi, hon⟩ := waits_on h1 hok
          have := hI.closed k ok hok hlist e he hbi
          rw [hon, hunF] at this; cases this
        · exact absurd ht ((Oper.apart_spec h1).2.2 t hd)
  have hw : Region.wanted o (yielded ops a.tmps) = Region.wanted o (yielded ops a1.tmps) := by
    unfold Region.wanted
    cases hg : o.guard with
    | none => rfl
    | some gw =>
      obtain ⟨g, want⟩ := gw
      have hy : yielded ops a.tmps g = yielded ops a1.tmps g := by
        unfold yielded
        cases ht : (ops[g]?).bind (·.dst) with
        | none => rfl
        | some t =>
          have hgf := O.gf
          unfold guardFree at hgf
          rw [hg] at hgf
          simp only [ht] at hgf
          have hlk : t ∈ o.looksAt ops := by simp [Oper.looksAt, hg, ht]
          have := (hslot t hlk).2 fun e he => by simpa using List.all_eq_true.1 hgf e he
          simp only [Option.bind_some, this]
      simp only [hy]
  unfold wpOp
  simp only [ho]
  rcases O.run with ⟨hw1, F, hF, hend⟩ | ⟨hw1, hend⟩
  · rw [hw, hw1]
    simp only [if_true]
    refine .inl ?_
    obtain ⟨p, hp⟩ := regrown_of_below h.lo
    have hsub : ∀ e ∈ lookE ops o E1, e ∈ E1 ∧ e.1 ∈ o.looksAt ops := fun e he => by
      have := List.mem_filter.1 he
      exact ⟨this.1, by simpa using this.2⟩
    have hrel := relAll_use _ _ _ _ (fun t => (a.tmps[t]?).getD undef) (hF p.d p.os) fun e he => by
      obtain ⟨he1, he2⟩ := hsub e he
      obtain ⟨v, hv, hf⟩ := (hslot e.1 he2).1 e he1 rfl
      show e.2 ((a.tmps[e.1]?).getD undef) _
      rw [hv, ← hp]; exact hf
    rw [← hp] at hrel
    have hex : execOp (fillE (lookE ops o E1) (fun t => (a.tmps[t]?).getD undef) a1).eval o = execOp a.eval o := by
      refine execOp_congr o (fun cs b => Region.noSelect_spec hR.sel j o cs b ho) fun x hx => Act.eval_same fun t hxt => ?_
      have hlk : t ∈ o.looksAt ops := by
        subst hxt
        exact List.mem_append_left _ (List.mem_filterMap.2 ⟨.tmp t, by simpa using hx, rfl⟩)
      refine fill_agree (w := w) _ rfl (fun e he => by rw [O.sz]; exact O.bd e (hsub e he).1) ⟨fun e he het => (hslot t hlk).1 e (hsub e he).1 het, fun hn => (hslot t hlk).2 fun e he het => ?_⟩
      refine hn e (List.mem_filter.2 ⟨he, ?_⟩) het
      rw [het]; simpa using hlk
    unfold relAt at hrel
    rw [hex] at hrel
    unfold Oper.wp
    have hend' : ∀ v w2, F v w2 → ∀ t, o.dst = some t → t < a0.tmps.size → Slot Ef af t (some v) w2 := by
      intro v w2 hv t hd hlt
      refine hend t hd hlt (hafter t j o (Nat.le_refl _) ho hd) (fun e he het => ?_) v w2 hv
      -- the slot is no earlier operation's
      have hnb : t ∉ dsts ((ops.toList.take n).take j) := fun hb => by
        obtain ⟨k, ok, hkj, hok, hdk⟩ := hbefore t hb
        rcases hR.once j k ok o hkj hj hok ho with h1 | h1
        · rw [h1] at hdk; cases hdk
        · exact h1 (hdk.trans hd.symm)
      cases O.nofact t hnb e he het
    generalize (execOp a.eval o).run P w = r at hrel ⊢
    cases r with
    | ok nx w' =>
      cases nx <;> simp only [relUpon] at hrel <;> simp only [Oper.upon]
      case value u => exact hK _ _ (h.step hR hE hj ho hunF hI.size hrel.2 (hend' u w' hrel.1))
      case skip => exact hK _ _ (h.step hR hE hj ho hunF hI.size hrel.2 (hend' undef w' hrel.1))
      case enter f args =>
        obtain ⟨rfl, hc⟩ := hrel
        exact hc.mono fun e w'' ⟨v, he, hf, hb⟩ => by subst he; exact hK _ _ (h.step hR hE hj ho hunF hI.size hb (hend' v w'' hf))
    | halt x w' => simp only [relUpon] at hrel
  · rw [hw, hw1]
    simp only [Bool.false_eq_true, if_false]
    refine hK _ _ (h.step hR hE hj ho hunF hI.size (Below.refl _ _) fun t hd hlt => ?_)
    refine hend t hd hlt (hafter t j o (Nat.le_refl _) ho hd) (fun e he het => ?_) w
    have hnb : t ∉ dsts ((ops.toList.take n).take j) := fun hb => by
      obtain ⟨k, ok, hkj, hok, hdk⟩ := hbefore t hb
      rcases hR.once j k ok o hkj hj hok ho with h1 | h1
      · rw [h1] at hdk; cases hdk
      · exact h1 (hdk.trans hd.symm)
    cases O.nofact t hnb e he het
theorem Real.all (hR : RelB md ops n) (hL : Lex P ops w0 (ops.toList.take n) [] a0 Ef af) (hE : ∀ e ∈ Ef, Sta e.2 ∧ e.1 < a0.tmps.size) {listed : Array Bool} {a : Act} {w : World} (h : Real ops n w0 a0 Ef af listed a w) (hall : ∀ k, k < n → listed.getD k false = true)
    {Q : Act → World → Prop} (hq : ∀ d os, relAll Ef af (grow (redrawn w0 d) os) fun a' => Q a' (grow (redrawn w0 d) os)) : Q a w := by
  have hslot : ∀ t, Slot Ef af t (a.tmps[t]?) w := by
    intro t
    by_cases hx : ∃ (k : Nat) (o : Oper), k < n ∧ ops[k]? = some o ∧ o.dst = some t
    · obtain ⟨k, o, hk, ho, hd⟩ := hx
      by_cases hlt : t < a0.tmps.size
      · exact h.done k o t hk ho (hall k hk) hd hlt
      · refine ⟨fun e he het => absurd (het ▸ (hE e he).2) hlt, fun _ => ?_⟩
        rw [Array.getElem?_eq_none (by rw [h.size]; exact Nat.le_of_not_lt hlt), Array.getElem?_eq_none (by rw [(Lex.size hL).1]; exact Nat.le_of_not_lt hlt)]
    · have hnd : t ∉ dsts (ops.toList.take n) := fun ht => by
        obtain ⟨k, o, hk, hd⟩ := mem_dsts ht
        rcases Nat.lt_or_ge k n with hkn | hkn
        · rw [List.getElem?_take_of_lt hkn] at hk
          exact hx ⟨k, o, hkn, by simpa using hk, hd⟩
        · rw [List.getElem?_take_eq_none hkn] at hk; cases hk
      exact (Lex.kept hL t hnd _ _).2 ⟨fun e he => (by cases he), fun _ => h.rest t fun k o hk ho _ hd => hx ⟨k, o, hk, ho, hd⟩⟩
  obtain ⟨p, hp⟩ := regrown_of_below h.lo
  have hrel := relAll_use _ _ _ _ (fun t => (a.tmps[t]?).getD undef) (hq p.d p.os) fun e he => by
    obtain ⟨v, hv, hf⟩ := (hslot e.1).1 e he rfl
    show e.2 ((a.tmps[e.1]?).getD undef) _
    rw [hv, ← hp]; exact hf
  rw [← hp] at hrel
  have hfill : fillE Ef (fun t => (a.tmps[t]?).getD undef) af = a := by
    have h1 : (fillE Ef (fun t => (a.tmps[t]?).getD undef) af).tmps = a.tmps := by
      apply Array.ext_getElem?
      intro t
      exact fill_agree (w := w) _ rfl (fun e he => by rw [(Lex.size hL).1]; exact (hE e he).2) (hslot t)
    have h2 : (fillE Ef (fun t => (a.tmps[t]?).getD undef) af).defers = a.defers := by rw [(fill_size _ _ _).2, (Lex.size hL).2, h.def_]
    generalize fillE Ef (fun t => (a.tmps[t]?).getD undef) af = b at h1 h2
    obtain ⟨bt, bd⟩ := b
    obtain ⟨at_, ad⟩ := a
    simp only at h1 h2
    rw [h1, h2]
  rw [hfill] at hrel; exact hrel
theorem wpAny_more {Q : Exit → Act → World → Prop} : ∀ (f : Nat) (listed : Array Bool) (a : Act) (w : World), wpAny P md ops Q f listed a w → wpAny P md ops Q (f + 1) listed a w
  | 0, listed, a, w, h => ⟨fun _ => h.2, fun i hi => by rw [h.1] at hi; cases hi⟩
  | f + 1, listed, a, w, h => ⟨h.1, fun i hi => wpOp_mono (fun a' w' h' => wpAny_more f _ a' w' h') (h.2 i hi)⟩
theorem wpAny_more' {Q : Exit → Act → World → Prop} {g : Nat} {listed : Array Bool} {a : Act} {w : World} (h : wpAny P md ops Q g listed a w) : ∀ f, wpAny P md ops Q (f + g) listed a w
  | 0 => by rw [Nat.zero_add]; exact h
  | f + 1 => by rw [show f + 1 + g = (f + g) + 1 by omega]; exact wpAny_more _ _ _ _ (wpAny_more' h f)
/-- the operations of the head that have not come up -/
def unl (n : Nat) (listed : Array Bool) : List Nat := (List.range n).filter fun j => !listed.getD j false
theorem filter_lt {α : Type} (p q : α → Bool) (hpq : ∀ x, q x = true → p x = true) (j : α) (hp : p j = true) (hq : q j = false) : ∀ l : List α, j ∈ l → (l.filter q).length < (l.filter p).length
  | [], h => by cases h
  | x :: l, h => by
    have hle : ∀ l : List α, (l.filter q).length ≤ (l.filter p).length := by
      intro l
      induction l with
      | nil => exact Nat.le_refl _
      | cons y l ih =>
        rw [List.filter_cons, List.filter_cons]
        by_cases hy : q y = true
        · rw [if_pos hy, if_pos (hpq y hy)]; simp; exact ih
        · rw [if_neg hy]
          split
          · simp; omega
          · exact ih
    rw [List.filter_cons, List.filter_cons]
    rcases List.mem_cons.1 h with rfl | h
    · rw [if_neg (by rw [hq]; simp), if_pos hp]
      have := hle l
      simp; omega
    · have ih := filter_lt p q hpq j hp hq l h
      by_cases hx : q x = true
      · rw [if_pos hx, if_pos (hpq x hx)]; simp; exact ih
      · rw [if_neg hx]
        split
        · simp; omega
        · exact ih
theorem ready_some (hR : RelB md ops n) {listed : Array Bool} (hsz : listed.size = ops.size) : ∀ (i : Nat), i < n → listed.getD i false = false → Region.ready md ops listed ≠ [] := by
  intro i
  induction i using Nat.strongRecOn with
  | _ i ih =>
    intro hi hun
    have hio : i < ops.size := by have := hR.le; omega
    have ho : ops[i]? = some ops[i] := Array.getElem?_eq_getElem hio
    by_cases hx : ∀ e ∈ (ops[i]).after, Region.binds md e = true → listed.getD e.on false = true
    · intro h0
      have : i ∈ Region.ready md ops listed := mem_ready.2 ⟨getD_in (by omega) hun, _, ho, hx⟩
      rw [h0] at this; cases this
    · simp only [Classical.not_forall] at hx
      obtain ⟨e, he, hb, hl⟩ := hx
      have hlt := hR.back i _ hi ho e he hb
      exact ih e.on hlt (by omega) (by simpa using hl)
theorem rel_any (hR : RelB md ops n) (hL : Lex P ops w0 (ops.toList.take n) [] a0 Ef af) (hE : ∀ e ∈ Ef, Sta e.2 ∧ e.1 < a0.tmps.size) {Q : Exit → Act → World → Prop}
    (hq : ∀ d os, relAll Ef af (grow (redrawn w0 d) os) fun a' => wpList P ops Q (ops.toList.drop n) a' (grow (redrawn w0 d) os)) :
    ∀ (f : Nat) (listed : Array Bool) (a : Act) (w : World), (unl n listed).length ≤ f → HeadInv md ops n listed → Real ops n w0 a0 Ef af listed a w → wpAny P md ops Q (f + (ops.size - n)) listed a w := by
  intro f
  induction f with
  | zero =>
    intro listed a w hf hI h
    have hall : ∀ k, k < n → listed.getD k false = true := by
      intro k hk
      cases e : listed.getD k false with
      | true => rfl
      | false =>
        have : k ∈ unl n listed := List.mem_filter.2 ⟨List.mem_range.2 hk, by rw [e]; rfl⟩
        have h0 : unl n listed = [] := List.eq_nil_of_length_eq_zero (by omega)
        rw [h0] at this; cases this
    have hmask : listed = ((List.range ops.size).map fun j => decide (j < n)).toArray := by
      apply Array.ext
      · rw [hI.size]; simp
      · intro k hk1 hk2
        have hks : k < ops.size := by rw [← hI.size]; exact hk1
        simp only [List.getElem_toArray, List.getElem_map, List.getElem_range]
        by_cases hkn : k < n
        · have := hall k hkn
          simp [hk1] at this
          rw [this]; simp [hkn]
        · have := hI.tail k (by omega) hks
          simp [hk1] at this
          rw [this]; simp [hkn]
    have hdl : (ops.toList.drop n).length = ops.size - n := by simp
    rw [Nat.zero_add, ← hdl]
    refine wpAny_of_seq (ops.toList.drop n) n listed a w (fun j => by simp [List.getElem?_drop]) ?_ (Real.all hR hL hE h hall (Q := fun a' w' => wpList P ops Q (ops.toList.drop n) a' w') hq)
    rw [hdl, hmask]; exact hR.seq
  | succ f ih =>
    intro listed a w hf hI h
    rw [show f + 1 + (ops.size - n) = (f + (ops.size - n)) + 1 by omega]
    by_cases hx : ∃ i, i < n ∧ listed.getD i false = false
    · obtain ⟨i, hi, hun⟩ := hx
      refine ⟨fun h0 => absurd h0 (ready_some hR hI.size i hi hun), fun j hj => ?_⟩
      have hjn : j < n := by
        rcases hR.sink with h1 | ⟨h1, h2⟩
        · obtain ⟨_, o, ho, _⟩ := mem_ready.1 hj
          have := (Array.getElem?_eq_some_iff.1 ho).1
          omega
        · rcases Nat.lt_or_ge j n with h' | h'
          · exact h'
          · obtain ⟨_, o, ho, _⟩ := mem_ready.1 hj
            have hjs := (Array.getElem?_eq_some_iff.1 ho).1
            exact absurd hj (tail_waits h1 h2 (by omega) hI _ i rfl hi (getD_in (by rw [hI.size]; omega) hun) j h')
      refine Real.op hR hL (fun e he => (hE e he).1) hI h hjn hj fun a' w' h' => ih _ a' w' ?_ (hI.set hj hjn) h'
      have hunj := getD_both (mem_ready.1 hj).1
      have hjs : j < listed.size := by
        obtain ⟨_, o, ho, _⟩ := mem_ready.1 hj
        rw [hI.size]; exact (Array.getElem?_eq_some_iff.1 ho).1
      have := filter_lt (fun k => !listed.getD k false) (fun k => !(listed.setIfInBounds j true).getD k false) (fun k hk => by
        cases e : listed.getD k false with
        | false => rfl
        | true => rw [getD_set_true e] at hk; cases hk) j (by rw [hunj]; rfl) (by rw [getD_set hjs]; rfl) (List.range n) (List.mem_range.2 hjn)
      unfold unl at hf ⊢
      omega
    · exact wpAny_more _ _ _ _ (wpAny_more' (by
        have := ih listed a w (by
          have : unl n listed = [] := by
            unfold unl
            apply List.filter_eq_nil_iff.2
            intro k hk
            have hkn := List.mem_range.1 hk
            cases e : listed.getD k false with
            | true => simp
            | false => exact absurd ⟨k, hkn, e⟩ hx
          rw [this]; exact Nat.zero_le _) hI h
        exact this) 0 |> fun h => by rwa [Nat.zero_add] at h)
/-- **One walk in the order of the text serves every order.** The first n operations only add to the memory; those behind them wait for all of them, each for the one before. -/
theorem wp_region_rel {id : Nat} {Q : Exit → Act → World → Prop} {a : Act} {w : World} {l : List Oper} (n : Nat) (hm : P.follows .mixedOrders = true) (hB : Region.relB .any l.toArray n = true)
    (h : wpRel P l.toArray w (fun a' w' => wpList P l.toArray Q (l.drop n) a' w') (l.take n) [] a) : (Code.region id l.toArray true).wp P Q a w := by
  have hR := relB_spec hB
  obtain ⟨Ef, af, hL, hq⟩ := wpRel_lex _ _ _ h
  refine wp_region_any hm ?_
  have hE := Lex.sta hL (fun e he => by cases he)
  have := rel_any (P := P) (md := .any) (ops := l.toArray) (w0 := w) (n := n) (a0 := a) hR (by simpa using hL) hE (Q := Q) (by simpa using hq) n (Array.replicate l.toArray.size false) a { w with drawn := w.drawn + 1 } (by
      unfold unl
      have := List.length_filter_le (fun j => !(Array.replicate l.toArray.size false).getD j false) (List.range n)
      simpa using this)
    ⟨by simp, fun j oj _ hl => (by rw [getD_replicate_false] at hl; cases hl), fun t _ ht => getD_in (by simpa using ht) (getD_replicate_false _ _)⟩
    ⟨⟨rfl, rfl, rfl, Nat.le_refl _, fun _ _ => rfl⟩, rfl, rfl, fun k o t _ _ hl => (by rw [getD_replicate_false] at hl; cases hl), fun t _ => rfl⟩
  rw [show n + (l.toArray.size - n) = l.toArray.size by have := hR.le; omega] at this
  exact this
end
end Go.Proofs.Ytcpifmhcebfglaa
namespace Go.Proofs.Ytcpifmhcebfglaa
open Go Go.RowKit Go.Sort
set_option linter.unusedVariables false
theorem below_self (B : Nat) (w : World) : Below B w w = True := eq_true (Below.refl B w)
attribute [go_sem] relAt relUpon below_self relAll
theorem rel_nil {P : Program} {ops : Array Oper} {w : World} {Q : Act → World → Prop} {E : En} {a : Act} (h : ∀ d os, relAll E a (grow (redrawn w d) os) fun a' => Q a' (grow (redrawn w d) os)) : wpRel P ops w Q [] E a := h
/-- an operation of which its value is known, and which looks at no slot of which facts alone are known -/
theorem rel_fix {P : Program} {ops : Array Oper} {w : World} {Q : Act → World → Prop} {E : En} {a : Act} {o : Oper} {l : List Oper} (hE : lookE ops o E = []) (hg : guardFree ops o E = true)
    (h : ∀ K : Act → Prop, (∀ a, wpRel P ops w Q l E a → K a) → if Region.wanted o (yielded ops a.tmps) then ∃ v, (∀ d os, relAt P o a (grow (redrawn w d) os) fun u _ => u = v) ∧ K (a.put o.dst v) else K (a.put o.dst undef)) : wpRel P ops w Q (o :: l) E a := by
  refine ⟨hg, ?_⟩
  have := h _ fun _ h => h
  split at this
  · rename_i hw
    rw [if_pos hw]
    obtain ⟨v, h1, h2⟩ := this
    exact .inl ⟨v, fun d os => by rw [hE]; exact h1 d os, h2⟩
  · rename_i hw
    rw [if_neg hw]; exact this
/-- the same for no such slot -/
theorem rel_fix0 {P : Program} {ops : Array Oper} {w : World} {Q : Act → World → Prop} {a : Act} {o : Oper} {l : List Oper}
    (h : ∀ K : Act → Prop, (∀ a, wpRel P ops w Q l [] a → K a) → if Region.wanted o (yielded ops a.tmps) then ∃ v, (∀ d os, relAt P o a (grow (redrawn w d) os) fun u _ => u = v) ∧ K (a.put o.dst v) else K (a.put o.dst undef)) : wpRel P ops w Q (o :: l) [] a :=
  rel_fix rfl (by unfold guardFree; split; · rfl
                  · split <;> rfl) h
/-- an operation of which its value is known, and which looks at the slots E' -/
theorem rel_use {P : Program} {ops : Array Oper} {w : World} {Q : Act → World → Prop} {E : En} {a : Act} {o : Oper} {l : List Oper} (E' : En) (v : Value) (hE : lookE ops o E = E') (hg : guardFree ops o E = true) (hw : Region.wanted o (yielded ops a.tmps) = true)
    (h1 : ∀ d os, relAll E' a (grow (redrawn w d) os) fun a' => relAt P o a' (grow (redrawn w d) os) fun u _ => u = v) (h2 : wpRel P ops w Q l E (a.put o.dst v)) : wpRel P ops w Q (o :: l) E a := by
  refine ⟨hg, ?_⟩
  rw [if_pos hw]
  exact .inl ⟨v, fun d os => by rw [hE]; exact h1 d os, h2⟩
/-- an operation of whose value a fact alone is known -/
theorem rel_fact {P : Program} {ops : Array Oper} {w : World} {Q : Act → World → Prop} {E : En} {a : Act} {o : Oper} {l : List Oper} (E' : En) (F : Fa) (t : Tmp) (hd : o.dst = some t) (ht : t < a.tmps.size) (hF : Sta F) (hE : lookE ops o E = E') (hg : guardFree ops o E = true) (hw : Region.wanted o (yielded ops a.tmps) = true)
    (h1 : ∀ d os, relAll E' a (grow (redrawn w d) os) fun a' => relAt P o a' (grow (redrawn w d) os) F) (h2 : wpRel P ops w Q l ((t, F) :: E) a) : wpRel P ops w Q (o :: l) E a := by
  refine ⟨hg, ?_⟩
  rw [if_pos hw]
  exact .inr ⟨t, F, hd, ht, hF, fun d os => by rw [hE]; exact h1 d os, h2⟩
theorem ret_fix {P : Program} {f : FuncId} {args : Array Value} {w : World} {v : Value} (h : Calls P f args w fun e w' => e = .returned v ∧ Below w.heap.size w w') : Calls P f args w (RetF (fun u _ => u = v) w) :=
  h.mono fun _ _ ⟨he, hb⟩ => ⟨v, he, rfl, hb⟩
theorem ret_same {P : Program} {f : FuncId} {args : Array Value} {w : World} {v : Value} (h : Calls P f args w fun e w' => e = .returned v ∧ w = w') : Calls P f args w (RetF (fun u _ => u = v) w) :=
  h.mono fun _ w' ⟨he, hb⟩ => ⟨v, he, rfl, hb ▸ Below.refl _ _⟩
theorem ret_fact {P : Program} {f : FuncId} {args : Array Value} {w : World} {F : Fa} (h : Calls P f args w fun e w' => ∃ v, e = .returned v ∧ F v w' ∧ Below w.heap.size w w') : Calls P f args w (RetF F w) := h
/-- a new slice of one byte -/
def One8 (z : Nat) : Fa := fun v w => ∃ b, v = .slice (some ⟨b, 0, none⟩) 1 1 ∧ w.cell? ⟨b, 0, none⟩ = some (.int .u8 (z : Int))
theorem one8_sta (z : Nat) : Sta (One8 z) := fun v w w' ⟨b, h1, h2⟩ hb => ⟨b, h1, (hb.cell (p := ⟨b, 0, none⟩) (World.block_lt_of_cell? w _ h2)).trans h2⟩
theorem own_below {w w' : World} {base : Nat} {e : TypeId} {size : Nat} {v : Value} {n : Nat} {xs : List Value} (h : w.ownsRow base e size v n xs) (hb : Below w.heap.size w w') : w'.ownsRow base e size v n xs :=
  h.kept (row := none) ⟨hb.os, hb.tape, hb.output, hb.size, fun k hk _ => hb.block k hk⟩ (by cases hv : v.ownBlock <;> simp)
end Go.Proofs.Ytcpifmhcebfglaa
