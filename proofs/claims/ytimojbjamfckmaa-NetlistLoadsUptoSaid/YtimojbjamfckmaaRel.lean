/- Regions that draw their order, walked once in the order of the text: operations that only add to the memory, of which some hand back a value of which a stable fact alone is known (a new slice, say). No condition. -/
import Derived.StillTail
import Derived.Lib.QuietBelow
namespace Go.Proofs.Ytimojbjamfckmaa
open Go Go.RowKit Go.Sort
set_option linter.unusedVariables false
/-- a fact about a value and the memory that stays when the memory grows -/
abbrev Fa := Value → World → Prop
def Sta (F : Fa) : Prop := ∀ v w w', F v w → Below w.heap.size w w' → F v w'
/-- how a call that only adds to the memory ends -/
def RetF (F : Fa) (w : World) (e : Ending) (w' : World) : Prop := ∃ v, e = .returned v ∧ F v w' ∧ Below w.heap.size w w'
/-- what is asked of an operation that only adds to the memory -/
def relUpon (P : Program) (w : World) (F : Fa) : Result Next → Prop
  | .ok (.value u) w' => F u w' ∧ Below w.heap.size w w'
  | .ok .skip w' => F undef w' ∧ Below w.heap.size w w'
  | .ok (.enter f args) w' => w' = w ∧ Calls P f args w (RetF F w)
  | _ => False
def relAt (P : Program) (o : Oper) (a : Act) (w : World) (F : Fa) : Prop := relUpon P w F ((execOp a.eval o).run P w)
/-- the slots of which facts alone are known -/
abbrev En := List (Tmp × Fa)
def fillE (E : En) (f : Tmp → Value) (a : Act) : Act := E.foldl (fun a e => a.put (some e.1) (f e.1)) a
def relAll : En → Act → World → (Act → Prop) → Prop
  | [], a, _, K => K a
  | e :: E, a, w, K => ∀ v, e.2 v w → relAll E (a.put (some e.1) v) w K
theorem relAll_use : ∀ (E : En) (a : Act) (w : World) (K : Act → Prop) (f : Tmp → Value), relAll E a w K → (∀ e ∈ E, e.2 (f e.1) w) → K (fillE E f a)
  | [], _, _, _, _, h, _ => h
  | e :: E, a, w, K, f, h, hf => relAll_use E _ w K f (h (f e.1) (hf e List.mem_cons_self)) fun e' he' => hf e' (List.mem_cons_of_mem _ he')
def lookE (ops : Array Oper) (o : Oper) (E : En) : En := E.filter fun e => (o.looksAt ops).contains e.1
def guardFree (ops : Array Oper) (o : Oper) (E : En) : Bool :=
  match o.guard with
  | none => true
  | some (g, _) => match (ops[g]?).bind (·.dst) with
    | none => true
    | some t => E.all fun e => e.1 != t
/-- THE WALK in the order of the text -/
def wpRel (P : Program) (ops : Array Oper) (w : World) (Q : Act → World → Prop) : List Oper → En → Act → Prop
  | [], E, a => ∀ d os, relAll E a (grow (redrawn w d) os) fun a' => Q a' (grow (redrawn w d) os)
  | o :: l, E, a => guardFree ops o E = true ∧
    if Region.wanted o (yielded ops a.tmps) then
      (∃ v, (∀ d os, relAll (lookE ops o E) a (grow (redrawn w d) os) fun a' => relAt P o a' (grow (redrawn w d) os) fun u _ => u = v) ∧ wpRel P ops w Q l E (a.put o.dst v)) ∨
      (∃ t F, o.dst = some t ∧ t < a.tmps.size ∧ Sta F ∧ (∀ d os, relAll (lookE ops o E) a (grow (redrawn w d) os) fun a' => relAt P o a' (grow (redrawn w d) os) F) ∧ wpRel P ops w Q l ((t, F) :: E) a)
    else wpRel P ops w Q l E (a.put o.dst undef)
/-- the same, up to an end that is named -/
def Lex (P : Program) (ops : Array Oper) (w : World) : List Oper → En → Act → En → Act → Prop
  | [], E, a, Ef, af => Ef = E ∧ af = a
  | o :: l, E, a, Ef, af => guardFree ops o E = true ∧
    ((Region.wanted o (yielded ops a.tmps) = true ∧
      ((∃ v, (∀ d os, relAll (lookE ops o E) a (grow (redrawn w d) os) fun a' => relAt P o a' (grow (redrawn w d) os) fun u _ => u = v) ∧ Lex P ops w l E (a.put o.dst v) Ef af) ∨
       (∃ t F, o.dst = some t ∧ t < a.tmps.size ∧ Sta F ∧ (∀ d os, relAll (lookE ops o E) a (grow (redrawn w d) os) fun a' => relAt P o a' (grow (redrawn w d) os) F) ∧ Lex P ops w l ((t, F) :: E) a Ef af))) ∨
     (Region.wanted o (yielded ops a.tmps) = false ∧ Lex P ops w l E (a.put o.dst undef) Ef af))
theorem wpRel_lex {P : Program} {ops : Array Oper} {w : World} {Q : Act → World → Prop} : ∀ (l : List Oper) (E : En) (a : Act), wpRel P ops w Q l E a →
    ∃ Ef af, Lex P ops w l E a Ef af ∧ ∀ d os, relAll Ef af (grow (redrawn w d) os) fun a' => Q a' (grow (redrawn w d) os)
  | [], E, a, h => ⟨E, a, ⟨rfl, rfl⟩, h⟩
  | o :: l, E, a, h => by
    obtain ⟨hg, h⟩ := h
    split at h
    · rename_i hw
      rcases h with ⟨v, h1, h2⟩ | ⟨t, F, h1, h2, h3, h4, h5⟩
      · obtain ⟨Ef, af, hl, hq⟩ := wpRel_lex l _ _ h2
        exact ⟨Ef, af, ⟨hg, .inl ⟨hw, .inl ⟨v, h1, hl⟩⟩⟩, hq⟩
      · obtain ⟨Ef, af, hl, hq⟩ := wpRel_lex l _ _ h5
        exact ⟨Ef, af, ⟨hg, .inl ⟨hw, .inr ⟨t, F, h1, h2, h3, h4, hl⟩⟩⟩, hq⟩
    · rename_i hw
      obtain ⟨Ef, af, hl, hq⟩ := wpRel_lex l _ _ h
      exact ⟨Ef, af, ⟨hg, .inr ⟨by simpa using hw, hl⟩⟩, hq⟩
/-- what a slot may hold -/
def Slot (E : En) (a : Act) (t : Tmp) (u : Option Value) (w : World) : Prop :=
  (∀ e ∈ E, e.1 = t → ∃ v, u = some v ∧ e.2 v w) ∧ ((∀ e ∈ E, e.1 ≠ t) → u = a.tmps[t]?)
theorem put_get (a : Act) (x : Option Tmp) (v : Value) (t : Tmp) : (a.put x v).tmps[t]? = if x = some t ∧ t < a.tmps.size then some v else a.tmps[t]? := by
  cases x with
  | none => simp [Act.put]
  | some d =>
    simp only [Act.put, Option.some.injEq, Array.getElem?_setIfInBounds]
    by_cases h : d = t
    · subst h
      by_cases h2 : d < a.tmps.size
      · simp [h2]
      · simp [h2]
    · simp [h]
theorem put_size (a : Act) (x : Option Tmp) (v : Value) : (a.put x v).tmps.size = a.tmps.size := by cases x <;> simp [Act.put]
theorem put_def (a : Act) (x : Option Tmp) (v : Value) : (a.put x v).defers = a.defers := by cases x <;> rfl
theorem slot_put {E : En} {a : Act} {x : Option Tmp} {v : Value} {t : Tmp} (h : x ≠ some t) (u : Option Value) (w : World) : Slot E (a.put x v) t u w ↔ Slot E a t u w := by
  unfold Slot; rw [put_get, if_neg (fun h2 => h h2.1)]
theorem slot_cons {E : En} {a : Act} {t' : Tmp} {F : Fa} {t : Tmp} (h : t' ≠ t) (u : Option Value) (w : World) : Slot ((t', F) :: E) a t u w ↔ Slot E a t u w := by
  unfold Slot
  constructor
  · rintro ⟨h1, h2⟩
    exact ⟨fun e he => h1 e (List.mem_cons_of_mem _ he), fun hn => h2 fun e he => by
      rcases List.mem_cons.1 he with rfl | he
      · exact h
      · exact hn e he⟩
  · rintro ⟨h1, h2⟩
    exact ⟨fun e he ht => by
      rcases List.mem_cons.1 he with rfl | he
      · exact absurd ht h
      · exact h1 e he ht, fun hn => h2 fun e he => hn e (List.mem_cons_of_mem _ he)⟩
def dsts (l : List Oper) : List Tmp := l.filterMap (·.dst)
theorem dsts_cons_some {o : Oper} {l : List Oper} {t : Tmp} (h : o.dst = some t) : dsts (o :: l) = t :: dsts l := by simp [dsts, h]
theorem dst_ne {o : Oper} {l : List Oper} {t : Tmp} (h : t ∉ dsts (o :: l)) : o.dst ≠ some t := fun e => h (by simp [dsts, e])
theorem dsts_tail {o : Oper} {l : List Oper} {t : Tmp} (h : t ∉ dsts (o :: l)) : t ∉ dsts l := fun e => h (by
  unfold dsts at e ⊢; rw [List.filterMap_cons]; split
  · exact e
  · exact List.mem_cons_of_mem _ e)
theorem Lex.size {P : Program} {ops : Array Oper} {w : World} : ∀ {l : List Oper} {E : En} {a : Act} {Ef : En} {af : Act}, Lex P ops w l E a Ef af → af.tmps.size = a.tmps.size ∧ af.defers = a.defers
  | [], E, a, Ef, af, h => by rw [h.2]; exact ⟨rfl, rfl⟩
  | o :: l, E, a, Ef, af, h => by
    rcases h.2 with ⟨_, ⟨v, _, h2⟩ | ⟨t, F, _, _, _, _, h2⟩⟩ | ⟨_, h2⟩
    · have := Lex.size h2; rw [put_size, put_def] at this; exact this
    · exact Lex.size h2
    · have := Lex.size h2; rw [put_size, put_def] at this; exact this
theorem Lex.sta {P : Program} {ops : Array Oper} {w : World} : ∀ {l : List Oper} {E : En} {a : Act} {Ef : En} {af : Act}, Lex P ops w l E a Ef af → (∀ e ∈ E, Sta e.2 ∧ e.1 < a.tmps.size) → ∀ e ∈ Ef, Sta e.2 ∧ e.1 < a.tmps.size
  | [], E, a, Ef, af, h, hE => by rw [h.1]; exact hE
  | o :: l, E, a, Ef, af, h, hE => by
    rcases h.2 with ⟨_, ⟨v, _, h2⟩ | ⟨t, F, _, hlt, hs, _, h2⟩⟩ | ⟨_, h2⟩
    · have := Lex.sta h2; rw [put_size] at this; exact this hE
    · exact Lex.sta h2 fun e he => by
        rcases List.mem_cons.1 he with rfl | he
        · exact ⟨hs, hlt⟩
        · exact hE e he
    · have := Lex.sta h2; rw [put_size] at this; exact this hE
theorem Lex.kept {P : Program} {ops : Array Oper} {w : World} : ∀ {l : List Oper} {E : En} {a : Act} {Ef : En} {af : Act}, Lex P ops w l E a Ef af → ∀ t, t ∉ dsts l → ∀ u w', Slot Ef af t u w' ↔ Slot E a t u w'
  | [], E, a, Ef, af, h, t, _, u, w' => by rw [h.1, h.2]
  | o :: l, E, a, Ef, af, h, t, ht, u, w' => by
    rcases h.2 with ⟨_, ⟨v, _, h2⟩ | ⟨t', F, hd, hlt, hs, _, h2⟩⟩ | ⟨_, h2⟩
    · exact (Lex.kept h2 t (dsts_tail ht) u w').trans (slot_put (dst_ne ht) u w')
    · exact (Lex.kept h2 t (dsts_tail ht) u w').trans (slot_cons (fun e => dst_ne ht (hd.trans (congrArg some e))) u w')
    · exact (Lex.kept h2 t (dsts_tail ht) u w').trans (slot_put (dst_ne ht) u w')
/-- what the walk shows of the operation number j, held against the walk's end -/
structure Ob (P : Program) (ops : Array Oper) (w : World) (E0 : En) (a0 : Act) (before after : List Tmp) (o : Oper) (Ef : En) (af : Act) (E1 : En) (a1 : Act) : Prop where
  old : ∀ t, t ∉ before → ∀ u w', Slot E1 a1 t u w' ↔ Slot E0 a0 t u w'
  new : ∀ t, o.dst ≠ some t → t ∉ after → ∀ u w', Slot Ef af t u w' ↔ Slot E1 a1 t u w'
  gf : guardFree ops o E1 = true
  sz : a1.tmps.size = a0.tmps.size
  bd : ∀ e ∈ E1, e.1 < a0.tmps.size
  nofact : ∀ t, t ∉ before → ∀ e ∈ E1, e.1 = t → e ∈ E0
  run : (Region.wanted o (yielded ops a1.tmps) = true ∧ ∃ F, (∀ d os, relAll (lookE ops o E1) a1 (grow (redrawn w d) os) fun a' => relAt P o a' (grow (redrawn w d) os) F) ∧ ∀ t, o.dst = some t → t < a0.tmps.size → t ∉ after → (∀ e ∈ E1, e.1 ≠ t) → ∀ v w', F v w' → Slot Ef af t (some v) w') ∨
    (Region.wanted o (yielded ops a1.tmps) = false ∧ ∀ t, o.dst = some t → t < a0.tmps.size → t ∉ after → (∀ e ∈ E1, e.1 ≠ t) → ∀ w', Slot Ef af t (some undef) w')
theorem slot_new {E : En} {a : Act} {t : Tmp} {v : Value} (h : t < a.tmps.size) (hE : ∀ e ∈ E, e.1 ≠ t) (w : World) : Slot E (a.put (some t) v) t (some v) w :=
  ⟨fun e he ht => absurd ht (hE e he), fun _ => by rw [put_get, if_pos ⟨rfl, h⟩]⟩
theorem slot_fact {E : En} {a : Act} {t : Tmp} {v : Value} {F : Fa} {w : World} (hE : ∀ e ∈ E, e.1 ≠ t) (hF : F v w) : Slot ((t, F) :: E) a t (some v) w :=
  ⟨fun e he ht => by
    rcases List.mem_cons.1 he with rfl | he
    · exact ⟨v, rfl, hF⟩
    · exact absurd ht (hE e he), fun hn => absurd rfl (hn (t, F) List.mem_cons_self)⟩
theorem Lex.ob {P : Program} {ops : Array Oper} {w : World} : ∀ {l : List Oper} {E : En} {a : Act} {Ef : En} {af : Act}, Lex P ops w l E a Ef af → (∀ e ∈ E, e.1 < a.tmps.size) → ∀ (j : Nat) (o : Oper), l[j]? = some o → ∃ E1 a1, Ob P ops w E a (dsts (l.take j)) (dsts (l.drop (j + 1))) o Ef af E1 a1
  | [], E, a, Ef, af, h, _, j, o, ho => by simp at ho
  | o' :: l, E, a, Ef, af, h, hbd, 0, o, ho => by
    obtain rfl : o' = o := by simpa using ho
    refine ⟨E, a, fun t _ u w' => Iff.rfl, ?_, h.1, rfl, hbd, fun _ _ e he _ => he, ?_⟩
    · intro t ht ht2 u w'
      have ht2' : t ∉ dsts l := by simpa using ht2
      rcases h.2 with ⟨_, ⟨v, _, h2⟩ | ⟨t', F, hd, hlt, hs, _, h2⟩⟩ | ⟨_, h2⟩
      · exact (Lex.kept h2 t ht2' u w').trans (slot_put ht u w')
      · exact (Lex.kept h2 t ht2' u w').trans (slot_cons (fun e => ht (hd.trans (congrArg some e))) u w')
      · exact (Lex.kept h2 t ht2' u w').trans (slot_put ht u w')
    · rcases h.2 with ⟨hw, ⟨v, h1, h2⟩ | ⟨t', F, hd, hlt, hs, h1, h2⟩⟩ | ⟨hw, h2⟩
      · refine .inl ⟨hw, _, h1, fun t hd hlt ht hE v' w' hv => ?_⟩
        subst hv
        exact (Lex.kept h2 t (by simpa using ht) _ _).2 (by rw [hd]; exact slot_new hlt hE w')
      · refine .inl ⟨hw, F, h1, fun t hd' hlt' ht hE v' w' hv => ?_⟩
        have ht' : t' = t := Option.some.inj (hd.symm.trans hd')
        subst ht'
        exact (Lex.kept h2 t' (by simpa using ht) _ _).2 (slot_fact hE hv)
      · refine .inr ⟨hw, fun t hd hlt ht hE w' => ?_⟩
        exact (Lex.kept h2 t (by simpa using ht) _ _).2 (by rw [hd]; exact slot_new hlt hE w')
  | o' :: l, E, a, Ef, af, h, hbd, j + 1, o, ho => by
    have ho' : l[j]? = some o := by simpa using ho
    have key : ∀ (E2 : En) (a2 : Act), (∀ t, o'.dst ≠ some t → ∀ u w', Slot E2 a2 t u w' ↔ Slot E a t u w') → (∀ t, o'.dst ≠ some t → ∀ e ∈ E2, e.1 = t → e ∈ E) → a2.tmps.size = a.tmps.size → (∀ e ∈ E2, e.1 < a2.tmps.size) → Lex P ops w l E2 a2 Ef af →
        ∃ E1 a1, Ob P ops w E a (dsts ((o' :: l).take (j + 1))) (dsts ((o' :: l).drop (j + 1 + 1))) o Ef af E1 a1 := by
      intro E2 a2 hst hnf hsz hb2 h2
      obtain ⟨E1, a1, k1, k2, k3, k4, k5, k7, k6⟩ := Lex.ob h2 hb2 j o ho'
      refine ⟨E1, a1, fun t ht u w' => ?_, by simpa using k2, k3, k4.trans hsz, by rw [← hsz]; exact k5, fun t ht e he het => ?_, by simpa [hsz] using k6⟩
      · have ht' : t ∉ dsts (o' :: l.take j) := by simpa using ht
        exact (k1 t (dsts_tail ht') u w').trans (hst t (dst_ne ht') u w')
      · have ht' : t ∉ dsts (o' :: l.take j) := by simpa using ht
        exact hnf t (dst_ne ht') e (k7 t (dsts_tail ht') e he het) het
    rcases h.2 with ⟨_, ⟨v, _, h2⟩ | ⟨t', F, hd, hlt, hs, _, h2⟩⟩ | ⟨_, h2⟩
    · exact key _ _ (fun t ht u w' => slot_put ht u w') (fun t ht e he _ => he) (put_size _ _ _) (by rw [put_size]; exact hbd) h2
    · exact key _ _ (fun t ht u w' => slot_cons (fun e => ht (hd.trans (congrArg some e))) u w') (fun t ht e he het => by
        rcases List.mem_cons.1 he with rfl | he
        · exact absurd (hd.trans (congrArg some het)) ht
        · exact he) rfl (fun e he => by
        rcases List.mem_cons.1 he with rfl | he
        · exact hlt
        · exact hbd e he) h2
    · exact key _ _ (fun t ht u w' => slot_put ht u w') (fun t ht e he _ => he) (put_size _ _ _) (by rw [put_size]; exact hbd) h2
end Go.Proofs.Ytimojbjamfckmaa
