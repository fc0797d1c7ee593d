/- Regions that draw their order, walked once in the order of the text: the operations keep a relation G of worlds, and each takes one from a budget J (a stream that is read, say). No condition.
   The steps of a walk through a region that draws its order and keeps a relation. No condition.
   The steps of a walk through a region that draws its order and asks the makers' stream. No program. -/
import Derived.Test.YtcpifmhcebfglaaMgRel
import Derived.Tactics
import Derived.Tactics2
import Derived.KernelRfl
import Derived.Test.YtcpifmhcebfglaaMgGsA
namespace Go.Proofs.Ytcpifmhcebfglaa.Rels
open Go Go.RowKit Go.Sort
set_option linter.unusedVariables false
section
variable {G : World → World → Prop} {J : Nat → World → Prop} {N : Nat}
/-- what is asked of the relation and of the budget -/
structure Sys (G : World → World → Prop) (J : Nat → World → Prop) : Prop where
  refl : ∀ w, G w w
  trans : ∀ {a b c}, G a b → G b c → G a c
  drew : ∀ a, G a { a with drawn := a.drawn + 1 }
  mono : ∀ {i j w}, J i w → i ≤ j → J j w
  size : ∀ {a b}, G a b → a.heap.size ≤ b.heap.size
  keep : ∀ {i a}, J i a → J i { a with drawn := a.drawn + 1 }
def Sta (G : World → World → Prop) (F : Fa) : Prop := ∀ v w w', F v w → G w w' → F v w'
def RetF (G : World → World → Prop) (J : Nat → World → Prop) (i : Nat) (F : Fa) (w : World) (e : Ending) (w' : World) : Prop := ∃ v, e = .returned v ∧ F v w' ∧ G w w' ∧ J (i + 1) w'
def isA (o : Oper) : Bool := match o.op with | .alloc _ => true | _ => false
/-- what an operation that makes a variable hands back: a new place -/
def Pin (al : Bool) (w : World) (u : Value) (w' : World) : Prop := al = true → ∃ p, u = .pointer (some ⟨p, 0, none⟩) ∧ w.heap.size ≤ p ∧ p < w'.heap.size
def relUpon (G : World → World → Prop) (J : Nat → World → Prop) (i : Nat) (al : Bool) (P : Program) (w : World) (F : Fa) : Result Next → Prop
  | .ok (.value u) w' => F u w' ∧ G w w' ∧ J (i + 1) w' ∧ Pin al w u w'
  | .ok .skip w' => F undef w' ∧ G w w' ∧ J (i + 1) w' ∧ al = false
  | .ok (.enter f args) w' => w' = w ∧ al = false ∧ Calls P f args w (RetF G J i F w)
  | _ => False
def relAt (G : World → World → Prop) (J : Nat → World → Prop) (i : Nat) (P : Program) (o : Oper) (a : Act) (w : World) (F : Fa) : Prop := relUpon G J i (isA o) P w F ((execOp a.eval o).run P w)
/-- THE WALK in the order of the text -/
def wpRel (G : World → World → Prop) (J : Nat → World → Prop) (N : Nat) (P : Program) (ops : Array Oper) (w : World) (Q : Act → World → Prop) : List Oper → En → Act → Prop
  | [], E, a => ∀ W, G w W → J N W → relAll E a W fun a' => Q a' W
  | o :: l, E, a => guardFree ops o E = true ∧
    if Region.wanted o (yielded ops a.tmps) then
      (∃ v, (∀ W i, i < N → G w W → J i W → relAll (lookE ops o E) a W fun a' => relAt G J i P o a' W fun u _ => u = v) ∧ wpRel G J N P ops w Q l E (a.put o.dst v)) ∨
      (∃ t F, o.dst = some t ∧ t < a.tmps.size ∧ Sta G F ∧ (∀ W i, i < N → G w W → J i W → relAll (lookE ops o E) a W fun a' => relAt G J i P o a' W F) ∧ wpRel G J N P ops w Q l ((t, F) :: E) a)
    else isA o = false ∧ wpRel G J N P ops w Q l E (a.put o.dst undef)
/-- the same, up to an end that is named -/
def Lex (G : World → World → Prop) (J : Nat → World → Prop) (N : Nat) (P : Program) (ops : Array Oper) (w : World) : List Oper → En → Act → En → Act → Prop
  | [], E, a, Ef, af => Ef = E ∧ af = a
  | o :: l, E, a, Ef, af => guardFree ops o E = true ∧
    ((Region.wanted o (yielded ops a.tmps) = true ∧
      ((∃ v, (∀ W i, i < N → G w W → J i W → relAll (lookE ops o E) a W fun a' => relAt G J i P o a' W fun u _ => u = v) ∧ Lex G J N P ops w l E (a.put o.dst v) Ef af) ∨
       (∃ t F, o.dst = some t ∧ t < a.tmps.size ∧ Sta G F ∧ (∀ W i, i < N → G w W → J i W → relAll (lookE ops o E) a W fun a' => relAt G J i P o a' W F) ∧ Lex G J N P ops w l ((t, F) :: E) a Ef af))) ∨
     (Region.wanted o (yielded ops a.tmps) = false ∧ isA o = false ∧ Lex G J N P ops w l E (a.put o.dst undef) Ef af))
theorem wpRel_lex {P : Program} {ops : Array Oper} {w : World} {Q : Act → World → Prop} : ∀ (l : List Oper) (E : En) (a : Act), wpRel G J N P ops w Q l E a →
    ∃ Ef af, Lex G J N P ops w l E a Ef af ∧ ∀ W, G w W → J N W → relAll Ef af W fun a' => Q a' W
  | [], E, a, h => ⟨E, a, ⟨rfl, rfl⟩, h⟩
  | o :: l, E, a, h => by
    obtain ⟨hg, h⟩ := h
    split at h
    · rename_i hw
      rcases h with ⟨v, h1, h2⟩ | ⟨t, F, h1, h2, h3, h4, h5⟩
      · obtain ⟨Ef, af, hl, hq⟩ := wpRel_lex l _ _ h2
        exact ⟨Ef, af, ⟨hg, .inl ⟨hw, .inl ⟨v, h1, hl⟩⟩⟩, hq⟩
      · obtain ⟨Ef, af, hl, hq⟩ := wpRel_lex l _ _ h5
        exact ⟨Ef, af, ⟨hg, .inl ⟨hw, .inr ⟨t, F, h1, h2, h3, h4, hl⟩⟩⟩, hq⟩
    · rename_i hw
      obtain ⟨Ef, af, hl, hq⟩ := wpRel_lex l _ _ h.2
      exact ⟨Ef, af, ⟨hg, .inr ⟨by simpa using hw, h.1, hl⟩⟩, hq⟩
theorem Lex.size {P : Program} {ops : Array Oper} {w : World} : ∀ {l : List Oper} {E : En} {a : Act} {Ef : En} {af : Act}, Lex G J N P ops w l E a Ef af → af.tmps.size = a.tmps.size ∧ af.defers = a.defers
  | [], E, a, Ef, af, h => by rw [h.2]; exact ⟨rfl, rfl⟩
  | o :: l, E, a, Ef, af, h => by
    rcases h.2 with ⟨_, ⟨v, _, h2⟩ | ⟨t, F, _, _, _, _, h2⟩⟩ | ⟨_, _, h2⟩
    · have := Lex.size h2; rw [put_size, put_def] at this; exact this
    · exact Lex.size h2
    · have := Lex.size h2; rw [put_size, put_def] at this; exact this
theorem Lex.sta {P : Program} {ops : Array Oper} {w : World} : ∀ {l : List Oper} {E : En} {a : Act} {Ef : En} {af : Act}, Lex G J N P ops w l E a Ef af → (∀ e ∈ E, Sta G e.2 ∧ e.1 < a.tmps.size) → ∀ e ∈ Ef, Sta G e.2 ∧ e.1 < a.tmps.size
  | [], E, a, Ef, af, h, hE => by rw [h.1]; exact hE
  | o :: l, E, a, Ef, af, h, hE => by
    rcases h.2 with ⟨_, ⟨v, _, h2⟩ | ⟨t, F, _, hlt, hs, _, h2⟩⟩ | ⟨_, _, h2⟩
    · have := Lex.sta h2; rw [put_size] at this; exact this hE
    · exact Lex.sta h2 fun e he => by
        rcases List.mem_cons.1 he with rfl | he
        · exact ⟨hs, hlt⟩
        · exact hE e he
    · have := Lex.sta h2; rw [put_size] at this; exact this hE
theorem Lex.kept {P : Program} {ops : Array Oper} {w : World} : ∀ {l : List Oper} {E : En} {a : Act} {Ef : En} {af : Act}, Lex G J N P ops w l E a Ef af → ∀ t, t ∉ dsts l → ∀ u w', Slot Ef af t u w' ↔ Slot E a t u w'
  | [], E, a, Ef, af, h, t, _, u, w' => by rw [h.1, h.2]
  | o :: l, E, a, Ef, af, h, t, ht, u, w' => by
    rcases h.2 with ⟨_, ⟨v, _, h2⟩ | ⟨t', F, hd, hlt, hs, _, h2⟩⟩ | ⟨_, _, h2⟩
    · exact (Lex.kept h2 t (dsts_tail ht) u w').trans (slot_put (dst_ne ht) u w')
    · exact (Lex.kept h2 t (dsts_tail ht) u w').trans (slot_cons (fun e => dst_ne ht (hd.trans (congrArg some e))) u w')
    · exact (Lex.kept h2 t (dsts_tail ht) u w').trans (slot_put (dst_ne ht) u w')
/-- what the walk shows of the operation number j, held against the walk's end -/
structure Ob (G : World → World → Prop) (J : Nat → World → Prop) (N : Nat) (P : Program) (ops : Array Oper) (w : World) (E0 : En) (a0 : Act) (before after : List Tmp) (o : Oper) (Ef : En) (af : Act) (E1 : En) (a1 : Act) : Prop where
  old : ∀ t, t ∉ before → ∀ u w', Slot E1 a1 t u w' ↔ Slot E0 a0 t u w'
  new : ∀ t, o.dst ≠ some t → t ∉ after → ∀ u w', Slot Ef af t u w' ↔ Slot E1 a1 t u w'
  gf : guardFree ops o E1 = true
  sz : a1.tmps.size = a0.tmps.size
  bd : ∀ e ∈ E1, e.1 < a0.tmps.size
  nofact : ∀ t, t ∉ before → ∀ e ∈ E1, e.1 = t → e ∈ E0
  run : (Region.wanted o (yielded ops a1.tmps) = true ∧ ∃ F, (∀ W i, i < N → G w W → J i W → relAll (lookE ops o E1) a1 W fun a' => relAt G J i P o a' W F) ∧ ∀ t, o.dst = some t → t < a0.tmps.size → t ∉ after → (∀ e ∈ E1, e.1 ≠ t) → ∀ v w', F v w' → Slot Ef af t (some v) w') ∨
    (Region.wanted o (yielded ops a1.tmps) = false ∧ isA o = false ∧ ∀ t, o.dst = some t → t < a0.tmps.size → t ∉ after → (∀ e ∈ E1, e.1 ≠ t) → ∀ w', Slot Ef af t (some undef) w')
theorem Lex.ob {P : Program} {ops : Array Oper} {w : World} : ∀ {l : List Oper} {E : En} {a : Act} {Ef : En} {af : Act}, Lex G J N P ops w l E a Ef af → (∀ e ∈ E, e.1 < a.tmps.size) → ∀ (j : Nat) (o : Oper), l[j]? = some o → ∃ E1 a1, Ob G J N P ops w E a (dsts (l.take j)) (dsts (l.drop (j + 1))) o Ef af E1 a1
  | [], E, a, Ef, af, h, _, j, o, ho => by simp at ho
  | o' :: l, E, a, Ef, af, h, hbd, 0, o, ho => by
    obtain rfl : o' = o := by simpa using ho
    refine ⟨E, a, fun t _ u w' => Iff.rfl, ?_, h.1, rfl, hbd, fun _ _ e he _ => he, ?_⟩
    · intro t ht ht2 u w'
      have ht2' : t ∉ dsts l := by simpa using ht2
      rcases h.2 with ⟨_, ⟨v, _, h2⟩ | ⟨t', F, hd, hlt, hs, _, h2⟩⟩ | ⟨_, _, h2⟩
      · exact (Lex.kept h2 t ht2' u w').trans (slot_put ht u w')
      · exact (Lex.kept h2 t ht2' u w').trans (slot_cons (fun e => ht (hd.trans (congrArg some e))) u w')
      · exact (Lex.kept h2 t ht2' u w').trans (slot_put ht u w')
    · rcases h.2 with ⟨hw, ⟨v, h1, h2⟩ | ⟨t', F, hd, hlt, hs, h1, h2⟩⟩ | ⟨hw, hal, h2⟩
      · refine .inl ⟨hw, _, h1, fun t hd hlt ht hE v' w' hv => ?_⟩
        subst hv
        exact (Lex.kept h2 t (by simpa using ht) _ _).2 (by rw [hd]; exact slot_new hlt hE w')
      · refine .inl ⟨hw, F, h1, fun t hd' hlt' ht hE v' w' hv => ?_⟩
        have ht' : t' = t := Option.some.inj (hd.symm.trans hd')
        subst ht'
        exact (Lex.kept h2 t' (by simpa using ht) _ _).2 (slot_fact hE hv)
      · refine .inr ⟨hw, hal, fun t hd hlt ht hE w' => ?_⟩
        exact (Lex.kept h2 t (by simpa using ht) _ _).2 (by rw [hd]; exact slot_new hlt hE w')
  | o' :: l, E, a, Ef, af, h, hbd, j + 1, o, ho => by
    have ho' : l[j]? = some o := by simpa using ho
    have key : ∀ (E2 : En) (a2 : Act), (∀ t, o'.dst ≠ some t → ∀ u w', Slot E2 a2 t u w' ↔ Slot E a t u w') → (∀ t, o'.dst ≠ some t → ∀ e ∈ E2, e.1 = t → e ∈ E) → a2.tmps.size = a.tmps.size → (∀ e ∈ E2, e.1 < a2.tmps.size) → Lex G J N P ops w l E2 a2 Ef af →
        ∃ E1 a1, Ob G J N P ops w E a (dsts ((o' :: l).take (j + 1))) (dsts ((o' :: l).drop (j + 1 + 1))) o Ef af E1 a1 := by
      intro E2 a2 hst hnf hsz hb2 h2
      obtain ⟨E1, a1, k1, k2, k3, k4, k5, k7, k6⟩ := Lex.ob h2 hb2 j o ho'
      refine ⟨E1, a1, fun t ht u w' => ?_, by simpa using k2, k3, k4.trans hsz, by rw [← hsz]; exact k5, fun t ht e he het => ?_, by simpa [hsz] using k6⟩
      · have ht' : t ∉ dsts (o' :: l.take j) := by simpa using ht
        exact (k1 t (dsts_tail ht') u w').trans (hst t (dst_ne ht') u w')
      · have ht' : t ∉ dsts (o' :: l.take j) := by simpa using ht
        exact hnf t (dst_ne ht') e (k7 t (dsts_tail ht') e he het) het
    rcases h.2 with ⟨_, ⟨v, _, h2⟩ | ⟨t', F, hd, hlt, hs, _, h2⟩⟩ | ⟨_, _, h2⟩
    · exact key _ _ (fun t ht u w' => slot_put ht u w') (fun t ht e he _ => he) (put_size _ _ _) (by rw [put_size]; exact hbd) h2
    · exact key _ _ (fun t ht u w' => slot_cons (fun e => ht (hd.trans (congrArg some e))) u w') (fun t ht e he het => by
        rcases List.mem_cons.1 he with rfl | he
        · exact absurd (hd.trans (congrArg some het)) ht
        · exact he) rfl (fun e he => by
        rcases List.mem_cons.1 he with rfl | he
        · exact hlt
        · exact hbd e he) h2
    · exact key _ _ (fun t ht u w' => slot_put ht u w') (fun t ht e he _ => he) (put_size _ _ _) (by rw [put_size]; exact hbd) h2
end
section
variable {G : World → World → Prop} {J : Nat → World → Prop} {N : Nat}
variable {P : Program} {ops : Array Oper} {md : Region.Mode} {w0 : World} {n : Nat} {a0 : Act} {Ef : En} {af : Act}
/-- what holds of frame and memory once the operations that are listed have come up -/
structure Real (G : World → World → Prop) (J : Nat → World → Prop) (i : Nat) (ops : Array Oper) (n : Nat) (w0 : World) (a0 : Act) (Ef : En) (af : Act) (listed : Array Bool) (a : Act) (w : World) : Prop where
  lo : G w0 w
  jj : J i w
  def_ : a.defers = a0.defers
  size : a.tmps.size = a0.tmps.size
  done : ∀ k o t, k < n → ops[k]? = some o → listed.getD k false = true → o.dst = some t → t < a0.tmps.size → Slot Ef af t (a.tmps[t]?) w
  rest : ∀ t, (∀ k o, k < n → ops[k]? = some o → listed.getD k false = true → o.dst ≠ some t) → a.tmps[t]? = a0.tmps[t]?
  low : ∀ k o t, k < n → ops[k]? = some o → listed.getD k false = true → isA o = true → o.dst = some t → t < a0.tmps.size → ∃ p, a.tmps[t]? = some (.pointer (some ⟨p, 0, none⟩)) ∧ p < w.heap.size
  dis : ∀ k1 k2 o1 o2 t1 t2 p1 p2, k1 < n → k2 < n → k1 ≠ k2 → ops[k1]? = some o1 → ops[k2]? = some o2 → listed.getD k1 false = true → listed.getD k2 false = true → isA o1 = true → isA o2 = true → o1.dst = some t1 → o2.dst = some t2 → t1 < a0.tmps.size → t2 < a0.tmps.size →
    a.tmps[t1]? = some (.pointer (some ⟨p1, 0, none⟩)) → a.tmps[t2]? = some (.pointer (some ⟨p2, 0, none⟩)) → p1 ≠ p2
/-- the variables that are made lie apart -/
def Apart (ops : Array Oper) (n : Nat) (a : Act) : Prop := ∀ k1 k2 o1 o2 t1 t2 p1 p2, k1 < n → k2 < n → k1 ≠ k2 → ops[k1]? = some o1 → ops[k2]? = some o2 → isA o1 = true → isA o2 = true → o1.dst = some t1 → o2.dst = some t2 → t1 < a.tmps.size → t2 < a.tmps.size →
    a.tmps[t1]? = some (.pointer (some ⟨p1, 0, none⟩)) → a.tmps[t2]? = some (.pointer (some ⟨p2, 0, none⟩)) → p1 ≠ p2
theorem Slot.grown {E : En} {a : Act} {t : Tmp} {u : Option Value} {w w' : World} (hE : ∀ e ∈ E, Sta G e.2) (h : Slot E a t u w) (hb : G w w') : Slot E a t u w' :=
  ⟨fun e he ht => let ⟨v, h1, h2⟩ := h.1 e he ht; ⟨v, h1, hE e he v w w' h2 hb⟩, h.2⟩
theorem step_slot (hR : RelB md ops n) {j k : Nat} {o ok : Oper} {t : Tmp} (hj : j < n) (ho : ops[j]? = some o) (hk : k < n) (hok : ops[k]? = some ok) (ht : ok.dst = some t) : (j = k ∧ o = ok) ∨ (k ≠ j ∧ o.dst ≠ some t) := by
  by_cases hkj : j = k
  · subst hkj; exact .inl ⟨rfl, Option.some.inj (ho.symm.trans hok)⟩
  · refine .inr ⟨Ne.symm hkj, fun e => ?_⟩
    rcases Nat.lt_or_ge k j with hlt' | hge
    · rcases hR.once j k ok o hlt' hj hok ho with h1 | h1
      · rw [h1] at ht; cases ht
      · exact h1 (ht.trans e.symm)
    · rcases hR.once k j o ok (by omega) hk ho hok with h1 | h1
      · rw [h1] at e; cases e
      · exact h1 (e.trans ht.symm)
theorem Real.step {i : Nat} (S : Sys G J) (hR : RelB md ops n) (hE : ∀ e ∈ Ef, Sta G e.2) {listed : Array Bool} {a : Act} {w w2 : World} (h : Real G J i ops n w0 a0 Ef af listed a w) {j : Nat} {o : Oper} (hj : j < n) (ho : ops[j]? = some o) (hun : listed.getD j false = false) (hsz : listed.size = ops.size) {u : Value}
    (hb : G w w2) (hb2 : J (i + 1) w2) (hpin : Pin (isA o) w u w2) (hu : ∀ t, o.dst = some t → t < a0.tmps.size → Slot Ef af t (some u) w2) : Real G J (i + 1) ops n w0 a0 Ef af (listed.setIfInBounds j true) (a.put o.dst u) w2 := by
  have hjs : j < listed.size := by rw [hsz]; exact (Array.getElem?_eq_some_iff.1 ho).1
  refine ⟨S.trans h.lo hb, hb2, by rw [put_def]; exact h.def_, by rw [put_size]; exact h.size, ?_, ?_, ?_, ?_⟩
  · intro k ok t hk hok hl ht hlt
    by_cases hkj : j = k
    · subst hkj
      have : ok = o := Option.some.inj (hok.symm.trans ho)
      subst this
      rw [put_get, if_pos ⟨ht, by rw [h.size]; exact hlt⟩]; exact hu t ht hlt
    · rw [getD_set_ne false hkj] at hl
      have hne : o.dst ≠ some t := by
        intro e
        rcases Nat.lt_or_ge k j with hlt' | hge
        · rcases hR.once j k ok o hlt' hj hok ho with h1 | h1
          · rw [h1] at ht; cases ht
          · exact h1 (ht.trans e.symm)
        · rcases hR.once k j o ok (by omega) hk ho hok with h1 | h1
          · rw [h1] at e; cases e
          · exact h1 (e.trans ht.symm)
      rw [put_get, if_neg (fun h2 => hne h2.1)]
      exact Rels.Slot.grown hE (h.done k ok t hk hok hl ht hlt) hb
  · intro t ht
    have hne : o.dst ≠ some t := ht j o hj ho (getD_set hjs)
    rw [put_get, if_neg (fun h2 => hne h2.1)]
    exact h.rest t fun k ok hk hok hl => ht k ok hk hok (getD_set_true hl)
  · intro k ok t hk hok hl hal ht hlt
    rcases step_slot hR hj ho hk hok ht with ⟨rfl, rfl⟩ | ⟨hkj, hne⟩
    · obtain ⟨p, hp1, hp2, hp3⟩ := hpin hal
      exact ⟨p, by rw [put_get, if_pos ⟨ht, by rw [h.size]; exact hlt⟩, hp1], hp3⟩
    · rw [getD_set_ne false (Ne.symm hkj)] at hl
      obtain ⟨p, hp1, hp2⟩ := h.low k ok t hk hok hl hal ht hlt
      exact ⟨p, by rw [put_get, if_neg (fun h2 => hne h2.1)]; exact hp1, Nat.lt_of_lt_of_le hp2 (S.size hb)⟩
  · intro k1 k2 o1 o2 t1 t2 p1 p2 hk1 hk2 hne hok1 hok2 hl1 hl2 hal1 hal2 ht1 ht2 hlt1 hlt2 hp1 hp2
    have key : ∀ (k : Nat) (ok : Oper) (t p p' : Nat), k < n → ops[k]? = some ok → listed.getD k false = true → isA ok = true → ok.dst = some t → t < a0.tmps.size → (a.put o.dst u).tmps[t]? = some (.pointer (some ⟨p, 0, none⟩)) → o.dst ≠ some t → isA o = true → (a.put o.dst u).tmps[t]? = some (.pointer (some ⟨p, 0, none⟩)) → u = .pointer (some ⟨p', 0, none⟩) → p < p' := by
      intro k ok t p p' hk hok hl hal ht hlt hp hdn halo _ hu'
      rw [put_get, if_neg (fun h2 => hdn h2.1)] at hp
      obtain ⟨q, hq1, hq2⟩ := h.low k ok t hk hok hl hal ht hlt
      obtain ⟨q', hq3, hq4, _⟩ := hpin halo
      rw [hq1] at hp
      rw [hq3] at hu'
      injection hp with hp; injection hp with hp; injection hp with hp; injection hp with hp
      injection hu' with hu'; injection hu' with hu'; injection hu' with hu'
      omega
    rcases step_slot hR hj ho hk1 hok1 ht1 with ⟨rfl, rfl⟩ | ⟨hkj1, hne1⟩
    · rcases step_slot hR hj ho hk2 hok2 ht2 with ⟨rfl, _⟩ | ⟨hkj2, hne2⟩
      · exact absurd rfl hne
      · rw [getD_set_ne false (Ne.symm hkj2)] at hl2
        have hu' : u = .pointer (some ⟨p1, 0, none⟩) := by
          rw [put_get, if_pos ⟨ht1, by rw [h.size]; exact hlt1⟩] at hp1; exact Option.some.inj hp1
        have := key k2 o2 t2 p2 p1 hk2 hok2 hl2 hal2 ht2 hlt2 hp2 hne2 hal1 hp2 hu'
        omega
    · rw [getD_set_ne false (Ne.symm hkj1)] at hl1
      rcases step_slot hR hj ho hk2 hok2 ht2 with ⟨rfl, rfl⟩ | ⟨hkj2, hne2⟩
      · have hu' : u = .pointer (some ⟨p2, 0, none⟩) := by
          rw [put_get, if_pos ⟨ht2, by rw [h.size]; exact hlt2⟩] at hp2; exact Option.some.inj hp2
        have := key k1 o1 t1 p1 p2 hk1 hok1 hl1 hal1 ht1 hlt1 hp1 hne1 hal2 hp1 hu'
        omega
      · rw [getD_set_ne false (Ne.symm hkj2)] at hl2
        rw [put_get, if_neg (fun h2 => hne1 h2.1)] at hp1
        rw [put_get, if_neg (fun h2 => hne2 h2.1)] at hp2
        exact h.dis k1 k2 o1 o2 t1 t2 p1 p2 hk1 hk2 hne hok1 hok2 hl1 hl2 hal1 hal2 ht1 ht2 hlt1 hlt2 hp1 hp2
/-- an operation that may come up now does what the walk in the order of the text has shown of it -/
theorem Real.op {i : Nat} (S : Sys G J) (hiN : i < N) (hR : RelB md ops n) (hL : Lex G J N P ops w0 (ops.toList.take n) [] a0 Ef af) (hE : ∀ e ∈ Ef, Sta G e.2) {listed : Array Bool} (hI : HeadInv md ops n listed) {a : Act} {w : World} (h : Real G J i ops n w0 a0 Ef af listed a w) {j : Nat} (hj : j < n) (hr : j ∈ Region.ready md ops listed)
    {Q : Exit → Act → World → Prop} {K : Act → World → Prop} (hK : ∀ a' w', Real G J (i + 1) ops n w0 a0 Ef af (listed.setIfInBounds j true) a' w' → K a' w') : wpOp P ops Q j K a w := by
  obtain ⟨hun, o, ho, hall⟩ := mem_ready.1 hr
  have hunF := getD_both hun
  have hl : (ops.toList.take n)[j]? = some o := by rw [List.getElem?_take_of_lt hj]; simpa using ho
  have hget : ∀ k, k < n → (ops.toList.take n)[k]? = ops[k]? := fun k hk => by rw [List.getElem?_take_of_lt hk]; simp
  obtain ⟨E1, a1, O⟩ := Lex.ob hL (fun e he => by cases he) j o hl
  -- a slot that an earlier operation of the text fills
  have hbefore : ∀ t, t ∈ dsts ((ops.toList.take n).take j) → ∃ k ok, k < j ∧ ops[k]? = some ok ∧ ok.dst = some t := by
    intro t ht
    obtain ⟨k, ok, hk, hd⟩ := mem_dsts ht
    rcases Nat.lt_or_ge k j with hkj | hkj
    · rw [List.getElem?_take_of_lt hkj, hget k (by omega)] at hk; exact ⟨k, ok, hkj, hk, hd⟩
    · rw [List.getElem?_take_eq_none hkj] at hk; cases hk
  have hafter : ∀ t k ok, k ≤ j → ops[k]? = some ok → ok.dst = some t → t ∉ dsts ((ops.toList.take n).drop (j + 1)) := by
    intro t k ok hkj hok hd ht
    obtain ⟨i, oi, hi, hdi⟩ := mem_dsts ht
    rw [List.getElem?_drop] at hi
    have hin : j + 1 + i < n := by
      rcases Nat.lt_or_ge (j + 1 + i) n with h' | h'
      · exact h'
      · rw [List.getElem?_take_eq_none h'] at hi; cases hi
    rw [hget _ hin] at hi
    rcases hR.once (j + 1 + i) k ok oi (by omega) hin hok hi with h1 | h1
    · rw [h1] at hd; cases hd
    · exact h1 (hd.trans hdi.symm)
  have hslot : ∀ t ∈ o.looksAt ops, Slot E1 a1 t (a.tmps[t]?) w := by
    intro t ht
    by_cases hb : t ∈ dsts ((ops.toList.take n).take j)
    · obtain ⟨k, ok, hkj, hok, hd⟩ := hbefore t hb
      have hwait : Region.waitsFor md ops j k = true := by
        rcases hR.pair j k ok o hkj hj hok ho with h1 | h1
        · exact h1
        · exact absurd ht ((Oper.apart_spec h1).1 t hd)
      obtain ⟨e, he, hbi, hon⟩ := waits_on hwait ho
      have hlist := hall e he hbi
      rw [hon] at hlist
      have hne : o.dst ≠ some t := by
        intro e'
        rcases hR.once j k ok o hkj hj hok ho with h1 | h1
        · rw [h1] at hd; cases hd
        · exact h1 (hd.trans e'.symm)
      by_cases hlt : t < a0.tmps.size
      · exact (O.new t hne (hafter t k ok (by omega) hok hd) _ _).1 (h.done k ok t (by omega) hok hlist hd hlt)
      · refine ⟨fun e he het => absurd (het ▸ O.bd e he) hlt, fun _ => ?_⟩
        rw [Array.getElem?_eq_none (by rw [h.size]; exact Nat.le_of_not_lt hlt), Array.getElem?_eq_none (by rw [O.sz]; exact Nat.le_of_not_lt hlt)]
    · refine (O.old t hb _ _).2 ⟨fun e he => (by cases he), fun _ => h.rest t fun k ok hk hok hlist hd => ?_⟩
      rcases Nat.lt_trichotomy k j with hkj | hkj | hkj
      · refine hb ?_
        unfold dsts
        exact List.mem_filterMap.2 ⟨ok, List.mem_of_getElem? (i := k) (by rw [List.getElem?_take_of_lt hkj, hget k hk]; exact hok), hd⟩
      · subst hkj; rw [hunF] at hlist; cases hlist
      · rcases hR.pair k j o ok hkj hk ho hok with h1 | h1
        · obtain ⟨e, he, hbi, hon⟩ := waits_on h1 hok
          have := hI.closed k ok hok hlist e he hbi
          rw [hon, hunF] at this; cases this
        · exact absurd ht ((Oper.apart_spec h1).2.2 t hd)
  have hw : Region.wanted o (yielded ops a.tmps) = Region.wanted o (yielded ops a1.tmps) := by
    unfold Region.wanted
    cases hg : o.guard with
    | none => rfl
    | some gw =>
      obtain ⟨g, want⟩ := gw
      have hy : yielded ops a.tmps g = yielded ops a1.tmps g := by
        unfold yielded
        cases ht : (ops[g]?).bind (·.dst) with
        | none => rfl
        | some t =>
          have hgf := O.gf
          unfold guardFree at hgf
          rw [hg] at hgf
          simp only [ht] at hgf
          have hlk : t ∈ o.looksAt ops := by simp [Oper.looksAt, hg, ht]
          have := (hslot t hlk).2 fun e he => by simpa using List.all_eq_true.1 hgf e he
          simp only [Option.bind_some, this]
      simp only [hy]
  unfold wpOp
  simp only [ho]
  rcases O.run with ⟨hw1, F, hF, hend⟩ | ⟨hw1, hal, hend⟩
  · rw [hw, hw1]
    simp only [if_true]
    refine .inl ?_
    have hsub : ∀ e ∈ lookE ops o E1, e ∈ E1 ∧ e.1 ∈ o.looksAt ops := fun e he => by
      have := List.mem_filter.1 he
      exact ⟨this.1, by simpa using this.2⟩
    have hrel := relAll_use _ _ _ _ (fun t => (a.tmps[t]?).getD undef) (hF w i hiN h.lo h.jj) fun e he => by
      obtain ⟨he1, he2⟩ := hsub e he
      obtain ⟨v, hv, hf⟩ := (hslot e.1 he2).1 e he1 rfl
      show e.2 ((a.tmps[e.1]?).getD undef) _
      rw [hv]; exact hf
    have hex : execOp (fillE (lookE ops o E1) (fun t => (a.tmps[t]?).getD undef) a1).eval o = execOp a.eval o := by
      refine execOp_congr o (fun cs b => Region.noSelect_spec hR.sel j o cs b ho) fun x hx => Act.eval_same fun t hxt => ?_
      have hlk : t ∈ o.looksAt ops := by
        subst hxt
        exact List.mem_append_left _ (List.mem_filterMap.2 ⟨.tmp t, by simpa using hx, rfl⟩)
      refine fill_agree (w := w) _ rfl (fun e he => by rw [O.sz]; exact O.bd e (hsub e he).1) ⟨fun e he het => (hslot t hlk).1 e (hsub e he).1 het, fun hn => (hslot t hlk).2 fun e he het => ?_⟩
      refine hn e (List.mem_filter.2 ⟨he, ?_⟩) het
      rw [het]; simpa using hlk
    unfold relAt at hrel
    rw [hex] at hrel
    unfold Oper.wp
    have hend' : ∀ v w2, F v w2 → ∀ t, o.dst = some t → t < a0.tmps.size → Slot Ef af t (some v) w2 := by
      intro v w2 hv t hd hlt
      refine hend t hd hlt (hafter t j o (Nat.le_refl _) ho hd) (fun e he het => ?_) v w2 hv
      -- the slot is no earlier operation's
      have hnb : t ∉ dsts ((ops.toList.take n).take j) := fun hb => by
        obtain ⟨k, ok, hkj, hok, hdk⟩ := hbefore t hb
        rcases hR.once j k ok o hkj hj hok ho with h1 | h1
        · rw [h1] at hdk; cases hdk
        · exact h1 (hdk.trans hd.symm)
      cases O.nofact t hnb e he het
    generalize (execOp a.eval o).run P w = r at hrel ⊢
    cases r with
    | ok nx w' =>
      cases nx <;> simp only [relUpon] at hrel <;> simp only [Oper.upon]
      case value u => exact hK _ _ (h.step S hR hE hj ho hunF hI.size hrel.2.1 hrel.2.2.1 hrel.2.2.2 (hend' u w' hrel.1))
      case skip => exact hK _ _ (h.step S hR hE hj ho hunF hI.size hrel.2.1 hrel.2.2.1 (fun h' => by rw [hrel.2.2.2] at h'; cases h') (hend' undef w' hrel.1))
      case enter f args =>
        obtain ⟨rfl, hal, hc⟩ := hrel
        exact hc.mono fun e w'' ⟨v, he, hf, hb, hb2⟩ => by subst he; exact hK _ _ (h.step S hR hE hj ho hunF hI.size hb hb2 (fun h' => by rw [hal] at h'; cases h') (hend' v w'' hf))
    | halt x w' => simp only [relUpon] at hrel
  · rw [hw, hw1]
    simp only [Bool.false_eq_true, if_false]
    refine hK _ _ (h.step S hR hE hj ho hunF hI.size (S.refl _) (S.mono h.jj (Nat.le_succ _)) (fun h' => by rw [hal] at h'; cases h') fun t hd hlt => ?_)
    refine hend t hd hlt (hafter t j o (Nat.le_refl _) ho hd) (fun e he het => ?_) w
    have hnb : t ∉ dsts ((ops.toList.take n).take j) := fun hb => by
      obtain ⟨k, ok, hkj, hok, hdk⟩ := hbefore t hb
      rcases hR.once j k ok o hkj hj hok ho with h1 | h1
      · rw [h1] at hdk; cases hdk
      · exact h1 (hdk.trans hd.symm)
    cases O.nofact t hnb e he het
theorem Real.all {i : Nat} (S : Sys G J) (hiN : i ≤ N) (hR : RelB md ops n) (hL : Lex G J N P ops w0 (ops.toList.take n) [] a0 Ef af) (hE : ∀ e ∈ Ef, Sta G e.2 ∧ e.1 < a0.tmps.size) {listed : Array Bool} {a : Act} {w : World} (h : Real G J i ops n w0 a0 Ef af listed a w) (hall : ∀ k, k < n → listed.getD k false = true)
    {Q : Act → World → Prop} (hq : ∀ W, G w0 W → J N W → relAll Ef af W fun a' => Q a' W) : Q a w := by
  have hslot : ∀ t, Slot Ef af t (a.tmps[t]?) w := by
    intro t
    by_cases hx : ∃ (k : Nat) (o : Oper), k < n ∧ ops[k]? = some o ∧ o.dst = some t
    · obtain ⟨k, o, hk, ho, hd⟩ := hx
      by_cases hlt : t < a0.tmps.size
      · exact h.done k o t hk ho (hall k hk) hd hlt
      · refine ⟨fun e he het => absurd (het ▸ (hE e he).2) hlt, fun _ => ?_⟩
        rw [Array.getElem?_eq_none (by rw [h.size]; exact Nat.le_of_not_lt hlt), Array.getElem?_eq_none (by rw [(Lex.size hL).1]; exact Nat.le_of_not_lt hlt)]
    · have hnd : t ∉ dsts (ops.toList.take n) := fun ht => by
        obtain ⟨k, o, hk, hd⟩ := mem_dsts ht
        rcases Nat.lt_or_ge k n with hkn | hkn
        · rw [List.getElem?_take_of_lt hkn] at hk
          exact hx ⟨k, o, hkn, by simpa using hk, hd⟩
        · rw [List.getElem?_take_eq_none hkn] at hk; cases hk
      exact (Lex.kept hL t hnd _ _).2 ⟨fun e he => (by cases he), fun _ => h.rest t fun k o hk ho _ hd => hx ⟨k, o, hk, ho, hd⟩⟩
  have hrel := relAll_use _ _ _ _ (fun t => (a.tmps[t]?).getD undef) (hq w h.lo (S.mono h.jj hiN)) fun e he => by
    obtain ⟨v, hv, hf⟩ := (hslot e.1).1 e he rfl
    show e.2 ((a.tmps[e.1]?).getD undef) _
    rw [hv]; exact hf
  have hfill : fillE Ef (fun t => (a.tmps[t]?).getD undef) af = a := by
    have h1 : (fillE Ef (fun t => (a.tmps[t]?).getD undef) af).tmps = a.tmps := by
      apply Array.ext_getElem?
      intro t
      exact fill_agree (w := w) _ rfl (fun e he => by rw [(Lex.size hL).1]; exact (hE e he).2) (hslot t)
    have h2 : (fillE Ef (fun t => (a.tmps[t]?).getD undef) af).defers = a.defers := by rw [(fill_size _ _ _).2, (Lex.size hL).2, h.def_]
    generalize fillE Ef (fun t => (a.tmps[t]?).getD undef) af = b at h1 h2
    obtain ⟨bt, bd⟩ := b
    obtain ⟨at_, ad⟩ := a
    simp only at h1 h2
    rw [h1, h2]
  rw [hfill] at hrel; exact hrel
theorem rel_any (S : Sys G J) (hR : RelB md ops n) (hL : Lex G J N P ops w0 (ops.toList.take n) [] a0 Ef af) (hE : ∀ e ∈ Ef, Sta G e.2 ∧ e.1 < a0.tmps.size) {Q : Exit → Act → World → Prop}
    (hq : ∀ W, G w0 W → J N W → relAll Ef af W fun a' => Apart ops n a' → wpList P ops Q (ops.toList.drop n) a' W) :
    ∀ (f i : Nat) (listed : Array Bool) (a : Act) (w : World), i + f ≤ N → (unl n listed).length ≤ f → HeadInv md ops n listed → Real G J i ops n w0 a0 Ef af listed a w → wpAny P md ops Q (f + (ops.size - n)) listed a w := by
  intro f
  induction f with
  | zero =>
    intro i listed a w hiN hf hI h
    have hall : ∀ k, k < n → listed.getD k false = true := by
      intro k hk
      cases e : listed.getD k false with
      | true => rfl
      | false =>
        have : k ∈ unl n listed := List.mem_filter.2 ⟨List.mem_range.2 hk, by rw [e]; rfl⟩
        have h0 : unl n listed = [] := List.eq_nil_of_length_eq_zero (by omega)
        rw [h0] at this; cases this
    have hmask : listed = ((List.range ops.size).map fun j => decide (j < n)).toArray := by
      apply Array.ext
      · rw [hI.size]; simp
      · intro k hk1 hk2
        have hks : k < ops.size := by rw [← hI.size]; exact hk1
        simp only [List.getElem_toArray, List.getElem_map, List.getElem_range]
        by_cases hkn : k < n
        · have := hall k hkn
          simp [hk1] at this
          rw [this]; simp [hkn]
        · have := hI.tail k (by omega) hks
          simp [hk1] at this
          rw [this]; simp [hkn]
    have hdl : (ops.toList.drop n).length = ops.size - n := by simp
    rw [Nat.zero_add, ← hdl]
    refine wpAny_of_seq (ops.toList.drop n) n listed a w (fun j => by simp [List.getElem?_drop]) ?_ (Real.all S (by omega) hR hL hE h hall (Q := fun a' w' => Apart ops n a' → wpList P ops Q (ops.toList.drop n) a' w') hq (fun k1 k2 o1 o2 t1 t2 p1 p2 g1 g2 g3 g4 g5 g6 g7 g8 g9 g10 g11 g12 g13 => h.dis k1 k2 o1 o2 t1 t2 p1 p2 g1 g2 g3 g4 g5 (hall _ g1) (hall _ g2) g6 g7 g8 g9 (by rw [← h.size]; exact g10) (by rw [← h.size]; exact g11) g12 g13))
    rw [hdl, hmask]; exact hR.seq
  | succ f ih =>
    intro i0 listed a w hiN hf hI h
    rw [show f + 1 + (ops.size - n) = (f + (ops.size - n)) + 1 by omega]
    by_cases hx : ∃ i, i < n ∧ listed.getD i false = false
    · obtain ⟨i, hi, hun⟩ := hx
      refine ⟨fun h0 => absurd h0 (ready_some hR hI.size i hi hun), fun j hj => ?_⟩
      have hjn : j < n := by
        rcases hR.sink with h1 | ⟨h1, h2⟩
        · obtain ⟨_, o, ho, _⟩ := mem_ready.1 hj
          have := (Array.getElem?_eq_some_iff.1 ho).1
          omega
        · rcases Nat.lt_or_ge j n with h' | h'
          · exact h'
          · obtain ⟨_, o, ho, _⟩ := mem_ready.1 hj
            have hjs := (Array.getElem?_eq_some_iff.1 ho).1
            exact absurd hj (tail_waits h1 h2 (by omega) hI _ i rfl hi (getD_in (by rw [hI.size]; omega) hun) j h')
      refine Real.op S (by omega) hR hL (fun e he => (hE e he).1) hI h hjn hj fun a' w' h' => ih _ _ a' w' (by omega) ?_ (hI.set hj hjn) h'
      have hunj := getD_both (mem_ready.1 hj).1
      have hjs : j < listed.size := by
        obtain ⟨_, o, ho, _⟩ := mem_ready.1 hj
        rw [hI.size]; exact (Array.getElem?_eq_some_iff.1 ho).1
      have := filter_lt (fun k => !listed.getD k false) (fun k => !(listed.setIfInBounds j true).getD k false) (fun k hk => by
        cases e : listed.getD k false with
        | false => rfl
        | true => rw [getD_set_true e] at hk; cases hk) j (by rw [hunj]; rfl) (by rw [getD_set hjs]; rfl) (List.range n) (List.mem_range.2 hjn)
      unfold unl at hf ⊢
      omega
    · exact wpAny_more _ _ _ _ (wpAny_more' (by
        have := ih i0 listed a w (by omega) (by
          have : unl n listed = [] := by
            unfold unl
            apply List.filter_eq_nil_iff.2
            intro k hk
            have hkn := List.mem_range.1 hk
            cases e : listed.getD k false with
            | true => simp
            | false => exact absurd ⟨k, hkn, e⟩ hx
          rw [this]; exact Nat.zero_le _) hI h
        exact this) 0 |> fun h => by rwa [Nat.zero_add] at h)
/-- **One walk in the order of the text serves every order.** The first n operations only add to the memory; those behind them wait for all of them, each for the one before. -/
theorem wp_region_rels {id : Nat} {Q : Exit → Act → World → Prop} {a : Act} {w : World} {l : List Oper} (S : Sys G J) (n : Nat) (hN : n ≤ N) (hJ : J 0 w) (hm : P.follows .mixedOrders = true) (hB : Region.relB .any l.toArray n = true)
    (h : wpRel G J N P l.toArray w (fun a' w' => Apart l.toArray n a' → wpList P l.toArray Q (l.drop n) a' w') (l.take n) [] a) : (Code.region id l.toArray true).wp P Q a w := by
  have hR := relB_spec hB
  obtain ⟨Ef, af, hL, hq⟩ := wpRel_lex _ _ _ h
  refine wp_region_any hm ?_
  have hE := Lex.sta hL (fun e he => by cases he)
  have := rel_any (P := P) (md := .any) (ops := l.toArray) (w0 := w) (n := n) (a0 := a) S hR (by simpa using hL) hE (Q := Q) (by simpa using hq) n 0 (Array.replicate l.toArray.size false) a { w with drawn := w.drawn + 1 } (by omega) (by
      unfold unl
      have := List.length_filter_le (fun j => !(Array.replicate l.toArray.size false).getD j false) (List.range n)
      simpa using this)
    ⟨by simp, fun j oj _ hl => (by rw [getD_replicate_false] at hl; cases hl), fun t _ ht => getD_in (by simpa using ht) (getD_replicate_false _ _)⟩
    ⟨S.drew _, S.keep hJ, rfl, rfl, fun k o t _ _ hl => (by rw [getD_replicate_false] at hl; cases hl), fun t _ => rfl, fun k o t _ _ hl => (by rw [getD_replicate_false] at hl; cases hl), fun k1 k2 o1 o2 t1 t2 p1 p2 _ _ _ _ _ hl => (by rw [getD_replicate_false] at hl; cases hl)⟩
  rw [show n + (l.toArray.size - n) = l.toArray.size by have := hR.le; omega] at this
  exact this
end
end Go.Proofs.Ytcpifmhcebfglaa.Rels
namespace Go.Proofs.Ytcpifmhcebfglaa.Rels
open Go Go.RowKit Go.Sort
set_option linter.unusedVariables false
section
variable {G : World → World → Prop} {J : Nat → World → Prop} {N : Nat}
theorem rel_nil {P : Program} {ops : Array Oper} {w : World} {Q : Act → World → Prop} {E : En} {a : Act} (h : ∀ W, G w W → J N W → relAll E a W fun a' => Q a' W) : wpRel G J N P ops w Q [] E a := h
/-- an operation of which its value is known, and which looks at no slot of which facts alone are known -/
theorem rel_fix {P : Program} {ops : Array Oper} {w : World} {Q : Act → World → Prop} {E : En} {a : Act} {o : Oper} {l : List Oper} (hE : lookE ops o E = []) (hg : guardFree ops o E = true)
    (h : ∀ K : Act → Prop, (∀ a, wpRel G J N P ops w Q l E a → K a) → if Region.wanted o (yielded ops a.tmps) then ∃ v, (∀ W i, i < N → G w W → J i W → relAt G J i P o a W fun u _ => u = v) ∧ K (a.put o.dst v) else isA o = false ∧ K (a.put o.dst undef)) : wpRel G J N P ops w Q (o :: l) E a := by
  refine ⟨hg, ?_⟩
  have := h _ fun _ h => h
  split at this
  · rename_i hw
    rw [if_pos hw]
    obtain ⟨v, h1, h2⟩ := this
    exact .inl ⟨v, fun W i h3 h4 h5 => by rw [hE]; exact h1 W i h3 h4 h5, h2⟩
  · rename_i hw
    rw [if_neg hw]; exact this
/-- an operation of which its value is known, and which looks at the slots E' -/
theorem rel_use {P : Program} {ops : Array Oper} {w : World} {Q : Act → World → Prop} {E : En} {a : Act} {o : Oper} {l : List Oper} (E' : En) (v : Value) (hE : lookE ops o E = E') (hg : guardFree ops o E = true) (hw : Region.wanted o (yielded ops a.tmps) = true)
    (h1 : ∀ W i, i < N → G w W → J i W → relAll E' a W fun a' => relAt G J i P o a' W fun u _ => u = v) (h2 : wpRel G J N P ops w Q l E (a.put o.dst v)) : wpRel G J N P ops w Q (o :: l) E a := by
  refine ⟨hg, ?_⟩
  rw [if_pos hw]
  exact .inl ⟨v, fun W i h3 h4 h5 => by rw [hE]; exact h1 W i h3 h4 h5, h2⟩
/-- an operation of whose value a fact alone is known -/
theorem rel_fact {P : Program} {ops : Array Oper} {w : World} {Q : Act → World → Prop} {E : En} {a : Act} {o : Oper} {l : List Oper} (E' : En) (F : Fa) (t : Tmp) (hd : o.dst = some t) (ht : t < a.tmps.size) (hF : Sta G F) (hE : lookE ops o E = E') (hg : guardFree ops o E = true) (hw : Region.wanted o (yielded ops a.tmps) = true)
    (h1 : ∀ W i, i < N → G w W → J i W → relAll E' a W fun a' => relAt G J i P o a' W F) (h2 : wpRel G J N P ops w Q l ((t, F) :: E) a) : wpRel G J N P ops w Q (o :: l) E a := by
  refine ⟨hg, ?_⟩
  rw [if_pos hw]
  exact .inr ⟨t, F, hd, ht, hF, fun W i h3 h4 h5 => by rw [hE]; exact h1 W i h3 h4 h5, h2⟩
theorem pin_no {w w' : World} {u : Value} : Pin false w u w' := fun h => by cases h
/-- what an operation that leaves the memory alone hands back -/
def quietAt (P : Program) (o : Oper) (a : Act) (w : World) (F : Value → Prop) : Prop :=
  match (execOp a.eval o).run P w with
  | .ok (.value u) w' => F u ∧ w' = w
  | .ok .skip w' => F undef ∧ w' = w
  | _ => False
theorem quietAt.rel (S : Sys G J) {P : Program} {o : Oper} {a : Act} {w : World} {i : Nat} {F : Fa} (hA : isA o = false) (hj : J i w) (h : quietAt P o a w (fun u => F u w)) : relAt G J i P o a w F := by
  unfold quietAt at h
  unfold relAt
  generalize (execOp a.eval o).run P w = r at h ⊢
  cases r with
  | halt x w' => exact h
  | ok nx w' =>
    cases nx with
    | value u => obtain ⟨h1, rfl⟩ := h; exact ⟨h1, S.refl _, S.mono hj (Nat.le_succ i), by rw [hA]; exact pin_no⟩
    | skip => obtain ⟨h1, rfl⟩ := h; exact ⟨h1, S.refl _, S.mono hj (Nat.le_succ i), hA⟩
    | _ => exact h.elim
/-- a quiet operation of which its value is known, and which looks at the slots E' -/
theorem rel_q {P : Program} {ops : Array Oper} {w : World} {Q : Act → World → Prop} {E : En} {a : Act} {o : Oper} {l : List Oper} (S : Sys G J) (hE : lookE ops o E = []) (hg : guardFree ops o E = true) (hw : Region.wanted o (yielded ops a.tmps) = true) (hA : isA o = false)
    (h : ∃ v, (∀ W, G w W → quietAt P o a W (· = v)) ∧ ∀ K : Act → Prop, (∀ a, wpRel G J N P ops w Q l E a → K a) → K (a.put o.dst v)) : wpRel G J N P ops w Q (o :: l) E a := by
  obtain ⟨v, h1, h2⟩ := h
  exact rel_use [] v hE hg hw (fun W i h3 h4 h5 => quietAt.rel S hA h5 (h1 W h4)) (h2 _ fun _ h => h)
theorem relAll_mono : ∀ (E : En) (a : Act) (w : World) (K K' : Act → Prop), (∀ a, K a → K' a) → relAll E a w K → relAll E a w K'
  | [], a, _, _, _, h, k => h a k
  | e :: E, a, w, K, K', h, k => fun v hv => relAll_mono E _ w K K' h (k v hv)
/-- a quiet operation of whose value a fact alone is known -/
theorem rel_qf {P : Program} {ops : Array Oper} {w : World} {Q : Act → World → Prop} {E : En} {a : Act} {o : Oper} {l : List Oper} (S : Sys G J) (E' : En) (F : Value → Prop) (t : Tmp) (hd : o.dst = some t) (ht : t < a.tmps.size) (hE : lookE ops o E = E') (hg : guardFree ops o E = true) (hw : Region.wanted o (yielded ops a.tmps) = true) (hA : isA o = false)
    (h1 : ∀ W, G w W → relAll E' a W fun a' => quietAt P o a' W F) (h2 : wpRel G J N P ops w Q l ((t, fun v _ => F v) :: E) a) : wpRel G J N P ops w Q (o :: l) E a :=
  rel_fact E' (fun v _ => F v) t hd ht (fun _ _ _ h _ => h) hE hg hw (fun W i h3 h4 h5 => relAll_mono E' a W _ _ (fun a' h6 => quietAt.rel S hA h5 h6) (h1 W h4)) h2
end
attribute [go_sem] relAt relUpon quietAt isA
end Go.Proofs.Ytcpifmhcebfglaa.Rels
namespace Go.Proofs.Ytcpifmhcebfglaa
open Go Go.RowKit Go.Sort
set_option linter.unusedVariables false
/-- all but the stream's block is kept -/
def GSb (b : Nat) (w w' : World) : Prop := w.grownBy w' (some b)
/-- and what has been asked so far -/
def JSb (b : Nat) (ad : Option Addr) (len cap K c : Nat) (i : Nat) (w : World) : Prop := ∃ k, k ≤ K + c * i ∧ Str b ad len cap k w
theorem sysB (b : Nat) (ad : Option Addr) (len cap K c : Nat) : Rels.Sys (GSb b) (JSb b ad len cap K c) :=
  ⟨fun w => grown_refl w _, fun h k => grown_trans h k, fun a => grown_below (w := a) (w' := { a with drawn := a.drawn + 1 }) _ ⟨rfl, rfl, rfl, Nat.le_refl _, fun _ _ => rfl⟩, fun ⟨k, hk, s⟩ hij => ⟨k, Nat.le_trans hk (Nat.add_le_add_left (Nat.mul_le_mul_left c hij) K), s⟩, fun h => h.size, fun {i a} ⟨k, hk, s⟩ => ⟨k, hk, s.below (w' := { a with drawn := a.drawn + 1 }) ⟨rfl, rfl, rfl, Nat.le_refl _, fun _ _ => rfl⟩⟩⟩
theorem gsb_cell {b : Nat} {w W : World} (hg : GSb b w W) {p o : Nat} {v : Value} (hne : b ≠ p) (h : w.cell? ⟨p, o, none⟩ = some v) : W.cell? ⟨p, o, none⟩ = some v := by
  have hh : w.grownBy W (some b) := hg
  exact hh.cell h (by intro e; simp only [Option.some.injEq] at e; exact hne e.symm)
theorem retB {b : Nat} {ad : Option Addr} {len cap K c i k c0 : Nat} {w w' : World} {F : Fa} {v : Value} (hk : k ≤ K + c * i) (hc : c0 ≤ c) (hF : F v w') (A : Adv b ad len cap k c0 w w') : Rels.RetF (GSb b) (JSb b ad len cap K c) i F w (.returned v) w' := by
  obtain ⟨k1, hk1, s1⟩ := A.st
  exact ⟨v, rfl, hF, A.gr, k1, by rw [Nat.mul_add, Nat.mul_one]; omega, s1⟩
/-- a new element in a block of its own -/
def NewX {α : Type} (b : Nat) (enc : α → List Value) (P : α → Prop) : Fa := fun v w => ∃ g x, v = .slice (some ⟨g, 0, none⟩) 1 1 ∧ P x ∧ b ≠ g ∧ ∀ j u, (enc x)[j]? = some u → w.cell? ⟨g, j, none⟩ = some u
theorem newX_sta {α : Type} (b : Nat) (enc : α → List Value) (P : α → Prop) : Rels.Sta (GSb b) (NewX b enc P) := fun v w w' ⟨g, x, h1, h2, h3, h4⟩ hg => ⟨g, x, h1, h2, h3, fun j u hu => gsb_cell hg h3 (h4 j u hu)⟩
theorem newX_alloc {α : Type} {b : Nat} {ad : Option Addr} {len cap K c i k : Nat} {W : World} {enc : α → List Value} {P : α → Prop} {x : α} {l : List Value} {t : TypeId} (hP : P x) (hl : enc x = l) (hk : k ≤ K + c * i) (s : Str b ad len cap k W) :
    NewX b enc P (.slice (some ⟨W.heap.size, 0, none⟩) 1 1) (W.alloc (.cells l.toArray t)) ∧ GSb b W (W.alloc (.cells l.toArray t)) ∧ JSb b ad len cap K c (i + 1) (W.alloc (.cells l.toArray t)) ∧ Rels.Pin false W (.slice (some ⟨W.heap.size, 0, none⟩) 1 1) (W.alloc (.cells l.toArray t)) := by
  have hB : Below W.heap.size W (W.alloc (.cells l.toArray t)) := (Below.refl _ _).alloc (Nat.le_refl _) _
  have hb : b < W.heap.size := World.block_lt_of_cell? W _ s.c0
  refine ⟨⟨_, x, rfl, hP, by omega, fun j u hu => ?_⟩, grown_below _ hB, ⟨k, by rw [Nat.mul_add, Nat.mul_one]; omega, s.below hB⟩, Rels.pin_no⟩
  rw [hl] at hu
  have e : (W.alloc (.cells l.toArray t)).heap[W.heap.size]? = some (.cells l.toArray t (0, 0)) := by show (W.heap.push _)[W.heap.size]? = _; simp
  rw [cell_of_row _ _ j _ t _ e]
  simpa using hu
/-- a number below 2 T -/
def LitF (T : Nat) : Value → Prop := fun v => ∃ r : Nat, r < 2 * T ∧ v = .int .i64 (r : Int)
theorem litF_sta (T : Nat) (G : World → World → Prop) : Rels.Sta G (fun v _ => LitF T v) := fun _ _ _ h _ => h
/-- a node of such literals -/
def NodF (T : Nat) : Value → Prop := fun v => ∃ r1 r2 : Nat, r1 < 2 * T ∧ r2 < 2 * T ∧ v = .agg #[.int .i64 (r1 : Int), .int .i64 (r2 : Int)]
def NodP (T : Nat) : Int × Int → Prop := fun x => ∃ r1 r2 : Nat, r1 < 2 * T ∧ r2 < 2 * T ∧ x = ((r1 : Int), (r2 : Int))
/-- a register of such a literal -/
def BitF : Value → Prop := fun v => ∃ t : Bool, v = .bool t
def RegF (x : ByteArray) (T : Nat) : Value → Prop := fun v => ∃ (r1 : Nat) (t : Bool), r1 < 2 * T ∧ v = .agg #[.string x, .int .i64 (r1 : Int), .bool t]
def RegP (x : ByteArray) (T : Nat) : Rg → Prop := fun r => ∃ (r1 : Nat) (t : Bool), r1 < 2 * T ∧ r = ⟨x, (r1 : Int), t⟩
def LitP (T : Nat) : Int → Prop := fun x => ∃ r1 : Nat, r1 < 2 * T ∧ x = (r1 : Int)
/-- a number below K -/
def NumF (K : Nat) : Value → Prop := fun v => ∃ r : Nat, r < K ∧ v = .int .i64 (r : Int)
theorem newX_at {α : Type} {b : Nat} {enc : α → List Value} {P : α → Prop} {v : Value} {w : World} (h : NewX b enc P v w) : ∃ g x, v = .slice (some ⟨g, 0, none⟩) 1 1 ∧ P x ∧ b ≠ g ∧ ∀ j u, (enc x)[j]? = some u → w.cell? ⟨g, j, none⟩ = some u := h
end Go.Proofs.Ytcpifmhcebfglaa
