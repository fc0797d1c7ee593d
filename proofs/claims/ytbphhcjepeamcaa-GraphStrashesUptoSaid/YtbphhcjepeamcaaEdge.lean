/- A region that draws its order: a result that is taken out of a tuple may be thought of as taken ahead of an operation that waits for all that it waits for. No condition. -/
import Derived.Test.YtbphhcjepeamcaaFree
namespace Go.Proofs.Ytbphhcjepeamcaa
open Go Go.RowKit Go.Sort
set_option linter.unusedVariables false
def pushE (j : Nat) (o : Oper) : Oper := { o with after := o.after.push ⟨j, .data⟩ }
def addE (s j : Nat) (l : List Oper) : List Oper := l.modify s (pushE j)
theorem add_get (s j : Nat) (l : List Oper) (k : Nat) : (addE s j l)[k]? = (l[k]?).map (if s = k then pushE j else id) := by
  unfold addE
  rw [List.getElem?_modify]
  cases l[k]? with
  | none => split <;> rfl
  | some o => split <;> rfl
theorem add_len (s j : Nat) (l : List Oper) : (addE s j l).length = l.length := by unfold addE; simp
/-- the same operation, but for what it waits for -/
def SameO (o o' : Oper) : Prop := ∃ af, o' = { o with after := af }
theorem add_same (s j : Nat) {l : List Oper} {k : Nat} {o : Oper} (h : l[k]? = some o) : ∃ o', (addE s j l)[k]? = some o' ∧ SameO o o' := by
  rw [add_get, h]
  by_cases e : s = k
  · rw [if_pos e]; exact ⟨_, rfl, o.after.push ⟨j, .data⟩, rfl⟩
  · rw [if_neg e]; exact ⟨_, rfl, o.after, rfl⟩
inductive SameL : List Oper → List Oper → Prop
  | nil : SameL [] []
  | cons {o o' : Oper} {m m' : List Oper} : SameO o o' → SameL m m' → SameL (o :: m) (o' :: m')
structure OrdO (l : List Oper) (s j : Nat) (t : Tmp) (oj os : Oper) : Prop where
  get : l[j]? = some oj
  gets : l[s]? = some os
  sj : s ≠ j
  guard : oj.guard = none
  dst : oj.dst = some t
  ext : ∃ x i, oj.op = .extract x i
  sel : Region.noSelect l.toArray = true
  ne : ∀ k o, k ≠ j → l[k]? = some o → o.dst ≠ some t
  rd : ∀ k o d, k ≠ j → l[k]? = some o → o.dst = some d → d ∈ readsO oj → ∃ e ∈ oj.after, Region.binds .any e = true ∧ e.on = k
  waits : ∀ k o, k ≠ j → l[k]? = some o → t ∈ o.looksAt l.toArray → ∃ e ∈ o.after, Region.binds .any e = true ∧ e.on = j
  deps : ∀ e ∈ oj.after, Region.binds .any e = true → ∃ e' ∈ os.after, Region.binds .any e' = true ∧ e'.on = e.on
def ordB (l : List Oper) (s j : Nat) (t : Tmp) : Bool :=
  match l[j]?, l[s]? with
  | some oj, some os => (s != j) && oj.guard.isNone && (oj.dst == some t) && (match oj.op with | .extract _ _ => true | _ => false) && Region.noSelect l.toArray &&
    (oj.after.all fun e => !Region.binds .any e || os.after.any fun e' => Region.binds .any e' && e'.on == e.on) &&
    (List.range l.length).all fun k => k == j || (match l[k]? with
      | none => false
      | some o => (o.dst != some t) && (match o.dst with | some d => !(readsO oj).contains d || oj.after.any (fun e => Region.binds .any e && e.on == k) | none => true) && (!(o.looksAt l.toArray).contains t || o.after.any fun e => Region.binds .any e && e.on == j))
  | _, _ => false
theorem ord_spec {l : List Oper} {s j : Nat} {t : Tmp} (h : ordB l s j t = true) : ∃ oj os, OrdO l s j t oj os := by
  unfold ordB at h
  split at h
  · rename_i oj os hj hs
    simp only [Bool.and_eq_true] at h
    obtain ⟨⟨⟨⟨⟨⟨h1, h2⟩, h3⟩, h4⟩, h5⟩, h6⟩, h7⟩ := h
    have hlt : ∀ {k o}, l[k]? = some o → k < l.length := fun ho => (List.getElem?_eq_some_iff.1 ho).1
    have key : ∀ k o, k ≠ j → l[k]? = some o → _ := fun k o hk ho => by
      have := List.all_eq_true.1 h7 k (List.mem_range.2 (hlt ho))
      rw [ho] at this
      simp only [Bool.or_eq_true, beq_iff_eq, hk, false_or, Bool.and_eq_true] at this
      exact this
    refine ⟨oj, os, hj, hs, by simpa using h1, by simpa using h2, by simpa using h3, ?_, h5, ?_, ?_, ?_, ?_⟩
    · split at h4
      · rename_i x i e; exact ⟨x, i, e⟩
      · cases h4
    · intro k o hk ho; simpa using (key k o hk ho).1.1
    · intro k o d hk ho hd hr
      have := (key k o hk ho).1.2
      rw [hd] at this
      rcases (Bool.or_eq_true _ _).mp this with h8 | h8
      · simp [hr] at h8
      · obtain ⟨e, he, hb⟩ := Array.any_eq_true'.1 h8
        exact ⟨e, he, by simpa using hb⟩
    · intro k o hk ho ht
      rcases (key k o hk ho).2 with h8 | h8
      · simp [ht] at h8
      · obtain ⟨e, he, hb⟩ := Array.any_eq_true'.1 h8
        exact ⟨e, he, by simpa using hb⟩
    · intro e he hb
      have := Array.all_eq_true_iff_forall_mem.1 h6 e he
      rw [hb] at this
      simp only [Bool.not_true, Bool.false_or] at this
      obtain ⟨e', he', hb'⟩ := Array.any_eq_true'.1 this
      exact ⟨e', he', by simpa using hb'⟩
  · cases h
section
variable {P : Program} {l : List Oper} {s j : Nat} {t : Tmp} {oj os : Oper} {Q : Exit → Act → World → Prop}
theorem yld_add (tm : Array Value) (g : Nat) : yielded (addE s j l).toArray tm g = yielded l.toArray tm g := by
  unfold yielded
  rw [List.getElem?_toArray, List.getElem?_toArray, add_get]
  cases l[g]? with
  | none => rfl
  | some o => by_cases e : s = g <;> simp [e, pushE]
theorem yld_add' (tm : Array Value) : yielded (addE s j l).toArray tm = yielded l.toArray tm := funext fun g => yld_add tm g
theorem wanted_add (tm : Array Value) {o o' : Oper} (h : SameO o o') : Region.wanted o' (yielded (addE s j l).toArray tm) = Region.wanted o (yielded l.toArray tm) := by
  obtain ⟨af, rfl⟩ := h
  rw [yld_add']; rfl
theorem bind_add (g : Nat) : ((addE s j l).toArray[g]?).bind (·.dst) = (l.toArray[g]?).bind (·.dst) := by
  rw [List.getElem?_toArray, List.getElem?_toArray, add_get]
  cases l[g]? with
  | none => rfl
  | some o => by_cases e : s = g <;> simp [e, pushE]
theorem looks_add {o o' : Oper} (h : SameO o o') : o'.looksAt (addE s j l).toArray = o.looksAt l.toArray := by
  obtain ⟨af, rfl⟩ := h
  obtain ⟨d, op, ty, ps, af', g⟩ := o
  cases g with
  | none => rfl
  | some q =>
    obtain ⟨g, b⟩ := q
    show _ ++ (((addE s j l).toArray[g]?).bind (·.dst)).toList = _ ++ ((l.toArray[g]?).bind (·.dst)).toList
    rw [bind_add]
theorem free_add {o o' : Oper} (h : SameO o o') (E : En) : guardFree (addE s j l).toArray o' E = guardFree l.toArray o E := by
  obtain ⟨af, rfl⟩ := h
  obtain ⟨d, op, ty, ps, af', g⟩ := o
  cases g with
  | none => rfl
  | some q =>
    obtain ⟨g, b⟩ := q
    unfold guardFree
    simp only
    rw [bind_add]
theorem rel_add {w : World} {R R' : Act → World → Prop} (hR : ∀ a w, R a w → R' a w) : ∀ (m m' : List Oper) (E : En) (a : Act), SameL m m' → wpRel P l.toArray w R m E a → wpRel P (addE s j l).toArray w R' m' E a
  | _, _, E, a, .nil, h => fun d os => relAll_mono E a _ (fun a' h => hR _ _ h) (h d os)
  | o :: m, o' :: m', E, a, .cons ho hm, h => by
    obtain ⟨hg, h⟩ := h
    refine ⟨by rw [free_add ho]; exact hg, ?_⟩
    rw [wanted_add _ ho]
    have hl : lookE (addE s j l).toArray o' E = lookE l.toArray o E := by unfold lookE; rw [looks_add ho]
    obtain ⟨af, rfl⟩ := ho
    split at h
    · rename_i hw
      rw [if_pos hw]
      rcases h with ⟨v, h1, h2⟩ | ⟨t, F, h1, h2, h3, h4, h5⟩
      · exact .inl ⟨v, fun d os => by rw [hl]; exact h1 d os, rel_add hR m m' _ _ hm h2⟩
      · exact .inr ⟨t, F, h1, h2, h3, fun d os => by rw [hl]; exact h4 d os, rel_add hR m m' _ _ hm h5⟩
    · rename_i hw
      rw [if_neg hw]
      exact rel_add hR m m' _ _ hm h
theorem list_add : ∀ (m m' : List Oper) (a : Act) (w : World), SameL m m' → wpList P l.toArray Q m a w → wpList P (addE s j l).toArray Q m' a w
  | _, _, a, w, .nil, h => h
  | o :: m, o' :: m', a, w, .cons ho hm, h => by
    unfold wpList at h ⊢
    rw [wanted_add _ ho]
    obtain ⟨af, rfl⟩ := ho
    split at h
    · rename_i hw
      rw [if_pos hw]
      exact h.imp (fun h => Oper.wp_mono (o := o) (fun a w hh => list_add m m' a w hm hh) h) id
    · rename_i hw
      rw [if_neg hw]
      exact list_add m m' _ w hm h
theorem ready_less {A : Array Bool} {k : Nat} (hk : k ∈ Region.ready .any (addE s j l).toArray A) : k ∈ Region.ready .any l.toArray A := by
  obtain ⟨ha, o', ho', hb⟩ := mem_ready.1 hk
  rw [List.getElem?_toArray, add_get] at ho'
  cases ho : l[k]? with
  | none => rw [ho] at ho'; cases ho'
  | some o =>
    rw [ho] at ho'
    have e := Option.some.inj ho'
    refine mem_ready.2 ⟨ha, o, by rw [List.getElem?_toArray]; exact ho, fun x hx hbx => hb x ?_ hbx⟩
    subst e
    by_cases e2 : s = k
    · rw [if_pos e2]; exact Array.mem_push_of_mem _ hx
    · rw [if_neg e2]; exact hx
theorem ready_more {A : Array Bool} {k : Nat} (hk : k ∈ Region.ready .any l.toArray A) (h : s ≠ k ∨ A.getD j false = true) : k ∈ Region.ready .any (addE s j l).toArray A := by
  obtain ⟨ha, o, ho, hb⟩ := mem_ready.1 hk
  rw [List.getElem?_toArray] at ho
  refine mem_ready.2 ⟨ha, (if s = k then pushE j else id) o, by rw [List.getElem?_toArray, add_get, ho]; rfl, fun x hx hbx => ?_⟩
  by_cases e2 : s = k
  · rw [if_pos e2] at hx
    rcases Array.mem_push.1 hx with hx | hx
    · exact hb x hx hbx
    · subst hx
      rcases h with h | h
      · exact absurd e2 h
      · exact h
  · rw [if_neg e2] at hx; exact hb x hx hbx
theorem op_add {k : Nat} {K K' : Act → World → Prop} {a : Act} {w : World} (hK : ∀ a w, K' a w → K a w) (h : wpOp P (addE s j l).toArray (onlyN Q) k K' a w) : wpOp P l.toArray Q k K a w := by
  unfold wpOp at h ⊢
  cases ho : l.toArray[k]? with
  | none =>
    rw [List.getElem?_toArray] at ho
    rw [List.getElem?_toArray, add_get, ho] at h
    exact hK _ _ h
  | some o =>
    rw [List.getElem?_toArray] at ho
    obtain ⟨o', ho', hs⟩ := add_same s j ho
    rw [List.getElem?_toArray, ho'] at h
    simp only at h ⊢
    rw [wanted_add _ hs] at h
    obtain ⟨af, rfl⟩ := hs
    split
    · rename_i hw
      rw [if_pos hw] at h
      rcases h with h | h
      · exact .inl (upon_same (o := o) hK h)
      · exact (only_out h.2).elim
    · rename_i hw
      rw [if_neg hw] at h
      exact hK _ _ h
theorem any_same : ∀ (f : Nat) (A : Array Bool) (a : Act) (w : World), A.getD j false = true → wpAny P .any (addE s j l).toArray (onlyN Q) f A a w → wpAny P .any l.toArray Q f A a w
  | 0, A, a, w, hA, h => ⟨List.eq_nil_iff_forall_not_mem.2 (fun k hk => (by have := ready_more (s := s) (j := j) hk (.inr hA); rw [h.1] at this; cases this)), h.2⟩
  | f + 1, A, a, w, hA, h => ⟨fun h0 => h.1 (List.eq_nil_iff_forall_not_mem.2 fun k hk => by have := ready_less hk; rw [h0] at this; cases this), fun k hk => op_add (fun a w hh => any_same f _ a w (getD_set_true hA) hh) (h.2 k (ready_more hk (.inr hA)))⟩
theorem ext_run (ev : Operand → Value) (o : Oper) (h : ∃ x i, o.op = .extract x i) : (∃ v, ∀ w, (execOp ev o).run P w = .ok (.value v) w) ∨ (∀ w, ∃ x w', (execOp ev o).run P w = .halt x w') := by
  obtain ⟨d, op, ty, ps, af, g⟩ := o
  obtain ⟨x, i, rfl⟩ := h
  simp only [execOp]
  cases hx : ev x with
  | tuple vs => cases hv : vs[i]? with
    | some v => left; exact ⟨v, fun w => by simp [Instr.extract, hv, go_sem]⟩
    | none => right; exact fun w => ⟨_, _, by simp [Instr.extract, hv, go_sem]; exact ⟨rfl, rfl⟩⟩
  | _ => right; exact fun w => ⟨_, _, by simp [Instr.extract, go_sem]; exact ⟨rfl, rfl⟩⟩
theorem set_comm (A : Array Bool) (i j : Nat) : (A.setIfInBounds i true).setIfInBounds j true = (A.setIfInBounds j true).setIfInBounds i true := by
  by_cases e : i = j
  · rw [e]
  · exact Array.setIfInBounds_comm _ _ e
theorem j_ready (F : OrdO l s j t oj os) {A : Array Bool} (hs : A.size = l.length) (hA : A.getD j false = false) (hd : ∀ e ∈ oj.after, Region.binds .any e = true → A.getD e.on false = true) : j ∈ Region.ready .any l.toArray A :=
  mem_ready.2 ⟨getD_in (by rw [hs]; exact (List.getElem?_eq_some_iff.1 F.get).1) hA, oj, by rw [List.getElem?_toArray]; exact F.get, hd⟩
theorem any_ahead (F : OrdO l s j t oj os) (v : Value) : ∀ (f : Nat) (A : Array Bool) (a : Act) (w : World), A.size = l.length → A.getD j false = false → (∀ w, (execOp a.eval oj).run P w = .ok (.value v) w) → (∀ e ∈ oj.after, Region.binds .any e = true → A.getD e.on false = true) → wpAny P .any (addE s j l).toArray (onlyN Q) f (A.setIfInBounds j true) (a.put (some t) v) w → wpAny P .any l.toArray Q (f + 1) A a w := by
  have hj := (List.getElem?_eq_some_iff.1 F.get).1
  have hset : ∀ {A : Array Bool}, A.size = l.length → (A.setIfInBounds j true).getD j false = true := fun hs => by simp [hs, hj]
  have jcase : ∀ (f : Nat) (A : Array Bool) (a : Act) (w : World), A.size = l.length → (∀ w, (execOp a.eval oj).run P w = .ok (.value v) w) → wpAny P .any (addE s j l).toArray (onlyN Q) f (A.setIfInBounds j true) (a.put (some t) v) w → wpOp P l.toArray Q j (wpAny P .any l.toArray Q f (A.setIfInBounds j true)) a w := fun f A a w hs hv h => by
    unfold wpOp
    rw [List.getElem?_toArray, F.get]
    simp only
    rw [if_pos (by unfold Region.wanted; rw [F.guard])]
    refine .inl ?_
    unfold Oper.wp
    rw [hv, Oper.upon_value, F.dst]
    exact any_same f _ _ _ (hset hs) h
  intro f
  induction f with
  | zero =>
    intro A a w hs hA hv hd h
    have hjr := j_ready F hs hA hd
    refine ⟨fun h0 => (by rw [h0] at hjr; cases hjr), fun k hk => ?_⟩
    by_cases hkj : k = j
    · subst hkj; exact jcase 0 A a w hs hv h
    · have hk2 : k ∈ Region.ready .any l.toArray (A.setIfInBounds j true) := by
        obtain ⟨ha, o, ho, hb⟩ := mem_ready.1 hk
        exact mem_ready.2 ⟨by rw [getD_set_ne true (fun e => hkj e.symm)]; exact ha, o, ho, fun e he hbe => getD_set_true (hb e he hbe)⟩
      have := ready_more (s := s) (j := j) hk2 (.inr (hset hs))
      rw [h.1] at this; cases this
  | succ f ih =>
    intro A a w hs hA hv hd h
    have hjr := j_ready F hs hA hd
    refine ⟨fun h0 => (by rw [h0] at hjr; cases hjr), fun k hk => ?_⟩
    by_cases hkj : k = j
    · subst hkj; exact jcase (f + 1) A a w hs hv h
    · obtain ⟨ha, o, ho, hall⟩ := mem_ready.1 hk
      have hk2 : k ∈ Region.ready .any l.toArray (A.setIfInBounds j true) :=
        mem_ready.2 ⟨by rw [getD_set_ne true (fun e => hkj e.symm)]; exact ha, o, ho, fun e he hbe => getD_set_true (hall e he hbe)⟩
      have hh := h.2 k (ready_more (s := s) (j := j) hk2 (.inr (hset hs)))
      have ho2 := ho
      rw [List.getElem?_toArray] at ho
      have hnt : t ∉ o.looksAt l.toArray := fun ht => by
        obtain ⟨e, he, hb, hon⟩ := F.waits k o hkj ho ht
        have := hall e he hb
        rw [hon, hA] at this; cases this
      have hops : ∀ x ∈ o.op.operands, (a.put (some t) v).eval x = a.eval x := fun x hx => eval_put fun y hy e => by
        injection e with e
        subst hy e
        exact hnt (List.mem_append_left _ (List.mem_filterMap.2 ⟨.tmp t, by simpa using hx, rfl⟩))
      have hex : execOp (a.put (some t) v).eval o = execOp a.eval o := execOp_congr o (fun cs b => Region.noSelect_spec F.sel k o cs b ho2) hops
      have hwt : Region.wanted o (yielded l.toArray (a.put (some t) v).tmps) = Region.wanted o (yielded l.toArray a.tmps) := by
        unfold Region.wanted
        cases hg : o.guard with
        | none => rfl
        | some q =>
          obtain ⟨g, b⟩ := q
          have : yielded l.toArray (a.put (some t) v).tmps g = yielded l.toArray a.tmps g := by
            unfold yielded
            cases hd : (l.toArray[g]?).bind (·.dst) with
            | none => rfl
            | some d =>
              have hdt : d ≠ t := fun e => by
                subst e
                exact hnt (List.mem_append_right _ (by rw [hg]; show _ ∈ ((l.toArray[g]?).bind (·.dst)).toList; rw [hd]; simp))
              simp only [Option.bind_some, put_get]
              rw [if_neg (fun h2 => hdt (Option.some.inj h2.1).symm)]
          simp only [this]
      have next : ∀ b w, (∃ u ds, b = ({ a with defers := ds } : Act).put o.dst u) → wpAny P .any (addE s j l).toArray (onlyN Q) f ((A.setIfInBounds j true).setIfInBounds k true) (b.put (some t) v) w → wpAny P .any l.toArray Q (f + 1) (A.setIfInBounds k true) b w := fun b w ⟨u, ds, hb⟩ hq => ih _ b w (by rw [Array.size_setIfInBounds]; exact hs) (by rw [getD_set_ne false hkj]; exact hA) (fun w2 => by
          have e1 : execOp b.eval oj = execOp a.eval oj := execOp_congr oj (fun cs b => Region.noSelect_spec F.sel j oj cs b (by rw [List.getElem?_toArray]; exact F.get)) (fun x hx => by
            subst hb
            rw [eval_put (fun y hy e => by
              subst hy
              obtain ⟨e1, he1, hb1, hon1⟩ := F.rd k o y hkj ho e (List.mem_filterMap.2 ⟨.tmp y, by simpa using hx, rfl⟩)
              have h8 := hd e1 he1 hb1
              rw [hon1] at h8
              rw [getD_both ha] at h8
              cases h8)]
            cases x <;> rfl)
          rw [e1]; exact hv w2) (fun e he hbe => getD_set_true (hd e he hbe)) (by rw [set_comm]; exact hq)
      obtain ⟨o', ho', hs'⟩ := add_same s j ho
      unfold wpOp at hh ⊢
      rw [List.getElem?_toArray, ho'] at hh
      rw [List.getElem?_toArray, ho]
      simp only at hh ⊢
      rw [wanted_add _ hs', hwt] at hh
      obtain ⟨af, rfl⟩ := hs'
      split
      · rename_i hw
        rw [if_pos hw] at hh
        rcases hh with hh | hh
        · refine .inl ?_
          have h3 : o.upon P (a.put (some t) v) (wpAny P .any (addE s j l).toArray (onlyN Q) f ((A.setIfInBounds j true).setIfInBounds k true)) (onlyN Q) ((execOp a.eval o).run P w) := by rw [← hex]; exact hh
          exact upon_free (F.ne k o hkj ho) (fun b w _ hb hq => next b w hb hq) h3
        · exact (only_out hh.2).elim
      · rename_i hw
        rw [if_neg hw] at hh
        refine next _ _ ⟨undef, a.defers, rfl⟩ ?_
        rw [← put_comm a (fun x hx => by cases hx; exact F.ne k o hkj ho)]
        exact hh
theorem any_edge (F : OrdO l s j t oj os) : ∀ (f : Nat) (A : Array Bool) (a : Act) (w : World), A.size = l.length → A.getD j false = false → wpAny P .any (addE s j l).toArray (onlyN Q) f A a w → wpAny P .any l.toArray Q f A a w := by
  have hj := (List.getElem?_eq_some_iff.1 F.get).1
  have sdeps : ∀ {A : Array Bool}, s ∈ Region.ready .any l.toArray A → ∀ e ∈ oj.after, Region.binds .any e = true → A.getD e.on false = true := fun hk e he hb => by
    obtain ⟨_, o, ho, hall⟩ := mem_ready.1 hk
    rw [List.getElem?_toArray, F.gets] at ho
    have e0 : os = o := Option.some.inj ho
    subst e0
    obtain ⟨e', he', hb', hon⟩ := F.deps e he hb
    rw [← hon]; exact hall e' he' hb'
  intro f
  induction f with
  | zero =>
    intro A a w hs hA h
    refine ⟨List.eq_nil_iff_forall_not_mem.2 fun k hk => ?_, h.2⟩
    by_cases e : s = k
    · subst e
      have := ready_more (s := s) (j := j) (j_ready F hs hA (sdeps hk)) (.inl F.sj)
      rw [h.1] at this; cases this
    · have := ready_more (s := s) (j := j) hk (.inl e)
      rw [h.1] at this; cases this
  | succ f ih =>
    intro A a w hs hA h
    refine ⟨fun h0 => h.1 (List.eq_nil_iff_forall_not_mem.2 fun k hk => by have := ready_less hk; rw [h0] at this; cases this), fun k hk => ?_⟩
    by_cases e : s = k
    · subst e
      have hjr := ready_more (s := s) (j := j) (j_ready F hs hA (sdeps hk)) (.inl F.sj)
      have hh := h.2 j hjr
      unfold wpOp at hh
      obtain ⟨oj', hoj', hsj⟩ := add_same s j F.get
      rw [List.getElem?_toArray, hoj'] at hh
      simp only at hh
      rw [wanted_add _ hsj] at hh
      obtain ⟨af, rfl⟩ := hsj
      rw [if_pos (by unfold Region.wanted; rw [F.guard])] at hh
      rcases hh with hh | hh
      · rcases ext_run (P := P) a.eval oj F.ext with ⟨v, hv⟩ | hx
        · have h4 : oj.upon P a (wpAny P .any (addE s j l).toArray (onlyN Q) f (A.setIfInBounds j true)) (onlyN Q) ((execOp a.eval oj).run P w) := hh
          rw [hv, Oper.upon_value, F.dst] at h4
          exact (any_ahead F v f A a w hs hA hv (sdeps hk) h4).2 s hk
        · have h4 : oj.upon P a (wpAny P .any (addE s j l).toArray (onlyN Q) f (A.setIfInBounds j true)) (onlyN Q) ((execOp a.eval oj).run P w) := hh
          obtain ⟨x, w', hxw⟩ := hx w
          rw [hxw] at h4
          cases x <;> simp only [Oper.upon] at h4 <;> exact absurd h4 (fun h => h)
      · exact (only_out hh.2).elim
    · refine op_add (fun b w hq => ?_) (h.2 k (ready_more (s := s) (j := j) hk (.inl e)))
      by_cases hkj : k = j
      · subst hkj
        exact any_same f _ _ _ (by simp [hs, hj]) hq
      · exact ih _ _ _ (by rw [Array.size_setIfInBounds]; exact hs) (by rw [getD_set_ne false hkj]; exact hA) hq
theorem same_take (s j : Nat) : ∀ (l : List Oper) (m : List Oper), (∀ k : Nat, (m[k]? = none ↔ l[k]? = none) ∧ ∀ o, l[k]? = some o → ∃ o', m[k]? = some o' ∧ SameO o o') → SameL l m
  | [], [], _ => .nil
  | [], o :: m, h => by have := ((h 0).1).2 rfl; cases this
  | o :: l, [], h => by have := ((h 0).1).1 rfl; cases this
  | o :: l, o' :: m, h => by
    obtain ⟨o2, h2, h3⟩ := (h 0).2 o rfl
    have e : o' = o2 := Option.some.inj h2
    subst e
    exact .cons h3 (same_take s j l m fun k => ⟨by simpa using (h (k + 1)).1, fun o ho => by simpa using (h (k + 1)).2 o (by simpa using ho)⟩)
theorem same_all (s j : Nat) (l : List Oper) : SameL l (addE s j l) := same_take s j l _ fun k => ⟨by rw [add_get]; simp, fun o ho => add_same s j ho⟩
theorem SameL.take : ∀ {l m : List Oper} (n : Nat), SameL l m → SameL (l.take n) (m.take n)
  | _, _, 0, _ => by simp; exact .nil
  | _, _, n + 1, .nil => .nil
  | _, _, n + 1, .cons h1 h2 => .cons h1 (h2.take n)
theorem SameL.drop : ∀ {l m : List Oper} (n : Nat), SameL l m → SameL (l.drop n) (m.drop n)
  | _, _, 0, h => by simpa using h
  | _, _, n + 1, .nil => .nil
  | _, _, n + 1, .cons h1 h2 => h2.drop n
end
/-- **A walk in the order of the text, where operation s may be thought of as waiting for operation j, which takes a result out of a tuple.** -/
theorem wp_region_edge {P : Program} {id : Nat} {Q : Exit → Act → World → Prop} {a : Act} {w : World} {l : List Oper} (s j n : Nat) (t : Tmp) (hm : P.follows .mixedOrders = true) (hf : ordB l s j t = true) (hB : Region.relB .any (addE s j l).toArray n = true)
    (h : ∀ Q0 : Exit → Act → World → Prop, (∀ a w, Q .normal a w → Q0 .normal a w) → wpRel P l.toArray w (fun a' w' => wpList P l.toArray Q0 (l.drop n) a' w') (l.take n) [] a) : (Code.region id l.toArray true).wp P Q a w := by
  obtain ⟨oj, os, F⟩ := ord_spec hf
  refine wp_region_any hm ?_
  have hR := relB_spec hB
  have hall := same_all s j l
  have h' : wpRel P (addE s j l).toArray w (fun a' w' => wpList P (addE s j l).toArray (onlyN Q) ((addE s j l).drop n) a' w') ((addE s j l).take n) [] a :=
    rel_add (P := P) (l := l) (s := s) (j := j) (fun a w hh => list_add _ _ a w (hall.drop n) hh) _ _ _ _ (hall.take n) (h (onlyN Q) (fun a w hq => hq))
  obtain ⟨Ef, af, hL, hq⟩ := wpRel_lex _ _ _ h'
  have hE := Lex.sta hL (fun e he => by cases he)
  have := rel_any (P := P) (md := .any) (ops := (addE s j l).toArray) (w0 := w) (n := n) (a0 := a) hR (by simpa using hL) hE (Q := onlyN Q) (by simpa using hq) n (Array.replicate (addE s j l).toArray.size false) a { w with drawn := w.drawn + 1 } (by
      unfold unl
      simpa using List.length_filter_le _ (List.range n))
    ⟨by simp, fun j oj _ hl => (by rw [getD_replicate_false] at hl; cases hl), fun t _ ht => getD_in (by simpa using ht) (getD_replicate_false _ _)⟩
    ⟨⟨rfl, rfl, rfl, Nat.le_refl _, fun _ _ => rfl⟩, rfl, rfl, fun k o t _ _ hl => (by rw [getD_replicate_false] at hl; cases hl), fun t _ => rfl⟩
  have hs : (addE s j l).toArray.size = l.toArray.size := by simp [add_len]
  rw [show n + ((addE s j l).toArray.size - n) = l.toArray.size by have := hR.le; omega, hs] at this
  exact any_edge F _ _ a _ (by simp) (getD_replicate_false _ _) this
end Go.Proofs.Ytbphhcjepeamcaa
