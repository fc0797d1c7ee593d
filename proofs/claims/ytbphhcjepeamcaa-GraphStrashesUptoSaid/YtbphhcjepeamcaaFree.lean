/- A region that draws its order, with one operation that may come up at any time (the address of a field, say): it may be thought of as done first. No condition. -/
import Derived.Test.YtbphhcjepeamcaaRelC
namespace Go.Proofs.Ytbphhcjepeamcaa
open Go Go.RowKit Go.Sort
set_option linter.unusedVariables false
def sgD (j k : Nat) : Nat := if k < j then k else k - 1
def upD (j k : Nat) : Nat := if k < j then k else k + 1
theorem sg_up (j m : Nat) : sgD j (upD j m) = m := by unfold sgD upD; (repeat' split) <;> omega
theorem up_sg {j k : Nat} (h : k ≠ j) : upD j (sgD j k) = k := by unfold sgD upD; (repeat' split) <;> omega
theorem up_ne (j m : Nat) : upD j m ≠ j := by unfold upD; split <;> omega
theorem up_inj {j a b : Nat} (h : upD j a = upD j b) : a = b := by rw [← sg_up j a, h, sg_up]
theorem up_lt {j m n : Nat} (h : m < n - 1) : upD j m < n := by unfold upD; split <;> omega
theorem sg_lt {j k n : Nat} (hj : j < n) (hk : k < n) (h : k ≠ j) : sgD j k < n - 1 := by unfold sgD; split <;> omega
def renD (j : Nat) (o : Oper) : Oper := { o with after := (o.after.filter (fun e => e.on != j)).map (fun e => { e with on := sgD j e.on }), guard := match o.guard with | some (g, b) => some (sgD j g, b) | none => none }
def dropA (j : Nat) (l : List Oper) : Array Oper := ((l.eraseIdx j).map (renD j)).toArray
def readsO (o : Oper) : List Tmp := o.op.operands.toList.filterMap fun | .tmp t => some t | _ => none
/-- operation j waits for nothing, and nobody writes what it reads, or reads what it writes without waiting for it -/
def freeB (l : List Oper) (j : Nat) (t : Tmp) : Bool :=
  match l[j]? with
  | none => false
  | some oj => oj.guard.isNone && (oj.after.all fun e => !Region.binds .any e) && (oj.dst == some t) && Region.noSelect l.toArray &&
    (List.range l.length).all fun k => k == j || (match l[k]? with
      | none => false
      | some o => (o.dst != some t) && (match o.dst with | some d => !(readsO oj).contains d | none => true) && (o.after.all fun e => decide (e.on < l.length)) &&
        (match o.guard with | some (g, _) => g != j | none => true) && (!(o.looksAt l.toArray).contains t || o.after.any fun e => Region.binds .any e && e.on == j))
structure FreeO (l : List Oper) (j : Nat) (t : Tmp) (oj : Oper) : Prop where
  get : l[j]? = some oj
  guard : oj.guard = none
  after : ∀ e ∈ oj.after, Region.binds .any e = false
  dst : oj.dst = some t
  sel : Region.noSelect l.toArray = true
  ne : ∀ k o, k ≠ j → l[k]? = some o → o.dst ≠ some t
  rd : ∀ k o d, k ≠ j → l[k]? = some o → o.dst = some d → d ∉ readsO oj
  ins : ∀ k o, k ≠ j → l[k]? = some o → ∀ e ∈ o.after, e.on < l.length
  gd : ∀ k o g b, k ≠ j → l[k]? = some o → o.guard = some (g, b) → g ≠ j
  waits : ∀ k o, k ≠ j → l[k]? = some o → t ∈ o.looksAt l.toArray → ∃ e ∈ o.after, Region.binds .any e = true ∧ e.on = j
theorem free_spec {l : List Oper} {j : Nat} {t : Tmp} (h : freeB l j t = true) : ∃ oj, FreeO l j t oj := by
  unfold freeB at h
  split at h
  · cases h
  rename_i oj hj
  simp only [Bool.and_eq_true] at h
  obtain ⟨⟨⟨⟨h1, h2⟩, h3⟩, h4⟩, h5⟩ := h
  have hlt : ∀ {k o}, l[k]? = some o → k < l.length := fun ho => (List.getElem?_eq_some_iff.1 ho).1
  have key : ∀ k o, k ≠ j → l[k]? = some o → _ := fun k o hk ho => by
    have := List.all_eq_true.1 h5 k (List.mem_range.2 (hlt ho))
    rw [ho] at this
    simp only [Bool.or_eq_true, beq_iff_eq, hk, false_or, Bool.and_eq_true] at this
    exact this
  refine ⟨oj, hj, by simpa using h1, fun e he => by simpa using Array.all_eq_true_iff_forall_mem.1 h2 e he, by simpa using h3, h4, ?_, ?_, ?_, ?_, ?_⟩
  · intro k o hk ho
    simpa using (key k o hk ho).1.1.1.1
  · intro k o d hk ho hd
    have := (key k o hk ho).1.1.1.2
    rw [hd] at this
    simpa using this
  · intro k o hk ho e he
    have := (key k o hk ho).1.1.2
    simpa using Array.all_eq_true_iff_forall_mem.1 this e he
  · intro k o g b hk ho hg
    have := (key k o hk ho).1.2
    rw [hg] at this
    simpa using this
  · intro k o hk ho ht
    rcases (key k o hk ho).2 with h6 | h6
    · simp [ht] at h6
    · obtain ⟨e, he, hb⟩ := Array.any_eq_true'.1 h6
      exact ⟨e, he, by simpa using hb⟩
section
variable {P : Program} {l : List Oper} {j : Nat} {t : Tmp} {oj : Oper} {v : Value}
theorem dropA_get (m : Nat) : (dropA j l)[m]? = (l[upD j m]?).map (renD j) := by
  unfold dropA upD
  rw [List.getElem?_toArray, List.getElem?_map]
  split
  · rename_i h; rw [List.getElem?_eraseIdx_of_lt h]
  · rename_i h; rw [List.getElem?_eraseIdx_of_ge (by omega)]
theorem dropA_size (hj : j < l.length) : (dropA j l).size = l.length - 1 := by unfold dropA; rw [List.size_toArray, List.length_map, List.length_eraseIdx, if_pos hj]
theorem yld_drop (tm : Array Value) {g : Nat} (hg : g ≠ j) : yielded (dropA j l) tm (sgD j g) = yielded l.toArray tm g := by
  unfold yielded
  rw [dropA_get, up_sg hg, List.getElem?_toArray]
  cases l[g]? <;> rfl
theorem wanted_drop (tm : Array Value) (o : Oper) (hg : ∀ g b, o.guard = some (g, b) → g ≠ j) : Region.wanted (renD j o) (yielded (dropA j l) tm) = Region.wanted o (yielded l.toArray tm) := by
  obtain ⟨d, op, ty, ps, af, g⟩ := o
  cases g with
  | none => rfl
  | some q =>
    obtain ⟨g, b⟩ := q
    have := yld_drop (l := l) tm (hg g b rfl)
    unfold Region.wanted renD
    simp only [this]
theorem looks_drop (o : Oper) (hg : ∀ g b, o.guard = some (g, b) → g ≠ j) : (renD j o).looksAt (dropA j l) = o.looksAt l.toArray := by
  obtain ⟨d, op, ty, ps, af, g⟩ := o
  cases g with
  | none => rfl
  | some q =>
    obtain ⟨g, b⟩ := q
    show _ ++ (((dropA j l)[sgD j g]?).bind (·.dst)).toList = _ ++ ((l.toArray[g]?).bind (·.dst)).toList
    rw [dropA_get, up_sg (hg g b rfl), List.getElem?_toArray]
    cases l[g]? <;> rfl
theorem free_drop (o : Oper) (hg : ∀ g b, o.guard = some (g, b) → g ≠ j) (E : En) : guardFree (dropA j l) (renD j o) E = guardFree l.toArray o E := by
  obtain ⟨d, op, ty, ps, af, g⟩ := o
  cases g with
  | none => rfl
  | some q =>
    obtain ⟨g, b⟩ := q
    unfold guardFree renD
    simp only
    rw [dropA_get, up_sg (hg g b rfl), List.getElem?_toArray]
    cases l[g]? <;> rfl
theorem lookE_drop (o : Oper) (hg : ∀ g b, o.guard = some (g, b) → g ≠ j) (E : En) : lookE (dropA j l) (renD j o) E = lookE l.toArray o E := by unfold lookE; rw [looks_drop o hg]
theorem relAll_mono : ∀ (E : En) (a : Act) (w : World) {K K' : Act → Prop}, (∀ a, K a → K' a) → relAll E a w K → relAll E a w K'
  | [], a, w, _, _, hK, h => hK _ h
  | e :: E, a, w, _, _, hK, h => fun v hv => relAll_mono E _ _ hK (h v hv)
theorem rel_drop {w : World} {R R' : Act → World → Prop} (hR : ∀ a w, R a w → R' a w) : ∀ (m : List Oper) (E : En) (a : Act), (∀ o ∈ m, ∀ g b, o.guard = some (g, b) → g ≠ j) → wpRel P l.toArray w R m E a → wpRel P (dropA j l) w R' (m.map (renD j)) E a
  | [], E, a, _, h => fun d os => relAll_mono E a _ (fun a' h => hR _ _ h) (h d os)
  | o :: m, E, a, hm, h => by
    have ho := hm o List.mem_cons_self
    have hm2 : ∀ o ∈ m, ∀ g b, o.guard = some (g, b) → g ≠ j := fun o ho => hm o (List.mem_cons_of_mem _ ho)
    obtain ⟨hg, h⟩ := h
    refine ⟨by rw [free_drop o ho]; exact hg, ?_⟩
    rw [wanted_drop _ o ho]
    split at h
    · rename_i hw
      rw [if_pos hw]
      rcases h with ⟨v, h1, h2⟩ | ⟨t, F, h1, h2, h3, h4, h5⟩
      · exact .inl ⟨v, fun d os => by rw [lookE_drop o ho]; exact h1 d os, rel_drop hR m _ _ hm2 h2⟩
      · exact .inr ⟨t, F, h1, h2, h3, fun d os => by rw [lookE_drop o ho]; exact h4 d os, rel_drop hR m _ _ hm2 h5⟩
    · rename_i hw
      rw [if_neg hw]
      exact rel_drop hR m _ _ hm2 h
theorem list_drop {Q : Exit → Act → World → Prop} : ∀ (m : List Oper) (a : Act) (w : World), (∀ o ∈ m, ∀ g b, o.guard = some (g, b) → g ≠ j) → wpList P l.toArray Q m a w → wpList P (dropA j l) Q (m.map (renD j)) a w
  | [], a, w, _, h => h
  | o :: m, a, w, hm, h => by
    have hm2 : ∀ o ∈ m, ∀ g b, o.guard = some (g, b) → g ≠ j := fun o ho => hm o (List.mem_cons_of_mem _ ho)
    unfold wpList at h
    show (if Region.wanted (renD j o) (yielded (dropA j l) a.tmps) = true then (renD j o).wp P a w _ Q ∨ ((renD j o).asks P a w ∧ LetsOut Q) else _)
    rw [wanted_drop _ o (hm o List.mem_cons_self)]
    split at h
    · rename_i hw
      rw [if_pos hw]
      exact h.imp (fun h => Oper.wp_mono (o := o) (fun a w hh => list_drop m a w hm2 hh) h) id
    · rename_i hw
      rw [if_neg hw]
      exact list_drop m _ w hm2 h
/-- only the plain end counts -/
def onlyN (Q : Exit → Act → World → Prop) : Exit → Act → World → Prop
  | .normal, a, w => Q .normal a w
  | _, _, _ => False
theorem only_out {Q : Exit → Act → World → Prop} (h : LetsOut (onlyN Q)) : False := by obtain ⟨a, w, h⟩ := h; exact h
theorem put_comm (a : Act) {d d' : Option Tmp} (h : ∀ x, d = some x → d' ≠ some x) (u u' : Value) : (a.put d u).put d' u' = (a.put d' u').put d u := by
  cases d with
  | none => rfl
  | some x =>
    cases d' with
    | none => rfl
    | some y =>
      have hxy : x ≠ y := fun e => h x rfl (by rw [e])
      unfold Act.put
      simp only
      congr 1
      exact Array.setIfInBounds_comm _ _ hxy
theorem upon_free {Q : Exit → Act → World → Prop} {o : Oper} {a : Act} {r : Result Next} {K K0 : Act → World → Prop} (hd : o.dst ≠ some t) (hK : ∀ b w, b.defers.length = b.defers.length → (∃ u ds, b = ({ a with defers := ds } : Act).put o.dst u) → K0 (b.put (some t) v) w → K b w) (h : o.upon P (a.put (some t) v) K0 (onlyN Q) r) : o.upon P a K Q r := by
  have pc : ∀ (a : Act) (u : Value), (a.put (some t) v).put o.dst u = (a.put o.dst u).put (some t) v := fun a u => put_comm a (fun x hx => by cases hx; exact hd) v u
  have dc : ∀ (ds : List Deferred), ({ (a.put (some t) v) with defers := ds } : Act) = ({ a with defers := ds } : Act).put (some t) v := fun ds => rfl
  have self : ∀ u, ∃ u' ds, a.put o.dst u = ({ a with defers := ds } : Act).put o.dst u' := fun u => ⟨u, a.defers, rfl⟩
  cases r with
  | ok nx w' =>
    cases nx <;> simp only [Oper.upon] at h ⊢
    case value u => rw [pc] at h; exact hK _ _ rfl (self u) h
    case skip => rw [pc] at h; exact hK _ _ rfl (self undef) h
    case defer d =>
      have h' : K0 ((({ a with defers := d :: a.defers } : Act).put o.dst undef).put (some t) v) w' := by rw [← pc]; exact h
      exact hK _ _ rfl ⟨undef, d :: a.defers, rfl⟩ h'
    case enter f args =>
      refine h.mono fun e w'' he => ?_
      cases e with
      | returned u => simp only at he ⊢; rw [pc] at he; exact hK _ _ rfl (self u) he
      | panicked c => exact absurd he (fun h => h)
      | outgrown => exact (only_out he).elim
    case row r args => exact Rows.mono h fun u w'' he => by rw [pc] at he; exact hK _ _ rfl (self u) he
  | halt x w' => cases x <;> simp only [Oper.upon] at h ⊢ <;> exact absurd h (fun h => h)
theorem upon_same {Q : Exit → Act → World → Prop} {o : Oper} {a : Act} {r : Result Next} {K K0 : Act → World → Prop} (hK : ∀ b w, K0 b w → K b w) (h : o.upon P a K0 (onlyN Q) r) : o.upon P a K Q r := by
  cases r with
  | ok nx w' =>
    cases nx <;> simp only [Oper.upon] at h ⊢
    case value u => exact hK _ _ h
    case skip => exact hK _ _ h
    case defer d => exact hK _ _ h
    case enter f args =>
      refine h.mono fun e w'' he => ?_
      cases e with
      | returned u => exact hK _ _ he
      | panicked c => exact absurd he (fun h => h)
      | outgrown => exact (only_out he).elim
    case row r args => exact Rows.mono h fun u w'' he => hK _ _ he
  | halt x w' => cases x <;> simp only [Oper.upon] at h ⊢ <;> exact absurd h (fun h => h)
/-- the numbers of what is listed agree -/
structure Lis (l : List Oper) (j : Nat) (A B : Array Bool) : Prop where
  sa : A.size = l.length
  sb : B.size = l.length - 1
  eq : ∀ m, m < l.length - 1 → B.getD m false = A.getD (upD j m) false
theorem Lis.set {A B : Array Bool} (h : Lis l j A B) {k : Nat} (hj : j < l.length) (hk : k < l.length) (hkj : k ≠ j) : Lis l j (A.setIfInBounds k true) (B.setIfInBounds (sgD j k) true) := by
  refine ⟨by rw [Array.size_setIfInBounds]; exact h.sa, by rw [Array.size_setIfInBounds]; exact h.sb, fun m hm => ?_⟩
  have e1 : ∀ (A : Array Bool) (q : Nat), q < A.size → (A.setIfInBounds q true).getD q false = true := fun A q hq => by simp [hq]
  by_cases e : sgD j k = m
  · subst e
    rw [up_sg hkj, e1 _ _ (by rw [h.sb]; exact sg_lt hj hk hkj), e1 _ _ (by rw [h.sa]; exact hk)]
  · rw [getD_set_ne false e, getD_set_ne false (fun e2 => e (by rw [e2, sg_up]))]
    exact h.eq m hm
theorem Lis.setj {A B : Array Bool} (h : Lis l j A B) : Lis l j (A.setIfInBounds j true) B :=
  ⟨by rw [Array.size_setIfInBounds]; exact h.sa, h.sb, fun m hm => by rw [getD_set_ne false (fun e => up_ne j m e.symm)]; exact h.eq m hm⟩
variable {Q : Exit → Act → World → Prop}
theorem get_lt {k : Nat} {o : Oper} (ho : l.toArray[k]? = some o) : k < l.length := by have := (Array.getElem?_eq_some_iff.1 ho).1; simpa using this
theorem ready_down (F : FreeO l j t oj) {A B : Array Bool} (hL : Lis l j A B) {k : Nat} (hkj : k ≠ j) (hk : k ∈ Region.ready .any l.toArray A) : sgD j k ∈ Region.ready .any (dropA j l) B := by
  obtain ⟨ha, o, ho, hb⟩ := mem_ready.1 hk
  have hkl := get_lt ho
  have hj := (List.getElem?_eq_some_iff.1 F.get).1
  rw [List.getElem?_toArray] at ho
  refine mem_ready.2 ⟨getD_in (by rw [hL.sb]; exact sg_lt hj hkl hkj) (by rw [hL.eq _ (sg_lt hj hkl hkj), up_sg hkj]; exact getD_both ha), renD j o, by rw [dropA_get, up_sg hkj, ho]; rfl, fun x hx hbx => ?_⟩
  obtain ⟨y, hy, rfl⟩ := Array.mem_map.1 hx
  obtain ⟨hy1, hy2⟩ := Array.mem_filter.1 hy
  have hyj : y.on ≠ j := by simpa using hy2
  rw [hL.eq _ (sg_lt hj (F.ins k o hkj ho y hy1) hyj), up_sg hyj]
  exact hb y hy1 hbx
theorem ready_up (F : FreeO l j t oj) {A B : Array Bool} (hL : Lis l j A B) (hlj : A.getD j false = true) {m : Nat} (hm : m ∈ Region.ready .any (dropA j l) B) : upD j m ∈ Region.ready .any l.toArray A := by
  obtain ⟨ha, o', ho', hb⟩ := mem_ready.1 hm
  have hj := (List.getElem?_eq_some_iff.1 F.get).1
  have hml : m < l.length - 1 := by have := (Array.getElem?_eq_some_iff.1 ho').1; rwa [dropA_size hj] at this
  rw [dropA_get] at ho'
  cases ho : l[upD j m]? with
  | none => rw [ho] at ho'; cases ho'
  | some o =>
    rw [ho] at ho'
    have e : renD j o = o' := Option.some.inj ho'
    subst e
    refine mem_ready.2 ⟨getD_in (by rw [hL.sa]; exact up_lt hml) (by rw [← hL.eq m hml]; exact getD_both ha), o, by rw [List.getElem?_toArray]; exact ho, fun y hy hby => ?_⟩
    by_cases hyj : y.on = j
    · rw [hyj]; exact hlj
    · have hyl := F.ins _ o (up_ne j m) ho y hy
      have := hb { y with on := sgD j y.on } (Array.mem_map.2 ⟨y, Array.mem_filter.2 ⟨hy, by simpa using hyj⟩, rfl⟩) hby
      rw [hL.eq _ (sg_lt hj hyl hyj), up_sg hyj] at this
      exact this
theorem any_done (F : FreeO l j t oj) : ∀ (f : Nat) (A B : Array Bool) (a : Act) (w : World), Lis l j A B → A.getD j false = true → wpAny P .any (dropA j l) (onlyN Q) f B a w → wpAny P .any l.toArray Q f A a w := by
  have hj := (List.getElem?_eq_some_iff.1 F.get).1
  have nj : ∀ {A : Array Bool} {k}, A.getD j false = true → k ∈ Region.ready .any l.toArray A → k ≠ j := fun hA hk e => by
    subst e
    have := getD_both (mem_ready.1 hk).1
    rw [hA] at this; cases this
  intro f
  induction f with
  | zero =>
    intro A B a w hL hA h
    refine ⟨List.eq_nil_iff_forall_not_mem.2 fun k hk => ?_, h.2⟩
    have := ready_down F hL (nj hA hk) hk
    rw [h.1] at this; cases this
  | succ f ih =>
    intro A B a w hL hA h
    refine ⟨fun h0 => h.1 (List.eq_nil_iff_forall_not_mem.2 fun m hm => ?_), fun k hk => ?_⟩
    · have := ready_up F hL hA hm
      rw [h0] at this; cases this
    · have hkj := nj hA hk
      obtain ⟨_, o, ho, _⟩ := mem_ready.1 hk
      have hkl := get_lt ho
      have hh := h.2 _ (ready_down F hL hkj hk)
      have hA2 : (A.setIfInBounds k true).getD j false = true := by rw [getD_set_ne false hkj]; exact hA
      have next := fun a w => ih _ _ a w (hL.set hj hkl hkj) hA2
      rw [List.getElem?_toArray] at ho
      unfold wpOp at hh ⊢
      rw [dropA_get, up_sg hkj, ho] at hh
      rw [List.getElem?_toArray, ho]
      simp only [Option.map_some] at hh ⊢
      rw [wanted_drop _ o (F.gd k o · · hkj ho)] at hh
      split
      · rename_i hw
        rw [if_pos hw] at hh
        rcases hh with hh | hh
        · exact .inl (upon_same (o := o) next hh)
        · exact (only_out hh.2).elim
      · rename_i hw
        rw [if_neg hw] at hh
        exact next _ _ hh
theorem eval_put {a : Act} {d : Option Tmp} {u : Value} {x : Operand} (h : ∀ y, x = .tmp y → d ≠ some y) : (a.put d u).eval x = a.eval x := by
  cases x with
  | tmp y =>
    have := h y rfl
    simp only [Act.eval, Array.getD_eq_getD_getElem?, put_get]
    rw [if_neg (fun h2 => this h2.1)]
  | _ => rfl
theorem any_free (F : FreeO l j t oj) (a0 : Act) (hv : ∀ w, (execOp a0.eval oj).run P w = .ok (.value v) w) : ∀ (f : Nat) (A B : Array Bool) (a : Act) (w : World), Lis l j A B → A.getD j false = false → (∀ x ∈ oj.op.operands, a.eval x = a0.eval x) → wpAny P .any (dropA j l) (onlyN Q) f B (a.put (some t) v) w → wpAny P .any l.toArray Q (f + 1) A a w := by
  have hj := (List.getElem?_eq_some_iff.1 F.get).1
  have jr : ∀ {A : Array Bool}, A.size = l.length → A.getD j false = false → j ∈ Region.ready .any l.toArray A := fun hs hA => mem_ready.2 ⟨getD_in (by rw [hs]; exact hj) hA, oj, by rw [List.getElem?_toArray]; exact F.get, fun e he hb => by rw [F.after e he] at hb; cases hb⟩
  intro f
  induction f with
  | zero =>
    intro A B a w hL hA hr h
    refine ⟨fun h0 => ?_, fun k hk => ?_⟩
    · have := jr hL.sa hA
      rw [h0] at this; cases this
    · by_cases hkj : k = j
      · subst hkj
        have hex : execOp a.eval oj = execOp a0.eval oj := execOp_congr oj (fun cs b => Region.noSelect_spec F.sel k oj cs b (by rw [List.getElem?_toArray]; exact F.get)) hr
        unfold wpOp
        rw [List.getElem?_toArray, F.get]
        simp only
        rw [if_pos (by unfold Region.wanted; rw [F.guard])]
        refine .inl ?_
        unfold Oper.wp
        rw [hex, hv, Oper.upon_value, F.dst]
        exact any_done F 0 _ _ _ _ hL.setj (by simp [hL.sa, hj]) h
      · have := ready_down F hL hkj hk
        rw [h.1] at this; cases this
  | succ f ih =>
    intro A B a w hL hA hr h
    refine ⟨fun h0 => ?_, fun k hk => ?_⟩
    · have := jr hL.sa hA
      rw [h0] at this; cases this
    · by_cases hkj : k = j
      · subst hkj
        have hex : execOp a.eval oj = execOp a0.eval oj := execOp_congr oj (fun cs b => Region.noSelect_spec F.sel k oj cs b (by rw [List.getElem?_toArray]; exact F.get)) hr
        unfold wpOp
        rw [List.getElem?_toArray, F.get]
        simp only
        rw [if_pos (by unfold Region.wanted; rw [F.guard])]
        refine .inl ?_
        unfold Oper.wp
        rw [hex, hv, Oper.upon_value, F.dst]
        exact any_done F (f + 1) _ _ _ _ hL.setj (by simp [hL.sa, hj]) h
      · obtain ⟨_, o, ho, hall⟩ := mem_ready.1 hk
        have hkl := get_lt ho
        have hh := h.2 _ (ready_down F hL hkj hk)
        have hA2 : (A.setIfInBounds k true).getD j false = false := by rw [getD_set_ne false hkj]; exact hA
        have ho2 := ho
        rw [List.getElem?_toArray] at ho
        have hnt : t ∉ o.looksAt l.toArray := fun ht => by
          obtain ⟨e, he, hb, hon⟩ := F.waits k o hkj ho ht
          have := hall e he hb
          rw [hon, hA] at this; cases this
        have hops : ∀ x ∈ o.op.operands, (a.put (some t) v).eval x = a.eval x := fun x hx => eval_put fun y hy e => by
          injection e with e
          subst hy e
          exact hnt (List.mem_append_left _ (List.mem_filterMap.2 ⟨.tmp t, by simpa using hx, rfl⟩))
        have hex : execOp (a.put (some t) v).eval o = execOp a.eval o := execOp_congr o (fun cs b => Region.noSelect_spec F.sel k o cs b ho2) hops
        have hwt : Region.wanted o (yielded l.toArray (a.put (some t) v).tmps) = Region.wanted o (yielded l.toArray a.tmps) := by
          unfold Region.wanted
          cases hg : o.guard with
          | none => rfl
          | some q =>
            obtain ⟨g, b⟩ := q
            have : yielded l.toArray (a.put (some t) v).tmps g = yielded l.toArray a.tmps g := by
              unfold yielded
              cases hd : (l.toArray[g]?).bind (·.dst) with
              | none => rfl
              | some d =>
                have hdt : d ≠ t := fun e => by
                  subst e
                  exact hnt (List.mem_append_right _ (by rw [hg]; show _ ∈ ((l.toArray[g]?).bind (·.dst)).toList; rw [hd]; simp))
                simp only [Option.bind_some, put_get]
                rw [if_neg (fun h2 => hdt (Option.some.inj h2.1).symm)]
            simp only [this]
        have next : ∀ b w, (∃ u ds, b = ({ a with defers := ds } : Act).put o.dst u) → wpAny P .any (dropA j l) (onlyN Q) f (B.setIfInBounds (sgD j k) true) (b.put (some t) v) w → wpAny P .any l.toArray Q (f + 1) (A.setIfInBounds k true) b w := fun b w ⟨u, ds, hb⟩ hq => ih _ _ b w (hL.set hj hkl hkj) hA2 (fun x hx => by
          subst hb
          rw [eval_put (fun y hy e => by subst hy; exact F.rd k o y hkj ho e (List.mem_filterMap.2 ⟨.tmp y, by simpa using hx, rfl⟩))]
          rw [← hr x hx]; cases x <;> rfl) hq
        unfold wpOp at hh ⊢
        rw [dropA_get, up_sg hkj, ho] at hh
        rw [List.getElem?_toArray, ho]
        simp only [Option.map_some] at hh ⊢
        rw [wanted_drop _ o (F.gd k o · · hkj ho), hwt] at hh
        split
        · rename_i hw
          rw [if_pos hw] at hh
          rcases hh with hh | hh
          · refine .inl ?_
            have h3 : o.upon P (a.put (some t) v) (wpAny P .any (dropA j l) (onlyN Q) f (B.setIfInBounds (sgD j k) true)) (onlyN Q) ((execOp a.eval o).run P w) := by rw [← hex]; exact hh
            exact upon_free (F.ne k o hkj ho) (fun b w _ hb hq => next b w hb hq) h3
          · exact (only_out hh.2).elim
        · rename_i hw
          rw [if_neg hw] at hh
          refine next _ _ ⟨undef, a.defers, rfl⟩ ?_
          rw [← put_comm a (fun x hx => by cases hx; exact F.ne k o hkj ho)]
          exact hh
end
/-- **A walk in the order of the text in which operation j, which waits for nothing, is done first, whenever it comes up.** The first n of the others only add to the memory; those behind them wait for all of those, each for the one before. -/
theorem wp_region_free {P : Program} {id : Nat} {Q : Exit → Act → World → Prop} {a : Act} {w : World} {l : List Oper} (j n : Nat) (t : Tmp) (v : Value) (hm : P.follows .mixedOrders = true) (hf : freeB l j t = true) (hB : Region.relB .any (dropA j l) n = true)
    (hv : ∀ oj, l[j]? = some oj → ∀ w, (execOp a.eval oj).run P w = .ok (.value v) w)
    (h : ∀ Q0 : Exit → Act → World → Prop, (∀ a w, Q .normal a w → Q0 .normal a w) → wpRel P l.toArray w (fun a' w' => wpList P l.toArray Q0 ((l.eraseIdx j).drop n) a' w') ((l.eraseIdx j).take n) [] (a.put (some t) v)) : (Code.region id l.toArray true).wp P Q a w := by
  obtain ⟨oj, F⟩ := free_spec hf
  have hj := (List.getElem?_eq_some_iff.1 F.get).1
  have hgd : ∀ o ∈ l.eraseIdx j, ∀ g b, o.guard = some (g, b) → g ≠ j := fun o ho g b hg => by
    obtain ⟨m, hm'⟩ := List.getElem?_of_mem ho
    have e : (l.eraseIdx j)[m]? = l[upD j m]? := by
      unfold upD
      split
      · rename_i h; rw [List.getElem?_eraseIdx_of_lt h]
      · rename_i h; rw [List.getElem?_eraseIdx_of_ge (by omega)]
    rw [e] at hm'
    exact F.gd _ o g b (up_ne j m) hm' hg
  refine wp_region_any hm ?_
  have hR := relB_spec hB
  have h' : wpRel P (dropA j l) w (fun a' w' => wpList P (dropA j l) (onlyN Q) ((dropA j l).toList.drop n) a' w') ((dropA j l).toList.take n) [] (a.put (some t) v) := by
    have := rel_drop (P := P) (l := l) (j := j) (R' := fun a' w' => wpList P (dropA j l) (onlyN Q) (((l.eraseIdx j).drop n).map (renD j)) a' w') (fun a w hh => list_drop _ a w (fun o ho => hgd o (List.mem_of_mem_drop ho)) hh) _ _ _ (fun o ho => hgd o (List.mem_of_mem_take ho)) (h (onlyN Q) (fun a w hq => hq))
    have e1 : (dropA j l).toList.take n = ((l.eraseIdx j).take n).map (renD j) := by show ((l.eraseIdx j).map (renD j)).take n = _; rw [List.map_take]
    have e2 : (dropA j l).toList.drop n = ((l.eraseIdx j).drop n).map (renD j) := by show ((l.eraseIdx j).map (renD j)).drop n = _; rw [List.map_drop]
    rw [e1, e2]; exact this
  obtain ⟨Ef, af, hL, hq⟩ := wpRel_lex _ _ _ h'
  have hE := Lex.sta hL (fun e he => by cases he)
  have := rel_any (P := P) (md := .any) (ops := dropA j l) (w0 := w) (n := n) (a0 := a.put (some t) v) hR hL hE (Q := onlyN Q) hq n (Array.replicate (dropA j l).size false) (a.put (some t) v) { w with drawn := w.drawn + 1 } (by
      unfold unl
      have := List.length_filter_le (fun j => !(Array.replicate (dropA j l).size false).getD j false) (List.range n)
      simpa using List.length_filter_le _ (List.range n))
    ⟨by simp, fun j oj _ hl => (by rw [getD_replicate_false] at hl; cases hl), fun t _ ht => getD_in (by simpa using ht) (getD_replicate_false _ _)⟩
    ⟨⟨rfl, rfl, rfl, Nat.le_refl _, fun _ _ => rfl⟩, rfl, rfl, fun k o t _ _ hl => (by rw [getD_replicate_false] at hl; cases hl), fun t _ => rfl⟩
  rw [show n + ((dropA j l).size - n) = l.length - 1 by have := hR.le; rw [dropA_size hj] at this ⊢; omega] at this
  have e : l.toArray.size = (l.length - 1) + 1 := by simp; omega
  rw [e]
  refine any_free F a (fun w => hv oj F.get w) _ _ _ a _ ⟨by simp; omega, by rw [Array.size_replicate, dropA_size hj], fun m hm => by rw [getD_replicate_false, getD_replicate_false]⟩ (getD_replicate_false _ _) (fun x hx => rfl) this
end Go.Proofs.Ytbphhcjepeamcaa
