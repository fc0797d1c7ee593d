/- Running a closed program text by its own rules: what is computed of a region that draws its order. No condition. -/
import Derived.Test.YtmimihjbepjnfaaGreatDoorEvM
namespace Go.Proofs.YtmimihjbepjnfaaGreatDoor
open Go Go.RowKit
set_option linter.unusedVariables false
def ancOf (an : List Nat) (o : Oper) : Nat := o.after.toList.foldl (fun m e => cond (Region.binds .any e) (m ||| 2 ^ e.on ||| an.getD e.on 0) m) 0
def ancAll : List Oper → List Nat → List Nat
  | [], an => an
  | o :: l, an => ancAll l (an ++ [ancOf an o])
def Aof (an : List Nat) (j k : Nat) : Bool := (an.getD j 0).testBit k
def ancOk (an : List Nat) : List Oper → Nat → Bool
  | [], _ => true
  | o :: l, j => Nat.beq (an.getD j 0) (ancOf an o) && (o.after.toList.all fun e => !Region.binds .any e || Nat.blt e.on j) && ancOk an l (j + 1)
theorem ancOf_bit (an : List Nat) (k : Nat) : ∀ (l : List Edge) (m : Nat), (l.foldl (fun m e => cond (Region.binds .any e) (m ||| 2 ^ e.on ||| an.getD e.on 0) m) m).testBit k = true → m.testBit k = true ∨ ∃ e ∈ l, Region.binds .any e = true ∧ (e.on = k ∨ Aof an e.on k = true)
  | [], m, h => .inl h
  | e :: l, m, h => by
    simp only [List.foldl_cons] at h
    rcases ancOf_bit an k l _ h with h1 | ⟨e2, h1, h2⟩
    · cases hb : Region.binds .any e with
      | false => rw [hb] at h1; exact .inl h1
      | true =>
        rw [hb] at h1
        simp only [cond, Nat.testBit_or, Bool.or_eq_true, Nat.testBit_two_pow] at h1
        rcases h1 with (h1 | h1) | h1
        · exact .inl h1
        · exact .inr ⟨e, List.mem_cons_self, hb, .inl (by simpa using h1)⟩
        · exact .inr ⟨e, List.mem_cons_self, hb, .inr h1⟩
    · exact .inr ⟨e2, List.mem_cons_of_mem _ h1, h2⟩
theorem ancOk_spec {an : List Nat} : ∀ {l : List Oper} {j : Nat}, ancOk an l j = true → ∀ k o, l[k]? = some o → (∀ e ∈ o.after, Region.binds .any e = true → e.on < j + k) ∧ an.getD (j + k) 0 = ancOf an o
  | [], _, _, k, o, h => by simp at h
  | o' :: l, j, hc, k, o, h => by
    simp only [ancOk, Bool.and_eq_true] at hc
    cases k with
    | zero =>
      simp at h; subst h
      refine ⟨fun e he hb => ?_, Nat.eq_of_beq_eq_true hc.1.1⟩
      have := List.all_eq_true.1 hc.1.2 e (Array.mem_toList_iff.2 he)
      rw [hb] at this
      simp only [Bool.not_true, Bool.false_or] at this
      exact Nat.le_of_ble_eq_true this
    | succ k =>
      simp at h
      have := ancOk_spec hc.2 k o h
      rw [show j + (k + 1) = j + 1 + k by omega]; exact this
theorem Aof_spec {an : List Nat} {ops : Array Oper} (hc : ancOk an ops.toList 0 = true) : ∀ j k, j < ops.size → Aof an j k = true → k < j ∧ ∃ o, ops[j]? = some o ∧ ∃ e ∈ o.after, Region.binds .any e = true ∧ (e.on = k ∨ Aof an e.on k = true) := by
  intro j
  induction j using Nat.strongRecOn with
  | _ j ih =>
    intro k hj hA
    have ho : ops[j]? = some ops[j] := Array.getElem?_eq_getElem hj
    have ho' : ops.toList[j]? = some ops[j] := by rw [Array.getElem?_toList]; exact ho
    obtain ⟨h1, h2⟩ := ancOk_spec hc j _ ho'
    rw [Nat.zero_add] at h1 h2
    have hA' := hA
    unfold Aof at hA
    rw [h2] at hA
    rcases ancOf_bit an k _ _ hA with h3 | ⟨e, he, hb, hor⟩
    · simp at h3
    · have hlt := h1 e (Array.mem_toList_iff.1 he) hb
      refine ⟨?_, _, ho, e, Array.mem_toList_iff.1 he, hb, hor⟩
      rcases hor with h4 | h4
      · omega
      · have := (ih e.on hlt k (by omega) h4).1; omega
def wrOk (an : List Nat) (j t : Nat) : List Oper → Nat → Bool
  | [], _ => true
  | o :: l, k => (match o.dst with
    | some d => !Nat.beq d t || Nat.beq k j || Aof an j k || Aof an k j
    | none => true) && wrOk an j t l (k + 1)
theorem wrOk_spec {an : List Nat} {j t : Nat} : ∀ {l : List Oper} {q : Nat}, wrOk an j t l q = true → ∀ (k : Nat) (o : Oper), l[k]? = some o → o.dst = some t → q + k = j ∨ Aof an j (q + k) = true ∨ Aof an (q + k) j = true
  | [], _, _, k, o, h, _ => by simp at h
  | o' :: l, q, hc, k, o, h, hd => by
    simp only [wrOk, Bool.and_eq_true] at hc
    cases k with
    | zero =>
      simp at h; subst h
      rw [hd] at hc
      have := hc.1
      simp only [Nat.beq_refl, Bool.not_true, Bool.false_or, Bool.or_eq_true] at this
      rcases this with (h1 | h1) | h1
      · exact .inl (Nat.eq_of_beq_eq_true h1)
      · exact .inr (.inl h1)
      · exact .inr (.inr h1)
    | succ k =>
      simp at h
      have := wrOk_spec hc.2 k o h hd
      rw [show q + (k + 1) = q + 1 + k by omega]; exact this
def onceOk : List Oper → Bool
  | [] => true
  | o :: l => (match o.dst with
    | some d => l.all fun o2 => match o2.dst with
      | some d2 => !Nat.beq d d2
      | none => true
    | none => true) && onceOk l
theorem onceOk_spec : ∀ {l : List Oper}, onceOk l = true → ∀ (j k : Nat) (x y : Oper) (t : Tmp), l[j]? = some x → l[k]? = some y → x.dst = some t → y.dst = some t → j = k
  | [], _, j, k, x, y, t, h, _, _, _ => by simp at h
  | o :: l, hc, j, k, x, y, t, hx, hy, hdx, hdy => by
    simp only [onceOk, Bool.and_eq_true] at hc
    have key : ∀ (z : Oper) (m : Nat), l[m]? = some z → o.dst = some t → z.dst = some t → False := by
      intro z m hz h1 h2
      have hc1 := hc.1
      rw [h1] at hc1
      have := List.all_eq_true.1 hc1 z (List.mem_of_getElem? hz)
      rw [h2] at this
      simp at this
    cases j with
    | zero => cases k with
      | zero => rfl
      | succ k => simp at hx hy; subst hx; exact (key y k hy hdx hdy).elim
    | succ j => cases k with
      | zero => simp at hx hy; subst hy; exact (key x j hx hdy hdx).elim
      | succ k => simp at hx hy; rw [onceOk_spec hc.2 j k x y t hx hy hdx hdy]
def touched (an : List Nat) (j : Nat) : List Rc → Nat → Nat → Bool
  | [], _, _ => false
  | r :: l, k, i => (!Aof an j k && inU r i) || touched an j l (k + 1) i
theorem touched_spec {an : List Nat} {j i : Nat} : ∀ {l : List Rc} {q : Nat}, touched an j l q i = false → ∀ k r, l[k]? = some r → inU r i = true → Aof an j (q + k) = true
  | [], _, _, k, r, h, _ => by simp at h
  | r' :: l, q, hc, k, r, h, hu => by
    simp only [touched, Bool.or_eq_false_iff] at hc
    cases k with
    | zero =>
      simp at h; subst h
      have := hc.1
      rw [hu] at this
      simpa using this
    | succ k =>
      simp at h
      have := touched_spec hc.2 k r h hu
      rw [show q + (k + 1) = q + 1 + k by omega]; exact this
def avIds : AV → List Nat
  | .p i _ => [i]
  | .s i _ _ _ => [i]
  | .m i => [i]
  | _ => []
def restr (h : Hp) : List Nat → Hp → Hp
  | [], t => t
  | i :: l, t => restr h l (t.set i (h.get i))
theorem restr_spec {h : Hp} : ∀ {l : List Nat} {t : Hp} {i : Nat} {o : AO}, (restr h l t).get i = some o → (i ∈ l ∧ h.get i = some o) ∨ (t.get i = some o)
  | [], t, i, o, e => .inr e
  | j :: l, t, i, o, e => by
    simp only [restr] at e
    rcases restr_spec e with ⟨h1, h2⟩ | h1
    · exact .inl ⟨List.mem_cons_of_mem _ h1, h2⟩
    · rw [T.get_set] at h1
      split at h1
      · rename_i hij; subst hij; exact .inl ⟨List.mem_cons_self, h1⟩
      · exact .inr h1
def dropIds : List Nat → Hp → Hp
  | [], t => t
  | i :: l, t => dropIds l (t.set i none)
theorem dropIds_spec : ∀ (l : List Nat) (t : Hp) (i : Nat), (dropIds l t).get i = if l.contains i then none else t.get i
  | [], t, i => by simp [dropIds]
  | j :: l, t, i => by
    simp only [dropIds]
    rw [dropIds_spec l _ i, T.get_set]
    simp only [List.contains_cons]
    by_cases hij : i = j
    · subst hij; simp
    · have : (i == j) = false := by simpa using hij
      simp [hij, this]
def newIds (r : Rc) : List Nat := List.range' r.n (r.n' - r.n)
theorem newIds_spec (r : Rc) (i : Nat) : (newIds r).contains i = true ↔ (r.n ≤ i ∧ i < r.n') := by
  unfold newIds
  rw [List.contains_iff_mem, List.mem_range'_1]
  omega
theorem inU_iff (r : Rc) (i : Nat) : inU r i = true ↔ (r.u.contains i = true ∨ (newIds r).contains i = true) := by
  rw [newIds_spec]
  simp only [inU, Bool.or_eq_true, Bool.and_eq_true, Nat.ble_eq, Nat.blt_eq]
def erAll (an : List Nat) (j : Nat) : List Rc → Nat → Hp → Hp
  | [], _, h => h
  | r :: l, k, h => erAll an j l (k + 1) (cond (Aof an j k) h (dropIds (newIds r) (dropIds r.u h)))
theorem erAll_spec {an : List Nat} {j : Nat} : ∀ {l : List Rc} {q : Nat} {h : Hp} {i : Nat} {o : AO}, (erAll an j l q h).get i = some o → h.get i = some o ∧ ∀ k r, l[k]? = some r → inU r i = true → Aof an j (q + k) = true
  | [], q, h, i, o, e => ⟨e, fun k r hr => by simp at hr⟩
  | r' :: l, q, h, i, o, e => by
    simp only [erAll] at e
    obtain ⟨h1, h2⟩ := erAll_spec e
    cases hA : Aof an j q with
    | true =>
      rw [hA] at h1
      refine ⟨h1, fun k r hr hu => ?_⟩
      cases k with
      | zero => exact hA
      | succ k => simp at hr; have := h2 k r hr hu; rwa [show q + (k + 1) = q + 1 + k by omega]
    | false =>
      rw [hA] at h1
      simp only [cond, dropIds_spec] at h1
      split at h1
      · cases h1
      · rename_i q1
        split at h1
        · cases h1
        · rename_i q2
          refine ⟨h1, fun k r hr hu => ?_⟩
          cases k with
          | zero =>
            simp at hr; subst hr
            rcases (inU_iff r' i).1 hu with h3 | h3
            · exact absurd h3 q2
            · exact absurd h3 q1
          | succ k => simp at hr; have := h2 k r hr hu; rwa [show q + (k + 1) = q + 1 + k by omega]
def incOne (an : List Nat) (j : Nat) (uj : List Nat) (r : Rc) (k : Nat) : Bool := Aof an j k || ((uj.all fun i => !inU r i) && (match r.ft with
      | some ids => ids.all fun i => !uj.contains i
      | none => uj.isEmpty))
def IncR (u : List Nat) (r : Rc) : Prop := (∀ i, u.contains i = true → inU r i = false) ∧ (match r.ft with
      | some ids => ∀ i, i ∈ ids → u.contains i = false
      | none => u = [])
theorem incOne_spec {an : List Nat} {j : Nat} {uj : List Nat} {r : Rc} {k : Nat} (h : incOne an j uj r k = true) : Aof an j k = true ∨ IncR uj r := by
  unfold incOne at h
  rw [Bool.or_eq_true] at h
  rcases h with h1 | h1
  · exact .inl h1
  · right
    simp only [Bool.and_eq_true] at h1
    refine ⟨fun i hi => ?_, ?_⟩
    · have := List.all_eq_true.1 h1.1 i (List.contains_iff_mem.1 hi)
      simpa using this
    · have h2 := h1.2
      split at h2
      · intro i hi
        have := List.all_eq_true.1 h2 i hi
        simpa using this
      · simpa using h2
def altOf : List (Nat × Nat) → Nat → Option Nat
  | [], _ => none
  | (a, b) :: l, k => cond (Nat.beq a k) (some b) (altOf l k)
def sameInt : AV → AV → Bool
  | .c (.int k a), .c (.int k2 b) => decide (k = k2) && decide (a = b)
  | _, _ => false
theorem sameInt_ok {x y : AV} (h : sameInt x y = true) : x = y := by
  unfold sameInt at h
  split at h
  · simp only [Bool.and_eq_true, decide_eq_true_eq] at h
    rw [h.1, h.2]
  · cases h
def altSame (r' : Rc) : Option Out → Bool
  | some (.val v _ n' u) => sameInt v r'.v && Nat.beq n' r'.n && u.isEmpty
  | _ => false
def altOk (P : Program) (G : Gl) (ops : Array Oper) (r r' : Rc) (o : Oper) : Bool := r'.u.isEmpty && Nat.beq r'.n' r'.n && (match wA ops r'.tj o with
  | some true => altSame r' (evOp P G r'.tj (ovr r r') r'.n o)
  | _ => false)
theorem altOk_ok {P : Program} {G : Gl} {ops : Array Oper} {r r' : Rc} {o : Oper} {k' : Nat} (ho : ops[k']? = some o) (h : altOk P G ops r r' o = true) : AltR P G ops r r' k' := by
  unfold altOk at h
  simp only [Bool.and_eq_true] at h
  obtain ⟨⟨h1, h2⟩, h3⟩ := h
  split at h3
  · rename_i hw
    unfold altSame at h3
    split at h3
    · rename_i v h4 n' u he
      simp only [Bool.and_eq_true] at h3
      obtain ⟨⟨h5, h6⟩, h7⟩ := h3
      have h5 := sameInt_ok h5
      have h6 := Nat.eq_of_beq_eq_true h6
      have h7 : u = [] := by simpa using h7
      subst h5 h6 h7
      exact ⟨by simpa using h1, Nat.eq_of_beq_eq_true h2, o, h4, ho, hw, he⟩
    · cases h3
  · cases h3
def conf (P : Program) (G : Gl) (ops : Array Oper) (an : List Nat) (j : Nat) (r : Rc) : List Rc → List Oper → Nat → List (Nat × Nat) → Option (List (Nat × Nat))
  | [], _, _, al => some al
  | r' :: l, os, k, al => cond (incOne an j r.u r' k) (conf P G ops an j r l os.tail (k + 1) al) (match os with
    | o :: _ => cond ((altOf al k).isNone && altOk P G ops r r' o) (conf P G ops an j r l os.tail (k + 1) ((k, j) :: al)) none
    | [] => none)
theorem altOf_cons {al : List (Nat × Nat)} {k j k' : Nat} : altOf ((k, j) :: al) k' = if k = k' then some j else altOf al k' := by
  simp only [altOf]
  by_cases h : k = k'
  · subst h; simp
  · rw [if_neg h, T.beq_no h]; rfl
theorem conf_spec {P : Program} {G : Gl} {ops : Array Oper} {an : List Nat} {j : Nat} {r : Rc} : ∀ {l : List Rc} {os : List Oper} {q : Nat} {al al' : List (Nat × Nat)}, conf P G ops an j r l os q al = some al' → (∀ k, os[k]? = ops[q + k]?) →
    (∀ k r', l[k]? = some r' → Aof an j (q + k) = true ∨ IncR r.u r' ∨ altOf al' (q + k) = some j) ∧ (∀ k' m, altOf al' k' = some m → altOf al k' = some m ∨ (m = j ∧ ∃ k r', k' = q + k ∧ l[k]? = some r' ∧ AltR P G ops r r' k')) ∧ (∀ k' m, altOf al k' = some m → altOf al' k' = some m)
  | [], os, q, al, al', e, _ => by
    cases e
    exact ⟨fun k r' h => by simp at h, fun k' m h => .inl h, fun k' m h => h⟩
  | r' :: l, os, q, al, al', e, ho => by
    have hot : ∀ k, os.tail[k]? = ops[q + 1 + k]? := fun k => by
      rw [List.getElem?_tail, ho (k + 1), show q + (k + 1) = q + 1 + k by omega]
    simp only [conf] at e
    cases hc : incOne an j r.u r' q with
    | true =>
      rw [hc] at e
      obtain ⟨h1, h2, h3⟩ := conf_spec e hot
      refine ⟨fun k r2 h => ?_, fun k' m h => ?_, h3⟩
      · cases k with
        | zero =>
          simp at h; subst h
          rcases incOne_spec hc with h4 | h4
          · exact .inl h4
          · exact .inr (.inl h4)
        | succ k => simp at h; have := h1 k r2 h; rwa [show q + (k + 1) = q + 1 + k by omega]
      · rcases h2 k' m h with h4 | ⟨h4, k, r2, h5, h6, h7⟩
        · exact .inl h4
        · exact .inr ⟨h4, k + 1, r2, by omega, by simpa using h6, h7⟩
    | false =>
      rw [hc] at e
      simp only [cond] at e
      split at e
      · rename_i o _ 
        cases hd : ((altOf al q).isNone && altOk P G ops r r' o) with
        | false => rw [hd] at e; cases e
        | true =>
          rw [hd] at e
          obtain ⟨h1, h2, h3⟩ := conf_spec e hot
          simp only [Bool.and_eq_true, Option.isNone_iff_eq_none] at hd
          have hoq : ops[q]? = some o := by have := ho 0; simpa using this.symm
          have hA := altOk_ok hoq hd.2
          have hq : altOf al' q = some j := h3 q j (by rw [altOf_cons, if_pos rfl])
          refine ⟨fun k r2 h => ?_, fun k' m h => ?_, fun k' m h => ?_⟩
          · cases k with
            | zero => exact .inr (.inr hq)
            | succ k => simp at h; have := h1 k r2 h; rwa [show q + (k + 1) = q + 1 + k by omega]
          · rcases h2 k' m h with h4 | ⟨h4, k, r2, h5, h6, h7⟩
            · rw [altOf_cons] at h4
              split at h4
              · rename_i hk; cases h4; subst hk
                exact .inr ⟨rfl, 0, r', rfl, rfl, hA⟩
              · exact .inl h4
            · exact .inr ⟨h4, k + 1, r2, by omega, by simpa using h6, h7⟩
          · refine h3 k' m ?_
            rw [altOf_cons, if_neg (fun hk => by rw [← hk, hd.1] at h; cases h)]; exact h
      · cases e
def tjOf (an : List Nat) (ops : Array Oper) (j : Nat) (tm : T AV) : List Tmp → T AV → T AV
  | [], t => t
  | x :: l, t => tjOf an ops j tm l (cond (wrOk an j x ops.toList 0) (t.set x (tm.get x)) t)
theorem tjOf_spec {an : List Nat} {ops : Array Oper} {j : Nat} {tm : T AV} : ∀ {l : List Tmp} {t : T AV} {i : Nat} {x : AV}, (tjOf an ops j tm l t).get i = some x → (wrOk an j i ops.toList 0 = true ∧ tm.get i = some x) ∨ t.get i = some x
  | [], t, i, x, e => .inr e
  | y :: l, t, i, x, e => by
    simp only [tjOf] at e
    rcases tjOf_spec e with h1 | h1
    · exact .inl h1
    · cases hw : wrOk an j y ops.toList 0 with
      | false => rw [hw] at h1; exact .inr h1
      | true =>
        rw [hw] at h1
        simp only [cond, T.get_set] at h1
        split at h1
        · rename_i hiy; subst hiy; exact .inl ⟨hw, h1⟩
        · exact .inr h1
def stepD (P : Program) (G : Gl) (K : KT) (ops : Array Oper) (an : List Nat) (j : Nat) (o : Oper) (recs : List Rc) (s : S1) : Option Rc :=
  (fun tj => match wA ops tj o with
  | none => none
  | some false => some ⟨tj, o.dst, .c undef, .nil, .nil, s.n, s.n, [], some []⟩
  | some true => (fun ids => (fun hi => match evOp P G tj hi s.n o with
      | some (.val v ho n' u) => some ⟨tj, o.dst, v, hi, ho, s.n, n', u, some ids⟩
      | some (.call _ _) => (fun h2 => match evOp P G tj h2 s.n o with
        | some (.call f args) => match K f args h2 s.n with
          | some (v, ho, n', u) => some ⟨tj, o.dst, v, h2, ho, s.n, n', u, none⟩
          | none => none
        | _ => none) (erAll an j recs 0 s.h)
      | none => none) (restr s.h ids .nil)) ((o.op.operands.toList.flatMap fun x => avIds (ev tj x)).filter fun i => !touched an j recs 0 i)) (tjOf an ops j s.tm (o.looksAt ops) .nil)
def goD (P : Program) (G : Gl) (K : KT) (ops : Array Oper) (an : List Nat) (sz n0 : Nat) : List Oper → Nat → List Rc → List (Nat × Nat) → S1 → Option (List Rc × S1)
  | [], _, recs, _, s => some (recs, s)
  | o :: l, j, recs, al, s => match stepD P G K ops an j o recs s with
    | some r => cond (Nat.ble r.n r.n' && (r.u.all fun i => Nat.blt i r.n))
      (match conf P G ops an j r recs ops.toList 0 al with
      | some al' => match putD sz o.dst r.v s.tm with
        | some tm => goD P G K ops an sz n0 l (j + 1) (recs ++ [r]) al' ⟨tm, copyIds r.ho (newIds r) (copyIds r.ho r.u s.h), r.n', mrg n0 r.n' s.u r.u⟩
        | none => none
      | none => none) none
    | none => none
def runDraw (P : Program) (G : Gl) (K : KT) (ops : Array Oper) (sz n0 : Nat) (s : S1) : Option S1 :=
  (fun an => cond (ancOk an ops.toList 0 && onceOk ops.toList) ((goD P G K ops an sz n0 ops.toList 0 [] [] s).map (·.2)) none) (ancAll ops.toList [])
end Go.Proofs.YtmimihjbepjnfaaGreatDoor
