/- Running a closed program text by its own rules: operations on values that bear addresses. No condition. -/
import Derived.Test.YtmimihjbepjnfaaGreatDoorEvB
namespace Go.Proofs.YtmimihjbepjnfaaGreatDoor
open Go Go.RowKit
set_option linter.unusedVariables false
section ops
variable {P : Program} {tm : T AV} {h : Hp} {n B : Nat} {o : Oper} {σ : Sg} {a : Act} {w : World}
theorem add_at (b off k : Nat) : (⟨b, off, none⟩ : Addr).add k = ⟨b, off + k, none⟩ := by unfold Addr.add; split <;> simp_all
/-- a field's address -/
def evFieldAddr (P : Program) (h : Hp) (n : Nat) (s f : Nat) (x : AV) : Option Out :=
  match x, P.underlying s with
  | .p i off, some (.struct fs) => match fs[f]? with
    | some fl => match P.info? fl.type with
      | some k => cond (Nat.beq k.size 0) none (some (.val (.p i (off + fl.offset)) h n []))
      | none => none
    | none => none
  | _, _ => none
theorem evFieldAddr_ok {s f : Nat} {x : Operand} (ho : o.op = .fieldAddr s x f) {v : AV} {h' : Hp} {n' : Nat} {u : List Nat} (e : evFieldAddr P h n s f (ev tm x) = some (.val v h' n' u)) (ht : TR σ tm a) (r : Rel σ h B w) :
    Yields P (execOp a.eval o) σ h n B w v h' n' ∧ Kept h n n' h' u := by
  unfold evFieldAddr at e
  split at e
  · rename_i i off fs hx hs
    split at e
    · rename_i fl hfl
      split at e
      · rename_i k hk
        cases hz : Nat.beq k.size 0 with
        | true => rw [hz] at e; simp [cond] at e
        | false =>
          rw [hz] at e
          simp only [cond, Option.some.injEq, Out.val.injEq] at e
          obtain ⟨rfl, rfl, rfl, rfl⟩ := e
          have hxv := ev_ok ht x
          rw [hx] at hxv
          have hne : ¬ k.size = 0 := Nat.ne_of_beq_eq_false hz
          generalize hxe : a.eval x = xv at hxv
          cases hxv with
          | p hb =>
            refine ⟨Yields.same r ?_ (.p hb), Kept.refl _ _ _ _⟩
            simp only [execOp, ho, hxe, Instr.fieldAt, Instr.sureAddr, fieldPlace, Sem.run_bind, und_run hs, Result.andThen_ok, hfl, Sem.run_pure, sizeOf_run hk, hne, if_false, add_at]
      · cases e
    · cases e
  · cases e
def inLen (z : Int) (len : Nat) : Bool := match z with
  | .ofNat k => Nat.blt k len
  | .negSucc _ => false
/-- an element's address -/
def evIndexAddr (P : Program) (h : Hp) (n : Nat) (t : TypeId) (x ix : AV) : Option Out :=
  match ix with
  | .c (.int _ z) => match x, P.underlying t with
    | .s i off len _, some (.slice el) => match P.info? el with
      | some k => cond (inLen z len) (some (.val (.p i (off + z.toNat * k.size)) h n [])) none
      | none => none
    | .p i off, some (.array len el) => match P.info? el with
      | some k => cond (inLen z len) (some (.val (.p i (off + z.toNat * k.size)) h n [])) none
      | none => none
    | _, _ => none
  | _ => none
theorem index_ok {z : Int} {len : Nat} (h : inLen z len = true) : 0 ≤ z ∧ z < (len : Int) := by
  unfold inLen at h
  split at h
  · rename_i k
    have := Nat.le_of_ble_eq_true h
    exact ⟨Int.natCast_nonneg k, by simp only [Int.ofNat_eq_natCast]; omega⟩
  · cases h
theorem evIndexAddr_ok {t : TypeId} {x y : Operand} (ho : o.op = .indexAddr t x y) {v : AV} {h' : Hp} {n' : Nat} {u : List Nat} (e : evIndexAddr P h n t (ev tm x) (ev tm y) = some (.val v h' n' u)) (ht : TR σ tm a) (r : Rel σ h B w) :
    Yields P (execOp a.eval o) σ h n B w v h' n' ∧ Kept h n n' h' u := by
  unfold evIndexAddr at e
  split at e
  · rename_i k z hy
    have hyv := ev_ok ht y
    rw [hy] at hyv
    generalize hye : a.eval y = yv at hyv
    cases hyv
    have hxv := ev_ok ht x
    split at e
    · rename_i i off len cp el hx hd
      split at e
      · rename_i kk hk
        cases hc : (inLen z len) with
        | false => rw [hc] at e; simp [cond] at e
        | true =>
          rw [hc] at e
          simp only [cond, Option.some.injEq, Out.val.injEq] at e
          obtain ⟨rfl, rfl, rfl, rfl⟩ := e
          rw [hx] at hxv
          generalize hxe : a.eval x = xv at hxv
          have hz := index_ok hc
          cases hxv with
          | s hb hl hcp =>
            refine ⟨Yields.same r ?_ (.p hb), Kept.refl _ _ _ _⟩
            simp only [execOp, ho, hxe, hye, Instr.indexAt, asIntOf, Sem.run_bind, und_run hd, Result.andThen_ok, Sem.run_pure, hz.1, hz.2, and_self, if_true, sizeOf_run hk, add_at]
      · cases e
    · rename_i i off len el hx hd
      split at e
      · rename_i kk hk
        cases hc : (inLen z len) with
        | false => rw [hc] at e; simp [cond] at e
        | true =>
          rw [hc] at e
          simp only [cond, Option.some.injEq, Out.val.injEq] at e
          obtain ⟨rfl, rfl, rfl, rfl⟩ := e
          rw [hx] at hxv
          generalize hxe : a.eval x = xv at hxv
          have hz := index_ok hc
          cases hxv with
          | p hb =>
            refine ⟨Yields.same r ?_ (.p hb), Kept.refl _ _ _ _⟩
            simp only [execOp, ho, hxe, hye, Instr.indexAt, Instr.sureAddr, asIntOf, Sem.run_bind, und_run hd, Result.andThen_ok, Sem.run_pure, hz.1, hz.2, and_self, if_true, sizeOf_run hk, add_at]
      · cases e
    · cases e
  · cases e
/-- a part of a value -/
def partOf (P : Program) (t : TypeId) (l : List AV) (off : Nat) : Option AV :=
  match P.underlying t with
  | some d => cond (isAg d) (match P.info? t with
      | some i => some (mkA ((l.drop off).take i.size))
      | none => none) (l[off]?)
  | none => none
theorem partOf_ok {t : TypeId} {l : List AV} {l' : List Value} (hl : VRs σ l l') {off : Nat} {v : AV} (e : partOf P t l off = some v) : ∃ u, (part t l'.toArray off).run P w = .ok u w ∧ VR σ v u := by
  unfold partOf at e
  split at e
  · rename_i d hd
    cases hag : isAg d with
    | true =>
      simp only [hag, cond] at e
      split at e
      · rename_i i hi
        cases e
        refine ⟨.agg ((l'.drop off).take i.size).toArray, ?_, mkA_ok ((hl.drop off).take i.size)⟩
        simp only [part, Sem.run_bind, isAgg_run hd, hag, Result.andThen_ok, if_true, sizeOf_run hi, Sem.run_pure]
        congr 2
        apply Array.ext'
        simp [List.extract_eq_take_drop]
      · cases e
    | false =>
      simp only [hag, cond] at e
      obtain ⟨u, h1, h2⟩ := hl.get e
      refine ⟨u, ?_, h2⟩
      simp only [part, Sem.run_bind, isAgg_run hd, hag, Result.andThen_ok, Bool.false_eq_true, if_false]
      have : l'.toArray[off]? = some u := by simpa using h1
      simp only [this, Sem.run_pure]
  · cases e
def evField (P : Program) (h : Hp) (n : Nat) (s f : Nat) (x : AV) : Option Out :=
  match x, P.underlying s with
  | .a l, some (.struct fs) => match fs[f]? with
    | some fl => (partOf P fl.type l fl.offset).map fun v => .val v h n []
    | none => none
  | _, _ => none
theorem evField_ok {s f : Nat} {x : Operand} (ho : o.op = .field s x f) {v : AV} {h' : Hp} {n' : Nat} {u : List Nat} (e : evField P h n s f (ev tm x) = some (.val v h' n' u)) (ht : TR σ tm a) (r : Rel σ h B w) :
    Yields P (execOp a.eval o) σ h n B w v h' n' ∧ Kept h n n' h' u := by
  unfold evField at e
  split at e
  · rename_i l fs hx hs
    split at e
    · rename_i fl hfl
      simp only [Option.map_eq_some_iff, Out.val.injEq] at e
      obtain ⟨v', hv, rfl, rfl, rfl, rfl⟩ := e
      have hxv := ev_ok ht x
      rw [hx] at hxv
      generalize hxe : a.eval x = xv at hxv
      cases hxv with
      | a hl =>
        obtain ⟨u', h1, h2⟩ := partOf_ok (P := P) (w := w) hl hv
        refine ⟨Yields.same r ?_ h2, Kept.refl _ _ _ _⟩
        simp only [execOp, ho, hxe, Instr.field, asAgg, Sem.run_bind, und_run hs, Result.andThen_ok, hfl, Sem.run_pure, h1]
    · cases e
  · cases e
def evIndex (P : Program) (h : Hp) (n : Nat) (t : TypeId) (x ix : AV) : Option Out :=
  match ix with
  | .c (.int _ z) => match x, P.underlying t with
    | .a l, some (.array len el) => match P.info? el with
      | some k => cond (inLen z len) ((partOf P el l (z.toNat * k.size)).map fun v => .val v h n []) none
      | none => none
    | _, _ => none
  | _ => none
theorem evIndex_ok {t : TypeId} {x y : Operand} (ho : o.op = .index t x y) {v : AV} {h' : Hp} {n' : Nat} {u : List Nat} (e : evIndex P h n t (ev tm x) (ev tm y) = some (.val v h' n' u)) (ht : TR σ tm a) (r : Rel σ h B w) :
    Yields P (execOp a.eval o) σ h n B w v h' n' ∧ Kept h n n' h' u := by
  unfold evIndex at e
  split at e
  · rename_i k z hy
    have hyv := ev_ok ht y
    rw [hy] at hyv
    generalize hye : a.eval y = yv at hyv
    cases hyv
    have hxv := ev_ok ht x
    split at e
    · rename_i l len el hx hd
      split at e
      · rename_i kk hk
        cases hc : (inLen z len) with
        | false => rw [hc] at e; simp [cond] at e
        | true =>
          rw [hc] at e
          simp only [cond, Option.map_eq_some_iff, Out.val.injEq] at e
          obtain ⟨v', hv, rfl, rfl, rfl, rfl⟩ := e
          rw [hx] at hxv
          generalize hxe : a.eval x = xv at hxv
          have hz := index_ok hc
          cases hxv with
          | a hl =>
            obtain ⟨u', h1, h2⟩ := partOf_ok (P := P) (w := w) hl hv
            refine ⟨Yields.same r ?_ h2, Kept.refl _ _ _ _⟩
            simp only [execOp, ho, hxe, hye, Instr.index, asIntOf, Sem.run_bind, und_run hd, Result.andThen_ok, Sem.run_pure, hz.1, hz.2, and_self, if_true, sizeOf_run hk, h1]
      · cases e
    · cases e
  · cases e
def evExtract (h : Hp) (n : Nat) (x : AV) (i : Nat) : Option Out :=
  match x with
  | .t l => (l[i]?).map fun v => .val v h n []
  | _ => none
theorem evExtract_ok {x : Operand} {i : Nat} (ho : o.op = .extract x i) {v : AV} {h' : Hp} {n' : Nat} {u : List Nat} (e : evExtract h n (ev tm x) i = some (.val v h' n' u)) (ht : TR σ tm a) (r : Rel σ h B w) :
    Yields P (execOp a.eval o) σ h n B w v h' n' ∧ Kept h n n' h' u := by
  unfold evExtract at e
  split at e
  · rename_i l hx
    simp only [Option.map_eq_some_iff, Out.val.injEq] at e
    obtain ⟨v', hv, rfl, rfl, rfl, rfl⟩ := e
    have hxv := ev_ok ht x
    rw [hx] at hxv
    generalize hxe : a.eval x = xv at hxv
    cases hxv with
    | t hl =>
      obtain ⟨u', h1, h2⟩ := hl.get hv
      have h3 := h1
      rw [← List.getElem?_toArray] at h3
      refine ⟨Yields.same r ?_ h2, Kept.refl _ _ _ _⟩
      simp only [execOp, ho, hxe, Instr.extract, Sem.run_bind, h3, Sem.run_pure, Result.andThen_ok]
  · cases e
/-- the value is that of an operand -/
def evMove (h : Hp) (n : Nat) (x : AV) : Option Out := some (.val x h n [])
theorem evMove_ok {x : Operand} (ho : o.op = .move x ∨ o.op = .assign x) {v : AV} {h' : Hp} {n' : Nat} {u : List Nat} (e : evMove h n (ev tm x) = some (.val v h' n' u)) (ht : TR σ tm a) (r : Rel σ h B w) :
    Yields P (execOp a.eval o) σ h n B w v h' n' ∧ Kept h n n' h' u := by
  cases e
  refine ⟨Yields.same r ?_ (ev_ok ht x), Kept.refl _ _ _ _⟩
  rcases ho with ho | ho <;> simp only [execOp, ho, Sem.run_pure]
def evPick (h : Hp) (n : Nat) (c x y : AV) : Option Out :=
  match c with
  | .c (.bool t) => some (.val (cond t x y) h n [])
  | _ => none
theorem evPick_ok {c x y : Operand} (ho : o.op = .pick c x y) {v : AV} {h' : Hp} {n' : Nat} {u : List Nat} (e : evPick h n (ev tm c) (ev tm x) (ev tm y) = some (.val v h' n' u)) (ht : TR σ tm a) (r : Rel σ h B w) :
    Yields P (execOp a.eval o) σ h n B w v h' n' ∧ Kept h n n' h' u := by
  unfold evPick at e
  split at e
  · rename_i t hc
    cases e
    have hcv := ev_ok ht c
    rw [hc] at hcv
    generalize hce : a.eval c = cv at hcv
    cases hcv
    refine ⟨Yields.same (v' := if t then a.eval x else a.eval y) r ?_ ?_, Kept.refl _ _ _ _⟩
    · simp only [execOp, ho, hce, asBool, Sem.run_bind, Sem.run_pure, Result.andThen_ok]
    · cases t
      · exact ev_ok ht y
      · exact ev_ok ht x
  · cases e
/-- a function value -/
def evMakeFunc (h : Hp) (n : Nat) (fn : Fn) (first : Array Operand) (fs l : List AV) : Option Out :=
  some (.val (cond first.isEmpty (.f fn l) (.g fn fs l)) h n [])
theorem evs_ok (ht : TR σ tm a) : ∀ l : List Operand, VRs σ (l.map (ev tm)) (l.map a.eval)
  | [] => .nil
  | x :: l => .cons (ev_ok ht x) (evs_ok ht l)
theorem evMakeFunc_ok {fn : Fn} {first cap : Array Operand} (ho : o.op = .makeFunc fn first cap) {v : AV} {h' : Hp} {n' : Nat} {u : List Nat} (e : evMakeFunc h n fn first (first.toList.map (ev tm)) (cap.toList.map (ev tm)) = some (.val v h' n' u)) (ht : TR σ tm a) (r : Rel σ h B w) :
    Yields P (execOp a.eval o) σ h n B w v h' n' ∧ Kept h n n' h' u := by
  unfold evMakeFunc at e
  simp only [Option.some.injEq, Out.val.injEq] at e
  obtain ⟨rfl, rfl, rfl, rfl⟩ := e
  have hl := evs_ok ht cap.toList
  have hfs := evs_ok ht first.toList
  have e1 : ∀ q : Array Operand, q.map a.eval = (q.toList.map a.eval).toArray := fun q => by apply Array.ext'; simp
  have hrun : (execOp a.eval o).run P w = .ok (.value (.func fn (first.toList.map a.eval).toArray (cap.toList.map a.eval).toArray)) w := by
    simp only [execOp, ho, Instr.makeFunc, Sem.run_bind, Sem.run_pure, Result.andThen_ok]
    rw [e1, e1]
  cases hf : first.isEmpty with
  | false => exact ⟨Yields.same r hrun (.g hfs hl), Kept.refl _ _ _ _⟩
  | true =>
    have hfe : first = #[] := by simpa using hf
    subst hfe
    exact ⟨Yields.same r hrun (.f hl), Kept.refl _ _ _ _⟩
/-- what is no nil pointer -/
def evNilCheck (h : Hp) (n : Nat) (x : AV) : Option Out :=
  match x with
  | .p i off => some (.val (.p i off) h n [])
  | _ => none
theorem evNilCheck_ok {x : Operand} (ho : o.op = .nilCheck x) {v : AV} {h' : Hp} {n' : Nat} {u : List Nat} (e : evNilCheck h n (ev tm x) = some (.val v h' n' u)) (ht : TR σ tm a) (r : Rel σ h B w) :
    Yields P (execOp a.eval o) σ h n B w v h' n' ∧ Kept h n n' h' u := by
  unfold evNilCheck at e
  split at e
  · rename_i i off hx
    cases e
    have hxv := ev_ok ht x
    rw [hx] at hxv
    generalize hxe : a.eval x = xv at hxv
    cases hxv with
    | p hb =>
      refine ⟨Yields.same r ?_ (.p hb), Kept.refl _ _ _ _⟩
      simp only [execOp, ho, hxe, Sem.run_pure]
  · cases e
end ops
end Go.Proofs.YtmimihjbepjnfaaGreatDoor
