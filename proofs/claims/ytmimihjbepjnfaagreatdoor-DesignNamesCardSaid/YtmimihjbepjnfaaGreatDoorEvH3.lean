/- Running a closed program text by its own rules: a walk over a map of which at most one entry is left. No condition. -/
import Derived.Test.YtmimihjbepjnfaaGreatDoorEvH2
namespace Go.Proofs.YtmimihjbepjnfaaGreatDoor
open Go Go.RowKit
set_option linter.unusedVariables false
section ops
variable {P : Program} {tm : T AV} {h : Hp} {n B : Nat} {o : Oper} {σ : Sg} {a : Act} {w : World}
theorem ER.filter {f : Nat → Bool} : ∀ {l : List (AV × AV × Nat)} {l' : List MapEntry}, ER σ l l' → ER σ (l.filter fun e => f e.2.2) (l'.filter fun e => f e.born)
  | _, _, .nil => .nil
  | _, _, .cons (n := b) h1 h2 h3 => by
    simp only [List.filter_cons]
    cases f b with
    | true => exact .cons h1 h2 (ER.filter h3)
    | false => exact ER.filter h3
theorem ER.find? {f : Nat → Bool} : ∀ {l : List (AV × AV × Nat)} {l' : List MapEntry} {k v : AV} {b : Nat}, ER σ l l' → l.find? (fun e => f e.2.2) = some (k, v, b) → ∃ e, l'.find? (fun e => f e.born) = some e ∧ VR σ k e.key ∧ VR σ v e.val
  | _, _, k, v, b, .nil, e => by simp at e
  | _, _, k, v, b, .cons (n := b2) h1 h2 h3, e => by
    simp only [List.find?_cons] at e ⊢
    cases hf : f b2 with
    | true =>
      rw [hf] at e
      cases e
      exact ⟨_, rfl, h1, h2⟩
    | false =>
      rw [hf] at e
      exact ER.find? h3 e
theorem ER.any {f : Nat → Bool} : ∀ {l : List (AV × AV × Nat)} {l' : List MapEntry}, ER σ l l' → l'.all (fun e => f e.born) = l.all (fun e => f e.2.2)
  | _, _, .nil => rfl
  | _, _, .cons h1 h2 h3 => by simp only [List.all_cons, ER.any h3]
def evRangeM (P : Program) (h : Hp) (n : Nat) (t : TypeId) (x : AV) : Option Out :=
  match x, P.underlying t with
  | .m i, some (.map _ _) => match h.get i with
    | some (.map es ck) => some (.val (.p n 0) (h.set n (some (.mit i ck [] ck))) (n + 1) [])
    | _ => none
  | _, _ => none
theorem evRangeM_ok {t : TypeId} {x : Operand} (ho : o.op = .range t x) {v : AV} {h' : Hp} {n' : Nat} {u : List Nat} (e : evRangeM P h n t (ev tm x) = some (.val v h' n' u)) (ht : TR σ tm a) (r : Rel σ h B w) (hB : B ≤ w.heap.size) (hf : ∀ i, n ≤ i → i < n' → σ i = none) :
    Yields P (execOp a.eval o) σ h n B w v h' n' ∧ Kept h n n' h' u := by
  unfold evRangeM at e
  split at e
  · rename_i i kt et hx hu
    split at e
    · rename_i es ck hg
      cases e
      have hxv := ev_ok ht x
      rw [hx] at hxv
      generalize hxe : a.eval x = xv at hxv
      cases hxv with
      | m hb =>
        rename_i b kp
        obtain ⟨b2, k2, h1, h2, h3, es', h4, h5⟩ := r.obj i _ hg
        rw [hb] at h1; cases h1
        have ac := act_new (n := n) (kap := 0) (o := .mapIter (some b) ck #[] ck) (x := .mit i ck [] ck) r hB (hf n (by omega) (by omega)) ⟨b, kp, hb, rfl⟩
        refine ⟨⟨_, _, _, .inl ?_, VR.p (b := w.heap.size) (k := 0) (by simp [ext]), ac⟩, kept_set⟩
        simp only [execOp, ho, hxe, Instr.range, Sem.run_bind, und_run hu, Result.andThen_ok, Sem.run_pure, goget h4, run_newObj]
        rfl
    · cases e
  · cases e
def evNextM (h : Hp) (n : Nat) (x : AV) (isS : Bool) : Option Out :=
  match x, isS with
  | .p i 0, false => match h.get i with
    | some (.mit m since seen last) => match h.get m with
      | some (.map es ck) => cond ((seen.isEmpty || es.isEmpty || !es.all (fun e => Nat.ble last e.2.2)) && (es.filter (fun e => !seen.contains e.2.2)).all (fun e => Nat.blt e.2.2 since))
        (match es.filter (fun e => !seen.contains e.2.2) with
        | [] => some (.val (.c (.tuple #[.bool false])) h n [])
        | [(k, v, b)] => some (.val (mkT [.c (.bool true), k, v]) (h.set i (some (.mit m since (seen ++ [b]) ck))) n [i])
        | _ => none) none
      | _ => none
    | _ => none
  | _, _ => none
theorem evNextM_ok {x : Operand} {isS : Bool} (ho : o.op = .next x isS) {v : AV} {h' : Hp} {n' : Nat} {u : List Nat} (e : evNextM h n (ev tm x) isS = some (.val v h' n' u)) (ht : TR σ tm a) (r : Rel σ h B w) :
    Yields P (execOp a.eval o) σ h n B w v h' n' ∧ Kept h n n' h' u := by
  unfold evNextM at e
  split at e
  · rename_i i hx
    have hxv := ev_ok ht x
    rw [hx] at hxv
    generalize hxe : a.eval x = xv at hxv
    cases hxv with
    | p hb =>
      rename_i b kp
      split at e
      · rename_i m since seen last hg
        split at e
        · rename_i es ck hgm
          obtain ⟨b2, k2, h1, h2, h3, bm, km, hbm, h4⟩ := r.obj i _ hg
          rw [hb] at h1; cases h1
          obtain ⟨b3, k3, g1, g2, g3, es', g4, g5⟩ := r.obj m _ hgm
          rw [hbm] at g1; cases g1
          cases hc : ((seen.isEmpty || es.isEmpty || !es.all (fun e => Nat.ble last e.2.2)) && (es.filter (fun e => !seen.contains e.2.2)).all (fun e => Nat.blt e.2.2 since)) with
          | false => rw [hc] at e; cases e
          | true =>
            rw [hc] at e
            simp only [cond] at e
            rw [Bool.and_eq_true] at hc
            obtain ⟨c1, c2⟩ := hc
            have hgo : (getObj b).run P w = .ok (.mapIter (some bm) since seen.toArray last) w := by simp [getObj, Sem.run, h4]
            have hgone : (!seen.toArray.isEmpty && !es'.isEmpty && es'.all fun e => decide (e.born ≥ last)) = false := by
              have e1 : es'.isEmpty = es.isEmpty := by
                rw [← Array.isEmpty_toList]
                generalize es'.toList = q at g5
                cases g5 <;> rfl
              have e2 : (es'.all fun e => decide (e.born ≥ last)) = es.all (fun e => Nat.ble last e.2.2) := by
                have := g5.any (f := fun b => Nat.ble last b)
                rw [← this, ← Array.all_toList]
                congr 1
                funext q
                cases hq : Nat.ble last q.born with
                | true => have := Nat.le_of_ble_eq_true hq; simpa using this
                | false =>
                  have : ¬ last ≤ q.born := fun hh => by rw [Nat.ble_eq_true_of_le hh] at hq; cases hq
                  simpa using this
              rw [e1, e2, List.isEmpty_toArray]
              revert c1
              cases seen.isEmpty <;> cases es.isEmpty <;> cases es.all (fun e => Nat.ble last e.2.2) <;> simp
            have hleft : (es'.filter fun e => !seen.toArray.contains e.born).toList = es'.toList.filter fun e => !seen.contains e.born := by
              rw [Array.toList_filter]
              congr 1
              funext q
              rw [List.contains_toArray]
            have hER := g5.filter (f := fun b => !seen.contains b)
            generalize hL : es.filter (fun e => !seen.contains e.2.2) = L at e c2 hER
            generalize hL' : es'.toList.filter (fun e => !seen.contains e.born) = L' at hER hleft
            have hfil : (es'.filter fun e => !seen.toArray.contains e.born) = L'.toArray := by
              rw [← hleft]
            split at e
            · cases e
              cases hER
              refine ⟨Yields.same r ?_ (.c _), Kept.refl _ _ _ _⟩
              simp only [execOp, ho, hxe, Instr.next, Sem.run_bind, Sem.run_pure, Result.andThen_ok, hgo, goget g4, hgone, Bool.false_eq_true, if_false, hfil]
              simp [Question.forced]
            · rename_i kk vv bb
              cases e
              cases hER with
              | cons hk hv hs =>
                cases hs
                rename_i k' v'
                have hb2 : bb < since := by
                  simp only [List.all_cons, List.all_nil, Bool.and_true] at c2
                  simpa [Nat.blt_eq] using c2
                have hso : ∀ ob, (setObj b ob).run P w = .ok () { w with heap := w.heap.setIfInBounds b ob } := fun ob => by simp [setObj, Sem.run, h4]
                refine ⟨⟨σ, { w with heap := w.heap.setIfInBounds b (.mapIter (some bm) since (seen.toArray.push bb) ck) }, .tuple #[.bool true, k', v'], .inl ?_, mkT_ok (.cons (.c _) (.cons hk (.cons hv .nil))), ?_⟩, kept_put⟩
                · have hnb : ¬ since ≤ bb := by omega
                  simp only [execOp, ho, hxe, Instr.next, Sem.run_bind, Sem.run_pure, Result.andThen_ok, hgo, goget g4, hgone, Bool.false_eq_true, if_false, hfil]
                  simp [Question.forced, hb2, hnb, hso]
                · refine act_put r hg hb rfl rfl rfl (by simp) (fun k hk => ?_) ⟨bm, km, hbm, ?_⟩
                  · show (w.heap.setIfInBounds b _)[k]? = _
                    rw [Array.getElem?_setIfInBounds_ne (Ne.symm hk)]
                  · show (w.heap.setIfInBounds b _)[b]? = _
                    rw [Array.getElem?_setIfInBounds_self_of_lt h3]
                    simp
            · cases e
        · cases e
      · cases e
  · cases e
def evEntry (h : Hp) (n : Nat) (x : AV) : Option Out :=
  match x with
  | .p i 0 => match h.get i with
    | some (.mit m since seen last) => match h.get m, seen.getLast? with
      | some (.map es ck), some stamp => cond (Nat.beq ck last) (match es.find? (fun e => e.2.2 == stamp) with
        | some (k, v, _) => some (.val (mkT [k, v]) h n [])
        | none => none) none
      | _, _ => none
    | _ => none
  | _ => none
theorem evEntry_ok {x : Operand} (ho : o.op = .entry x) {v : AV} {h' : Hp} {n' : Nat} {u : List Nat} (e : evEntry h n (ev tm x) = some (.val v h' n' u)) (ht : TR σ tm a) (r : Rel σ h B w) :
    Yields P (execOp a.eval o) σ h n B w v h' n' ∧ Kept h n n' h' u := by
  unfold evEntry at e
  split at e
  · rename_i i hx
    have hxv := ev_ok ht x
    rw [hx] at hxv
    generalize hxe : a.eval x = xv at hxv
    cases hxv with
    | p hb =>
      rename_i b kp
      split at e
      · rename_i m since seen last hg
        split at e
        · rename_i es ck stamp hgm hst
          obtain ⟨b2, k2, h1, h2, h3, bm, km, hbm, h4⟩ := r.obj i _ hg
          rw [hb] at h1; cases h1
          obtain ⟨b3, k3, g1, g2, g3, es', g4, g5⟩ := r.obj m _ hgm
          rw [hbm] at g1; cases g1
          cases hc : Nat.beq ck last with
          | false => rw [hc] at e; cases e
          | true =>
            rw [hc] at e
            simp only [cond] at e
            have hck : ck = last := Nat.eq_of_beq_eq_true hc
            subst hck
            split at e
            · rename_i kk vv bb hf
              cases e
              obtain ⟨en, q1, q2, q3⟩ := g5.find? (f := fun b => b == stamp) hf
              have hgo : (getObj b).run P w = .ok (.mapIter (some bm) since seen.toArray ck) w := by simp [getObj, Sem.run, h4]
              have q4 : es'.find? (fun e => e.born == stamp) = some en := by rw [← Array.find?_toList]; exact q1
              have q5 : seen.toArray.back? = some stamp := by rw [List.back?_toArray]; exact hst
              refine ⟨Yields.same (v' := .tuple #[en.key, en.val]) r ?_ (mkT_ok (.cons q2 (.cons q3 .nil))), Kept.refl _ _ _ _⟩
              simp only [execOp, ho, hxe, Instr.entry, Sem.run_bind, Sem.run_pure, Result.andThen_ok, hgo, q5, goget g4, bne_self_eq_false, Bool.false_eq_true, if_false, q4]
            · cases e
        · cases e
      · cases e
  · cases e
theorem noC_rangeM {t : TypeId} {x : AV} {f : Tgt} {args : List AV} : evRangeM P h n t x ≠ some (.call f args) := by
  intro e; unfold evRangeM at e; (repeat' split at e) <;> cases e
theorem noC_nextM {x : AV} {isS : Bool} {f : Tgt} {args : List AV} : evNextM h n x isS ≠ some (.call f args) := by
  intro e; unfold evNextM at e
  split at e
  · split at e
    · split at e
      · generalize ((_ : Bool) && _) = q at e
        cases q
        · cases e
        · simp only [cond] at e
          split at e <;> cases e
      · cases e
    · cases e
  · cases e
theorem noC_entry {x : AV} {f : Tgt} {args : List AV} : evEntry h n x ≠ some (.call f args) := by
  intro e; unfold evEntry at e
  split at e
  · split at e
    · split at e
      · generalize (Nat.beq _ _ : Bool) = q at e
        cases q
        · cases e
        · simp only [cond] at e
          split at e <;> cases e
      · cases e
    · cases e
  · cases e
end ops
end Go.Proofs.YtmimihjbepjnfaaGreatDoor
