/- Running a closed program text by its own rules: an entry of a map that is read and written in one. No condition. -/
import Derived.Test.YtmimihjbepjnfaaGreatDoorEvH
namespace Go.Proofs.YtmimihjbepjnfaaGreatDoor
open Go Go.RowKit
set_option linter.unusedVariables false
section ops
variable {P : Program} {tm : T AV} {h : Hp} {n B : Nat} {o : Oper} {σ : Sg} {a : Act} {w : World}
def keyA : List (AV × AV × Nat) → Nat → AV → List (AV × AV × Nat)
  | [], _, _ => []
  | (_, x, b) :: l, 0, k => (k, x, b) :: l
  | e :: l, i + 1, k => e :: keyA l i k
theorem keyA_ok {k : AV} {k' : Value} (hk : VR σ k k') : ∀ {l : List (AV × AV × Nat)} {l' : List MapEntry} (i : Nat), ER σ l l' → ER σ (keyA l i k) (l'.modify i fun e => { e with key := k' })
  | _, _, i, .nil => by cases i <;> exact .nil
  | _, _, 0, .cons h1 h2 h3 => .cons hk h2 h3
  | _, _, i + 1, .cons h1 h2 h3 => .cons h1 h2 (keyA_ok hk i h3)
def valA : List (AV × AV × Nat) → Nat → AV → List (AV × AV × Nat)
  | [], _, _ => []
  | (k, _, b) :: l, 0, x => (k, x, b) :: l
  | e :: l, i + 1, x => e :: valA l i x
theorem valA_ok {x : AV} {x' : Value} (hx : VR σ x x') : ∀ {l : List (AV × AV × Nat)} {l' : List MapEntry} (i : Nat), ER σ l l' → ER σ (valA l i x) (l'.modify i fun e => { e with val := x' })
  | _, _, i, .nil => by cases i <;> exact .nil
  | _, _, 0, .cons h1 h2 h3 => .cons h1 hx h3
  | _, _, i + 1, .cons h1 h2 h3 => .cons h1 h2 (valA_ok hx i h3)
def bornA (l : List (AV × AV × Nat)) (i : Nat) : Option Nat := match l[i]? with
  | some (_, _, b) => some b
  | none => none
theorem bornA_ok : ∀ {l : List (AV × AV × Nat)} {l' : List MapEntry} {i : Nat} {b : Nat}, ER σ l l' → bornA l i = some b → (l'[i]?).map (·.born) = some b
  | _, _, i, k, .nil, e => by simp [bornA] at e
  | _, _, 0, k, .cons h1 h2 h3, e => by simp [bornA] at e; subst e; rfl
  | _, _, i + 1, k, .cons (l := l) h1 h2 h3, e => by
    have : bornA l i = some k := by unfold bornA at e ⊢; simpa using e
    simpa using bornA_ok h3 this
theorem ER.find {f : Nat → Bool} : ∀ {l : List (AV × AV × Nat)} {l' : List MapEntry}, ER σ l l' → l'.findIdx? (fun e => f e.born) = l.findIdx? (fun e => f e.2.2)
  | _, _, .nil => rfl
  | _, _, .cons h1 h2 h3 => by simp only [List.findIdx?_cons, ER.find h3]
def evMapEntry (P : Program) (h : Hp) (n : Nat) (t : TypeId) (m k : AV) : Option Out :=
  match m, k, P.underlying t with
  | .m i, .c kv, some (.map kt et) => match h.get i, P.underlying kt with
    | some (.map es ck), some kind => cond (keyOk P false kt kv) (match findF P kt kind kv es with
      | some (some (j, vv)) => match oldKey es j, bornA es j with
        | some ok, some bn => cond (Instr.sameBits 10000 ok kv) (some (.val (mkT [vv, .c (.int .i64 bn)]) (h.set i (some (.map (keyA es j (.c kv)) ck))) n [i])) none
        | _, _ => none
      | some none => match P.info? et with
        | some inf => match inf.zero with
          | some z => some (.val (mkT [.c z, .c (.int .i64 ck)]) (h.set i (some (.map (es ++ [(.c kv, .c z, ck)]) (ck + 1)))) n [i])
          | none => none
        | none => none
      | none => none) none
    | _, _ => none
  | _, _, _ => none
theorem map_put {i b kp : Nat} {es : List (AV × AV × Nat)} {ck : Nat} (r : Rel σ h B w) (hg : h.get i = some (.map es ck)) (hb : σ i = some (b, kp)) (h3 : b < w.heap.size) {es2 : List (AV × AV × Nat)} {es2' : Array MapEntry} {c2 : Nat} (hER : ER σ es2 es2'.toList) : Act1 σ h n B w σ (h.set i (some (.map es2 c2))) n { w with heap := w.heap.setIfInBounds b (.map es2' c2) } := by
  refine act_put r hg hb rfl rfl rfl (by simp) (fun k hk => ?_) ⟨es2', ?_, hER⟩
  · show (w.heap.setIfInBounds b _)[k]? = _
    rw [Array.getElem?_setIfInBounds_ne (Ne.symm hk)]
  · show (w.heap.setIfInBounds b _)[b]? = _
    rw [Array.getElem?_setIfInBounds_self_of_lt h3]
theorem evMapEntry_ok {t : TypeId} {m k : Operand} (ho : o.op = .mapEntry t m k) {v : AV} {h' : Hp} {n' : Nat} {u : List Nat} (e : evMapEntry P h n t (ev tm m) (ev tm k) = some (.val v h' n' u)) (ht : TR σ tm a) (r : Rel σ h B w) :
    Yields P (execOp a.eval o) σ h n B w v h' n' ∧ Kept h n n' h' u := by
  have hex : execOp a.eval o = (do let x ← Instr.mapEntry t (a.eval m) (a.eval k); pure (.value x)) := by
    simp only [execOp, ho]
  unfold evMapEntry at e
  split at e
  · rename_i i kv kt et hm hk hu
    have hmv := ev_ok ht m
    have hkv := ev_ok ht k
    rw [hm] at hmv
    rw [hk] at hkv
    generalize a.eval m = mv at hmv hex
    generalize a.eval k = kvv at hkv hex
    cases hkv
    cases hmv with
    | m hb =>
      rename_i b kp
      split at e
      · rename_i es ck kind hg hkd
        cases hc : keyOk P false kt kv with
        | false => rw [hc] at e; cases e
        | true =>
          rw [hc] at e
          obtain ⟨b2, k2, h1, h2, h3, es', h4, h5⟩ := r.obj i _ hg
          rw [hb] at h1; cases h1
          have hck := keyOk_run (w := w) hc
          simp only [cond] at e
          split at e
          · rename_i j vv hf
            split at e
            · rename_i okk bn hok hbn
              cases hsb : Instr.sameBits 10000 okk kv with
              | false => rw [hsb] at e; cases e
              | true =>
                rw [hsb] at e
                cases e
                obtain ⟨v2, q1, q2⟩ := findF_ok (w := w) hkd h5 hf
                obtain ⟨en, q3, q4⟩ := oldKey_ok h5 hok
                have q5 : es'[j]? = some en := by rw [← Array.getElem?_toList]; exact q3
                have q6 : en.born = bn := by
                  have := bornA_ok h5 hbn
                  rw [q3] at this
                  simpa using this
                refine ⟨⟨σ, { w with heap := w.heap.setIfInBounds b (.map (es'.modify j fun e => { e with key := kv }) ck) }, .tuple #[v2, .int .i64 bn], .inl ?_, mkT_ok (.cons q2 (.cons (.c _) .nil)), map_put r hg hb h3 ?_⟩, kept_put⟩
                · rw [hex]
                  simp only [Instr.mapEntry, Sem.run_bind, und_run hu, Result.andThen_ok, goget h4, hck, q1, Sem.run_pure, Instr.keyThatStays, q5, Option.map_some, Option.getD_some, q4, q6, hsb, if_true, goset _ h4, goInt]
                · have := keyA_ok (.c kv) j h5
                  rw [Array.toList_modify]; exact this
            · cases e
          · rename_i hf
            split at e
            · rename_i inf hi
              split at e
              · rename_i z hz
                cases e
                have q1 := findF_ok (w := w) hkd h5 hf
                simp only at q1
                refine ⟨⟨σ, { w with heap := w.heap.setIfInBounds b (.map (es'.push ⟨kv, z, ck⟩) (ck + 1)) }, .tuple #[z, .int .i64 ck], .inl ?_, mkT_ok (.cons (.c _) (.cons (.c _) .nil)), map_put r hg hb h3 ?_⟩, kept_put⟩
                · rw [hex]
                  simp only [Instr.mapEntry, Sem.run_bind, und_run hu, Result.andThen_ok, goget h4, hck, q1, Sem.run_pure, zero_run hi hz, goset _ h4, goInt]
                · rw [Array.toList_push]; exact h5.push (.c kv) (.c z)
              · cases e
            · cases e
          · cases e
      · cases e
  · cases e
def evEntryStore (h : Hp) (n : Nat) (m s x : AV) : Option Out :=
  match m, s with
  | .m i, .c (.int _ bz) => match h.get i with
    | some (.map es ck) => cond x.isQ none (match es.findIdx? (fun e => (e.2.2 : Int) == bz) with
      | some j => some (.val (.c undef) (h.set i (some (.map (valA es j x) ck))) n [i])
      | none => none)
    | _ => none
  | _, _ => none
theorem evEntryStore_ok {t : TypeId} {m s x : Operand} (ho : o.op = .entryStore t m s x) {v : AV} {h' : Hp} {n' : Nat} {u : List Nat} (e : evEntryStore h n (ev tm m) (ev tm s) (ev tm x) = some (.val v h' n' u)) (ht : TR σ tm a) (r : Rel σ h B w) :
    Yields P (execOp a.eval o) σ h n B w v h' n' ∧ Kept h n n' h' u := by
  have hex : execOp a.eval o = (do Instr.entryStore t (a.eval m) (a.eval s) (a.eval x); pure .skip) := by
    simp only [execOp, ho]
  unfold evEntryStore at e
  split at e
  · rename_i i kd bz hm hk
    have hmv := ev_ok ht m
    have hkv := ev_ok ht s
    have hxv := ev_ok ht x
    rw [hm] at hmv
    rw [hk] at hkv
    generalize a.eval m = mv at hmv hex
    generalize a.eval s = sv at hkv hex
    generalize a.eval x = xv at hxv hex
    cases hkv
    cases hmv with
    | m hb =>
      rename_i b kp
      split at e
      · rename_i es ck hg
        cases hc : (ev tm x).isQ with
        | true => rw [hc] at e; cases e
        | false =>
          rw [hc] at e
          obtain ⟨b2, k2, h1, h2, h3, es', h4, h5⟩ := r.obj i _ hg
          rw [hb] at h1; cases h1
          simp only [cond] at e
          split at e
          · rename_i j hf
            cases e
            have q1 : es'.findIdx? (fun e => (e.born : Int) == bz) = some j := by
              have := h5.find (f := fun b => (b : Int) == bz)
              rw [hf] at this
              rw [← List.findIdx?_toArray] at this; exact this
            refine ⟨⟨σ, { w with heap := w.heap.setIfInBounds b (.map (es'.modify j fun e => { e with val := xv }) ck) }, undef, .inr ⟨?_, rfl⟩, .c _, map_put r hg hb h3 ?_⟩, kept_put⟩
            · rw [hex]
              simp only [Instr.entryStore, Sem.run_bind, Result.andThen_ok, goget h4, asInt, asIntOf, Sem.run_pure, q1, goset _ h4]
            · have := valA_ok hxv j h5
              rw [Array.toList_modify]; exact this
          · cases e
      · cases e
  · cases e
theorem noC_mapEntry {t : TypeId} {m k : AV} {f : Tgt} {args : List AV} : evMapEntry P h n t m k ≠ some (.call f args) := by
  intro e; unfold evMapEntry at e
  split at e
  · split at e
    · generalize (keyOk P false _ _ : Bool) = q at e
      cases q
      · cases e
      · simp only [cond] at e
        split at e
        · split at e
          · generalize (Instr.sameBits 10000 _ _ : Bool) = q at e
            cases q <;> cases e
          · cases e
        · split at e
          · split at e <;> cases e
          · cases e
        · cases e
    · cases e
  · cases e
theorem noC_entryStore {m s x : AV} {f : Tgt} {args : List AV} : evEntryStore h n m s x ≠ some (.call f args) := by
  intro e; unfold evEntryStore at e
  split at e
  · split at e
    · cases hq : x.isQ <;> rw [hq] at e
      · simp only [cond] at e
        split at e <;> cases e
      · cases e
    · cases e
  · cases e
end ops
end Go.Proofs.YtmimihjbepjnfaaGreatDoor
