/- Running a closed program text by its own rules: maps, rows that are made, strings out of bytes, what is held against nil. No condition. -/
import Derived.Test.YtmimihjbepjnfaaGreatDoorEvG
import Derived.Laws.BytesString
import Derived.Laws.IdiomStrings
import Derived.Laws.MakeOwn
import Derived.MapKept
namespace Go.Proofs.YtmimihjbepjnfaaGreatDoor
open Go Go.RowKit
set_option linter.unusedVariables false
section ops
variable {P : Program} {tm : T AV} {h : Hp} {n B : Nat} {o : Oper} {σ : Sg} {a : Act} {w : World}
theorem goget {b ck : Nat} {es : Array MapEntry} (e : w.heap[b]? = some (.map es ck)) : (getObj b).run P w = .ok (.map es ck) w := by simp [getObj, Sem.run, e]
theorem goset {b ck : Nat} {es : Array MapEntry} (ob : Obj) (e : w.heap[b]? = some (.map es ck)) : (setObj b ob).run P w = .ok () { w with heap := w.heap.setIfInBounds b ob } := by simp [setObj, Sem.run, e]
def evMakeMap (P : Program) (h : Hp) (n : Nat) (t : TypeId) (r : Option AV) : Option Out :=
  match r with
  | none => some (.val (.m n) (h.set n (some (.map [] 0))) (n + 1) [])
  | some (.c (.int _ _)) => match P.underlying t with
    | some (.map _ _) => some (.val (.m n) (h.set n (some (.map [] 0))) (n + 1) [])
    | _ => none
  | _ => none
theorem evMakeMap_ok {t : TypeId} {rs : Option Operand} (ho : o.op = .makeMap t rs) {v : AV} {h' : Hp} {n' : Nat} {u : List Nat} (e : evMakeMap P h n t (rs.map (ev tm)) = some (.val v h' n' u)) (ht : TR σ tm a) (r : Rel σ h B w) (hB : B ≤ w.heap.size) (hf : ∀ i, n ≤ i → i < n' → σ i = none) :
    Yields P (execOp a.eval o) σ h n B w v h' n' ∧ Kept h n n' h' u := by
  have key : v = .m n ∧ h' = h.set n (some (.map [] 0)) ∧ n' = n + 1 ∧ (Instr.makeMap t (rs.map a.eval)).run P w = .ok (.map (some w.heap.size)) (w.alloc (.map #[] 0)) := by
    unfold evMakeMap at e
    split at e
    · rename_i hr
      cases e
      cases rs with
      | some x => simp at hr
      | none => exact ⟨rfl, rfl, rfl, by simp [Instr.makeMap]⟩
    · rename_i k z hr
      split at e
      · rename_i kt et hu
        cases e
        cases rs with
        | none => simp at hr
        | some x =>
          simp only [Option.map_some, Option.some.injEq] at hr
          have hv := ev_ok ht x
          rw [hr] at hv
          generalize hxe : a.eval x = xv at hv
          cases hv
          refine ⟨rfl, rfl, rfl, ?_⟩
          simp [Instr.makeMap, hxe, und_run hu, asInt, asIntOf]
      · cases e
    · cases e
  obtain ⟨rfl, rfl, rfl, hr⟩ := key
  have ac := act_new (n := n) (kap := 0) (o := .map #[] 0) (x := .map [] 0) r hB (hf n (by omega) (by omega)) ⟨#[], rfl, .nil⟩
  refine ⟨⟨_, _, _, .inl ?_, VR.m (b := w.heap.size) (k := 0) (by simp [ext]), ac⟩, kept_set⟩
  simp only [execOp, ho, Sem.run_bind, hr, Result.andThen_ok, Sem.run_pure]
/-- where a key stands -/
def findA (kind : TypeDesc) (kv : Value) : List (AV × AV × Nat) → Nat → Option (Option (Nat × AV))
  | [], _ => some none
  | (.c k, x, _) :: l, i => match Instr.sameNow kind kv k with
    | some true => some (some (i, x))
    | some false => findA kind kv l (i + 1)
    | none => none
  | _ :: _, _ => none
theorem findA_ok {kind : TypeDesc} {kv : Value} : ∀ {l : List (AV × AV × Nat)} {l' : List MapEntry} {i : Nat} {r : Option (Nat × AV)}, ER σ l l' → findA kind kv l i = some r → match r with
    | none => Instr.findNow kind kv l' i = some none
    | some (j, x) => ∃ v, Instr.findNow kind kv l' i = some (some (j, v)) ∧ VR σ x v
  | _, _, i, r, .nil, e => by cases e; rfl
  | _, _, i, r, .cons hk hv hs, e => by
    cases hk with
    | c k =>
      simp only [findA] at e
      split at e
      · rename_i hsn; cases e; exact ⟨_, by simp only [Instr.findNow, hsn], hv⟩
      · rename_i hsn
        have := findA_ok hs e
        cases r with
        | none => simpa only [Instr.findNow, hsn] using this
        | some p => simpa only [Instr.findNow, hsn] using this
      · cases e
    | _ => simp [findA] at e
def isWideK : TypeDesc → Bool
  | .struct _ | .array _ _ => true
  | _ => false
def findB (P : Program) (kt : TypeId) (kv : Value) : List (AV × AV × Nat) → Nat → Option (Option (Nat × AV))
  | [], _ => some none
  | (.c k, x, _) :: l, i => match pureA P (Op.equal kt kv k) with
    | some true => some (some (i, x))
    | some false => findB P kt kv l (i + 1)
    | none => none
  | _ :: _, _ => none
theorem findB_ok {kt : TypeId} {kv : Value} : ∀ {l : List (AV × AV × Nat)} {l' : List MapEntry} {i : Nat} {r : Option (Nat × AV)}, ER σ l l' → findB P kt kv l i = some r → match r with
    | none => (Instr.findAsking kt kv l' i).run P w = .ok none w
    | some (j, x) => ∃ v, (Instr.findAsking kt kv l' i).run P w = .ok (some (j, v)) w ∧ VR σ x v
  | _, _, i, r, .nil, e => by cases e; rfl
  | _, _, i, r, .cons hk hv hs, e => by
    cases hk with
    | c k =>
      simp only [findB] at e
      split at e
      · rename_i hsn
        cases e
        refine ⟨_, ?_, hv⟩
        simp only [Instr.findAsking, Sem.run_bind, pureA_ok w _ hsn, Result.andThen_ok, if_true, Sem.run_pure]
      · rename_i hsn
        have := findB_ok hs e
        cases r with
        | none =>
          simp only at this ⊢
          simp only [Instr.findAsking, Sem.run_bind, pureA_ok w _ hsn, Result.andThen_ok, Bool.false_eq_true, if_false]
          exact this
        | some p =>
          obtain ⟨v, h1, h2⟩ := this
          refine ⟨v, ?_, h2⟩
          simp only [Instr.findAsking, Sem.run_bind, pureA_ok w _ hsn, Result.andThen_ok, Bool.false_eq_true, if_false]
          exact h1
      · cases e
    | _ => simp [findB] at e
def findF (P : Program) (kt : TypeId) (kind : TypeDesc) (kv : Value) (es : List (AV × AV × Nat)) : Option (Option (Nat × AV)) :=
  cond (isWideK kind) (cond es.isEmpty (some none) (findB P kt kv es 0)) (findA kind kv es 0)
theorem findF_ok {kt : TypeId} {kind : TypeDesc} {kv : Value} (hk : P.underlying kt = some kind) {l : List (AV × AV × Nat)} {l' : List MapEntry} {r : Option (Nat × AV)} (h : ER σ l l') (e : findF P kt kind kv l = some r) : match r with
    | none => (Instr.findKey kt kv l').run P w = .ok none w
    | some (j, x) => ∃ v, (Instr.findKey kt kv l').run P w = .ok (some (j, v)) w ∧ VR σ x v := by
  unfold findF at e
  cases hw : isWideK kind with
  | false =>
    rw [hw] at e
    have := findA_ok h e
    cases r with
    | none => exact MapKept.run_findKey hk this
    | some p => obtain ⟨v, h1, h2⟩ := this; exact ⟨v, MapKept.run_findKey hk h1, h2⟩
  | true =>
    rw [hw] at e
    cases h with
    | nil => cases e; exact MapKept.run_findKey hk rfl
    | cons a b c =>
      have hn : ∀ en es, Instr.findNow kind kv (en :: es) 0 = none := fun en es => by
        cases kind <;> first | rfl | (simp [isWideK] at hw)
      have h2 := findB_ok (P := P) (w := w) (ER.cons a b c) e
      cases r with
      | none =>
        simp only at h2 ⊢
        simp only [Instr.findKey, Sem.run_bind, und_run hk, Result.andThen_ok, hn]
        exact h2
      | some p =>
        obtain ⟨v, h3, h4⟩ := h2
        refine ⟨v, ?_, h4⟩
        simp only [Instr.findKey, Sem.run_bind, und_run hk, Result.andThen_ok, hn]
        exact h3
def keyOk (P : Program) (em : Bool) (kt : TypeId) (kv : Value) : Bool := match pureA P (Instr.checkKey em 10000 kt kv) with
  | some _ => true
  | none => false
theorem keyOk_run {em : Bool} {kt : TypeId} {kv : Value} (e : keyOk P em kt kv = true) : (Instr.checkKey em 10000 kt kv).run P w = .ok () w := by
  unfold keyOk at e
  split at e
  · rename_i x hx; exact pureA_ok w _ hx
  · cases e
def evLookup (P : Program) (h : Hp) (n : Nat) (t : TypeId) (x ix : AV) (ok : Bool) : Option Out :=
  match x, ix, P.underlying t with
  | .m i, .c kv, some (.map kt et) => match h.get i, P.underlying kt with
    | some (.map es _), some kind => cond (keyOk P es.isEmpty kt kv) (match findF P kt kind kv es with
      | some (some (_, v)) => some (.val (cond ok (mkT [v, .c (.bool true)]) v) h n [])
      | some none => match P.info? et with
        | some inf => match inf.zero with
          | some z => some (.val (cond ok (mkT [.c z, .c (.bool false)]) (.c z)) h n [])
          | none => none
        | none => none
      | none => none) none
    | _, _ => none
  | _, _, _ => none
theorem evLookup_ok {t : TypeId} {x y : Operand} {ok : Bool} (ho : o.op = .lookup t x y ok) {v : AV} {h' : Hp} {n' : Nat} {u : List Nat} (e : evLookup P h n t (ev tm x) (ev tm y) ok = some (.val v h' n' u)) (ht : TR σ tm a) (r : Rel σ h B w) :
    Yields P (execOp a.eval o) σ h n B w v h' n' ∧ Kept h n n' h' u := by
  unfold evLookup at e
  split at e
  · rename_i i kv kt et hx hy hu
    have hxv := ev_ok ht x
    have hyv := ev_ok ht y
    rw [hx] at hxv
    rw [hy] at hyv
    generalize hxe : a.eval x = xv at hxv
    generalize hye : a.eval y = yv at hyv
    cases hyv
    cases hxv with
    | m hb =>
      rename_i b kp
      split at e
      · rename_i es ck kind hg hk
        cases hc : keyOk P es.isEmpty kt kv with
        | false => rw [hc] at e; cases e
        | true =>
          rw [hc] at e
          obtain ⟨b2, k2, h1, h2, h3, es', h4, h5⟩ := r.obj i _ hg
          rw [hb] at h1; cases h1
          have hlen := h5.length
          have hemp : es'.isEmpty = es.isEmpty := by
            rw [← Array.isEmpty_toList]
            generalize es'.toList = q at h5
            cases h5 <;> rfl
          have hck := keyOk_run (w := w) hc
          simp only [cond] at e
          split at e
          · rename_i q v1 hf
            cases e
            obtain ⟨v2, q1, q2⟩ := findF_ok (w := w) hk h5 hf
            refine ⟨Yields.same (v' := if ok then .tuple #[v2, .bool true] else v2) r ?_ ?_, Kept.refl _ _ _ _⟩
            · simp only [execOp, ho, hxe, hye, Instr.lookup, Sem.run_bind, und_run hu, Result.andThen_ok, goget h4, Sem.run_pure, hemp, hck, q1]
            · cases ok
              · exact q2
              · exact mkT_ok (.cons q2 (.cons (.c _) .nil))
          · rename_i hf
            split at e
            · rename_i inf hi
              split at e
              · rename_i z hz
                cases e
                have q1 := findF_ok (w := w) hk h5 hf
                simp only at q1
                refine ⟨Yields.same (v' := if ok then .tuple #[z, .bool false] else z) r ?_ ?_, Kept.refl _ _ _ _⟩
                · simp only [execOp, ho, hxe, hye, Instr.lookup, Sem.run_bind, und_run hu, Result.andThen_ok, goget h4, Sem.run_pure, hemp, hck, q1, zero_run hi hz]
                · cases ok
                  · exact .c _
                  · exact mkT_ok (.cons (.c _) (.cons (.c _) .nil))
              · cases e
            · cases e
          · cases e
      · cases e
  · cases e
def modA : List (AV × AV × Nat) → Nat → (AV × AV) → List (AV × AV × Nat)
  | [], _, _ => []
  | (_, _, b) :: l, 0, p => (p.1, p.2, b) :: l
  | e :: l, i + 1, p => e :: modA l i p
theorem modA_ok {k x : AV} {k' x' : Value} (hk : VR σ k k') (hx : VR σ x x') : ∀ {l : List (AV × AV × Nat)} {l' : List MapEntry} (i : Nat), ER σ l l' → ER σ (modA l i (k, x)) (l'.modify i fun e => { e with key := k', val := x' })
  | _, _, i, .nil => by cases i <;> exact .nil
  | _, _, 0, .cons h1 h2 h3 => .cons hk hx h3
  | _, _, i + 1, .cons h1 h2 h3 => .cons h1 h2 (modA_ok hk hx i h3)
theorem ER.push {l : List (AV × AV × Nat)} {l' : List MapEntry} (h : ER σ l l') {k x : AV} {k' x' : Value} {b : Nat} (hk : VR σ k k') (hx : VR σ x x') : ER σ (l ++ [(k, x, b)]) (l' ++ [⟨k', x', b⟩]) := by
  induction h with
  | nil => exact .cons hk hx .nil
  | cons a b c ih => exact .cons a b ih
def oldKey (l : List (AV × AV × Nat)) (i : Nat) : Option Value := match l[i]? with
  | some (.c k, _, _) => some k
  | _ => none
theorem oldKey_ok : ∀ {l : List (AV × AV × Nat)} {l' : List MapEntry} {i : Nat} {k : Value}, ER σ l l' → oldKey l i = some k → ∃ e, l'[i]? = some e ∧ e.key = k
  | _, _, i, k, .nil, e => by simp [oldKey] at e
  | _, _, 0, k, .cons h1 h2 h3, e => by
    cases h1 with
    | c q => simp [oldKey] at e; subst e; exact ⟨_, rfl, rfl⟩
    | _ => simp [oldKey] at e
  | _, _, i + 1, k, .cons (l := l) h1 h2 h3, e => by
    have : oldKey l i = some k := by unfold oldKey at e ⊢; simpa using e
    obtain ⟨e2, h4, h5⟩ := oldKey_ok h3 this
    exact ⟨e2, by simpa using h4, h5⟩
def evMapUpdate (P : Program) (h : Hp) (n : Nat) (t : TypeId) (m k x : AV) : Option Out :=
  match m, k, P.underlying t with
  | .m i, .c kv, some (.map kt _) => match h.get i, P.underlying kt with
    | some (.map es ck), some kind => cond (keyOk P false kt kv && !x.isQ) (match findF P kt kind kv es with
      | some (some (j, _)) => match oldKey es j with
        | some ok => cond (Instr.sameBits 10000 ok kv) (some (.val (.c undef) (h.set i (some (.map (modA es j (.c kv, x)) ck))) n [i])) none
        | none => none
      | some none => some (.val (.c undef) (h.set i (some (.map (es ++ [(.c kv, x, ck)]) (ck + 1)))) n [i])
      | none => none) none
    | _, _ => none
  | _, _, _ => none
theorem kept_put {h : Hp} {n i : Nat} {y : Option AO} : Kept h n n (h.set i y) [i] := by
  intro j _ hu
  rw [T.get_set, if_neg]
  intro e; subst e; simp at hu
theorem evMapUpdate_ok {t : TypeId} {m k x : Operand} (ho : o.op = .mapUpdate t m k x ∨ o.op = .insert t m k x) {v : AV} {h' : Hp} {n' : Nat} {u : List Nat} (e : evMapUpdate P h n t (ev tm m) (ev tm k) (ev tm x) = some (.val v h' n' u)) (ht : TR σ tm a) (r : Rel σ h B w) :
    Yields P (execOp a.eval o) σ h n B w v h' n' ∧ Kept h n n' h' u := by
  have hex : execOp a.eval o = (do Instr.mapUpdate t (a.eval m) (a.eval k) (a.eval x); pure .skip) := by
    rcases ho with ho | ho <;> simp only [execOp, ho]
  unfold evMapUpdate at e
  split at e
  · rename_i i kv kt et hm hk hu
    have hmv := ev_ok ht m
    have hkv := ev_ok ht k
    have hxv := ev_ok ht x
    rw [hm] at hmv
    rw [hk] at hkv
    generalize a.eval m = mv at hmv hex
    generalize a.eval k = kvv at hkv hex
    generalize a.eval x = xv at hxv hex
    cases hkv
    cases hmv with
    | m hb =>
      rename_i b kp
      split at e
      · rename_i es ck kind hg hkd
        cases hc : (keyOk P false kt kv && !(ev tm x).isQ) with
        | false => rw [hc] at e; cases e
        | true =>
          rw [hc] at e
          simp only [Bool.and_eq_true] at hc
          obtain ⟨b2, k2, h1, h2, h3, es', h4, h5⟩ := r.obj i _ hg
          rw [hb] at h1; cases h1
          have hck := keyOk_run (w := w) hc.1
          have put : ∀ (es2 : List (AV × AV × Nat)) (es2' : Array MapEntry) (c2 : Nat), ER σ es2 es2'.toList → Act1 σ h n B w σ (h.set i (some (.map es2 c2))) n { w with heap := w.heap.setIfInBounds b (.map es2' c2) } := by
            intro es2 es2' c2 hER
            refine act_put r hg hb rfl rfl rfl (by simp) (fun k hk => ?_) ⟨es2', ?_, hER⟩
            · show (w.heap.setIfInBounds b _)[k]? = _
              rw [Array.getElem?_setIfInBounds_ne (Ne.symm hk)]
            · show (w.heap.setIfInBounds b _)[b]? = _
              rw [Array.getElem?_setIfInBounds_self_of_lt h3]
          simp only [cond] at e
          split at e
          · rename_i j vv hf
            split at e
            · rename_i okk hok
              cases hsb : Instr.sameBits 10000 okk kv with
              | false => rw [hsb] at e; cases e
              | true =>
                rw [hsb] at e
                cases e
                obtain ⟨v2, q1, q2⟩ := findF_ok (w := w) hkd h5 hf
                obtain ⟨en, q3, q4⟩ := oldKey_ok h5 hok
                have q5 : es'[j]? = some en := by rw [← Array.getElem?_toList]; exact q3
                refine ⟨⟨σ, { w with heap := w.heap.setIfInBounds b (.map (es'.modify j fun e => { e with key := kv, val := xv }) ck) }, undef, .inr ⟨?_, rfl⟩, .c _, put _ _ _ ?_⟩, kept_put⟩
                · rw [hex]
                  simp only [Instr.mapUpdate, Sem.run_bind, und_run hu, Result.andThen_ok, goget h4, hck, q1, Sem.run_pure, Instr.keyThatStays, q5, Option.map_some, Option.getD_some, q4, hsb, if_true, goset _ h4]
                · have := modA_ok (.c kv) hxv j h5
                  rw [Array.toList_modify]; exact this
            · cases e
          · rename_i hf
            cases e
            have q1 := findF_ok (w := w) hkd h5 hf
            simp only at q1
            refine ⟨⟨σ, { w with heap := w.heap.setIfInBounds b (.map (es'.push ⟨kv, xv, ck⟩) (ck + 1)) }, undef, .inr ⟨?_, rfl⟩, .c _, put _ _ _ ?_⟩, kept_put⟩
            · rw [hex]
              simp only [Instr.mapUpdate, Sem.run_bind, und_run hu, Result.andThen_ok, goget h4, hck, q1, Sem.run_pure, goset _ h4]
            · rw [Array.toList_push]; exact h5.push (.c kv) hxv
          · cases e
      · cases e
  · cases e
/-- a row that is made -/
def evMakeSlice (P : Program) (h : Hp) (n : Nat) (t : TypeId) (x y : AV) : Option Out :=
  match x, y, P.underlying t with
  | .c (.int _ (.ofNat l)), .c (.int _ (.ofNat c)), some (.slice el) => match P.info? el with
    | some i => match i.zero with
      | some z => cond (Nat.ble l c && Nat.ble (c * i.size) 16777216 && Nat.ble (i.bytes * c) 281474976710656 && Nat.ble c 16777216)
        (some (.val (.s n 0 l (.num c)) (h.set n (some (.cells ((madeCells z.cells (c * i.size)).toList.map .c) el none))) (n + 1) [])) none
      | none => none
    | none => none
  | _, _, _ => none
theorem evMakeSlice_ok {t : TypeId} {x y : Operand} (ho : o.op = .makeSlice t x y) {v : AV} {h' : Hp} {n' : Nat} {u : List Nat} (e : evMakeSlice P h n t (ev tm x) (ev tm y) = some (.val v h' n' u)) (ht : TR σ tm a) (r : Rel σ h B w) (hB : B ≤ w.heap.size) (hf : ∀ i, n ≤ i → i < n' → σ i = none) :
    Yields P (execOp a.eval o) σ h n B w v h' n' ∧ Kept h n n' h' u := by
  unfold evMakeSlice at e
  split at e
  · rename_i kl l kc c el hx hy hu
    split at e
    · rename_i i hi
      split at e
      · rename_i z hz
        cases hc : (Nat.ble l c && Nat.ble (c * i.size) 16777216 && Nat.ble (i.bytes * c) 281474976710656 && Nat.ble c 16777216) with
        | false => rw [hc] at e; cases e
        | true =>
          rw [hc] at e
          cases e
          simp only [Bool.and_eq_true] at hc
          have c1 := Nat.le_of_ble_eq_true hc.1.1.1
          have c2 := Nat.le_of_ble_eq_true hc.1.1.2
          have c3 := Nat.le_of_ble_eq_true hc.1.2
          have c4 := Nat.le_of_ble_eq_true hc.2
          have hxv := ev_ok ht x
          have hyv := ev_ok ht y
          rw [hx] at hxv
          rw [hy] at hyv
          generalize hxe : a.eval x = xv at hxv
          generalize hye : a.eval y = yv at hyv
          cases hxv
          cases hyv
          have hr := run_makeSlice (P := P) w t el i z hu hi hz kl kc (Int.ofNat l) (Int.ofNat c) (Int.natCast_nonneg l) (by simp only [Int.ofNat_eq_natCast]; omega) (by simpa using c2) (by
            have : ((i.bytes * c : Nat) : Int) ≤ 281474976710656 := by omega
            rw [Int.natCast_mul] at this; exact this) (by simp only [Int.ofNat_eq_natCast]; omega)
          have ac := (row_new (P := P) (n := n) r hB (hf n (by omega) (by omega)) (VRs.cs (madeCells z.cells (c * i.size)).toList) el).2
          refine ⟨⟨_, _, _, .inl ?_, VR.s (b := w.heap.size) (k := 0) (cp := c) (by simp [ext]) c1 rfl, ac⟩, kept_set⟩
          simp only [execOp, ho, hxe, hye, Sem.run_bind, hr, Result.andThen_ok, Sem.run_pure]
          rfl
      · cases e
    · cases e
  · cases e
/-- a string out of bytes -/
def bytesOf : List AV → Option (List Int)
  | [] => some []
  | .c (.int .u8 k) :: l => (bytesOf l).map (k :: ·)
  | _ :: _ => none
theorem bytesOf_ok : ∀ {l : List AV} {l' : List Value} {ks : List Int}, VRs σ l l' → bytesOf l = some ks → l' = ks.map (Value.int .u8)
  | _, _, ks, .nil, e => by cases e; rfl
  | _, _, ks, .cons hv hs, e => by
    cases hv with
    | c v =>
      unfold bytesOf at e
      split at e
      · rename_i q; cases q
      · rename_i k l2 q
        simp only [List.cons.injEq, AV.c.injEq] at q
        obtain ⟨rfl, rfl⟩ := q
        simp only [Option.map_eq_some_iff] at e
        obtain ⟨ks', h1, rfl⟩ := e
        rw [bytesOf_ok hs h1]; rfl
      · cases e
    | _ => simp [bytesOf] at e
theorem pushes (ks : List Int) : ∀ (l : List UInt8), ks.foldl (fun r n => r.push (UInt8.ofNat n.toNat)) (⟨l.toArray⟩ : ByteArray) = ⟨(l ++ ks.map fun n => UInt8.ofNat n.toNat).toArray⟩ := by
  induction ks with
  | nil => intro l; simp
  | cons k ks ih =>
    intro l
    simp only [List.foldl_cons, List.map_cons]
    have : (⟨l.toArray⟩ : ByteArray).push (UInt8.ofNat k.toNat) = ⟨(l ++ [UInt8.ofNat k.toNat]).toArray⟩ := by
      simp [ByteArray.push]
    rw [this, ih]
    simp
def evConvert (P : Program) (h : Hp) (n : Nat) (src dst : TypeId) (x : AV) : Option Out :=
  match x, P.underlying src, P.underlying dst with
  | .s i off len _, some (.slice e), some .string => match P.underlying e, objCells h i with
    | some (.int .u8), some l => match take? l off len with
      | some ys => match bytesOf ys with
        | some ks => some (.val (.c (.string ⟨(ks.map fun n => UInt8.ofNat n.toNat).toArray⟩)) h n [])
        | none => none
      | none => none
    | _, _ => none
  | .c (.string s), some .string, some (.slice e) => match P.underlying e with
    | some (.int .u8) => some (.val (.s n 0 s.size .unk) (h.set n (some (.ro ((s.data.toList.map fun b => Value.int .u8 b.toNat).map .c) e))) (n + 1) [])
    | _ => none
  | _, _, _ => none
theorem evConvert_ok {src dst : TypeId} {x : Operand} (ho : o.op = .convert src dst x) {v : AV} {h' : Hp} {n' : Nat} {u : List Nat} (e : evConvert P h n src dst (ev tm x) = some (.val v h' n' u)) (ht : TR σ tm a) (r : Rel σ h B w) (hB : B ≤ w.heap.size) (hf : ∀ i, n ≤ i → i < n' → σ i = none) :
    Yields P (execOp a.eval o) σ h n B w v h' n' ∧ Kept h n n' h' u := by
  unfold evConvert at e
  split at e
  · rename_i i off len cp el hx hs hd
    split at e
    · rename_i l hel hl
      split at e
      · rename_i ys hy
        split at e
        · rename_i ks hks
          cases e
          have hxv := ev_ok ht x
          rw [hx] at hxv
          generalize hxe : a.eval x = xv at hxv
          cases hxv with
          | s hb hlc hcp =>
            rename_i b kap cq
            unfold take? at hy
            cases hle : Nat.ble (off + len) l.length with
            | false => rw [hle] at hy; cases hy
            | true =>
              rw [hle] at hy
              cases hy
              have hc : ∀ j' y, l[j']? = some y → ∃ u, w.cell? ⟨b, j', none⟩ = some u ∧ VR σ y u := by
                exact fun j' y hy => objCells_at r hl hb hy
              obtain ⟨us, h1, h2, h3⟩ := cells_read (P := P) hc len off (Nat.le_of_ble_eq_true hle)
              have hus := bytesOf_ok h2 hks
              rw [hus] at h3
              have hrun := run_bytesToString (P := P) w ⟨b, off, none⟩ len cq ks h3
              have hp := pushes ks []
              rw [List.nil_append] at hp
              refine ⟨Yields.same r ?_ (.c _), Kept.refl _ _ _ _⟩
              simp only [execOp, ho, hxe, Sem.run_bind, run_convert_bytes_string w src dst el _ _ _ hs hel hd, hrun, Result.andThen_ok, Sem.run_pure]
              rw [show (ByteArray.empty : ByteArray) = ⟨([] : List UInt8).toArray⟩ from rfl, hp]
        · cases e
      · cases e
    · cases e
  · rename_i s el hx hs hd
    split at e
    · rename_i hel
      cases e
      have hxv := ev_ok ht x
      rw [hx] at hxv
      generalize hxe : a.eval x = xv at hxv
      cases hxv
      have hrun := run_bytes_of_string (P := P) w src dst el s hs hd hel
      generalize hcp : grownCap w s.size 0 el = cp at hrun
      have hge : s.size ≤ cp := hcp ▸ grownCap_ge w s.size 0 el
      have a1 := act_drew (n := n) r (w.drawn + 1)
      have hor : OR σ 0 (some (Obj.cells (bytesRow s cp) el ((bytesRow s cp).size, (bytesRow s cp).size + 1))) (.ro ((s.data.toList.map fun b => Value.int .u8 b.toNat).map .c) el) := by
        have e1 : (bytesRow s cp).toList = (s.data.toList.map fun b => Value.int .u8 b.toNat) ++ (Array.replicate (cp - s.size) (Value.int .u8 0)).toList := by
          unfold bytesRow
          rw [Array.toList_append, Array.toList_map]
        refine ⟨_, _, rfl, ?_, ?_⟩
        · rw [e1, List.length_map, List.take_left' rfl]
          exact VRs.cs _
        · rw [← Array.length_toList, e1, List.length_map, List.length_append]
          exact Nat.le_add_right _ _
      have a2 := act_new (n := n) a1.rel hB (hf n (Nat.le_refl _) (Nat.lt_succ_self _)) hor
      refine ⟨⟨_, _, _, .inl ?_, VR.s (b := w.heap.size) (k := 0) (cp := cp) (by simp [ext]) hge trivial, a1.trans a2⟩, kept_set⟩
      simp only [execOp, ho, hxe, Sem.run_bind, hrun, Result.andThen_ok, Sem.run_pure]
      rfl
    · cases e
  · cases e
/-- what is held against nil -/
def isNil : AV → Bool
  | .c (.pointer none) | .c (.slice none _ _) | .c (.map none) | .c .nilFunc => true
  | _ => false
def evEqNil (P : Program) (h : Hp) (n : Nat) (op : BinOp) (t : TypeId) (x y : AV) : Option Out :=
  match op, P.underlying t, x, y with
  | .eql, some (.pointer _), .p _ _, .c (.pointer none) => some (.val (.c (.bool false)) h n [])
  | .neq, some (.pointer _), .p _ _, .c (.pointer none) => some (.val (.c (.bool true)) h n [])
  | .eql, some (.slice _), .s _ _ _ _, .c (.slice none _ _) => some (.val (.c (.bool false)) h n [])
  | .neq, some (.slice _), .s _ _ _ _, .c (.slice none _ _) => some (.val (.c (.bool true)) h n [])
  | .eql, some (.map _ _), .m _, .c (.map none) => some (.val (.c (.bool false)) h n [])
  | .neq, some (.map _ _), .m _, .c (.map none) => some (.val (.c (.bool true)) h n [])
  | .eql, some (.func _ _ _), .f _ _, .c .nilFunc => some (.val (.c (.bool false)) h n [])
  | .neq, some (.func _ _ _), .f _ _, .c .nilFunc => some (.val (.c (.bool true)) h n [])
  | _, _, _, _ => none
theorem eqn_p (d : Nat) {t el : TypeId} (hu : P.underlying t = some (.pointer el)) (ad : Addr) : (Op.equalIn (d + 1) t (.pointer (some ad)) (.pointer none)).run P w = .ok false w := by simp [Op.equalIn, und_run hu]
theorem eqn_s (d : Nat) {t el : TypeId} (hu : P.underlying t = some (.slice el)) (ad : Addr) (a1 a2 a3 a4 : Nat) : (Op.equalIn (d + 1) t (.slice (some ad) a1 a2) (.slice none a3 a4)).run P w = .ok false w := by simp [Op.equalIn, und_run hu]
theorem eqn_m (d : Nat) {t kt el : TypeId} (hu : P.underlying t = some (.map kt el)) (b : Nat) : (Op.equalIn (d + 1) t (.map (some b)) (.map none)).run P w = .ok false w := by simp [Op.equalIn, und_run hu]
theorem eqn_f (d : Nat) {t : TypeId} {ps rs : Array TypeId} {va : Bool} (hu : P.underlying t = some (.func ps rs va)) (fn : Fn) (l1 l2 : Array Value) : (Op.equalIn (d + 1) t (.func fn l1 l2) .nilFunc).run P w = .ok false w := by simp [Op.equalIn, und_run hu]
theorem eql_run {t : TypeId} {x y : Value} {b : Bool} (hx : ∀ d, (Op.equalIn (d + 1) t x y).run P w = .ok b w) : (do pure (Value.bool (← Op.equal t x y)) : Sem Value).run P w = .ok (.bool b) w ∧ (do pure (Value.bool (!(← Op.equal t x y))) : Sem Value).run P w = .ok (.bool (!b)) w := by
  have h : (Op.equal t x y).run P w = .ok b w := hx 9999
  constructor
  · rw [Sem.run_bind, h]; rfl
  · rw [Sem.run_bind, h]; rfl
theorem evEqNil_ok {op : BinOp} {t yt : TypeId} {x y : Operand} (ho : o.op = .binOp op t x y yt) {v : AV} {h' : Hp} {n' : Nat} {u : List Nat} (e : evEqNil P h n op t (ev tm x) (ev tm y) = some (.val v h' n' u)) (ht : TR σ tm a) (r : Rel σ h B w) :
    Yields P (execOp a.eval o) σ h n B w v h' n' ∧ Kept h n n' h' u := by
  have hxv := ev_ok ht x
  have hyv := ev_ok ht y
  unfold evEqNil at e
  split at e
  all_goals first | (cases e; done) | skip
  all_goals
    rename_i hu hx hy
    rw [hx] at hxv
    rw [hy] at hyv
    generalize hxe : a.eval x = xv at hxv
    generalize hye : a.eval y = yv at hyv
    cases hyv
    cases hxv
    cases e
    refine ⟨Yields.same r ?_ (.c _), Kept.refl _ _ _ _⟩
    simp only [execOp, ho, hxe, hye]
    rw [Sem.run_bind]
    first
      | exact congrArg (fun r => Result.andThen r fun a w' => Result.ok (Next.value a) w') (eql_run (P := P) (w := w) fun d => eqn_p d hu _).1
      | exact congrArg (fun r => Result.andThen r fun a w' => Result.ok (Next.value a) w') (eql_run (P := P) (w := w) fun d => eqn_p d hu _).2
      | exact congrArg (fun r => Result.andThen r fun a w' => Result.ok (Next.value a) w') (eql_run (P := P) (w := w) fun d => eqn_s d hu _ _ _ _ _).1
      | exact congrArg (fun r => Result.andThen r fun a w' => Result.ok (Next.value a) w') (eql_run (P := P) (w := w) fun d => eqn_s d hu _ _ _ _ _).2
      | exact congrArg (fun r => Result.andThen r fun a w' => Result.ok (Next.value a) w') (eql_run (P := P) (w := w) fun d => eqn_m d hu _).1
      | exact congrArg (fun r => Result.andThen r fun a w' => Result.ok (Next.value a) w') (eql_run (P := P) (w := w) fun d => eqn_m d hu _).2
      | exact congrArg (fun r => Result.andThen r fun a w' => Result.ok (Next.value a) w') (eql_run (P := P) (w := w) fun d => eqn_f d hu _ _ _).1
      | exact congrArg (fun r => Result.andThen r fun a w' => Result.ok (Next.value a) w') (eql_run (P := P) (w := w) fun d => eqn_f d hu _ _ _).2
/-- a walk over a string -/
def evRange (P : Program) (h : Hp) (n : Nat) (t : TypeId) (x : AV) : Option Out :=
  match x, P.underlying t with
  | .c (.string s), some .string => some (.val (.p n 0) (h.set n (some (.iter s 0))) (n + 1) [])
  | .c (.map none), some (.map _ _) => some (.val (.p n 0) (h.set n (some .mit0)) (n + 1) [])
  | _, _ => none
theorem evRange_ok {t : TypeId} {x : Operand} (ho : o.op = .range t x) {v : AV} {h' : Hp} {n' : Nat} {u : List Nat} (e : evRange P h n t (ev tm x) = some (.val v h' n' u)) (ht : TR σ tm a) (r : Rel σ h B w) (hB : B ≤ w.heap.size) (hf : ∀ i, n ≤ i → i < n' → σ i = none) :
    Yields P (execOp a.eval o) σ h n B w v h' n' ∧ Kept h n n' h' u := by
  unfold evRange at e
  split at e
  · rename_i s hx hu
    cases e
    have hxv := ev_ok ht x
    rw [hx] at hxv
    generalize hxe : a.eval x = xv at hxv
    cases hxv
    have ac := act_new (n := n) (kap := 0) (o := .stringIter s 0) (x := .iter s 0) r hB (hf n (by omega) (by omega)) rfl
    refine ⟨⟨_, _, _, .inl ?_, VR.p (b := w.heap.size) (k := 0) (by simp [ext]), ac⟩, kept_set⟩
    simp only [execOp, ho, hxe, Instr.range, Sem.run_bind, und_run hu, Result.andThen_ok, Sem.run_pure, run_newObj]
    rfl
  · rename_i kt et hx hu
    cases e
    have hxv := ev_ok ht x
    rw [hx] at hxv
    generalize hxe : a.eval x = xv at hxv
    cases hxv
    have ac := act_new (n := n) (kap := 0) (o := .mapIter none 0 #[] 0) (x := .mit0) r hB (hf n (by omega) (by omega)) rfl
    refine ⟨⟨_, _, _, .inl ?_, VR.p (b := w.heap.size) (k := 0) (by simp [ext]), ac⟩, kept_set⟩
    simp only [execOp, ho, hxe, Instr.range, Sem.run_bind, und_run hu, Result.andThen_ok, Sem.run_pure, run_newObj]
    rfl
  · cases e
def evNext (h : Hp) (n : Nat) (x : AV) (isS : Bool) : Option Out :=
  match x, isS with
  | .p i 0, true => match h.get i with
    | some (.iter s pos) => cond (Nat.blt pos s.size) (some (.val (.c (.tuple #[.bool true, goInt pos, .int .i32 (Utf8.decode s pos).1])) (h.set i (some (.iter s (pos + (Utf8.decode s pos).2)))) n [i]))
      (some (.val (.c (.tuple #[.bool false])) h n []))
    | _ => none
  | .p i 0, false => match h.get i with
    | some .mit0 => some (.val (.c (.tuple #[.bool false])) h n [])
    | _ => none
  | _, _ => none
theorem evNext_ok {x : Operand} {isS : Bool} (ho : o.op = .next x isS) {v : AV} {h' : Hp} {n' : Nat} {u : List Nat} (e : evNext h n (ev tm x) isS = some (.val v h' n' u)) (ht : TR σ tm a) (r : Rel σ h B w) :
    Yields P (execOp a.eval o) σ h n B w v h' n' ∧ Kept h n n' h' u := by
  unfold evNext at e
  split at e
  · rename_i i hx
    have hxv := ev_ok ht x
    rw [hx] at hxv
    generalize hxe : a.eval x = xv at hxv
    cases hxv with
    | p hb =>
      rename_i b kp
      split at e
      · rename_i s pos hg
        obtain ⟨b2, k2, h1, h2, h3, h4⟩ := r.obj i _ hg
        rw [hb] at h1; cases h1
        have h4 : w.heap[b]? = some (.stringIter s pos) := h4
        have hgo : (getObj b).run P w = .ok (.stringIter s pos) w := by simp [getObj, Sem.run, h4]
        cases hlt : Nat.blt pos s.size with
        | true =>
          rw [hlt] at e; cases e
          have hlt' : pos < s.size := by simpa [Nat.blt_eq] using hlt
          have hso : ∀ ob, (setObj b ob).run P w = .ok () { w with heap := w.heap.setIfInBounds b ob } := fun ob => by simp [setObj, Sem.run, h4]
          refine ⟨⟨σ, { w with heap := w.heap.setIfInBounds b (.stringIter s (pos + (Utf8.decode s pos).2)) }, _, .inl ?_, .c _, ?_⟩, kept_put⟩
          · simp only [execOp, ho, hxe, Instr.next, Sem.run_bind, Sem.run_pure, Result.andThen_ok, hgo, hlt', if_true, hso]
          · refine act_put r hg hb rfl rfl rfl (by simp) (fun k hk => ?_) ?_
            · show (w.heap.setIfInBounds b _)[k]? = _
              rw [Array.getElem?_setIfInBounds_ne (Ne.symm hk)]
            · show (w.heap.setIfInBounds b _)[b]? = _
              rw [Array.getElem?_setIfInBounds_self_of_lt h3]
        | false =>
          rw [hlt] at e; cases e
          have hlt' : ¬ pos < s.size := fun hh => by rw [← Nat.blt_eq, hlt] at hh; cases hh
          refine ⟨Yields.same r ?_ (.c _), Kept.refl _ _ _ _⟩
          simp only [execOp, ho, hxe, Instr.next, Sem.run_bind, Sem.run_pure, Result.andThen_ok, hgo, hlt', if_false]
      · cases e
  · rename_i i hx
    have hxv := ev_ok ht x
    rw [hx] at hxv
    generalize hxe : a.eval x = xv at hxv
    cases hxv with
    | p hb =>
      rename_i b kp
      split at e
      · rename_i hg
        cases e
        obtain ⟨b2, k2, h1, h2, h3, h4⟩ := r.obj i _ hg
        rw [hb] at h1; cases h1
        have h4 : w.heap[b]? = some (.mapIter none 0 #[] 0) := h4
        have hgo : (getObj b).run P w = .ok (.mapIter none 0 #[] 0) w := by simp [getObj, Sem.run, h4]
        refine ⟨Yields.same r ?_ (.c _), Kept.refl _ _ _ _⟩
        simp only [execOp, ho, hxe, Instr.next, Sem.run_bind, Sem.run_pure, Result.andThen_ok, hgo]
      · cases e
  · cases e
end ops
end Go.Proofs.YtmimihjbepjnfaaGreatDoor
