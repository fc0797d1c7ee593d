/- Running a closed program text by its own rules: lengths, values that are built, maps, ranges over strings. No condition. -/
import Derived.Test.YtmimihjbepjnfaaGreatDoorEvF
namespace Go.Proofs.YtmimihjbepjnfaaGreatDoor
open Go Go.RowKit
set_option linter.unusedVariables false
section ops
variable {P : Program} {tm : T AV} {h : Hp} {n B : Nat} {o : Oper} {σ : Sg} {a : Act} {w : World}
theorem args1 {c : Call} {x : AV} (e : c.args.toList.map (ev tm) = [x]) (ht : TR σ tm a) : ∃ xv, c.args.map a.eval = #[xv] ∧ VR σ x xv := by
  cases hl : c.args.toList with
  | nil => rw [hl] at e; cases e
  | cons p q => cases q with
    | cons _ _ => rw [hl] at e; cases e
    | nil =>
      rw [hl] at e; simp only [List.map_cons, List.map_nil, List.cons.injEq, and_true] at e
      refine ⟨a.eval p, by apply Array.ext'; simp [hl], ?_⟩
      rw [← e]; exact ev_ok ht p
theorem args2 {c : Call} {x y : AV} (e : c.args.toList.map (ev tm) = [x, y]) (ht : TR σ tm a) : ∃ xv yv, c.args.map a.eval = #[xv, yv] ∧ VR σ x xv ∧ VR σ y yv := by
  cases hl : c.args.toList with
  | nil => rw [hl] at e; cases e
  | cons p q => cases q with
    | nil => rw [hl] at e; cases e
    | cons p2 q2 => cases q2 with
      | cons _ _ => rw [hl] at e; cases e
      | nil =>
        rw [hl] at e; simp only [List.map_cons, List.map_nil, List.cons.injEq, and_true] at e
        refine ⟨a.eval p, a.eval p2, by apply Array.ext'; simp [hl], ?_, ?_⟩
        · rw [← e.1]; exact ev_ok ht p
        · rw [← e.2]; exact ev_ok ht p2
theorem ER.length {σ : Sg} : ∀ {l : List (AV × AV × Nat)} {l' : List MapEntry}, ER σ l l' → l.length = l'.length
  | _, _, .nil => rfl
  | _, _, .cons _ _ h => by simp [ER.length h]
def evLen (P : Program) (h : Hp) (n : Nat) (ts : Array TypeId) (xs : List AV) : Option Out :=
  match ts[0]?, xs with
  | some t, [x] => match x, P.underlying t with
    | .s _ _ len _, some (.slice _) => some (.val (.c (goInt len)) h n [])
    | .z, some (.slice _) => some (.val (.c (goInt 0)) h n [])
    | .m i, some (.map _ _) => match h.get i with
      | some (.map es _) => some (.val (.c (goInt es.length)) h n [])
      | _ => none
    | _, _ => none
  | _, _ => none
theorem evLen_ok {c : Call} (ho : o.op = .call c) (hc : c.callee = .builtin .len) {v : AV} {h' : Hp} {n' : Nat} {u : List Nat} (e : evLen P h n c.argTypes (c.args.toList.map (ev tm)) = some (.val v h' n' u)) (ht : TR σ tm a) (r : Rel σ h B w) :
    Yields P (execOp a.eval o) σ h n B w v h' n' ∧ Kept h n n' h' u := by
  obtain ⟨consts, hb⟩ := builtin_run (a := a) ho hc
  unfold evLen at e
  split at e
  · rename_i t x e0 e1
    obtain ⟨xv, ha, hx⟩ := args1 e1 ht
    have key : ∀ k : Nat, (Builtin.len_ c.argTypes o.type #[xv]).run P w = .ok (goInt k) w → (execOp a.eval o).run P w = .ok (.value (goInt k)) w := by
      intro k hk
      rw [hb, ha]
      simp only [builtin, Sem.run_bind, hk, Result.andThen_ok, Sem.run_pure]
    split at e
    · rename_i i off len cp el hd
      cases e
      cases hx with
      | s hb1 hl hcp =>
        refine ⟨Yields.same r (key len ?_) (.c _), Kept.refl _ _ _ _⟩
        simp [Builtin.len_, e0, und_run hd]
    · rename_i el hd
      cases e
      cases hx with
      | z =>
        refine ⟨Yields.same r (key 0 ?_) (.c _), Kept.refl _ _ _ _⟩
        simp [Builtin.len_, e0, und_run hd]
    · rename_i i kt et hd
      split at e
      · rename_i es ck hg
        cases e
        cases hx with
        | m hb1 =>
          rename_i b k
          obtain ⟨b2, k2, h1, h2, h3, es', h4, h5⟩ := r.obj i _ hg
          rw [hb1] at h1; cases h1
          refine ⟨Yields.same r (key es.length ?_) (.c _), Kept.refl _ _ _ _⟩
          have := h5.length
          simp only [Array.length_toList] at this
          simp [Builtin.len_, e0, und_run hd, getObj, Sem.run, h4, this]
      · cases e
    · cases e
  · cases e
/-- parts put into cells -/
def fillA (place : Nat → Option (Nat × Nat)) (cells : List AV) : List (Nat × AV) → Option (List AV)
  | [] => some cells
  | (i, v) :: rest => match place i with
    | none => none
    | some (off, size) => cond (Nat.beq v.cells.length size && Nat.ble (off + size) cells.length && !v.isQ) (fillA place (cells.take off ++ v.cells ++ cells.drop (off + size)) rest) none
theorem foldl_set (off : Nat) : ∀ (l : List Value) (k : Nat) (cs : Array Value), off + k + l.length ≤ cs.size → ((l.zipIdx k).foldl (fun cs (c, j) => cs.setIfInBounds (off + j) c) cs).toList = cs.toList.take (off + k) ++ l ++ cs.toList.drop (off + k + l.length)
  | [], k, cs, _ => by simp
  | v :: l, k, cs, hl => by
    simp only [List.length_cons] at hl
    have ih := foldl_set off l (k + 1) (cs.setIfInBounds (off + k) v) (by simp; omega)
    simp only [List.zipIdx_cons, List.foldl_cons]
    rw [ih]
    have hlt : off + k < cs.toList.length := by simp; omega
    apply List.ext_getElem?
    intro j
    simp only [Array.toList_setIfInBounds, List.getElem?_append, List.getElem?_take, List.getElem?_drop, List.getElem?_set, List.length_append, List.length_take, List.length_set, List.length_cons, Array.length_toList]
    have m1 : min (off + (k + 1)) cs.size = off + k + 1 := by omega
    have m2 : min (off + k) cs.size = off + k := by omega
    simp only [m1, m2]
    by_cases q1 : j < off + k
    · have : ¬ off + k = j := by omega
      simp [q1, this, show j < off + k + 1 + l.length by omega, show j < off + k + 1 by omega, show j < off + (k + 1) by omega, show j < off + k + (l.length + 1) by omega]
    · by_cases q2 : j = off + k
      · subst q2
        simp [show off + k < off + k + 1 + l.length by omega, show off + k < off + (k + 1) by omega, show off + k < cs.size by omega]
      · by_cases q3 : j < off + k + 1 + l.length
        · obtain ⟨q, hq⟩ : ∃ q, j = off + k + 1 + q := ⟨j - (off + k + 1), by omega⟩
          subst hq
          simp [show off + k + 1 + q < off + k + 1 + l.length by omega, show ¬ (off + k + 1 + q < off + k + 1) by omega, show off + k + 1 + q < off + k + (l.length + 1) by omega, show ¬ (off + k + 1 + q < off + k) by omega, show off + k + 1 + q - (off + k) = q + 1 by omega]
        · simp [q3, show ¬ (j < off + k + (l.length + 1)) by omega, show ¬ (off + k = off + (k + 1) + l.length + (j - (off + k + 1 + l.length))) by omega]
          congr 1; omega
theorem fillA_ok (place : Nat → Option (Nat × Nat)) : ∀ (ps : List (Nat × AV)) (ps' : List (Nat × Value)) (cells : List AV) (cells' : Array Value) (out : List AV), ps.map (·.1) = ps'.map (·.1) → VRs σ (ps.map (·.2)) (ps'.map (·.2)) → VRs σ cells cells'.toList → fillA place cells ps = some out → ∃ out', Instr.fill place cells' ps' = some out' ∧ VRs σ out out'.toList
  | [], [], cells, cells', out, _, _, h, e => by simp only [fillA, Option.some.injEq] at e; subst e; exact ⟨cells', rfl, h⟩
  | [], _ :: _, _, _, _, h, _, _, _ => by simp at h
  | _ :: _, [], _, _, _, h, _, _, _ => by simp at h
  | (i, v) :: ps, (i', v') :: ps', cells, cells', out, h1, h2, h3, e => by
    simp only [List.map_cons, List.cons.injEq] at h1
    obtain ⟨rfl, h1⟩ := h1
    simp only [List.map_cons] at h2
    cases h2 with
    | cons hv hvs =>
      simp only [fillA] at e
      split at e
      · cases e
      · rename_i off size hp
        cases hc : (Nat.beq v.cells.length size && Nat.ble (off + size) cells.length && !v.isQ) with
        | false => rw [hc] at e; simp [cond] at e
        | true =>
          rw [hc] at e
          simp only [cond] at e
          simp only [Bool.and_eq_true] at hc
          have c1 := Nat.eq_of_beq_eq_true hc.1.1
          have c2 := Nat.le_of_ble_eq_true hc.1.2
          have hq : v.isQ = false := by simpa using hc.2
          have hcs := cells_ok hv hq
          have hl := hcs.length
          have hl3 := h3.length
          simp only [Array.length_toList] at hl hl3
          have hset := foldl_set off v'.cells.toList 0 cells' (by simp; omega)
          obtain ⟨out', k1, k2⟩ := fillA_ok place ps ps' _ (v'.cells.zipIdx.foldl (fun cs (c, j) => cs.setIfInBounds (off + j) c) cells') out h1 hvs (by
            have e1 : (v'.cells.zipIdx.foldl (fun cs (c, j) => cs.setIfInBounds (off + j) c) cells').toList = cells'.toList.take off ++ v'.cells.toList ++ cells'.toList.drop (off + size) := by
              rw [← Array.foldl_toList, Array.toList_zipIdx]
              simp only [Nat.add_zero, Array.length_toList] at hset
              rw [hset, show v'.cells.size = size by omega]
            rw [e1]
            exact ((h3.take off).append hcs).append (h3.drop (off + size))) e
          refine ⟨out', ?_, k2⟩
          simp only [Instr.fill, hp]
          rw [if_neg (by simp; omega)]
          exact k1
/-- what has the parts of a value -/
def placesOf (P : Program) (t : TypeId) : Option (Nat → Option (Nat × Nat)) :=
  match P.underlying t with
  | some (.struct fs) => (pureA P (fs.mapM (m := Sem) fun f => do pure (f.offset, ← sizeOf f.type))).map fun pl i => pl[i]?
  | some (.array _ el) => match P.info? el with
    | some k => some fun i => some (i * k.size, k.size)
    | none => none
  | _ => none
def evBuild (P : Program) (h : Hp) (n : Nat) (t : TypeId) (ps : List (Nat × AV)) : Option Out :=
  match placesOf P t, P.info? t with
  | some pl, some i => match i.zero with
    | some z => (fillA pl (z.cells.toList.map .c) ps).map fun l => .val (mkA l) h n []
    | none => none
  | _, _ => none
theorem parts_ok (ht : TR σ tm a) (ps : Array (Nat × Operand)) : (ps.toList.map fun p => (p.1, ev tm p.2)).map (·.1) = (ps.map fun (i, x) => (i, a.eval x)).toList.map (·.1) ∧ VRs σ ((ps.toList.map fun p => (p.1, ev tm p.2)).map (·.2)) ((ps.map fun (i, x) => (i, a.eval x)).toList.map (·.2)) := by
  obtain ⟨l⟩ := ps
  simp only [List.map_map, List.map_toArray]
  induction l with
  | nil => exact ⟨rfl, .nil⟩
  | cons p l ih => exact ⟨by simp [ih.1], .cons (ev_ok ht p.2) ih.2⟩
theorem evBuild_ok {t : TypeId} {ps : Array (Nat × Operand)} (ho : o.op = .build t ps) {v : AV} {h' : Hp} {n' : Nat} {u : List Nat} (e : evBuild P h n t (ps.toList.map fun p => (p.1, ev tm p.2)) = some (.val v h' n' u)) (ht : TR σ tm a) (r : Rel σ h B w) :
    Yields P (execOp a.eval o) σ h n B w v h' n' ∧ Kept h n n' h' u := by
  have hps := parts_ok ht ps
  unfold evBuild at e
  split at e
  · rename_i pl i hpl hi
    split at e
    · rename_i z hz
      simp only [Option.map_eq_some_iff, Out.val.injEq] at e
      obtain ⟨l, hl, rfl, rfl, rfl, rfl⟩ := e
      obtain ⟨out', k1, k2⟩ := fillA_ok pl _ _ _ z.cells _ hps.1 hps.2 (VRs.cs _) hl
      refine ⟨Yields.same (v' := .agg out') r ?_ (by simpa using mkA_ok k2), Kept.refl _ _ _ _⟩
      simp only [execOp, ho, Instr.build, Sem.run_bind, zero_run hi hz, Result.andThen_ok]
      unfold placesOf at hpl
      split at hpl
      · rename_i fs hu
        simp only [Option.map_eq_some_iff] at hpl
        obtain ⟨pl', hp, rfl⟩ := hpl
        have hm := pureA_ok w _ hp
        simp only [und_run hu, Result.andThen_ok, Sem.run_bind, hm, k1, Sem.run_pure]
      · rename_i len el hu
        split at hpl
        · rename_i k hk
          cases hpl
          simp only [und_run hu, Result.andThen_ok, Sem.run_bind, sizeOf_run hk, k1, Sem.run_pure]
        · cases hpl
      · cases hpl
    · cases e
  · cases e
def zeroRow (z : Array Value) (m : Nat) : Array Value := (Array.range m).map fun i => z[i % z.size]!
def evBuildSlice (P : Program) (h : Hp) (n : Nat) (t len : Nat) (ps : List (Nat × AV)) : Option Out :=
  match P.underlying t with
  | some (.slice el) => match P.info? el with
    | some i => match i.zero with
      | some z => cond (Nat.ble (len * i.size) 16777216 && !Nat.beq (len * i.size) 0)
        ((fillA (fun j => some (j * i.size, i.size)) ((zeroRow z.cells (len * i.size)).toList.map .c) ps).map fun l => .val (.s n 0 len (.num len)) (h.set n (some (.cells l el none))) (n + 1) [])
        (cond (Nat.beq (len * i.size) 0) (match ps with
          | [] => some (.val (.s n 0 len (.num len)) (h.set n (some (.cells [] el none))) (n + 1) [])
          | _ => none) none)
      | none => none
    | none => none
  | _ => none
theorem evBuildSlice_ok {t len : Nat} {ps : Array (Nat × Operand)} (ho : o.op = .buildSlice t len ps) {v : AV} {h' : Hp} {n' : Nat} {u : List Nat} (e : evBuildSlice P h n t len (ps.toList.map fun p => (p.1, ev tm p.2)) = some (.val v h' n' u)) (ht : TR σ tm a) (r : Rel σ h B w) (hB : B ≤ w.heap.size) (hf : ∀ i, n ≤ i → i < n' → σ i = none) :
    Yields P (execOp a.eval o) σ h n B w v h' n' ∧ Kept h n n' h' u := by
  have hps := parts_ok ht ps
  unfold evBuildSlice at e
  split at e
  · rename_i el hu
    split at e
    · rename_i i hi
      split at e
      · rename_i z hz
        cases hc : (Nat.ble (len * i.size) 16777216 && !Nat.beq (len * i.size) 0) with
        | true =>
          rw [hc] at e
          simp only [cond, Option.map_eq_some_iff, Out.val.injEq] at e
          obtain ⟨l, hl, rfl, rfl, rfl, rfl⟩ := e
          simp only [Bool.and_eq_true] at hc
          have c1 := Nat.le_of_ble_eq_true hc.1
          have c2 : ¬ len * i.size = 0 := fun hh => by rw [hh] at hc; simp at hc
          obtain ⟨out', k1, k2⟩ := fillA_ok _ _ _ _ (zeroRow z.cells (len * i.size)) _ hps.1 hps.2 (VRs.cs _) hl
          have hr := row_new (P := P) (n := n) r hB (hf n (by omega) (by omega)) k2 el
          refine ⟨⟨_, _, _, .inl ?_, VR.s (b := w.heap.size) (k := 0) (cp := len) (by simp [ext]) (Nat.le_refl _) rfl, hr.2⟩, kept_set⟩
          have c3 : ¬ (len * i.size > 2 ^ 24) := by omega
          simp only [zeroRow] at k1
          simp only [execOp, ho, Instr.buildSlice, Sem.run_bind, und_run hu, Result.andThen_ok, sizeOf_run hi, c3, if_false, c2, zero_run hi hz, Sem.run_pure, k1, hr.1]
        | false =>
          rw [hc] at e
          cases h0 : Nat.beq (len * i.size) 0 with
          | false => rw [h0] at e; simp [cond] at e
          | true =>
            rw [h0] at e
            have h0 := Nat.eq_of_beq_eq_true h0
            simp only [cond] at e
            split at e
            · rename_i hpe
              cases e
              have hpe' : ps = #[] := by
                apply Array.ext'
                cases hl : ps.toList with
                | nil => rfl
                | cons p q => rw [hl] at hpe; simp at hpe
              subst hpe'
              have hr := row_new (P := P) (n := n) (l' := #[]) r hB (hf n (by omega) (by omega)) (.nil) el
              refine ⟨⟨_, _, _, .inl ?_, VR.s (b := w.heap.size) (k := 0) (cp := len) (by simp [ext]) (Nat.le_refl _) rfl, hr.2⟩, kept_set⟩
              have hz0 : Array.map (fun x => (default : Value)) (Array.range 0) = #[] := by simp
              simp [execOp, ho, Instr.buildSlice, und_run hu, sizeOf_run hi, h0, Instr.fill, hz0, hr.1]
            · cases e
      · cases e
    · cases e
  · cases e
end ops
end Go.Proofs.YtmimihjbepjnfaaGreatDoor
