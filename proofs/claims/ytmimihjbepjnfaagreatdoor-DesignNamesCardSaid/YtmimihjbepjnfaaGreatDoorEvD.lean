/- Running a closed program text by its own rules: slices, append, lengths. No condition. -/
import Derived.Test.YtmimihjbepjnfaaGreatDoorEvC
import Derived.Laws.Append
namespace Go.Proofs.YtmimihjbepjnfaaGreatDoor
open Go Go.RowKit
set_option linter.unusedVariables false
section ops
variable {P : Program} {tm : T AV} {h : Hp} {n B : Nat} {o : Oper} {σ : Sg} {a : Act} {w : World}
theorem cells_read {l : List AV} {b : Nat} (hc : ∀ j y, l[j]? = some y → ∃ u, w.cell? ⟨b, j, none⟩ = some u ∧ VR σ y u) (m : Nat) : ∀ (off : Nat), off + m ≤ l.length → ∃ us : List Value, us.length = m ∧ VRs σ ((l.drop off).take m) us ∧ (loadCells ⟨b, off, none⟩ m).run P w = .ok us.toArray w := by
  have key : ∀ (m q : Nat), q + m ≤ l.length → ∃ us : List Value, us.length = m ∧ VRs σ ((l.drop q).take m) us ∧ ∀ j v, us[j]? = some v → w.cell? ⟨b, q + j, none⟩ = some v := by
    intro m
    induction m with
    | zero => intro q _; exact ⟨[], rfl, by simp; exact .nil, fun j v hv => by simp at hv⟩
    | succ m ih =>
      intro q hq
      obtain ⟨us, h1, h2, h3⟩ := ih (q + 1) (by omega)
      have hlt : q < l.length := by omega
      obtain ⟨u, hu, hr⟩ := hc q l[q] (List.getElem?_eq_getElem hlt)
      refine ⟨u :: us, by simp [h1], ?_, ?_⟩
      · rw [List.drop_eq_getElem_cons hlt, List.take_succ_cons]
        exact .cons hr h2
      · intro j v hv
        cases j with
        | zero => simp at hv; subst hv; simpa using hu
        | succ j => simp at hv; have := h3 j v hv; rwa [show q + (j + 1) = q + 1 + j by omega]
  intro off hle
  obtain ⟨us, h1, h2, h3⟩ := key m off hle
  have := run_loadCells_list (P := P) w ⟨b, off, none⟩ us (fun j v hv => by rw [add_at]; exact h3 j v hv)
  rw [h1] at this
  exact ⟨us, h1, h2, this⟩
/-- a bound of a slice expression -/
def bnd (d : Nat) : Option AV → Option Nat
  | none => some d
  | some (.c (.int _ (.ofNat k))) => some k
  | _ => none
theorem bnd_some (d d' : Nat) (y : AV) : bnd d (some y) = bnd d' (some y) := by
  cases y with
  | c v => cases v with
    | int k q => cases q <;> rfl
    | _ => rfl
  | _ => rfl
def BndR (σ : Sg) (x : Option AV) (v : Option Value) : Prop := match x, v with
  | none, none => True
  | some y, some u => VR σ y u
  | _, _ => False
theorem bndR_of (ht : TR σ tm a) (x : Option Operand) : BndR σ (x.map (ev tm)) (x.map a.eval) := by
  cases x with
  | none => trivial
  | some y => exact ev_ok ht y
theorem bnd_run {x : Option AV} {v : Option Value} (hv : BndR σ x v) {d q : Nat} (e : bnd d x = some q) : (v = none ∧ q = d) ∨ ∃ k, v = some (.int k (Int.ofNat q)) := by
  cases x with
  | none => cases v with
    | none => simp only [bnd, Option.some.injEq] at e; exact .inl ⟨rfl, e.symm⟩
    | some u => exact hv.elim
  | some y => cases v with
    | none => exact hv.elim
    | some u =>
      unfold bnd at e
      split at e
      · rename_i e2; cases e2
      · rename_i k z he
        cases he; cases e
        have : VR σ (.c (.int k (Int.ofNat q))) u := hv
        cases this
        exact .inr ⟨k, rfl⟩
      · cases e
theorem bound_run {q y : Nat} (k : IntKind) (c : BoundsCode) (hq : q ≤ y) : (Instr.sliceBound (.int k (Int.ofNat q)) y c).run P w = .ok q w := by
  have h1 : (0 : Int) ≤ Int.ofNat q := Int.natCast_nonneg q
  have h2 : Int.ofNat q ≤ (y : Int) := by simp only [Int.ofNat_eq_natCast]; omega
  simp only [Instr.sliceBound, asIntOf, Sem.run_bind, Sem.run_pure, Result.andThen_ok, h1, h2, and_self, if_true]
  rfl
theorem bounds_run {len cp : Nat} {isS : Bool} {lo hi mx : Option AV} {lo' hi' mx' : Option Value} (r1 : BndR σ lo lo') (r2 : BndR σ hi hi') (r3 : BndR σ mx mx') {l hh m : Nat} (hl : len ≤ cp)
    (e1 : bnd 0 lo = some l) (e2 : bnd len hi = some hh) (e3 : bnd cp mx = some m) (c1 : l ≤ hh) (c2 : hh ≤ m) (c3 : m ≤ cp) (c4 : mx.isSome = true → hi.isSome = true) : (Instr.sliceBounds isS len cp lo' hi' mx').run P w = .ok (l, hh, m) w := by
  rcases bnd_run r1 e1 with ⟨rfl, rfl⟩ | ⟨k1, rfl⟩ <;> rcases bnd_run r2 e2 with ⟨rfl, rfl⟩ | ⟨k2, rfl⟩ <;> rcases bnd_run r3 e3 with ⟨rfl, rfl⟩ | ⟨k3, rfl⟩ <;>
    simp only [Instr.sliceBounds, Sem.run_bind, bound_run, Sem.run_pure, Result.andThen_ok, c1, c2, c3]
  all_goals
    cases mx with
    | none => exact r3.elim
    | some y =>
      cases hi with
      | none => exact absurd (c4 rfl) (by simp)
      | some zz => exact r2.elim
/-- a slice expression -/
def evSlice (P : Program) (h : Hp) (n : Nat) (t : TypeId) (x : AV) (lo hi mx : Option AV) : Option Out :=
  match x, P.underlying t with
  | .s i off len cp, some (.slice el) =>
    match P.info? el, bnd 0 lo, bnd len hi with
    | some k, some l, some hh => match mx with
      | none => cond (Nat.ble l hh && Nat.ble hh len)
        (some (.val (cond (Nat.beq l 0) (.s i off hh cp) (cond (Nat.blt l len) (.s i (off + l * k.size) (hh - l) .unk) .z)) h n [])) none
      | some _ => match bnd 0 mx with
        | some m => cond (Nat.ble l hh && Nat.ble hh m && Nat.ble m len && hi.isSome)
          (some (.val (cond (Nat.beq l m) .z (.s i (off + l * k.size) (hh - l) (.num (m - l)))) h n [])) none
        | none => none
    | _, _, _ => none
  | .p i off, some (.array len el) =>
    match P.info? el, bnd 0 lo, bnd len hi, mx with
    | some k, some l, some hh, none => cond (Nat.ble l hh && Nat.ble hh len && Nat.blt l len)
        (some (.val (.s i (off + l * k.size) (hh - l) (.num (len - l))) h n [])) none
    | _, _, _, _ => none
  | _, _ => none
theorem evSlice_ok {t : TypeId} {x : Operand} {lo hi mx : Option Operand} (ho : o.op = .slice t x lo hi mx) {v : AV} {h' : Hp} {n' : Nat} {u : List Nat} (e : evSlice P h n t (ev tm x) (lo.map (ev tm)) (hi.map (ev tm)) (mx.map (ev tm)) = some (.val v h' n' u)) (ht : TR σ tm a) (r : Rel σ h B w) :
    Yields P (execOp a.eval o) σ h n B w v h' n' ∧ Kept h n n' h' u := by
  have r1 := bndR_of ht lo
  have r2 := bndR_of ht hi
  have r3 := bndR_of ht mx
  generalize lo.map (ev tm) = lo1 at e r1
  generalize hi.map (ev tm) = hi1 at e r2
  generalize mx.map (ev tm) = mx1 at e r3
  unfold evSlice at e
  have hxv := ev_ok ht x
  split at e
  · rename_i i off len cp el hx hd
    rw [hx] at hxv
    generalize hxe : a.eval x = xv at hxv
    cases hxv with
    | s hb hl hcp =>
      rename_i b kap cq
      split at e
      · rename_i k l hh hk e1 e2
        split at e
        · cases hc : (Nat.ble l hh && Nat.ble hh len) with
          | false => rw [hc] at e; simp [cond] at e
          | true =>
            rw [hc] at e
            simp only [cond, Option.some.injEq, Out.val.injEq] at e
            obtain ⟨rfl, rfl, rfl, rfl⟩ := e
            simp only [Bool.and_eq_true] at hc
            have c1 := Nat.le_of_ble_eq_true hc.1
            have c2 := Nat.le_of_ble_eq_true hc.2
            have hrun := bounds_run (P := P) (w := w) (isS := true) (cp := cq) r1 r2 r3 hl e1 e2 rfl c1 (by omega) (Nat.le_refl _) (by simp)
            have hex : (execOp a.eval o).run P w = .ok (.value (.slice (if cq = l then some ⟨b, off, none⟩ else some ⟨b, off + l * k.size, none⟩) (hh - l) (cq - l))) w := by
              simp only [execOp, ho, hxe, Instr.sliceAt, Instr.slice, Sem.run_bind, und_run hd, Result.andThen_ok, hrun, sizeOf_run hk, Sem.run_pure, Option.map_some, add_at]
            refine ⟨Yields.same r hex ?_, Kept.refl _ _ _ _⟩
            by_cases hl0 : l = 0
            · subst hl0
              simp only [Nat.zero_mul, Nat.add_zero, ite_self, Nat.sub_zero]
              exact .s hb (by omega) hcp
            · have hb0 : Nat.beq l 0 = false := by cases l with
                | zero => exact absurd rfl hl0
                | succ l => rfl
              simp only [hb0]
              by_cases hll : l < len
              · have : Nat.blt l len = true := by simpa [Nat.blt_eq] using hll
                rw [this, if_neg (by omega)]
                exact .s hb (by omega) trivial
              · have : Nat.blt l len = false := by
                  cases hq : Nat.blt l len with
                  | false => rfl
                  | true => exact absurd (by simpa [Nat.blt_eq] using hq) hll
                rw [this]
                have hz : hh - l = 0 := by omega
                rw [hz]
                by_cases hm : cq = l
                · rw [if_pos hm]; exact .z
                · rw [if_neg hm]; exact .z
        · split at e
          · rename_i m e3
            cases hc : (Nat.ble l hh && Nat.ble hh m && Nat.ble m len && hi1.isSome) with
            | false => rw [hc] at e; simp [cond] at e
            | true =>
              rw [hc] at e
              simp only [cond, Option.some.injEq, Out.val.injEq] at e
              obtain ⟨rfl, rfl, rfl, rfl⟩ := e
              simp only [Bool.and_eq_true] at hc
              have c1 := Nat.le_of_ble_eq_true hc.1.1.1
              have c2 := Nat.le_of_ble_eq_true hc.1.1.2
              have c3 := Nat.le_of_ble_eq_true hc.1.2
              rw [bnd_some 0 cq] at e3
              have hrun := bounds_run (P := P) (w := w) (isS := true) (cp := cq) r1 r2 r3 hl e1 e2 e3 c1 c2 (by omega) (fun _ => hc.2)
              have hex : (execOp a.eval o).run P w = .ok (.value (.slice (if m = l then some ⟨b, off, none⟩ else some ⟨b, off + l * k.size, none⟩) (hh - l) (m - l))) w := by
                simp only [execOp, ho, hxe, Instr.sliceAt, Instr.slice, Sem.run_bind, und_run hd, Result.andThen_ok, hrun, sizeOf_run hk, Sem.run_pure, Option.map_some, add_at]
              refine ⟨Yields.same r hex ?_, Kept.refl _ _ _ _⟩
              by_cases hlm : l = m
              · subst hlm
                simp only [Nat.beq_refl, if_true]
                have hz : hh - l = 0 := by omega
                rw [hz]
                exact .z
              · have hbm : Nat.beq l m = false := by
                  cases hq : Nat.beq l m with
                  | false => rfl
                  | true => exact absurd (Nat.eq_of_beq_eq_true hq) hlm
                rw [hbm, if_neg (Ne.symm hlm)]
                exact .s hb (by omega) rfl
          · cases e
      · cases e
  · rename_i i off len el hx hd
    rw [hx] at hxv
    generalize hxe : a.eval x = xv at hxv
    cases hxv with
    | p hb =>
      split at e
      · rename_i k l hh hk e1 e2
        cases hc : (Nat.ble l hh && Nat.ble hh len && Nat.blt l len) with
        | false => rw [hc] at e; simp [cond] at e
        | true =>
          rw [hc] at e
          simp only [cond, Option.some.injEq, Out.val.injEq] at e
          obtain ⟨rfl, rfl, rfl, rfl⟩ := e
          simp only [Bool.and_eq_true] at hc
          have c1 := Nat.le_of_ble_eq_true hc.1.1
          have c2 := Nat.le_of_ble_eq_true hc.1.2
          have c3 := Nat.le_of_ble_eq_true hc.2
          have hrun := bounds_run (P := P) (w := w) (isS := false) (cp := len) r1 r2 r3 (Nat.le_refl _) e1 e2 rfl c1 c2 (Nat.le_refl _) (by simp)
          have hne : ¬ len = l := by omega
          refine ⟨Yields.same r ?_ (.s hb (cp := len - l) (by omega) rfl), Kept.refl _ _ _ _⟩
          simp only [execOp, ho, hxe, Instr.sliceAt, Instr.sureAddr, Sem.run_bind, und_run hd, Result.andThen_ok, hrun, sizeOf_run hk, Sem.run_pure, add_at, hne, if_false]
      · cases e
  · cases e
end ops
end Go.Proofs.YtmimihjbepjnfaaGreatDoor
