/- Running a closed program text by its own rules: single operations. No condition. -/
import Derived.Test.YtmimihjbepjnfaaGreatDoorEvA
namespace Go.Proofs.YtmimihjbepjnfaaGreatDoor
open Go Go.RowKit
set_option linter.unusedVariables false
/-- what a computation without memory yields -/
def pureV (P : Program) : Sem Next → Option Next
  | .pure x => some x
  | .program k => pureV P (k P)
  | .mark _ k => pureV P k
  | .choose q k => cond q.forced (pureV P (k 0)) none
  | _ => none
theorem pureV_ok {P : Program} {x : Next} (w : World) : ∀ (s : Sem Next), pureV P s = some x → s.run P w = .ok x w
  | .pure y, h => by simp only [pureV, Option.some.injEq] at h; subst h; rfl
  | .program k, h => by simp only [pureV] at h; simp only [Sem.run]; exact pureV_ok w (k P) h
  | .mark m k, h => by simp only [pureV] at h; simp only [Sem.run]; exact pureV_ok w k h
  | .choose q k, h => by
    simp only [pureV] at h
    cases hq : q.forced <;> simp only [hq, cond] at h
    · cases h
    · simp only [Sem.run, hq, if_true]; exact pureV_ok w (k 0) h
  | .load .., h => by simp [pureV] at h
  | .store .., h => by simp [pureV] at h
  | .new .., h => by simp [pureV] at h
  | .shape .., h => by simp [pureV] at h
  | .freeze .., h => by simp [pureV] at h
  | .frozen .., h => by simp [pureV] at h
  | .getObj .., h => by simp [pureV] at h
  | .setObj .., h => by simp [pureV] at h
  | .sys .., h => by simp [pureV] at h
  | .halt .., h => by simp [pureV] at h
/-- the value of an operand -/
def ev (tm : T AV) : Operand → AV
  | .tmp t => (tm.get t).getD .q
  | .const v => .c v
  | .global g => .c (.pointer (some ⟨g, 0, none⟩))
  | .func f => .c (.func (.func f) #[] #[])
/-- the slots are as described -/
def TR (σ : Sg) (tm : T AV) (a : Act) : Prop := ∀ t, VR σ ((tm.get t).getD .q) (a.tmps.getD t undef)
theorem TR.sub {σ τ : Sg} (h : Sub σ τ) {tm : T AV} {a : Act} (k : TR σ tm a) : TR τ tm a := fun t => (k t).sub h
theorem ev_ok {σ : Sg} {tm : T AV} {a : Act} (h : TR σ tm a) : ∀ x, VR σ (ev tm x) (a.eval x)
  | .tmp t => h t
  | .const v => .c v
  | .global g => .c _
  | .func f => .c _
theorem TR.put {σ : Sg} {tm : T AV} {a : Act} (h : TR σ tm a) {d : Tmp} (hd : d < a.tmps.size) {x : AV} {v : Value} (hv : VR σ x v) : TR σ (tm.set d (some x)) (a.put (some d) v) := by
  intro t
  have e := h t
  rw [T.get_set]
  simp only [Act.put, Array.getD_eq_getD_getElem?, Array.getElem?_setIfInBounds] at e ⊢
  by_cases ht : t = d
  · subst ht; simp [hd, hv]
  · rw [if_neg ht, if_neg (Ne.symm ht)]; exact e
def cev (tm : T AV) (x : Operand) : Value := ((ev tm x).val?).getD undef
theorem cev_ok {σ : Sg} {tm : T AV} {a : Act} (h : TR σ tm a) {x : Operand} (e : (ev tm x).val?.isSome = true) : cev tm x = a.eval x := by
  obtain ⟨v, hv⟩ := Option.isSome_iff_exists.1 e
  unfold cev; rw [hv, (ev_ok h x).val hv]; rfl
/-- what is called: a function; a round of a loop -/
inductive Tgt where
  | fn (f : FuncId)
  | yld (i : Nat)
/-- what an operation comes to: a value, the memory, the next name, the names whose objects turned; or a call -/
inductive Out where
  | val (v : AV) (h : Hp) (n : Nat) (u : List Nat)
  | call (f : Tgt) (args : List AV)
/-- package-level variables whose content is known -/
abbrev Gl := Nat → Option (List Value)
def GR (G : Gl) (B : Nat) (w : World) : Prop := ∀ g l, G g = some l → g < B ∧ ∀ j v, l[j]? = some v → w.cell? ⟨g, j, none⟩ = some v
theorem GR.step {G : Gl} {B : Nat} {w w' : World} (h : GR G B w) (hb : Below B w w') : GR G B w' := fun g l e =>
  ⟨(h g l e).1, fun j v k => (hb.cell (p := ⟨g, j, none⟩) (h g l e).1).trans ((h g l e).2 j v k)⟩
def Kept (h : Hp) (n n' : Nat) (h' : Hp) (u : List Nat) : Prop := ∀ i, (i < n ∨ n' ≤ i) → u.contains i = false → h'.get i = h.get i
theorem Kept.refl (h : Hp) (n n' : Nat) (u : List Nat) : Kept h n n' h u := fun _ _ _ => rfl
/-- what is shown of an operation that comes to a value -/
def Yields (P : Program) (s : Sem Next) (σ : Sg) (h : Hp) (n B : Nat) (w : World) (v : AV) (h' : Hp) (n' : Nat) : Prop :=
  ∃ τ w' v', (s.run P w = .ok (.value v') w' ∨ (s.run P w = .ok .skip w' ∧ v' = undef)) ∧ VR τ v v' ∧ Act1 σ h n B w τ h' n' w'
theorem Yields.same {P : Program} {s : Sem Next} {σ : Sg} {h : Hp} {n B : Nat} {w : World} {v : AV} {v' : Value} (r : Rel σ h B w) (e : s.run P w = .ok (.value v') w) (hv : VR σ v v') : Yields P s σ h n B w v h n :=
  ⟨σ, w, v', .inl e, hv, ActF.refl r⟩
/-- closed operands: the operation itself is run -/
def evClosed (P : Program) (tm : T AV) (h : Hp) (n : Nat) (o : Oper) : Option Out :=
  match o.op with
  | .select _ _ => none
  | _ => cond (o.op.operands.toList.all fun x => (ev tm x).val?.isSome)
    (match pureV P (execOp (cev tm) o) with
     | some (.value v) => some (.val (.c v) h n [])
     | some (.enter f args) => some (.call (.fn f) (args.toList.map .c))
     | _ => none) none
theorem closed_run {P : Program} {tm : T AV} {h : Hp} {n : Nat} {o : Oper} {x : Out} (e : evClosed P tm h n o = some x) {σ : Sg} {a : Act} (ht : TR σ tm a) (w : World) :
    (∃ v, x = .val (.c v) h n [] ∧ (execOp a.eval o).run P w = .ok (.value v) w) ∨ (∃ f args, x = .call (.fn f) (args.toList.map .c) ∧ (execOp a.eval o).run P w = .ok (.enter f args) w) := by
  unfold evClosed at e
  split at e
  · cases e
  · rename_i hs
    cases hc : (o.op.operands.toList.all fun x => (ev tm x).val?.isSome) <;> rw [hc] at e <;> simp only [cond] at e
    · cases e
    · have hx : ∀ x ∈ o.op.operands, cev tm x = a.eval x := fun x hx => cev_ok ht (by
        rw [List.all_eq_true] at hc; exact hc x (Array.mem_toList_iff.2 hx))
      rw [execOp_congr o (fun cs b h => hs cs b h) hx] at e
      split at e
      · rename_i v hv; cases e; exact Or.inl ⟨v, rfl, pureV_ok w _ hv⟩
      · rename_i f args hv; cases e; exact Or.inr ⟨f, args, rfl, pureV_ok w _ hv⟩
      · cases e
section ops
variable {P : Program} {tm : T AV} {h : Hp} {n B : Nat} {o : Oper} {σ : Sg} {a : Act} {w : World}
theorem sizeOf_run {t : TypeId} {i : TypeInfo} (hi : P.info? t = some i) : (sizeOf t).run P w = .ok i.size w := by simp [sizeOf, typeInfo, hi]
theorem zero_run {t : TypeId} {i : TypeInfo} {z : Value} (hi : P.info? t = some i) (hz : i.zero = some z) : (zeroValue t).run P w = .ok z w := by simp [zeroValue, typeInfo, hi, hz]
theorem und_run {t : TypeId} {d : TypeDesc} (hd : P.underlying t = some d) : (underlying t).run P w = .ok d w := by simp [underlying, hd]
def isAg : TypeDesc → Bool
  | .struct _ | .array _ _ => true
  | _ => false
theorem isAgg_run {t : TypeId} {d : TypeDesc} (hd : P.underlying t = some d) : (isAgg t).run P w = .ok (isAg d) w := by
  unfold isAgg; rw [Sem.run_bind, und_run hd]; cases d <;> rfl
/-- a new row of cells -/
theorem row_new (r : Rel σ h B w) (hB : B ≤ w.heap.size) (hn : σ n = none) {l : List AV} {l' : Array Value} (hl : VRs σ l l'.toList) (t : TypeId) :
    (newRow t l').run P w = .ok ⟨w.heap.size, 0, none⟩ (w.alloc (.cells l' t)) ∧ Act1 σ h n B w (ext σ n (w.heap.size, 0)) (h.set n (some (.cells l t none))) (n + 1) (w.alloc (.cells l' t)) := by
  refine ⟨by simp [newRow], act_new r hB hn (x := .cells l t none) ⟨l', rfl, ?_, ?_, ?_⟩⟩
  · have := hl.length; rw [this, List.take_length]; exact hl
  · have := hl.length; simp at this; omega
  · have := hl.length; simp at this; simp only [GrowR]; omega
def evAlloc (P : Program) (h : Hp) (n : Nat) (t : TypeId) : Option Out :=
  match P.info? t with
  | some i => match i.zero with
    | some z => some (.val (.p n 0) (h.set n (some (.cells (z.cells.toList.map .c) t none))) (n + 1) [])
    | none => none
  | none => none
theorem kept_set {h : Hp} {n : Nat} {x : Option AO} {u : List Nat} : Kept h n (n + 1) (h.set n x) u := fun i hi _ => by rw [T.get_set, if_neg (by omega)]
theorem evAlloc_ok {t : TypeId} (ho : o.op = .alloc t) {v : AV} {h' : Hp} {n' : Nat} {u : List Nat} (e : evAlloc P h n t = some (.val v h' n' u)) (ht : TR σ tm a) (r : Rel σ h B w) (hB : B ≤ w.heap.size) (hf : ∀ i, n ≤ i → i < n' → σ i = none) :
    Yields P (execOp a.eval o) σ h n B w v h' n' ∧ Kept h n n' h' u := by
  unfold evAlloc at e
  split at e
  · rename_i i hi
    split at e
    · rename_i z hz
      cases e
      have hr := row_new (P := P) (n := n) r hB (hf n (by omega) (by omega)) (VRs.cs z.cells.toList) t
      refine ⟨⟨_, _, _, .inl ?_, VR.p (b := w.heap.size) (k := 0) (by simp [ext]), hr.2⟩, kept_set⟩
      simp only [execOp, ho, Instr.alloc, Sem.run_bind, zero_run hi hz, Result.andThen_ok, newVar, hr.1, Sem.run_pure]
    · cases e
  · cases e
def evBox (h : Hp) (n : Nat) (t : TypeId) (x : AV) : Option Out := cond x.isQ none <| some (.val (.p n 0) (h.set n (some (.cells x.cells t none))) (n + 1) [])
theorem evBox_ok {t : TypeId} {x : Operand} (ho : o.op = .box t x) {v : AV} {h' : Hp} {n' : Nat} {u : List Nat} (e : evBox h n t (ev tm x) = some (.val v h' n' u)) (ht : TR σ tm a) (r : Rel σ h B w) (hB : B ≤ w.heap.size) (hf : ∀ i, n ≤ i → i < n' → σ i = none) :
    Yields P (execOp a.eval o) σ h n B w v h' n' ∧ Kept h n n' h' u := by
  unfold evBox at e
  cases hq : (ev tm x).isQ with
  | true => rw [hq] at e; simp [cond] at e
  | false =>
  rw [hq] at e
  simp only [cond, Option.some.injEq, Out.val.injEq] at e
  obtain ⟨rfl, rfl, rfl, rfl⟩ := e
  have hr := row_new (P := P) (n := n) r hB (hf n (by omega) (by omega)) (cells_ok (ev_ok ht x) hq) t
  refine ⟨⟨_, _, _, .inl ?_, VR.p (b := w.heap.size) (k := 0) (by simp [ext]), hr.2⟩, kept_set⟩
  simp only [execOp, ho, Instr.box, Sem.run_bind, Result.andThen_ok, newVar, hr.1, Sem.run_pure]
/-- cells of an object -/
theorem cell_at (r : Rel σ h B w) {i : Nat} {l : List AV} {t : TypeId} {g : Option Nat} (e : h.get i = some (.cells l t g)) {b kp : Nat} (hb : σ i = some (b, kp)) {j : Nat} {x : AV} (hj : l[j]? = some x) : ∃ v, w.cell? ⟨b, j, none⟩ = some v ∧ VR σ x v := by
  obtain ⟨c, kq, h1, h2, h3, arr, h4, h5, h6, h7⟩ := r.obj i _ e
  rw [hb] at h1; cases h1
  obtain ⟨v, hv, hr⟩ := h5.get hj
  refine ⟨v, ?_, hr⟩
  have hlt : j < l.length := by
    rcases Nat.lt_or_ge j l.length with h | h
    · exact h
    · rw [List.getElem?_eq_none h] at hj; cases hj
  rw [List.getElem?_take, if_pos hlt] at hv
  simp only [World.cell?, h4]
  simpa using hv
/-- what lies at a place: k cells from off on -/
def take? (l : List AV) (off k : Nat) : Option (List AV) := cond (Nat.ble (off + k) l.length) (some ((l.drop off).take k)) none
def objCells (h : Hp) (i : Nat) : Option (List AV) := match h.get i with
  | some (.cells l _ _) => some l
  | some (.ro l _) => some l
  | _ => none
theorem objCells_at (r : Rel σ h B w) {i : Nat} {l : List AV} (e : objCells h i = some l) {b kp : Nat} (hb : σ i = some (b, kp)) {j : Nat} {x : AV} (hj : l[j]? = some x) : ∃ v, w.cell? ⟨b, j, none⟩ = some v ∧ VR σ x v := by
  unfold objCells at e
  split at e
  · rename_i l2 t g hg; cases e; exact cell_at r hg hb hj
  · rename_i l2 t hg
    cases e
    obtain ⟨c, kq, h1, h2, h3, arr, fr, h4, h5, h6⟩ := r.obj i _ hg
    rw [hb] at h1; cases h1
    obtain ⟨v, hv, hr⟩ := h5.get hj
    refine ⟨v, ?_, hr⟩
    have hlt : j < l.length := by
      rcases Nat.lt_or_ge j l.length with h | h
      · exact h
      · rw [List.getElem?_eq_none h] at hj; cases hj
    rw [List.getElem?_take, if_pos hlt] at hv
    simp only [World.cell?, h4]
    simpa using hv
  · cases e
def loadAs (P : Program) (t : TypeId) (l : List AV) (off : Nat) : Option AV :=
  match P.underlying t with
  | some d => cond (isAg d) (match P.info? t with
      | some i => (take? l off i.size).map mkA
      | none => none) (l[off]?)
  | none => none
def cellsAt (G : Gl) (h : Hp) : AV → Option (List AV × Nat)
  | .p i off => (objCells h i).map (·, off)
  | .c (.pointer (some ⟨g, off, none⟩)) => (G g).map fun l => (l.map .c, off)
  | _ => none
theorem cellsAt_ok {G : Gl} (r : Rel σ h B w) (hG : GR G B w) {x : AV} {v : Value} (hx : VR σ x v) {l : List AV} {off : Nat} (e : cellsAt G h x = some (l, off)) : ∃ b, v = .pointer (some ⟨b, off, none⟩) ∧ ∀ j y, l[j]? = some y → ∃ u, w.cell? ⟨b, j, none⟩ = some u ∧ VR σ y u := by
  unfold cellsAt at e
  split at e
  · rename_i i o2
    cases hx with
    | p hb =>
      simp only [Option.map_eq_some_iff, Prod.mk.injEq] at e
      obtain ⟨l', hl, rfl, rfl⟩ := e
      exact ⟨_, rfl, fun j y hy => objCells_at r hl hb hy⟩
  · rename_i g o2
    cases hx with
    | c =>
      simp only [Option.map_eq_some_iff, Prod.mk.injEq] at e
      obtain ⟨l', hl, rfl, rfl⟩ := e
      refine ⟨g, rfl, fun j y hy => ?_⟩
      rw [List.getElem?_map] at hy
      cases hl' : l'[j]? with
      | none => rw [hl'] at hy; simp at hy
      | some u => rw [hl'] at hy; simp at hy; subst hy; exact ⟨u, (hG g l' hl).2 j u hl', .c u⟩
  · cases e
theorem loadAs_ok {l : List AV} {off b : Nat} {t : TypeId} {v : AV} (hc : ∀ j y, l[j]? = some y → ∃ u, w.cell? ⟨b, j, none⟩ = some u ∧ VR σ y u) (e : loadAs P t l off = some v) : ∃ u, (loadVar t ⟨b, off, none⟩).run P w = .ok u w ∧ VR σ v u := by
  unfold loadAs at e
  split at e
  · rename_i d hd
    cases hag : isAg d with
    | false =>
      simp only [hag, cond] at e
      obtain ⟨u, h1, h2⟩ := hc off v e
      refine ⟨u, ?_, h2⟩
      simp only [loadVar, Sem.run_bind, isAgg_run hd, hag, Result.andThen_ok, Bool.false_eq_true, if_false, run_load, h1]
    | true =>
      simp only [hag, cond] at e
      split at e
      · rename_i i hi
        simp only [take?, Option.map_eq_some_iff] at e
        obtain ⟨k, hk, rfl⟩ := e
        cases hle : Nat.ble (off + i.size) l.length with
        | false => rw [hle] at hk; simp [cond] at hk
        | true =>
          rw [hle] at hk
          simp only [cond, Option.some.injEq] at hk
          have hle' := Nat.le_of_ble_eq_true hle
          have key : ∀ (m q : Nat), off + q + m ≤ l.length → ∃ us : List Value, us.length = m ∧ VRs σ ((l.drop (off + q)).take m) us ∧ ∀ j v, us[j]? = some v → w.cell? ((⟨b, off, none⟩ : Addr).add (q + j)) = some v := by
            intro m
            induction m with
            | zero => intro q _; exact ⟨[], rfl, by simp; exact .nil, fun j v hv => by simp at hv⟩
            | succ m ih =>
              intro q hq
              obtain ⟨us, h1, h2, h3⟩ := ih (q + 1) (by omega)
              have hlt : off + q < l.length := by omega
              obtain ⟨u, hu, hr⟩ := hc (off + q) l[off + q] (List.getElem?_eq_getElem hlt)
              have hadd : ∀ z : Nat, ((⟨b, off, none⟩ : Addr).add z) = ⟨b, off + z, none⟩ := by intro z; unfold Addr.add; split <;> simp_all
              refine ⟨u :: us, by simp [h1], ?_, ?_⟩
              · rw [List.drop_eq_getElem_cons hlt, List.take_succ_cons]
                exact .cons hr (by simpa [Nat.add_assoc] using h2)
              · intro j v hv
                cases j with
                | zero => simp at hv; subst hv; rw [hadd]; simpa using hu
                | succ j => simp at hv; have := h3 j v hv; rwa [show q + (j + 1) = q + 1 + j by omega]
          obtain ⟨us, h1, h2, h3⟩ := key i.size 0 (by omega)
          subst hk
          refine ⟨.agg us.toArray, ?_, mkA_ok (by simpa using h2)⟩
          have := run_loadCells_list (P := P) w ⟨b, off, none⟩ us (fun j v hv => by simpa using h3 j v hv)
          rw [h1] at this
          simp only [loadVar, Sem.run_bind, isAgg_run hd, hag, Result.andThen_ok, if_true, sizeOf_run hi, this, Sem.run_pure]
      · cases e
  · cases e
def evLoad (P : Program) (G : Gl) (h : Hp) (n : Nat) (t : TypeId) (x : AV) : Option Out :=
  match cellsAt G h x with
  | some (l, off) => (loadAs P t l off).map fun v => .val v h n []
  | none => none
theorem evLoad_ok {G : Gl} {t : TypeId} {x : Operand} (ho : o.op = .load t x) {v : AV} {h' : Hp} {n' : Nat} {u : List Nat} (e : evLoad P G h n t (ev tm x) = some (.val v h' n' u)) (ht : TR σ tm a) (r : Rel σ h B w) (hG : GR G B w) :
    Yields P (execOp a.eval o) σ h n B w v h' n' ∧ Kept h n n' h' u := by
  unfold evLoad at e
  split at e
  · rename_i l off hl
    simp only [Option.map_eq_some_iff, Out.val.injEq] at e
    obtain ⟨v', hv, rfl, rfl, rfl, rfl⟩ := e
    obtain ⟨b, hb, hc⟩ := cellsAt_ok r hG (ev_ok ht x) hl
    obtain ⟨u', h1, h2⟩ := loadAs_ok (P := P) hc hv
    refine ⟨Yields.same r ?_ h2, Kept.refl _ _ _ _⟩
    simp only [execOp, ho, Instr.loadAt, hb, Instr.sureAddr, Sem.run_bind, Sem.run_pure, Result.andThen_ok, h1]
  · cases e
/-- a store -/
def evStore (P : Program) (h : Hp) (n : Nat) (t : TypeId) (x y : AV) : Option Out :=
  match x with
  | .p i off => match h.get i, P.info? t with
    | some (.cells l e g), some k => cond (Nat.beq y.cells.length k.size && Nat.ble (off + k.size) l.length && y.cells.all AV.one && !y.isQ)
      (some (.val (.c undef) (h.set i (some (.cells (l.take off ++ y.cells ++ l.drop (off + k.size)) e g))) n [i])) none
    | _, _ => none
  | _ => none
theorem evStore_ok {t : TypeId} {x y : Operand} (ho : o.op = .store t x y) {v : AV} {h' : Hp} {n' : Nat} {u : List Nat} (e : evStore P h n t (ev tm x) (ev tm y) = some (.val v h' n' u)) (ht : TR σ tm a) (r : Rel σ h B w) :
    Yields P (execOp a.eval o) σ h n B w v h' n' ∧ Kept h n n' h' u := by
  unfold evStore at e
  split at e
  · rename_i i off hx
    split at e
    · rename_i l e' g k hg hk
      cases hc : (Nat.beq (ev tm y).cells.length k.size && Nat.ble (off + k.size) l.length && (ev tm y).cells.all AV.one && !(ev tm y).isQ) with
      | false => rw [hc] at e; simp [cond] at e
      | true =>
        rw [hc] at e
        simp only [cond, Option.some.injEq, Out.val.injEq] at e
        obtain ⟨rfl, rfl, rfl, rfl⟩ := e
        simp only [Bool.and_eq_true] at hc
        obtain ⟨⟨⟨c1, c2⟩, c3⟩, c4⟩ := hc
        have c4 : (ev tm y).isQ = false := by simpa using c4
        have c1 := Nat.eq_of_beq_eq_true c1
        have c2 := Nat.le_of_ble_eq_true c2
        have hxv := ev_ok ht x
        rw [hx] at hxv
        cases hxe : a.eval x with
        | pointer p =>
          rw [hxe] at hxv
          cases hxv with
          | p hb =>
            rename_i b kap
            have hyv := ev_ok ht y
            have hcs := cells_ok hyv c4
            have hlen := hcs.length
            obtain ⟨c, kq, h1, h2, h3, arr, h4, h5, h6, h7⟩ := r.obj i _ hg
            rw [hb] at h1; cases h1
            have hrun := run_storeCells_at (P := P) b off e' (a.eval y).cells.toList 0 arr w h4 (by omega) (ones_ok hcs c3)
            simp only [Nat.add_zero] at hrun
            have hsz : (a.eval y).cells.size = k.size := by rw [← c1, hlen]; simp
            refine ⟨⟨σ, w.setRow b (List.take off arr.toList ++ (a.eval y).cells.toList ++ List.drop (off + (a.eval y).cells.toList.length) arr.toList).toArray, undef, .inr ⟨?_, rfl⟩, .c undef, ?_⟩, ?_⟩
            · simp only [execOp, ho, hxe, Instr.storeAt, Instr.sureAddr, Sem.run_bind, Sem.run_pure, Result.andThen_ok, storeVar, sizeOf_run hk, hsz, ne_eq, not_true_eq_false, if_false, hrun]
            · refine act_put r hg hb rfl rfl rfl (by simp [World.setRow]) ?_ ?_
              · intro k hk; exact setRow_other _ _ _ _ hk
              · refine ⟨_, setRow_heap w b arr _ e' _ h4, ?_, ?_, ?_⟩
                · have hl2 : (l.take off ++ (ev tm y).cells ++ l.drop (off + k.size)).length = l.length := by simp; omega
                  rw [hl2]
                  have e1 : (List.take off arr.toList ++ (a.eval y).cells.toList ++ List.drop (off + (a.eval y).cells.toList.length) arr.toList).take l.length = (arr.toList.take l.length).take off ++ (a.eval y).cells.toList ++ (arr.toList.take l.length).drop (off + k.size) := by
                    apply List.ext_getElem?
                    intro j
                    have hs1 : (a.eval y).cells.toList.length = k.size := by simpa using hsz
                    have hs2 : arr.toList.length = arr.size := by simp
                    simp only [List.getElem?_take, List.getElem?_append, List.length_append, List.length_take, List.getElem?_drop, hs1, hs2]
                    have m1 : min off arr.size = off := by omega
                    have m2 : min off (min l.length arr.size) = off := by omega
                    simp only [m1, m2]
                    by_cases q1 : j < l.length
                    · simp only [q1, if_true]
                      by_cases q2 : j < off + k.size
                      · simp only [q2, if_true]
                      · simp only [q2, if_false]
                        rw [if_pos (by omega)]
                    · simp only [q1, if_false]
                      rw [if_neg (by omega)]
                      symm
                      rw [if_neg (by omega)]
                  simp only
                  rw [e1]
                  exact ((h5.take off).append hcs).append (h5.drop (off + k.size))
                · have hs1 : (a.eval y).cells.toList.length = k.size := by simpa using hsz
                  simp; omega
                · have hs1 : (a.eval y).cells.toList.length = k.size := by simpa using hsz
                  cases g with
                  | none => simp only [GrowR] at h7 ⊢; simp; omega
                  | some kk => simp only [GrowR] at h7 ⊢; simp; omega
            · intro j hj hu
              rw [T.get_set, if_neg]
              intro e; subst e; simp at hu
        | _ => rw [hxe] at hxv; cases hxv
    · cases e
  · cases e
end ops
end Go.Proofs.YtmimihjbepjnfaaGreatDoor
