/- Running a closed program text by its own rules: append, lengths, rows that are made. No condition. -/
import Derived.Test.YtmimihjbepjnfaaGreatDoorEvD
namespace Go.Proofs.YtmimihjbepjnfaaGreatDoor
open Go Go.RowKit
set_option linter.unusedVariables false
def pureA (P : Program) {α : Type} : Sem α → Option α
  | .pure x => some x
  | .program k => pureA P (k P)
  | .mark _ k => pureA P k
  | _ => none
theorem pureA_ok {P : Program} {α : Type} {x : α} (w : World) : ∀ (s : Sem α), pureA P s = some x → s.run P w = .ok x w
  | .pure y, h => by simp only [pureA, Option.some.injEq] at h; subst h; rfl
  | .program k, h => by simp only [pureA] at h; simp only [Sem.run]; exact pureA_ok w (k P) h
  | .mark m k, h => by simp only [pureA] at h; simp only [Sem.run]; exact pureA_ok w k h
  | .choose .., h => by simp [pureA] at h
  | .load .., h => by simp [pureA] at h
  | .store .., h => by simp [pureA] at h
  | .new .., h => by simp [pureA] at h
  | .shape .., h => by simp [pureA] at h
  | .freeze .., h => by simp [pureA] at h
  | .frozen .., h => by simp [pureA] at h
  | .getObj .., h => by simp [pureA] at h
  | .setObj .., h => by simp [pureA] at h
  | .sys .., h => by simp [pureA] at h
  | .halt .., h => by simp [pureA] at h
section ops
variable {P : Program} {tm : T AV} {h : Hp} {n B : Nat} {o : Oper} {σ : Sg} {a : Act} {w : World}
theorem builtin_run {c : Call} {b : Builtin} (ho : o.op = .call c) (hc : c.callee = .builtin b) : ∃ consts, execOp a.eval o = builtin b c.argTypes o.type consts (c.args.map a.eval) := by
  refine ⟨c.args.map fun | .const _ => true | _ => false, ?_⟩
  simp only [execOp, ho, resolve, hc, invoke, bind, Sem.bind, pure]
  rfl
/-- the cells of what is appended -/
def srcOf (h : Hp) (k : Nat) : AV → Option (List AV × Nat)
  | .s j off n _ => match objCells h j with
    | some l => (take? l off (n * k)).map (·, n)
    | none => none
  | .c (.string s) => cond (Nat.beq k 1) (some ((((s.extract 0 s.size).data.map fun b => Value.int .u8 b.toNat).toList).map .c, s.size)) none
  | .c (.slice none 0 _) => some ([], 0)
  | .z => some ([], 0)
  | _ => none
theorem srcOf_ok (r : Rel σ h B w) {k : Nat} {x : AV} {v : Value} (hx : VR σ x v) {xs : List AV} {m : Nat} (e : srcOf h k x = some (xs, m)) :
    ∃ news : List Value, (∀ w', (Builtin.lenOf v).run P w' = .ok m w') ∧ (∀ w', w'.heap = w.heap → (Builtin.firstCells k m v).run P w' = .ok news.toArray w') ∧ VRs σ xs news := by
  unfold srcOf at e
  split at e
  · rename_i j off q cp
    cases hx with
    | s hb hl hcp =>
      rename_i b kap cq
      split at e
      · rename_i l hl'
        simp only [Option.map_eq_some_iff, Prod.mk.injEq] at e
        obtain ⟨ys, hys, rfl, rfl⟩ := e
        unfold take? at hys
        cases hle : Nat.ble (off + q * k) l.length with
        | false => rw [hle] at hys; simp [cond] at hys
        | true =>
          rw [hle] at hys
          simp only [cond, Option.some.injEq] at hys
          subst hys
          have hc : ∀ j' y, l[j']? = some y → ∃ u, w.cell? ⟨b, j', none⟩ = some u ∧ VR σ y u := by
            exact fun j' y hy => objCells_at r hl' hb hy
          obtain ⟨us, h1, h2, h3⟩ := cells_read (P := P) hc (q * k) off (Nat.le_of_ble_eq_true hle)
          refine ⟨us, fun w' => rfl, fun w' hw' => ?_, h2⟩
          have hc' : ∀ j' y, l[j']? = some y → ∃ u, w'.cell? ⟨b, j', none⟩ = some u ∧ VR σ y u := fun j' y hy => by
            obtain ⟨u, h5, h6⟩ := hc j' y hy
            refine ⟨u, ?_, h6⟩
            unfold World.cell? at h5 ⊢; rw [hw']; exact h5
          have same : ∀ (m i : Nat) (acc : Array Value) (r1 : Array Value), (loadCellsFrom ⟨b, off, none⟩ i m acc).run P w = .ok r1 w → (∀ j', j' < m → (w.cell? ((⟨b, off, none⟩ : Addr).add (i + j'))).isSome) → (loadCellsFrom ⟨b, off, none⟩ i m acc).run P w' = .ok r1 w' := by
            intro m
            induction m with
            | zero => intro i acc r1 hr _; simp only [loadCellsFrom] at hr ⊢; cases hr; rfl
            | succ m ih =>
              intro i acc r1 hr hs
              have h0 := hs 0 (by omega)
              obtain ⟨u, hu⟩ := Option.isSome_iff_exists.1 h0
              have hu' : w'.cell? ((⟨b, off, none⟩ : Addr).add (i + 0)) = some u := by unfold World.cell? at hu ⊢; rw [hw']; exact hu
              simp only [Nat.add_zero] at hu hu'
              simp only [loadCellsFrom, Sem.run_bind, run_load, hu, hu', Result.andThen_ok] at hr ⊢
              exact ih (i + 1) _ r1 hr (fun j' hj' => by have := hs (j' + 1) (by omega); rwa [show i + (j' + 1) = i + 1 + j' by omega] at this)
          simp only [Builtin.firstCells, loadCells]
          refine same (q * k) 0 #[] us.toArray (by simpa [loadCells] using h3) fun j' hj' => ?_
          have hlt : off + j' < l.length := by have := Nat.le_of_ble_eq_true hle; omega
          obtain ⟨u, h5, _⟩ := hc (off + j') l[off + j'] (List.getElem?_eq_getElem hlt)
          rw [Nat.zero_add, add_at, h5]; rfl
      · cases e
  · rename_i s
    cases hx
    cases hk : Nat.beq k 1 with
    | false => rw [hk] at e; simp [cond] at e
    | true =>
      rw [hk] at e
      simp only [cond, Option.some.injEq, Prod.mk.injEq] at e
      obtain ⟨rfl, rfl⟩ := e
      refine ⟨((s.extract 0 s.size).data.map fun b => Value.int .u8 b.toNat).toList, fun w' => rfl, fun w' _ => ?_, VRs.cs _⟩
      simp only [Builtin.firstCells, Sem.run_pure, Array.toArray_toList]
  · cases hx
    cases e
    exact ⟨[], fun w' => rfl, fun w' _ => rfl, .nil⟩
  · cases hx
    cases e
    refine ⟨[], fun w' => rfl, fun w' _ => ?_, .nil⟩
    simp [Builtin.firstCells, loadCells, loadCellsFrom]
  · cases e
/-- the cells of zeros behind -/
def zerosOk (i : TypeInfo) (z : Value) : Bool := Nat.beq z.cells.size i.size && !Nat.beq i.size 0
/-- append: what comes of it -/
def evAppendTo (h : Hp) (n : Nat) (el : TypeId) (k : Nat) (x : AV) (ys : List AV) (m : Nat) : Option Out :=
  match x with
  | .c (.slice none 0 0) => some (.val (.s n 0 m .all) (h.set n (some (.cells ys el (some k)))) (n + 1) [])
  | .s i off len cp => match h.get i with
    | some (.cells l t g) => cond (Nat.ble (off + len * k) l.length && Nat.ble len 16777216)
      (match cp with
      | .num c => cond (Nat.ble (len + m) c)
        (cond (Nat.ble (off + (len + m) * k) l.length && ys.all AV.one) (some (.val (.s i off (len + m) (.num c)) (h.set i (some (.cells (l.take (off + len * k) ++ ys ++ l.drop (off + len * k + m * k)) t g))) n [i])) none)
        (some (.val (.s n 0 (len + m) .all) (h.set n (some (.cells ((l.drop off).take (len * k) ++ ys) el (some k)))) (n + 1) []))
      | .all => match g with
        | some k' => cond (Nat.beq k' k && Nat.beq t el && Nat.beq off 0 && ys.all AV.one) (some (.val (.s n 0 (len + m) .all) ((h.set i none).set n (some (.cells (l.take (len * k) ++ ys) el (some k)))) (n + 1) [i])) none
        | none => none
      | .unk => none) none
    | _ => none
  | _ => none
def evAppend (P : Program) (h : Hp) (n : Nat) (ts : Array TypeId) (xs : List AV) : Option Out :=
  match ts[0]?, ts[1]?, xs with
  | some t0, some t1, [x, y] => match P.underlying t0, P.underlying t1 with
    | some (.slice el), some d1 => match d1 with
      | .int _ => none
      | _ => match P.info? el with
        | some i => match i.zero, srcOf h i.size y with
          | some z, some (ys, m) => cond (zerosOk i z && Nat.beq ys.length (m * i.size) && Nat.ble m 16777216 && Nat.ble i.bytes 4096)
            (cond (Nat.beq m 0) none (evAppendTo h n el i.size x ys m)) none
          | _, _ => none
        | none => none
    | _, _ => none
  | _, _, _ => none
theorem zerosLen (z : Array Value) (m : Nat) : (Builtin.zeroCells z m).size = m * z.size := by simp [Builtin.zeroCells]
/-- a row that has grown elsewhere -/
theorem append_far {t0 t1 el ty : TypeId} {d1 : TypeDesc} (h0 : P.underlying t0 = some (.slice el)) (h1 : P.underlying t1 = some d1) (hd : ∀ k, d1 ≠ .int k) {i : TypeInfo} (hi : P.info? el = some i) {z : Value} (hz : i.zero = some z) (hzo : zerosOk i z = true)
    {base : Option Addr} {len cp m : Nat} {y : Value} {olds news : List Value} (hfar : ¬ len + m ≤ cp) (hlen : len + m ≤ 33554432) (hby : i.bytes ≤ 4096)
    (hy1 : ∀ w', (Builtin.lenOf y).run P w' = .ok m w') (hy2 : ∀ w', w'.heap = w.heap → (Builtin.firstCells i.size m y).run P w' = .ok news.toArray w')
    (ho2 : ∀ w', w'.heap = w.heap → (Builtin.firstCells i.size len (.slice base len cp)).run P w' = .ok olds.toArray w') (hl1 : olds.length = len * i.size) (hl2 : news.length = m * i.size) :
    ∃ kap rest, len + m ≤ kap ∧ (olds ++ news ++ rest).length = kap * i.size ∧ (Builtin.append_ #[t0, t1] ty #[.slice base len cp, y]).run P w = .ok (.slice (some ⟨w.heap.size, 0, none⟩) (len + m) kap) (({ w with drawn := w.drawn + 1 } : World).alloc (.cells (olds ++ news ++ rest).toArray el)) := by
  have hn1 : ¬ (((len + m : Nat) : Int) > IntKind.i64.max ∧ (False ∨ i.bytes = 0)) := by
    intro hh
    have : IntKind.i64.max = 9223372036854775807 := rfl
    rw [this] at hh; omega
  have hn2 : ¬ (Builtin.nextslicecap (len + m) cp * i.bytes > 2 ^ 48) := by
    have := growslice_fits (need := len + m) (old := cp) (bytes := i.bytes) (by omega) (by
      have : (len + m) * i.bytes ≤ 33554432 * 4096 := Nat.mul_le_mul hlen hby
      omega)
    omega
  have hq : (Question.appendCap (len + m) cp el).forced = false := rfl
  simp only [zerosOk, Bool.and_eq_true] at hzo
  have hzs := Nat.eq_of_beq_eq_true hzo.1
  refine ⟨Question.cut (.appendCap (len + m) cp el) (w.tape w.drawn (.appendCap (len + m) cp el)), (Builtin.zeroCells z.cells (Question.cut (.appendCap (len + m) cp el) (w.tape w.drawn (.appendCap (len + m) cp el)) - (len + m))).toList, ?_, ?_, ?_⟩
  · simp only [Question.cut]; omega
  · simp only [List.length_append, Array.length_toList, zerosLen, hzs, hl1, hl2]
    generalize hK : Question.cut (.appendCap (len + m) cp el) (w.tape w.drawn (.appendCap (len + m) cp el)) = K
    have hKle : len + m ≤ K := by rw [← hK]; simp only [Question.cut]; omega
    rw [← Nat.add_mul, ← Nat.add_mul]
    congr 1; omega
  · have hkind : ∀ (α : Type) (f g : α), (match d1 with | .int _ => f | _ => g) = g := by
      intro α f g
      cases d1 <;> first | rfl | exact absurd rfl (hd _)
    have hmt : (match d1 with | .int _ => true | _ => false) = false := by
      cases d1 <;> first | rfl | exact absurd rfl (hd _)
    have hz0 : ∀ w', (zeroValue el).run P w' = .ok z w' := fun w' => zero_run hi hz
    have hs0 : ∀ w', (sizeOf el).run P w' = .ok i.size w' := fun w' => sizeOf_run hi
    have ht0 : ∀ w', (typeInfo el).run P w' = .ok i w' := fun w' => by simp [typeInfo, hi]
    simp only [Builtin.append_, List.getElem?_toArray, List.getElem?_cons_zero, List.getElem?_cons_succ, Sem.run_bind, und_run h0, und_run h1, Result.andThen_ok, hs0, Sem.run_pure, Bool.false_eq_true, if_false, hy1, hfar, ht0, hn1, hn2, run_choose, hq, hz0, run_askRoom, ho2 { w with drawn := w.drawn + 1 } rfl, hy2 { w with drawn := w.drawn + 1 } rfl, Bool.not_false, if_true, newRow, run_newObj]
    simp
    generalize Builtin.zeroCells z.cells _ = Z
    have hA : ((olds ++ news).toArray ++ Z) = (olds ++ (news ++ Z.toList)).toArray := by apply Array.ext'; simp
    rw [hA]
    rfl
end ops
end Go.Proofs.YtmimihjbepjnfaaGreatDoor
