/- Running a closed program text by its own rules: a region in the order of its text. No condition. -/
import Derived.Test.YtmimihjbepjnfaaGreatDoorEvI
import Derived.AtR
namespace Go.Proofs.YtmimihjbepjnfaaGreatDoor
open Go Go.RowKit
set_option linter.unusedVariables false
def yA (ops : Array Oper) (tm : T AV) (j : Nat) : Option (Option Bool) :=
  match (ops[j]?).bind (·.dst) with
  | none => some none
  | some d => match tm.get d with
    | some (.c v) => some (match v with | .bool b => some b | _ => none)
    | _ => none
theorem yA_ok {σ : Sg} {ops : Array Oper} {tm : T AV} {j : Nat} {y : Option Bool} (e : yA ops tm j = some y) {a : Act} (ht : TR σ tm a) : yielded ops a.tmps j = y := by
  unfold yA at e
  unfold yielded
  cases hd : (ops[j]?).bind (·.dst) with
  | none => rw [hd] at e; cases e; rfl
  | some d =>
    rw [hd] at e
    simp only [Option.bind_some] at e ⊢
    have hv := ht d
    cases hg : tm.get d with
    | none => rw [hg] at e; cases e
    | some x =>
      rw [hg] at e hv
      simp only [Option.getD_some] at hv
      cases x with
      | c v =>
        simp only [Option.some.injEq] at e
        subst e
        generalize hu : a.tmps.getD d undef = uu at hv
        cases hv
        rw [Array.getD_eq_getD_getElem?] at hu
        cases hx : a.tmps[d]? with
        | none => rw [hx] at hu; simp only [Option.getD_none] at hu; subst hu; rfl
        | some q => rw [hx] at hu; simp only [Option.getD_some] at hu; subst hu; cases q <;> rfl
      | _ => cases e
def wA (ops : Array Oper) (tm : T AV) (o : Oper) : Option Bool :=
  match o.guard with
  | none => some true
  | some (j, want) => (yA ops tm j).map fun y => y == some want
theorem wA_ok {σ : Sg} {ops : Array Oper} {tm : T AV} {o : Oper} {b : Bool} (e : wA ops tm o = some b) {a : Act} (ht : TR σ tm a) : Region.wanted o (yielded ops a.tmps) = b := by
  unfold wA at e
  unfold Region.wanted
  cases hg : o.guard with
  | none => rw [hg] at e; cases e; rfl
  | some p =>
    obtain ⟨j, want⟩ := p
    rw [hg] at e
    simp only [Option.map_eq_some_iff] at e
    obtain ⟨y, hy, rfl⟩ := e
    simp only [yA_ok hy ht]
structure S1 where
  tm : T AV
  h : Hp
  n : Nat
  u : List Nat
abbrev KT := Tgt → List AV → Hp → Nat → Option (AV × Hp × Nat × List Nat)
def putD (sz : Nat) (dst : Option Tmp) (v : AV) (tm : T AV) : Option (T AV) :=
  match dst with
  | none => some tm
  | some d => cond (Nat.blt d sz) (some (tm.set d (some v))) none
theorem putD_ok {σ : Sg} {sz : Nat} {dst : Option Tmp} {v : AV} {tm tm' : T AV} (e : putD sz dst v tm = some tm') {a : Act} (ht : TR σ tm a) (hs : a.tmps.size = sz) {v' : Value} (hv : VR σ v v') : TR σ tm' (a.put dst v') := by
  unfold putD at e
  cases dst with
  | none => cases e; exact ht
  | some d =>
    simp only at e
    cases hc : Nat.blt d sz with
    | false => rw [hc] at e; cases e
    | true =>
      rw [hc] at e; cases e
      exact ht.put (by rw [hs]; exact Nat.le_of_ble_eq_true hc) hv
theorem put_sz (a : Act) (x : Option Tmp) (v : Value) : (a.put x v).tmps.size = a.tmps.size := by cases x <;> simp [Act.put]
theorem put_df (a : Act) (x : Option Tmp) (v : Value) : (a.put x v).defers = a.defers := by cases x <;> rfl
/-- names that are not those from n0 up to n', put together -/
def mrg (n0 n' : Nat) : List Nat → List Nat → List Nat
  | u, [] => u
  | u, i :: l => cond (Nat.ble n0 i && Nat.blt i n' || u.contains i) (mrg n0 n' u l) (mrg n0 n' (i :: u) l)
theorem mrg_no {n0 n' i : Nat} (hi : i < n0 ∨ n' ≤ i) : ∀ (l u : List Nat), (mrg n0 n' u l).contains i = false → u.contains i = false ∧ l.contains i = false
  | [], u, h => ⟨h, rfl⟩
  | j :: l, u, h => by
    simp only [mrg] at h
    cases hc : (Nat.ble n0 j && Nat.blt j n' || u.contains j) with
    | false =>
      rw [hc] at h
      have ih := mrg_no hi l (j :: u) h
      simp only [List.contains_cons, Bool.or_eq_false_iff] at ih ⊢
      exact ⟨ih.1.2, ih.1.1, ih.2⟩
    | true =>
      rw [hc] at h
      have ih := mrg_no hi l u h
      refine ⟨ih.1, ?_⟩
      simp only [List.contains_cons, Bool.or_eq_false_iff]
      refine ⟨?_, ih.2⟩
      cases hij : (i == j) with
      | false => rfl
      | true =>
        have hij := eq_of_beq hij
        subst hij
        simp only [Bool.or_eq_true, Bool.and_eq_true, Nat.ble_eq, Nat.blt_eq] at hc
        rcases hc with hc | hc
        · omega
        · rw [ih.1] at hc; cases hc
theorem Kept.step {h0 h h' : Hp} {n0 n n' : Nat} {u u' : List Nat} (k : Kept h0 n0 n h u) (k' : Kept h n n' h' u') (hn : n0 ≤ n) (hn' : n ≤ n') : Kept h0 n0 n' h' (mrg n0 n' u u') := fun i hi hu => by
  obtain ⟨h1, h2⟩ := mrg_no hi u' u hu
  rw [k' i (by omega) h2, k i (by omega) h1]
/-- one round of a range over a function -/
def Rounds (P : Program) (l : Nat) (f : FuncId) (tmps : Array Value) (as bd : Code) (w : World) (R : Value → World → Prop) : Prop :=
  ∀ (c : Frame) (cs : List Frame), ∃ v w', R v w' ∧ Steps P (lone (Frame.round l f tmps as bd .normal) (c :: cs) w) (lone (c.finish v) cs w')
def uponX (P : Program) (o : Oper) (a : Act) (next : Act → World → Prop) : Result Next → Prop
  | .ok (.value v) w' => next (a.put o.dst v) w'
  | .ok .skip w' => next (a.put o.dst undef) w'
  | .ok (.enter f args) w' => Calls P f args w' fun e w'' => ∃ v, e = .returned v ∧ next (a.put o.dst v) w''
  | .ok (.round l f tmps as bd) w' => Rounds P l f tmps as bd w' fun v w'' => next (a.put o.dst v) w''
  | _ => False
def stepX (P : Program) (ops : Array Oper) (o : Oper) (KK : Act → World → Prop) (a : Act) (w : World) : Prop :=
  (Region.wanted o (yielded ops a.tmps) = true ∧ (∀ c, o.op ≠ .defer c) ∧ uponX P o a KK ((execOp a.eval o).run P w)) ∨ (Region.wanted o (yielded ops a.tmps) = false ∧ KK (a.put o.dst undef) w)
def opX (P : Program) (ops : Array Oper) (i : Nat) (KK : Act → World → Prop) (a : Act) (w : World) : Prop :=
  match ops[i]? with
  | none => False
  | some o => stepX P ops o KK a w
def opsX (P : Program) (ops : Array Oper) (F : Act → World → Prop) : List Nat → Act → World → Prop
  | [] => F
  | i :: l => opX P ops i (opsX P ops F l)
def listX (P : Program) (ops : Array Oper) (F : Act → World → Prop) : List Oper → Act → World → Prop
  | [] => F
  | o :: l => stepX P ops o (listX P ops F l)
theorem opsX_eq {P : Program} {ops : Array Oper} {F : Act → World → Prop} : ∀ (l : List Oper) (k : Nat), (∀ j, l[j]? = ops[k + j]?) → opsX P ops F (List.range' k l.length) = listX P ops F l
  | [], k, _ => rfl
  | o :: l, k, h => by
    have h0 : ops[k]? = some o := by simpa using (h 0).symm
    have ih := opsX_eq (P := P) (F := F) l (k + 1) (fun j => by have := h (j + 1); simpa [Nat.add_assoc, Nat.add_comm 1 j] using this)
    funext a w
    simp only [List.length_cons, List.range'_succ, opsX, opX, h0, listX, ih]
theorem stepX_mono {P : Program} {ops : Array Oper} {o : Oper} {K K' : Act → World → Prop} (h : ∀ a w, K a w → K' a w) {a : Act} {w : World} (s : stepX P ops o K a w) : stepX P ops o K' a w := by
  rcases s with ⟨h1, h2, h3⟩ | ⟨h1, h2⟩
  · refine .inl ⟨h1, h2, ?_⟩
    generalize (execOp a.eval o).run P w = r at h3
    cases r with
    | halt x w' => exact h3.elim
    | ok x w' =>
      cases x with
      | value v => exact h _ _ h3
      | skip => exact h _ _ h3
      | enter f args => exact Calls.mono h3 fun e w2 ⟨v, q1, q2⟩ => ⟨v, q1, h _ _ q2⟩
      | round l f tmps as bd => exact fun c cs => let ⟨v, w2, q1, q2⟩ := h3 c cs; ⟨v, w2, h _ _ q1, q2⟩
      | _ => exact h3.elim
  · exact .inr ⟨h1, h _ _ h2⟩
theorem opX_mono {P : Program} {ops : Array Oper} {i : Nat} {K K' : Act → World → Prop} (h : ∀ a w, K a w → K' a w) {a : Act} {w : World} (s : opX P ops i K a w) : opX P ops i K' a w := by
  unfold opX at s ⊢
  split
  · rename_i e; rw [e] at s; exact s
  · rename_i o e; rw [e] at s; exact stepX_mono h s
theorem opX_sound {P : Program} {ops : Array Oper} {i : Nat} {K : Act → World → Prop} {a : Act} {w : World} (s : opX P ops i K a w) (b : Frame) (rest : List Nat) (k : List Item) (cs : List Frame) :
    ∃ a' w', K a' w' ∧ Steps P (lone (b.atR a (.inRegion ops (i :: rest) :: k)) cs w) (lone (b.atR a' (.inRegion ops rest :: k)) cs w') := by
  unfold opX at s
  split at s
  · exact s.elim
  · rename_i o ho
    rcases s with ⟨hw, hnd, h3⟩ | ⟨hw, h2⟩
    · have hg := stepGR_op (P := P) (b := b) (k := k) (cs := cs) (w := w) (rest := rest) ho hw
      rw [Oper.semAt_eq _ _ _ hnd] at hg
      have hfin : ∀ v, (b.atR a (.inRegion ops (i :: rest) :: k)).finish v = b.atR (a.put o.dst v) (.inRegion ops rest :: k) := by
        intro v; rw [Frame.finish_atR, ho]; rfl
      cases hr : (execOp a.eval o).run P w with
      | halt x w' => rw [hr] at h3; exact h3.elim
      | ok x w' =>
        rw [hr] at h3
        cases x with
        | value v =>
          refine ⟨_, _, h3, .one (step_lone_go ?_)⟩
          rw [hg, ← hfin]; simp [stepG.apply, hr]
        | skip =>
          refine ⟨_, _, h3, .one (step_lone_go ?_)⟩
          rw [hg, ← hfin]; simp [stepG.apply, hr]
        | enter f args =>
          obtain ⟨e, w'', fr, ⟨v, rfl, hK⟩, hsteps, _, hleave⟩ := h3 (b.atR a (.inRegion ops (i :: rest) :: k) :: cs)
          have henter : step P (lone (b.atR a (.inRegion ops (i :: rest) :: k)) cs w) = .next (lone (Frame.enter P f args .normal) (b.atR a (.inRegion ops (i :: rest) :: k) :: cs) w') :=
            step_lone_go (by rw [hg]; simp [stepG.apply, hr, Frame.atR])
          refine ⟨_, _, hK, .head henter (Steps.trans hsteps (.one ?_))⟩
          rw [← hfin]; exact step_leave_returned hleave
        | round l f tmps as bd =>
          obtain ⟨v, w'', hK, hsteps⟩ := h3 (b.atR a (.inRegion ops (i :: rest) :: k)) cs
          have henter : step P (lone (b.atR a (.inRegion ops (i :: rest) :: k)) cs w) = .next (lone (Frame.round l f tmps as bd .normal) (b.atR a (.inRegion ops (i :: rest) :: k) :: cs) w') :=
            step_lone_go (by rw [hg]; simp [stepG.apply, hr, Frame.atR])
          rw [hfin] at hsteps
          exact ⟨_, _, hK, .head henter hsteps⟩
        | _ => exact h3.elim
    · have hs := stepR_op_skip (P := P) (b := b) (a := a) (k := k) (cs := cs) (w := w) (ops := ops) (i := i) (rest := rest) (by simp [ho]; simpa using hw)
      simp only [ho, Option.bind_some] at hs
      exact ⟨_, _, h2, .one hs⟩
theorem opsX_sound {P : Program} {ops : Array Oper} {F : Act → World → Prop} : ∀ (l : List Nat) {a : Act} {w : World}, opsX P ops F l a w → ∀ (b : Frame) (k : List Item) (cs : List Frame), ∃ a' w', F a' w' ∧ Steps P (lone (b.atR a (.inRegion ops l :: k)) cs w) (lone (b.atR a' k) cs w')
  | [], a, w, h, b, k, cs => ⟨a, w, h, .one stepR_region_end⟩
  | i :: l, a, w, h, b, k, cs => by
    obtain ⟨a1, w1, h1, s1⟩ := opX_sound h b l k cs
    obtain ⟨a2, w2, h2, s2⟩ := opsX_sound l h1 b k cs
    exact ⟨a2, w2, h2, Steps.trans s1 s2⟩
def KOK (P : Program) (G : Gl) (B : Nat) (K : KT) : Prop := ∀ t args h n v h' n' u, K t args h n = some (v, h', n', u) → ∀ (σ : Sg) (w : World) (args' : Array Value), Rel σ h B w → GR G B w → B ≤ w.heap.size → (∀ i, n ≤ i → i < n' → σ i = none) → VRs σ args args'.toList →
  Kept h n n' h' u ∧ match t with
    | .fn f => Calls P f args' w fun e w' => ∃ τ v', e = .returned v' ∧ VR τ v v' ∧ Act1 σ h n B w τ h' n' w'
    | .yld i => ∀ b k, σ i = some (b, k) → ∃ f tmps as bd, (Instr.yield b args').run P w = .ok (.round b f tmps as bd) w ∧ Rounds P b f tmps as bd w fun v' w' => ∃ τ, VR τ v v' ∧ Act1 σ h n B w τ h' n' w'
def step1 (P : Program) (G : Gl) (K : KT) (ops : Array Oper) (sz n0 : Nat) (o : Oper) (s : S1) : Option S1 :=
  match wA ops s.tm o with
  | some false => (putD sz o.dst (.c undef) s.tm).map fun tm => ⟨tm, s.h, s.n, s.u⟩
  | some true => match evOp P G s.tm s.h s.n o with
    | some (.val v h n u) => cond (Nat.ble s.n n) ((putD sz o.dst v s.tm).map fun tm => ⟨tm, h, n, mrg n0 n s.u u⟩) none
    | some (.call f args) => match K f args s.h s.n with
      | some (v, h, n, u) => cond (Nat.ble s.n n) ((putD sz o.dst v s.tm).map fun tm => ⟨tm, h, n, mrg n0 n s.u u⟩) none
      | none => none
    | none => none
  | none => none
section
variable {P : Program} {G : Gl} {B : Nat} {K : KT} {ops : Array Oper} {sz n0 : Nat}
theorem step1_le {o : Oper} {s s' : S1} (e : step1 P G K ops sz n0 o s = some s') : s.n ≤ s'.n := by
  unfold step1 at e
  split at e
  · simp only [Option.map_eq_some_iff] at e
    obtain ⟨tm, _, rfl⟩ := e; exact Nat.le_refl _
  · split at e
    · rename_i v h n u _
      cases hc : Nat.ble s.n n with
      | false => rw [hc] at e; cases e
      | true =>
        rw [hc] at e; simp only [cond, Option.map_eq_some_iff] at e
        obtain ⟨tm, _, rfl⟩ := e; exact Nat.le_of_ble_eq_true hc
    · split at e
      · rename_i v h n u _
        cases hc : Nat.ble s.n n with
        | false => rw [hc] at e; cases e
        | true =>
          rw [hc] at e; simp only [cond, Option.map_eq_some_iff] at e
          obtain ⟨tm, _, rfl⟩ := e; exact Nat.le_of_ble_eq_true hc
      · cases e
    · cases e
  · cases e
theorem step1_ok (hP : NoNum P) (hK : KOK P G B K) {o : Oper} {s s' : S1} (e : step1 P G K ops sz n0 o s = some s') {σ : Sg} {a : Act} {w : World} (ht : TR σ s.tm a) (hs : a.tmps.size = sz) (r : Rel σ s.h B w) (hG : GR G B w) (hB : B ≤ w.heap.size) (hf : ∀ i, s.n ≤ i → i < s'.n → σ i = none)
    (KK : Act → World → Prop) (hKK : ∀ a' w' τ, TR τ s'.tm a' → Act1 σ s.h s.n B w τ s'.h s'.n w' → a'.tmps.size = sz → a'.defers = a.defers → KK a' w') :
    stepX P ops o KK a w ∧ (n0 ≤ s.n → ∀ h0, Kept h0 n0 s.n s.h s.u → Kept h0 n0 s'.n s'.h s'.u) ∧ (∃ a' w' τ, TR τ s'.tm a' ∧ Act1 σ s.h s.n B w τ s'.h s'.n w' ∧ a'.tmps.size = sz ∧ a'.defers = a.defers) := by
  unfold step1 at e
  split at e
  · rename_i hw
    simp only [Option.map_eq_some_iff] at e
    obtain ⟨tm, hp, rfl⟩ := e
    exact ⟨.inr ⟨wA_ok hw ht, hKK _ _ σ (putD_ok hp ht hs (.c _)) (ActF.refl r) ((put_sz _ _ _).trans hs) (put_df _ _ _)⟩, fun _ h0 k => k, ⟨_, _, σ, putD_ok hp ht hs (.c undef), ActF.refl r, (put_sz _ _ _).trans hs, put_df _ _ _⟩⟩
  · rename_i hw
    split at e
    · rename_i v h n u he
      cases hc : Nat.ble s.n n with
      | false => rw [hc] at e; cases e
      | true =>
        rw [hc] at e; simp only [cond, Option.map_eq_some_iff] at e
        obtain ⟨tm, hp, rfl⟩ := e
        obtain ⟨⟨τ, w', v', h1, h2, h3⟩, hk⟩ := evOp_val he ht r hG hB hf
        refine ⟨.inl ⟨wA_ok hw ht, noDefer he, ?_⟩, fun hn h0 k => k.step hk hn (Nat.le_of_ble_eq_true hc), ⟨_, _, τ, putD_ok hp (ht.sub h3.sub) hs h2, h3, (put_sz _ _ _).trans hs, put_df _ _ _⟩⟩
        rcases h1 with h1 | ⟨h1, h4⟩
        · rw [h1]
          exact hKK _ _ τ (putD_ok hp (ht.sub h3.sub) hs h2) h3 ((put_sz _ _ _).trans hs) (put_df _ _ _)
        · subst h4
          rw [h1]
          exact hKK _ _ τ (putD_ok hp (ht.sub h3.sub) hs h2) h3 ((put_sz _ _ _).trans hs) (put_df _ _ _)
    · rename_i f args he
      split at e
      · rename_i v h n u hk
        cases hc : Nat.ble s.n n with
        | false => rw [hc] at e; cases e
        | true =>
          rw [hc] at e; simp only [cond, Option.map_eq_some_iff] at e
          obtain ⟨tm, hp, rfl⟩ := e
          have hc2 := evOp_call hP he ht w
          cases f with
          | fn f =>
            obtain ⟨args', h1, h2⟩ := hc2
            obtain ⟨k1, k2⟩ := hK (.fn f) args _ _ _ _ _ _ hk σ w args' r hG hB hf h2
            have hex : ∃ a' w' τ, TR τ tm a' ∧ Act1 σ s.h s.n B w τ h n w' ∧ a'.tmps.size = sz ∧ a'.defers = a.defers := by
              obtain ⟨e, w', fr, ⟨τ, v', _, h4, h5⟩, _⟩ := k2 []
              exact ⟨_, _, τ, putD_ok hp (ht.sub h5.sub) hs h4, h5, (put_sz _ _ _).trans hs, put_df _ _ _⟩
            refine ⟨.inl ⟨wA_ok hw ht, noDefer he, ?_⟩, fun hn h0 k => k.step k1 hn (Nat.le_of_ble_eq_true hc), hex⟩
            rw [h1]
            refine Calls.mono k2 ?_
            rintro e w' ⟨τ, v', rfl, h4, h5⟩
            exact ⟨v', rfl, hKK _ _ τ (putD_ok hp (ht.sub h5.sub) hs h4) h5 ((put_sz _ _ _).trans hs) (put_df _ _ _)⟩
          | yld i =>
            obtain ⟨args', b, kp, h0, h1, h2⟩ := hc2
            obtain ⟨k1, k2⟩ := hK (.yld i) args _ _ _ _ _ _ hk σ w args' r hG hB hf h2
            obtain ⟨f', tmps, as, bd, k3, k4⟩ := k2 b kp h0
            have hex : ∃ a' w' τ, TR τ tm a' ∧ Act1 σ s.h s.n B w τ h n w' ∧ a'.tmps.size = sz ∧ a'.defers = a.defers := by
              obtain ⟨v', w', ⟨τ, h4, h5⟩, _⟩ := k4 default []
              exact ⟨_, _, τ, putD_ok hp (ht.sub h5.sub) hs h4, h5, (put_sz _ _ _).trans hs, put_df _ _ _⟩
            refine ⟨.inl ⟨wA_ok hw ht, noDefer he, ?_⟩, fun hn h0 k => k.step k1 hn (Nat.le_of_ble_eq_true hc), hex⟩
            rw [h1, k3]
            intro c cs
            obtain ⟨v', w', ⟨τ, h4, h5⟩, h6⟩ := k4 c cs
            exact ⟨v', w', hKK _ _ τ (putD_ok hp (ht.sub h5.sub) hs h4) h5 ((put_sz _ _ _).trans hs) (put_df _ _ _), h6⟩
      · cases e
    · cases e
  · cases e
def runOps (P : Program) (G : Gl) (K : KT) (ops : Array Oper) (sz n0 : Nat) : List Oper → S1 → Option S1
  | [], s => some s
  | o :: l, s => match step1 P G K ops sz n0 o s with
    | some s' => runOps P G K ops sz n0 l s'
    | none => none
theorem runOps_le : ∀ {l : List Oper} {s s' : S1}, runOps P G K ops sz n0 l s = some s' → s.n ≤ s'.n
  | [], s, s', e => by cases e; exact Nat.le_refl _
  | o :: l, s, s', e => by
    simp only [runOps] at e
    split at e
    · rename_i s1 h1; exact Nat.le_trans (step1_le h1) (runOps_le e)
    · cases e
theorem runOps_ok (hP : NoNum P) (hK : KOK P G B K) : ∀ {l : List Oper} {s s' : S1}, runOps P G K ops sz n0 l s = some s' → ∀ {σ : Sg} {a : Act} {w : World}, TR σ s.tm a → a.tmps.size = sz → Rel σ s.h B w → GR G B w → B ≤ w.heap.size → (∀ i, s.n ≤ i → i < s'.n → σ i = none) →
    ∀ (F : Act → World → Prop), (∀ a' w' τ, TR τ s'.tm a' → Act1 σ s.h s.n B w τ s'.h s'.n w' → a'.tmps.size = sz → a'.defers = a.defers → F a' w') → listX P ops F l a w ∧ (n0 ≤ s.n → ∀ h0, Kept h0 n0 s.n s.h s.u → Kept h0 n0 s'.n s'.h s'.u)
  | [], s, s', e, σ, a, w, ht, hs, r, hG, hB, hf, F, hQ => by
    cases e
    exact ⟨hQ _ _ σ ht (ActF.refl r) hs rfl, fun _ _ k => k⟩
  | o :: l, s, s', e, σ, a, w, ht, hs, r, hG, hB, hf, F, hQ => by
    simp only [runOps] at e
    split at e
    · rename_i s1 h1
      have hle := step1_le h1
      have hle2 := runOps_le e
      have rest := fun (a' : Act) (w' : World) (τ : Sg) (t1 : TR τ s1.tm a') (t2 : Act1 σ s.h s.n B w τ s1.h s1.n w') (t3 : a'.tmps.size = sz) (t4 : a'.defers = a.defers) =>
        runOps_ok hP hK e t1 t3 t2.rel (hG.step (t2.below r hB)) (Nat.le_trans hB t2.fr.size) (fun i hi hi2 => by
          cases hx : τ i with
          | none => rfl
          | some q =>
            rcases t2.dom i (by simp [hx]) with h | h
            · rw [hf i (by omega) hi2] at h; cases h
            · omega) F (fun a2 w2 υ u1 u2 u3 u4 => hQ a2 w2 υ u1 (t2.trans u2) u3 (u4.trans t4))
      have st := step1_ok hP hK h1 ht hs r hG hB (fun i hi hi2 => hf i hi (by omega)) (listX P ops F l) (fun a' w' τ t1 t2 t3 t4 => (rest a' w' τ t1 t2 t3 t4).1)
      refine ⟨?_, ?_⟩
      · exact st.1
      · intro hn h0 k
        obtain ⟨a', w', τ, t1, t2, t3, t4⟩ := st.2.2
        exact (rest a' w' τ t1 t2 t3 t4).2 (Nat.le_trans hn hle) h0 (st.2.1 hn h0 k)
    · cases e
end
end Go.Proofs.YtmimihjbepjnfaaGreatDoor
