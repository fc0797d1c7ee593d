/- Running a closed program text by its own rules: a region in the order of its text. No condition.
   Running a closed program text by its own rules: a region that draws its order, all orders at once: frames and orders. No condition.
   Running a closed program text by its own rules: a region that draws its order. No condition.
   Running a closed program text by its own rules: what is computed of a region that draws its order. No condition.
   Running a closed program text by its own rules: what was computed of a region that draws its order holds of every order. No condition.
   Running a closed program text by its own rules: a whole call. No condition.
   Running a closed program text by its own rules: what the rules say of a call, the program does. No condition.
   Running a closed program text by its own rules: the theorem. No condition.
   Running a closed program text by its own rules: the same rules, written so that they are computed in small steps. No condition. -/
import Derived.Test.YtcpifmhcebfglaaEvX
import Derived.AtR
import Derived.RangeFuncIn
namespace Go.Proofs.Ytcpifmhcebfglaa
open Go Go.RowKit
set_option linter.unusedVariables false
def yA (ops : Array Oper) (tm : T AV) (j : Nat) : Option (Option Bool) :=
  match (ops[j]?).bind (·.dst) with
  | none => some none
  | some d => match tm.get d with
    | some (.c v) => some (match v with | .bool b => some b | _ => none)
    | _ => none
theorem yA_ok {σ : Sg} {ops : Array Oper} {tm : T AV} {j : Nat} {y : Option Bool} (e : yA ops tm j = some y) {a : Act} (ht : TRE σ tm a) : yielded ops a.tmps j = y := by
  unfold yA at e
  unfold yielded
  cases hd : (ops[j]?).bind (·.dst) with
  | none => rw [hd] at e; cases e; rfl
  | some d =>
    rw [hd] at e
    simp only [Option.bind_some] at e ⊢
    have hv := ht d
    cases hg : tm.get d with
    | none => rw [hg] at e; cases e
    | some x =>
      rw [hg] at e hv
      simp only [Option.getD_some] at hv
      cases x with
      | c v =>
        simp only [Option.some.injEq] at e
        subst e
        generalize hu : a.tmps.getD d undef = uu at hv
        cases hv
        rw [Array.getD_eq_getD_getElem?] at hu
        cases hx : a.tmps[d]? with
        | none => rw [hx] at hu; simp only [Option.getD_none] at hu; subst hu; rfl
        | some q => rw [hx] at hu; simp only [Option.getD_some] at hu; subst hu; cases q <;> rfl
      | _ => cases e
def wA (ops : Array Oper) (tm : T AV) (o : Oper) : Option Bool :=
  match o.guard with
  | none => some true
  | some (j, want) => (yA ops tm j).map fun y => y == some want
theorem wA_ok {σ : Sg} {ops : Array Oper} {tm : T AV} {o : Oper} {b : Bool} (e : wA ops tm o = some b) {a : Act} (ht : TRE σ tm a) : Region.wanted o (yielded ops a.tmps) = b := by
  unfold wA at e
  unfold Region.wanted
  cases hg : o.guard with
  | none => rw [hg] at e; cases e; rfl
  | some p =>
    obtain ⟨j, want⟩ := p
    rw [hg] at e
    simp only [Option.map_eq_some_iff] at e
    obtain ⟨y, hy, rfl⟩ := e
    simp only [yA_ok hy ht]
structure S1 where
  tm : T AV
  h : Hp
  n : Nat
  u : List Nat
abbrev KT := Tgt → List AV → Hp → Nat → Option (AV × Hp × Nat × List Nat)
def putD (sz : Nat) (dst : Option Tmp) (v : AV) (tm : T AV) : Option (T AV) :=
  match dst with
  | none => some tm
  | some d => cond (Nat.blt d sz) (some (tm.set d (some v))) none
theorem putD_ok {σ : Sg} {sz : Nat} {dst : Option Tmp} {v : AV} {tm tm' : T AV} (e : putD sz dst v tm = some tm') {a : Act} (ht : TRE σ tm a) (hs : a.tmps.size = sz) {v' : Value} (hv : VR σ v v') : TRE σ tm' (a.put dst v') := by
  unfold putD at e
  cases dst with
  | none => cases e; exact ht
  | some d =>
    simp only at e
    cases hc : Nat.blt d sz with
    | false => rw [hc] at e; cases e
    | true =>
      rw [hc] at e; cases e
      exact ht.put (by rw [hs]; exact Nat.le_of_ble_eq_true hc) hv
theorem put_sz (a : Act) (x : Option Tmp) (v : Value) : (a.put x v).tmps.size = a.tmps.size := by cases x <;> simp [Act.put]
theorem put_df (a : Act) (x : Option Tmp) (v : Value) : (a.put x v).defers = a.defers := by cases x <;> rfl
/-- names that are not those from n0 up to n', put together -/
def mrg (n0 n' : Nat) : List Nat → List Nat → List Nat
  | u, [] => u
  | u, i :: l => cond (Nat.ble n0 i && Nat.blt i n' || u.contains i) (mrg n0 n' u l) (mrg n0 n' (i :: u) l)
theorem mrg_no {n0 n' i : Nat} (hi : i < n0 ∨ n' ≤ i) : ∀ (l u : List Nat), (mrg n0 n' u l).contains i = false → u.contains i = false ∧ l.contains i = false
  | [], u, h => ⟨h, rfl⟩
  | j :: l, u, h => by
    simp only [mrg] at h
    cases hc : (Nat.ble n0 j && Nat.blt j n' || u.contains j) with
    | false =>
      rw [hc] at h
      have ih := mrg_no hi l (j :: u) h
      simp only [List.contains_cons, Bool.or_eq_false_iff] at ih ⊢
      exact ⟨ih.1.2, ih.1.1, ih.2⟩
    | true =>
      rw [hc] at h
      have ih := mrg_no hi l u h
      refine ⟨ih.1, ?_⟩
      simp only [List.contains_cons, Bool.or_eq_false_iff]
      refine ⟨?_, ih.2⟩
      cases hij : (i == j) with
      | false => rfl
      | true =>
        have hij := eq_of_beq hij
        subst hij
        simp only [Bool.or_eq_true, Bool.and_eq_true, Nat.ble_eq, Nat.blt_eq] at hc
        rcases hc with hc | hc
        · omega
        · rw [ih.1] at hc; cases hc
theorem KeptE.step {h0 h h' : Hp} {n0 n n' : Nat} {u u' : List Nat} (k : KeptE h0 n0 n h u) (k' : KeptE h n n' h' u') (hn : n0 ≤ n) (hn' : n ≤ n') : KeptE h0 n0 n' h' (mrg n0 n' u u') := fun i hi hu => by
  obtain ⟨h1, h2⟩ := mrg_no hi u' u hu
  rw [k' i (by omega) h2, k i (by omega) h1]
/-- one round of a range over a function -/
def Rounds (P : Program) (l : Nat) (f : FuncId) (tmps : Array Value) (as bd : Code) (w : World) (R : Value → World → Prop) : Prop :=
  ∀ (c : Frame) (cs : List Frame), ∃ v w', R v w' ∧ Steps P (lone (Frame.round l f tmps as bd .normal) (c :: cs) w) (lone (c.finish v) cs w')
def uponX (P : Program) (o : Oper) (a : Act) (next : Act → World → Prop) : Result Next → Prop
  | .ok (.value v) w' => next (a.put o.dst v) w'
  | .ok .skip w' => next (a.put o.dst undef) w'
  | .ok (.enter f args) w' => Calls P f args w' fun e w'' => ∃ v, e = .returned v ∧ next (a.put o.dst v) w''
  | .ok (.round l f tmps as bd) w' => Rounds P l f tmps as bd w' fun v w'' => next (a.put o.dst v) w''
  | _ => False
def stepX (P : Program) (ops : Array Oper) (o : Oper) (KK : Act → World → Prop) (a : Act) (w : World) : Prop :=
  (Region.wanted o (yielded ops a.tmps) = true ∧ (∀ c, o.op ≠ .defer c) ∧ uponX P o a KK ((execOp a.eval o).run P w)) ∨ (Region.wanted o (yielded ops a.tmps) = false ∧ KK (a.put o.dst undef) w)
def opX (P : Program) (ops : Array Oper) (i : Nat) (KK : Act → World → Prop) (a : Act) (w : World) : Prop :=
  match ops[i]? with
  | none => False
  | some o => stepX P ops o KK a w
def opsX (P : Program) (ops : Array Oper) (F : Act → World → Prop) : List Nat → Act → World → Prop
  | [] => F
  | i :: l => opX P ops i (opsX P ops F l)
def listX (P : Program) (ops : Array Oper) (F : Act → World → Prop) : List Oper → Act → World → Prop
  | [] => F
  | o :: l => stepX P ops o (listX P ops F l)
theorem opsX_eq {P : Program} {ops : Array Oper} {F : Act → World → Prop} : ∀ (l : List Oper) (k : Nat), (∀ j, l[j]? = ops[k + j]?) → opsX P ops F (List.range' k l.length) = listX P ops F l
  | [], k, _ => rfl
  | o :: l, k, h => by
    have h0 : ops[k]? = some o := by simpa using (h 0).symm
    have ih := opsX_eq (P := P) (F := F) l (k + 1) (fun j => by have := h (j + 1); simpa [Nat.add_assoc, Nat.add_comm 1 j] using this)
    funext a w
    simp only [List.length_cons, List.range'_succ, opsX, opX, h0, listX, ih]
theorem stepX_mono {P : Program} {ops : Array Oper} {o : Oper} {K K' : Act → World → Prop} (h : ∀ a w, K a w → K' a w) {a : Act} {w : World} (s : stepX P ops o K a w) : stepX P ops o K' a w := by
  rcases s with ⟨h1, h2, h3⟩ | ⟨h1, h2⟩
  · refine .inl ⟨h1, h2, ?_⟩
    generalize (execOp a.eval o).run P w = r at h3
    cases r with
    | halt x w' => exact h3.elim
    | ok x w' =>
      cases x with
      | value v => exact h _ _ h3
      | skip => exact h _ _ h3
      | enter f args => exact Calls.mono h3 fun e w2 ⟨v, q1, q2⟩ => ⟨v, q1, h _ _ q2⟩
      | round l f tmps as bd => exact fun c cs => let ⟨v, w2, q1, q2⟩ := h3 c cs; ⟨v, w2, h _ _ q1, q2⟩
      | _ => exact h3.elim
  · exact .inr ⟨h1, h _ _ h2⟩
theorem opX_mono {P : Program} {ops : Array Oper} {i : Nat} {K K' : Act → World → Prop} (h : ∀ a w, K a w → K' a w) {a : Act} {w : World} (s : opX P ops i K a w) : opX P ops i K' a w := by
  unfold opX at s ⊢
  split
  · rename_i e; rw [e] at s; exact s
  · rename_i o e; rw [e] at s; exact stepX_mono h s
theorem opX_sound {P : Program} {ops : Array Oper} {i : Nat} {K : Act → World → Prop} {a : Act} {w : World} (s : opX P ops i K a w) (b : Frame) (rest : List Nat) (k : List Item) (cs : List Frame) :
    ∃ a' w', K a' w' ∧ Steps P (lone (b.atR a (.inRegion ops (i :: rest) :: k)) cs w) (lone (b.atR a' (.inRegion ops rest :: k)) cs w') := by
  unfold opX at s
  split at s
  · exact s.elim
  · rename_i o ho
    rcases s with ⟨hw, hnd, h3⟩ | ⟨hw, h2⟩
    · have hg := stepGR_op (P := P) (b := b) (k := k) (cs := cs) (w := w) (rest := rest) ho hw
      rw [Oper.semAt_eq _ _ _ hnd] at hg
      have hfin : ∀ v, (b.atR a (.inRegion ops (i :: rest) :: k)).finish v = b.atR (a.put o.dst v) (.inRegion ops rest :: k) := by
        intro v; rw [Frame.finish_atR, ho]; rfl
      cases hr : (execOp a.eval o).run P w with
      | halt x w' => rw [hr] at h3; exact h3.elim
      | ok x w' =>
        rw [hr] at h3
        cases x with
        | value v =>
          refine ⟨_, _, h3, .one (step_lone_go ?_)⟩
          rw [hg, ← hfin]; simp [stepG.apply, hr]
        | skip =>
          refine ⟨_, _, h3, .one (step_lone_go ?_)⟩
          rw [hg, ← hfin]; simp [stepG.apply, hr]
        | enter f args =>
          obtain ⟨e, w'', fr, ⟨v, rfl, hK⟩, hsteps, _, hleave⟩ := h3 (b.atR a (.inRegion ops (i :: rest) :: k) :: cs)
          have henter : step P (lone (b.atR a (.inRegion ops (i :: rest) :: k)) cs w) = .next (lone (Frame.enter P f args .normal) (b.atR a (.inRegion ops (i :: rest) :: k) :: cs) w') :=
            step_lone_go (by rw [hg]; simp [stepG.apply, hr, Frame.atR])
          refine ⟨_, _, hK, .head henter (Steps.trans hsteps (.one ?_))⟩
          rw [← hfin]; exact step_leave_returned hleave
        | round l f tmps as bd =>
          obtain ⟨v, w'', hK, hsteps⟩ := h3 (b.atR a (.inRegion ops (i :: rest) :: k)) cs
          have henter : step P (lone (b.atR a (.inRegion ops (i :: rest) :: k)) cs w) = .next (lone (Frame.round l f tmps as bd .normal) (b.atR a (.inRegion ops (i :: rest) :: k) :: cs) w') :=
            step_lone_go (by rw [hg]; simp [stepG.apply, hr, Frame.atR])
          rw [hfin] at hsteps
          exact ⟨_, _, hK, .head henter hsteps⟩
        | _ => exact h3.elim
    · have hs := stepR_op_skip (P := P) (b := b) (a := a) (k := k) (cs := cs) (w := w) (ops := ops) (i := i) (rest := rest) (by simp [ho]; simpa using hw)
      simp only [ho, Option.bind_some] at hs
      exact ⟨_, _, h2, .one hs⟩
theorem opsX_sound {P : Program} {ops : Array Oper} {F : Act → World → Prop} : ∀ (l : List Nat) {a : Act} {w : World}, opsX P ops F l a w → ∀ (b : Frame) (k : List Item) (cs : List Frame), ∃ a' w', F a' w' ∧ Steps P (lone (b.atR a (.inRegion ops l :: k)) cs w) (lone (b.atR a' k) cs w')
  | [], a, w, h, b, k, cs => ⟨a, w, h, .one stepR_region_end⟩
  | i :: l, a, w, h, b, k, cs => by
    obtain ⟨a1, w1, h1, s1⟩ := opX_sound h b l k cs
    obtain ⟨a2, w2, h2, s2⟩ := opsX_sound l h1 b k cs
    exact ⟨a2, w2, h2, Steps.trans s1 s2⟩
def KOK (P : Program) (G : Gl) (B : Nat) (K : KT) : Prop := ∀ t args h n v h' n' u, K t args h n = some (v, h', n', u) → ∀ (σ : Sg) (w : World) (args' : Array Value), Rel σ h B w → GR G B w → B ≤ w.heap.size → (∀ i, n ≤ i → i < n' → σ i = none) → VRs σ args args'.toList →
  KeptE h n n' h' u ∧ match t with
    | .fn f => Calls P f args' w fun e w' => ∃ τ v', e = .returned v' ∧ VR τ v v' ∧ Act1 σ h n B w τ h' n' w'
    | .yld i => ∀ b k, σ i = some (b, k) → ∃ f tmps as bd, (Instr.yield b args').run P w = .ok (.round b f tmps as bd) w ∧ Rounds P b f tmps as bd w fun v' w' => ∃ τ, VR τ v v' ∧ Act1 σ h n B w τ h' n' w'
def step1 (P : Program) (G : Gl) (K : KT) (ops : Array Oper) (sz n0 : Nat) (o : Oper) (s : S1) : Option S1 :=
  match wA ops s.tm o with
  | some false => (putD sz o.dst (.c undef) s.tm).map fun tm => ⟨tm, s.h, s.n, s.u⟩
  | some true => match evOp P G s.tm s.h s.n o with
    | some (.val v h n u) => cond (Nat.ble s.n n) ((putD sz o.dst v s.tm).map fun tm => ⟨tm, h, n, mrg n0 n s.u u⟩) none
    | some (.call f args) => match K f args s.h s.n with
      | some (v, h, n, u) => cond (Nat.ble s.n n) ((putD sz o.dst v s.tm).map fun tm => ⟨tm, h, n, mrg n0 n s.u u⟩) none
      | none => none
    | none => none
  | none => none
section
variable {P : Program} {G : Gl} {B : Nat} {K : KT} {ops : Array Oper} {sz n0 : Nat}
theorem step1_le {o : Oper} {s s' : S1} (e : step1 P G K ops sz n0 o s = some s') : s.n ≤ s'.n := by
  unfold step1 at e
  split at e
  · simp only [Option.map_eq_some_iff] at e
    obtain ⟨tm, _, rfl⟩ := e; exact Nat.le_refl _
  · split at e
    · rename_i v h n u _
      cases hc : Nat.ble s.n n with
      | false => rw [hc] at e; cases e
      | true =>
        rw [hc] at e; simp only [cond, Option.map_eq_some_iff] at e
        obtain ⟨tm, _, rfl⟩ := e; exact Nat.le_of_ble_eq_true hc
    · split at e
      · rename_i v h n u _
        cases hc : Nat.ble s.n n with
        | false => rw [hc] at e; cases e
        | true =>
          rw [hc] at e; simp only [cond, Option.map_eq_some_iff] at e
          obtain ⟨tm, _, rfl⟩ := e; exact Nat.le_of_ble_eq_true hc
      · cases e
    · cases e
  · cases e
theorem step1_ok (hP : NoNum P) (hK : KOK P G B K) {o : Oper} {s s' : S1} (e : step1 P G K ops sz n0 o s = some s') {σ : Sg} {a : Act} {w : World} (ht : TRE σ s.tm a) (hs : a.tmps.size = sz) (r : Rel σ s.h B w) (hG : GR G B w) (hB : B ≤ w.heap.size) (hf : ∀ i, s.n ≤ i → i < s'.n → σ i = none)
    (KK : Act → World → Prop) (hKK : ∀ a' w' τ, TRE τ s'.tm a' → Act1 σ s.h s.n B w τ s'.h s'.n w' → a'.tmps.size = sz → a'.defers = a.defers → KK a' w') :
    stepX P ops o KK a w ∧ (n0 ≤ s.n → ∀ h0, KeptE h0 n0 s.n s.h s.u → KeptE h0 n0 s'.n s'.h s'.u) ∧ (∃ a' w' τ, TRE τ s'.tm a' ∧ Act1 σ s.h s.n B w τ s'.h s'.n w' ∧ a'.tmps.size = sz ∧ a'.defers = a.defers) := by
  unfold step1 at e
  split at e
  · rename_i hw
    simp only [Option.map_eq_some_iff] at e
    obtain ⟨tm, hp, rfl⟩ := e
    exact ⟨.inr ⟨wA_ok hw ht, hKK _ _ σ (putD_ok hp ht hs (.c _)) (ActF.refl r) ((put_sz _ _ _).trans hs) (put_df _ _ _)⟩, fun _ h0 k => k, ⟨_, _, σ, putD_ok hp ht hs (.c undef), ActF.refl r, (put_sz _ _ _).trans hs, put_df _ _ _⟩⟩
  · rename_i hw
    split at e
    · rename_i v h n u he
      cases hc : Nat.ble s.n n with
      | false => rw [hc] at e; cases e
      | true =>
        rw [hc] at e; simp only [cond, Option.map_eq_some_iff] at e
        obtain ⟨tm, hp, rfl⟩ := e
        obtain ⟨⟨τ, w', v', h1, h2, h3⟩, hk⟩ := evOp_val he ht r hG hB hf
        refine ⟨.inl ⟨wA_ok hw ht, noDefer he, ?_⟩, fun hn h0 k => k.step hk hn (Nat.le_of_ble_eq_true hc), ⟨_, _, τ, putD_ok hp (ht.sub h3.sub) hs h2, h3, (put_sz _ _ _).trans hs, put_df _ _ _⟩⟩
        rcases h1 with h1 | ⟨h1, h4⟩
        · rw [h1]
          exact hKK _ _ τ (putD_ok hp (ht.sub h3.sub) hs h2) h3 ((put_sz _ _ _).trans hs) (put_df _ _ _)
        · subst h4
          rw [h1]
          exact hKK _ _ τ (putD_ok hp (ht.sub h3.sub) hs h2) h3 ((put_sz _ _ _).trans hs) (put_df _ _ _)
    · rename_i f args he
      split at e
      · rename_i v h n u hk
        cases hc : Nat.ble s.n n with
        | false => rw [hc] at e; cases e
        | true =>
          rw [hc] at e; simp only [cond, Option.map_eq_some_iff] at e
          obtain ⟨tm, hp, rfl⟩ := e
          have hc2 := evOp_call hP he ht w
          cases f with
          | fn f =>
            obtain ⟨args', h1, h2⟩ := hc2
            obtain ⟨k1, k2⟩ := hK (.fn f) args _ _ _ _ _ _ hk σ w args' r hG hB hf h2
            have hex : ∃ a' w' τ, TRE τ tm a' ∧ Act1 σ s.h s.n B w τ h n w' ∧ a'.tmps.size = sz ∧ a'.defers = a.defers := by
              obtain ⟨e, w', fr, ⟨τ, v', _, h4, h5⟩, _⟩ := k2 []
              exact ⟨_, _, τ, putD_ok hp (ht.sub h5.sub) hs h4, h5, (put_sz _ _ _).trans hs, put_df _ _ _⟩
            refine ⟨.inl ⟨wA_ok hw ht, noDefer he, ?_⟩, fun hn h0 k => k.step k1 hn (Nat.le_of_ble_eq_true hc), hex⟩
            rw [h1]
            refine Calls.mono k2 ?_
            rintro e w' ⟨τ, v', rfl, h4, h5⟩
            exact ⟨v', rfl, hKK _ _ τ (putD_ok hp (ht.sub h5.sub) hs h4) h5 ((put_sz _ _ _).trans hs) (put_df _ _ _)⟩
          | yld i =>
            obtain ⟨args', b, kp, h0, h1, h2⟩ := hc2
            obtain ⟨k1, k2⟩ := hK (.yld i) args _ _ _ _ _ _ hk σ w args' r hG hB hf h2
            obtain ⟨f', tmps, as, bd, k3, k4⟩ := k2 b kp h0
            have hex : ∃ a' w' τ, TRE τ tm a' ∧ Act1 σ s.h s.n B w τ h n w' ∧ a'.tmps.size = sz ∧ a'.defers = a.defers := by
              obtain ⟨v', w', ⟨τ, h4, h5⟩, _⟩ := k4 default []
              exact ⟨_, _, τ, putD_ok hp (ht.sub h5.sub) hs h4, h5, (put_sz _ _ _).trans hs, put_df _ _ _⟩
            refine ⟨.inl ⟨wA_ok hw ht, noDefer he, ?_⟩, fun hn h0 k => k.step k1 hn (Nat.le_of_ble_eq_true hc), hex⟩
            rw [h1, k3]
            intro c cs
            obtain ⟨v', w', ⟨τ, h4, h5⟩, h6⟩ := k4 c cs
            exact ⟨v', w', hKK _ _ τ (putD_ok hp (ht.sub h5.sub) hs h4) h5 ((put_sz _ _ _).trans hs) (put_df _ _ _), h6⟩
      · cases e
    · cases e
  · cases e
def runOps (P : Program) (G : Gl) (K : KT) (ops : Array Oper) (sz n0 : Nat) : List Oper → S1 → Option S1
  | [], s => some s
  | o :: l, s => match step1 P G K ops sz n0 o s with
    | some s' => runOps P G K ops sz n0 l s'
    | none => none
theorem runOps_le : ∀ {l : List Oper} {s s' : S1}, runOps P G K ops sz n0 l s = some s' → s.n ≤ s'.n
  | [], s, s', e => by cases e; exact Nat.le_refl _
  | o :: l, s, s', e => by
    simp only [runOps] at e
    split at e
    · rename_i s1 h1; exact Nat.le_trans (step1_le h1) (runOps_le e)
    · cases e
theorem runOps_ok (hP : NoNum P) (hK : KOK P G B K) : ∀ {l : List Oper} {s s' : S1}, runOps P G K ops sz n0 l s = some s' → ∀ {σ : Sg} {a : Act} {w : World}, TRE σ s.tm a → a.tmps.size = sz → Rel σ s.h B w → GR G B w → B ≤ w.heap.size → (∀ i, s.n ≤ i → i < s'.n → σ i = none) →
    ∀ (F : Act → World → Prop), (∀ a' w' τ, TRE τ s'.tm a' → Act1 σ s.h s.n B w τ s'.h s'.n w' → a'.tmps.size = sz → a'.defers = a.defers → F a' w') → listX P ops F l a w ∧ (n0 ≤ s.n → ∀ h0, KeptE h0 n0 s.n s.h s.u → KeptE h0 n0 s'.n s'.h s'.u)
  | [], s, s', e, σ, a, w, ht, hs, r, hG, hB, hf, F, hQ => by
    cases e
    exact ⟨hQ _ _ σ ht (ActF.refl r) hs rfl, fun _ _ k => k⟩
  | o :: l, s, s', e, σ, a, w, ht, hs, r, hG, hB, hf, F, hQ => by
    simp only [runOps] at e
    split at e
    · rename_i s1 h1
      have hle := step1_le h1
      have hle2 := runOps_le e
      have rest := fun (a' : Act) (w' : World) (τ : Sg) (t1 : TRE τ s1.tm a') (t2 : Act1 σ s.h s.n B w τ s1.h s1.n w') (t3 : a'.tmps.size = sz) (t4 : a'.defers = a.defers) =>
        runOps_ok hP hK e t1 t3 t2.rel (hG.step (t2.below r hB)) (Nat.le_trans hB t2.fr.size) (fun i hi hi2 => by
          cases hx : τ i with
          | none => rfl
          | some q =>
            rcases t2.dom i (by simp [hx]) with h | h
            · rw [hf i (by omega) hi2] at h; cases h
            · omega) F (fun a2 w2 υ u1 u2 u3 u4 => hQ a2 w2 υ u1 (t2.trans u2) u3 (u4.trans t4))
      have st := step1_ok hP hK h1 ht hs r hG hB (fun i hi hi2 => hf i hi (by omega)) (listX P ops F l) (fun a' w' τ t1 t2 t3 t4 => (rest a' w' τ t1 t2 t3 t4).1)
      refine ⟨?_, ?_⟩
      · exact st.1
      · intro hn h0 k
        obtain ⟨a', w', τ, t1, t2, t3, t4⟩ := st.2.2
        exact (rest a' w' τ t1 t2 t3 t4).2 (Nat.le_trans hn hle) h0 (st.2.1 hn h0 k)
    · cases e
end
end Go.Proofs.Ytcpifmhcebfglaa
namespace Go.Proofs.Ytcpifmhcebfglaa
open Go Go.RowKit
set_option linter.unusedVariables false
theorem ActF.wide {σ τ υ : Sg} {h h' h'' : Nat → Option AO} {n m p q B : Nat} {w w' w'' : World} (x : ActF σ h n B w τ h' m w') (y : ActF τ h' p B w' υ h'' q w'') (hp : n ≤ p) (hq : q ≤ m) : ActF σ h n B w υ h'' m w'' where
  le := x.le
  sub := x.sub.trans y.sub
  dom := fun i hi => by
    rcases y.dom i hi with h1 | h1
    · exact x.dom i h1
    · exact .inr ⟨by omega, by omega⟩
  rel := y.rel
  fr := {
    os := y.fr.os.trans x.fr.os
    tape := y.fr.tape.trans x.fr.tape
    output := y.fr.output.trans x.fr.output
    size := Nat.le_trans x.fr.size y.fr.size
    block := fun k hk hn => by
      rw [y.fr.block k (Nat.lt_of_lt_of_le hk x.fr.size) ?_, x.fr.block k hk hn]
      intro i c hi he
      rcases x.src i k c hi he with h1 | ⟨j, k', h1, h2⟩
      · omega
      · exact hn j k' h1 h2 }
  src := fun i b k hi hb => by
    rcases y.src i b k hi hb with h1 | ⟨j, k', h1, h2⟩
    · exact .inl (Nat.le_trans x.fr.size h1)
    · exact x.src j b k' h1 h2
/-- an act upon a part of the memory is one upon the whole -/
theorem act_frame {σ τ : Sg} {g hi ho g' : Nat → Option AO} {n n' B : Nat} {w w' : World} {u : List Nat} (r : RelF σ g B w) (hsub : ∀ i o, hi i = some o → g i = some o)
    (act : ActF σ hi n B w τ ho n' w') (kept : ∀ i, (i < n ∨ n' ≤ i) → u.contains i = false → ho i = hi i) (hin : ∀ i, (u.contains i = true ∨ (n ≤ i ∧ i < n')) → g' i = ho i) (hout : ∀ i, ¬ (u.contains i = true ∨ (n ≤ i ∧ i < n')) → g' i = g i) : ActF σ g n B w τ g' n' w' := by
  have cls : ∀ i o, g' i = some o → (ho i = some o) ∨ (hi i = none ∧ g i = some o) := by
    intro i o h
    by_cases hc : u.contains i = true ∨ (n ≤ i ∧ i < n')
    · left; rw [← hin i hc]; exact h
    · rw [hout i hc] at h
      cases hh : hi i with
      | none => exact .inr ⟨rfl, h⟩
      | some o2 =>
        left
        have h1 := hsub i o2 hh
        rw [h1] at h; cases h
        have hu : u.contains i = false := by
          cases hq : u.contains i with
          | false => rfl
          | true => exact absurd (.inl hq) hc
        have hni : ¬ (n ≤ i ∧ i < n') := fun h2 => hc (.inr h2)
        rw [kept i (by omega) hu]; exact hh
  have far : ∀ i o, hi i = none → g i = some o → ∃ b k, σ i = some (b, k) ∧ τ i = some (b, k) ∧ B ≤ b ∧ b < w.heap.size ∧ OR σ k w.heap[b]? o ∧ ∀ j c, (hi j).isSome → σ j ≠ some (b, c) := by
    intro i o h1 h2
    obtain ⟨b, k, k1, k2, k3, k4⟩ := r.obj i o h2
    refine ⟨b, k, k1, act.sub _ _ k1, k2, k3, k4, fun j c hj e => ?_⟩
    obtain ⟨o2, ho2⟩ := Option.isSome_iff_exists.1 hj
    have := r.inj i j b k c (by simp [h2]) (by simp [hsub j o2 ho2]) k1 e
    subst this; rw [h1] at ho2; cases ho2
  refine ⟨act.le, act.sub, act.dom, ⟨?_, ?_⟩, ⟨act.fr.os, act.fr.tape, act.fr.output, act.fr.size, ?_⟩, ?_⟩
  · intro i o h
    rcases cls i o h with h1 | ⟨h1, h2⟩
    · exact act.rel.obj i o h1
    · obtain ⟨b, k, k1, k2, k3, k4, k5, k6⟩ := far i o h1 h2
      refine ⟨b, k, k2, k3, Nat.lt_of_lt_of_le k4 act.fr.size, ?_⟩
      rw [act.fr.block b k4 k6]; exact k5.sub act.sub
  · intro i j b c d hi' hj' e1 e2
    obtain ⟨o1, ho1⟩ := Option.isSome_iff_exists.1 hi'
    obtain ⟨o2, ho2⟩ := Option.isSome_iff_exists.1 hj'
    have mixed : ∀ i j o1 o2 c d, ho i = some o1 → hi j = none → g j = some o2 → τ i = some (b, c) → τ j = some (b, d) → False := by
      intro i j o1 o2 c d h1 h2 h3 e1 e2
      obtain ⟨b2, k, k1, k2, k3, k4, k5, k6⟩ := far j o2 h2 h3
      rw [k2] at e2; cases e2
      rcases act.src i b c (by simp [h1]) e1 with h4 | ⟨j0, c0, h4, h5⟩
      · omega
      · exact k6 j0 c0 h4 h5
    rcases cls i o1 ho1 with h1 | ⟨h1, h1'⟩ <;> rcases cls j o2 ho2 with h2 | ⟨h2, h2'⟩
    · exact act.rel.inj i j b c d (by simp [h1]) (by simp [h2]) e1 e2
    · exact (mixed i j o1 o2 c d h1 h2 h2' e1 e2).elim
    · exact (mixed j i o2 o1 d c h2 h1 h1' e2 e1).elim
    · obtain ⟨b1, k1, p1, p2, _⟩ := far i o1 h1 h1'
      obtain ⟨b2, k2, q1, q2, _⟩ := far j o2 h2 h2'
      rw [p2] at e1; cases e1
      rw [q2] at e2; cases e2
      exact r.inj i j b c d (by simp [h1']) (by simp [h2']) p1 q1
  · intro k hk hnn
    refine act.fr.block k hk fun i c hi' e => ?_
    obtain ⟨o, ho⟩ := Option.isSome_iff_exists.1 hi'
    exact hnn i c (by simp [hsub i o ho]) e
  · intro i b k hi' e
    obtain ⟨o, ho'⟩ := Option.isSome_iff_exists.1 hi'
    rcases cls i o ho' with h1 | ⟨h1, h2⟩
    · rcases act.src i b k (by simp [h1]) e with h3 | ⟨j, k', h3, h4⟩
      · exact .inl h3
      · obtain ⟨o3, ho3⟩ := Option.isSome_iff_exists.1 h3
        exact .inr ⟨j, k', by simp [hsub j o3 ho3], h4⟩
    · obtain ⟨b2, k2, p1, p2, _⟩ := far i o h1 h2
      rw [p2] at e; cases e
      exact .inr ⟨i, k, by simp [h2], p1⟩
/-- what an operation of a region has done -/
structure Rc where
  tj : T AV
  dst : Option Tmp
  v : AV
  hi : Hp
  ho : Hp
  n : Nat
  n' : Nat
  u : List Nat
  ft : Option (List Nat)
def inU (r : Rc) (i : Nat) : Bool := r.u.contains i || (Nat.ble r.n i && Nat.blt i r.n')
/-- the memory once the operations that are listed have come up, in the order of the text -/
def HS (R : Nat → Rc) (L : Nat → Bool) (g : Nat → Option AO) : Nat → Nat → Option AO
  | 0 => g
  | m + 1 => fun i => if L m = true ∧ inU (R m) i = true then (R m).ho.get i else HS R L g m i
def VS (R : Nat → Rc) (L : Nat → Bool) (tm : T AV) : Nat → Tmp → AV
  | 0 => fun t => (tm.get t).getD .q
  | m + 1 => fun t => if L m = true ∧ (R m).dst = some t then (R m).v else VS R L tm m t
theorem HS_congr {R : Nat → Rc} {L L' : Nat → Bool} {g : Nat → Option AO} {i : Nat} : ∀ {m : Nat}, (∀ k, k < m → inU (R k) i = true → L k = L' k) → HS R L g m i = HS R L' g m i
  | 0, _ => rfl
  | m + 1, h => by
    simp only [HS]
    rw [HS_congr (m := m) fun k hk => h k (by omega)]
    by_cases hu : inU (R m) i = true
    · rw [h m (by omega) hu]
    · simp [hu]
theorem VS_congr {R : Nat → Rc} {L L' : Nat → Bool} {tm : T AV} {t : Tmp} : ∀ {m : Nat}, (∀ k, k < m → (R k).dst = some t → L k = L' k) → VS R L tm m t = VS R L' tm m t
  | 0, _ => rfl
  | m + 1, h => by
    simp only [VS]
    rw [VS_congr (m := m) fun k hk => h k (by omega)]
    by_cases hu : (R m).dst = some t
    · rw [h m (by omega) hu]
    · simp [hu]
/-- those behind number j do not matter if they are not listed or have nothing to do with it -/
theorem HS_trunc {R : Nat → Rc} {L : Nat → Bool} {g : Nat → Option AO} {i j : Nat} : ∀ {m : Nat}, j ≤ m → (∀ k, j ≤ k → k < m → L k = true → inU (R k) i = false) → HS R L g m i = HS R L g j i
  | 0, hj, _ => by rw [show j = 0 by omega]
  | m + 1, hj, h => by
    by_cases e : j = m + 1
    · rw [e]
    · simp only [HS]
      rw [if_neg (fun hh => by have := h m (by omega) (by omega) hh.1; rw [this] at hh; cases hh.2)]
      exact HS_trunc (by omega) fun k h1 h2 => h k h1 (by omega)
theorem VS_trunc {R : Nat → Rc} {L : Nat → Bool} {tm : T AV} {t : Tmp} {j : Nat} : ∀ {m : Nat}, j ≤ m → (∀ k, j ≤ k → k < m → L k = true → (R k).dst ≠ some t) → VS R L tm m t = VS R L tm j t
  | 0, hj, _ => by rw [show j = 0 by omega]
  | m + 1, hj, h => by
    by_cases e : j = m + 1
    · rw [e]
    · simp only [VS]
      rw [if_neg (fun hh => h m (by omega) (by omega) hh.1 hh.2)]
      exact VS_trunc (by omega) fun k h1 h2 => h k h1 (by omega)
def copyIds (src : Hp) : List Nat → Hp → Hp
  | [], t => t
  | i :: l, t => copyIds src l (t.set i (src.get i))
theorem copyIds_spec {src : Hp} : ∀ (l : List Nat) (t : Hp) (i : Nat), (copyIds src l t).get i = if l.contains i then src.get i else t.get i
  | [], t, i => by simp [copyIds]
  | j :: l, t, i => by
    simp only [copyIds]
    rw [copyIds_spec l _ i, T.get_set]
    simp only [List.contains_cons]
    by_cases hij : i = j
    · subst hij; simp
    · have : (i == j) = false := by simpa using hij
      simp [hij, this]
/-- the memory that a later operation has turned, as an earlier one sees it -/
def ovr (r r' : Rc) : Hp := copyIds r.ho (r.u.filter fun i => (r'.hi.get i).isSome) r'.hi
theorem ovr_spec {r r' : Rc} {i : Nat} : (ovr r r').get i = if r.u.contains i = true ∧ (r'.hi.get i).isSome = true then r.ho.get i else r'.hi.get i := by
  unfold ovr
  rw [copyIds_spec]
  congr 1
  simp only [List.contains_iff_mem, List.mem_filter]
/-- an operation that but reads comes to the same value behind a later one -/
def AltR (P : Program) (G : Gl) (ops : Array Oper) (r r' : Rc) (k' : Nat) : Prop := r'.u = [] ∧ r'.n' = r'.n ∧ ∃ o h2, ops[k']? = some o ∧ wA ops r'.tj o = some true ∧ evOp P G r'.tj (ovr r r') r'.n o = some (.val r'.v h2 r'.n [])
/-- what is shown of the operations of a region, one by one; A j k: number k surely comes up ahead of number j -/
structure Good (P : Program) (G : Gl) (B : Nat) (K : KT) (ops : Array Oper) (sz : Nat) (R : Nat → Rc) (A : Nat → Nat → Bool) (alt : Nat → Option Nat) (tm : T AV) (h : Hp) (n : Nat) : Prop where
  dst : ∀ (j : Nat) (o : Oper), ops[j]? = some o → (R j).dst = o.dst
  lt : ∀ (j : Nat) (o : Oper) (t : Tmp), ops[j]? = some o → o.dst = some t → t < sz
  once : ∀ j k t, j < ops.size → k < ops.size → (R j).dst = some t → (R k).dst = some t → j = k
  back : ∀ (j : Nat) (o : Oper), ops[j]? = some o → ∀ e ∈ o.after, Region.binds .any e = true → e.on < j
  anc : ∀ j k, j < ops.size → A j k = true → k < j ∧ ∃ o, ops[j]? = some o ∧ ∃ e ∈ o.after, Region.binds .any e = true ∧ (e.on = k ∨ A e.on k = true)
  n0 : ops.size ≠ 0 → (R 0).n = n
  nn : ∀ j, j + 1 < ops.size → (R (j + 1)).n = (R j).n'
  nle : ∀ j, j < ops.size → (R j).n ≤ (R j).n'
  ult : ∀ j i, j < ops.size → (R j).u.contains i = true → i < (R j).n
  tmj : ∀ j t x, j < ops.size → (R j).tj.get t = some x → x = VS R (fun _ => true) tm j t ∧ ∀ k, k < ops.size → k ≠ j → (R k).dst = some t → A j k = true ∨ A k j = true
  hij : ∀ (j i : Nat) (o : AO), j < ops.size → (R j).hi.get i = some o → HS R (fun _ => true) h.get j i = some o ∧ ∀ k, k < ops.size → k ≠ j → inU (R k) i = true → A j k = true ∨ A k j = true ∨ (j < k ∧ (R k).n ≤ i ∧ i < (R k).n') ∨ alt j = some k
  alt_ : ∀ j k, j < ops.size → alt j = some k → j < k ∧ k < ops.size ∧ AltR P G ops (R k) (R j) j
  uu : ∀ j k i, j < ops.size → k < ops.size → k ≠ j → inU (R j) i = true → inU (R k) i = true → A j k = true ∨ A k j = true
  run : ∀ (j : Nat) (o : Oper), ops[j]? = some o → ((wA ops (R j).tj o = some false ∧ (R j).v = .c undef ∧ (R j).u = [] ∧ (R j).n' = (R j).n ∧ (R j).ho = (R j).hi) ∨
    (wA ops (R j).tj o = some true ∧ (evOp P G (R j).tj (R j).hi (R j).n o = some (.val (R j).v (R j).ho (R j).n' (R j).u) ∨
      ∃ f args, evOp P G (R j).tj (R j).hi (R j).n o = some (.call f args) ∧ K f args (R j).hi (R j).n = some ((R j).v, (R j).ho, (R j).n', (R j).u))))
def Lst (listed : Array Bool) (j : Nat) : Bool := listed.getD j false
structure Inv (ops : Array Oper) (B : Nat) (R : Nat → Rc) (A : Nat → Nat → Bool) (tm : T AV) (h : Hp) (n : Nat) (nE : Nat) (σ0 : Sg) (a0 : Act) (w0 : World) (sz : Nat) (listed : Array Bool) (a : Act) (w : World) : Prop where
  len : listed.size = ops.size
  clo : ∀ (j : Nat) (o : Oper), ops[j]? = some o → Lst listed j = true → ∀ e ∈ o.after, Region.binds .any e = true → Lst listed e.on = true
  st : ∃ σ, ActF σ0 h.get n B w0 σ (HS R (Lst listed) h.get ops.size) nE w ∧ (∀ i, (σ i).isSome → (σ0 i).isSome ∨ ∃ k, k < ops.size ∧ Lst listed k = true ∧ (R k).n ≤ i ∧ i < (R k).n') ∧ ∀ t, VR σ (VS R (Lst listed) tm ops.size t) (a.tmps.getD t undef)
  size : a.tmps.size = sz
  def_ : a.defers = a0.defers
section
variable {P : Program} {G : Gl} {B : Nat} {K : KT} {ops : Array Oper} {sz : Nat} {R : Nat → Rc} {A : Nat → Nat → Bool} {alt : Nat → Option Nat} {tm : T AV} {h : Hp} {n nE : Nat} {σ0 : Sg} {a0 : Act} {w0 : World}
theorem lst_set {listed : Array Bool} {i : Nat} (hi : i < listed.size) (k : Nat) : Lst (listed.setIfInBounds i true) k = if k = i then true else Lst listed k := by
  unfold Lst
  by_cases hk : k = i
  · subst hk; simp [hi]
  · rw [if_neg hk]
    simp only [Array.getD_eq_getD_getElem?, Array.getElem?_setIfInBounds]
    rw [if_neg (Ne.symm hk)]
theorem Inv.anc (hG : Good P G B K ops sz R A alt tm h n) {listed : Array Bool} {a : Act} {w : World} (I : Inv ops B R A tm h n nE σ0 a0 w0 sz listed a w) : ∀ j k, j < ops.size → A j k = true → (∀ o, ops[j]? = some o → ∀ e ∈ o.after, Region.binds .any e = true → Lst listed e.on = true) → Lst listed k = true := by
  intro j
  induction j using Nat.strongRecOn with
  | _ j ih =>
    intro k hj hA hall
    obtain ⟨hk, o, ho, e, he, hb, hor⟩ := hG.anc j k hj hA
    have hl := hall o ho e he hb
    rcases hor with h1 | h1
    · rw [← h1]; exact hl
    · have hlt := hG.back j o ho e he hb
      exact ih e.on hlt k (by omega) h1 fun o' ho' => I.clo e.on o' ho' hl
theorem Good.mono (hG : Good P G B K ops sz R A alt tm h n) : ∀ k j, j ≤ k → k < ops.size → (R j).n ≤ (R k).n
  | 0, j, hj, _ => by rw [show j = 0 by omega]; exact Nat.le_refl _
  | k + 1, j, hj, hk => by
    by_cases e : j = k + 1
    · rw [e]; exact Nat.le_refl _
    · have := hG.mono k j (by omega) (by omega)
      have h2 := hG.nle k (by omega)
      have h3 := hG.nn k hk
      omega
theorem Good.mono' (hG : Good P G B K ops sz R A alt tm h n) {j k : Nat} (hj : j < k) (hk : k < ops.size) : (R j).n' ≤ (R k).n := by
  have h1 := hG.nn j (by omega)
  have h2 := hG.mono k (j + 1) (by omega) hk
  omega
/-- ONE operation, in whatever order -/
theorem Inv.step (hP : NoNum P) (hK : KOK P G B K) (hGd : Good P G B K ops sz R A alt tm h n) (hGl : GR G B w0) (hB : B ≤ w0.heap.size) (hnE : ∀ j, j < ops.size → (R j).n' ≤ nE) (hfree : ∀ i, n ≤ i → i < nE → σ0 i = none) (r0 : Rel σ0 h B w0)
    {listed : Array Bool} {a : Act} {w : World} (I : Inv ops B R A tm h n nE σ0 a0 w0 sz listed a w) {j : Nat} {o : Oper} (ho : ops[j]? = some o) (hun : Lst listed j = false) (hrd : ∀ e ∈ o.after, Region.binds .any e = true → Lst listed e.on = true)
    (KK : Act → World → Prop) (hKK : ∀ a' w', Inv ops B R A tm h n nE σ0 a0 w0 sz (listed.setIfInBounds j true) a' w' → KK a' w') : opX P ops j KK a w := by
  have hj : j < ops.size := (Array.getElem?_eq_some_iff.1 ho).1
  obtain ⟨σ, act, dm, tr⟩ := I.st
  have ancL : ∀ k, A j k = true → Lst listed k = true := fun k hA => I.anc hGd j k hj hA fun o' ho' => by
    have : o' = o := Option.some.inj (ho'.symm.trans ho)
    subst this; exact hrd
  have desL : ∀ k, k < ops.size → A k j = true → Lst listed k = false := fun k hk hA => by
    cases hl : Lst listed k with
    | false => rfl
    | true =>
      have := I.anc hGd k j hk hA fun o' ho' => I.clo k o' ho' hl
      rw [hun] at this; cases this
  have hjl : j < listed.size := by rw [I.len]; exact hj
  have hmonoN : n ≤ (R j).n := by
    have h1 := hGd.n0 (by omega)
    have h2 := hGd.mono j 0 (by omega) hj
    omega
  -- the slots that the operation may look at
  have htr : TRE σ (R j).tj a := by
    intro t
    cases hx : (R j).tj.get t with
    | none => exact .q
    | some x =>
      obtain ⟨h1, h2⟩ := hGd.tmj j t x hj hx
      have e : VS R (Lst listed) tm ops.size t = x := by
        rw [VS_trunc (j := j) (Nat.le_of_lt hj) (fun k hk1 hk2 hl hd => by
          by_cases hkj : k = j
          · subst hkj; rw [hun] at hl; cases hl
          · rcases h2 k hk2 hkj hd with this | this
            · have := (hGd.anc j k hj this).1
              omega
            · have := desL k hk2 this
              rw [this] at hl; cases hl), h1]
        exact VS_congr fun k hk hd => by
          rcases h2 k (by omega) (by omega) hd with this | this
          · exact ancL k this
          · have := (hGd.anc k j (by omega) this).1
            omega
      have := tr t
      rw [e] at this
      exact this
  -- the memory that the operation looks at
  have none0 : ∀ i, n ≤ i → i < nE → h.get i = none := by
    intro i h1 h2
    cases hx : h.get i with
    | none => rfl
    | some x =>
      obtain ⟨b, k, k1, _⟩ := r0.obj i x hx
      rw [hfree i h1 h2] at k1; cases k1
  have hnew : ∀ i x k, HS R (fun _ => true) h.get j i = some x → k < ops.size → j < k → (R k).n ≤ i → i < (R k).n' → False := by
    intro i x k h1 hk h4 h5 h6
    have e : HS R (fun _ => true) h.get j i = h.get i := HS_trunc (j := 0) (Nat.zero_le _) fun k' _ hk' _ => by
      have m1 := hGd.mono' (j := k') (k := k) (by omega) hk
      have m2 := hGd.nle k' (by omega)
      cases hq' : inU (R k') i with
      | false => rfl
      | true =>
        simp only [inU, Bool.or_eq_true, Bool.and_eq_true, Nat.ble_eq, Nat.blt_eq] at hq'
        rcases hq' with hq' | hq'
        · have := hGd.ult k' i (by omega) hq'; omega
        · omega
    have m3 := hnE k hk
    have m4 := hGd.mono k j (by omega) hk
    rw [e, none0 i (by omega) (by omega)] at h1; cases h1
  -- an object that no operation but an ordered one, or one that is not listed, has to do with
  have hone : ∀ i x, HS R (fun _ => true) h.get j i = some x → (∀ k, k < ops.size → k ≠ j → inU (R k) i = true → A j k = true ∨ A k j = true ∨ (j < k ∧ Lst listed k = false)) → HS R (Lst listed) h.get ops.size i = some x := by
    intro i x h1 h3'
    rw [← h1]
    rw [HS_trunc (j := j) (Nat.le_of_lt hj) (fun k hk1 hk2 hl => by
      by_cases hkj : k = j
      · subst hkj; rw [hun] at hl; cases hl
      · cases hq : inU (R k) i with
        | false => rfl
        | true =>
          rcases h3' k hk2 hkj hq with h4 | h4 | h4
          · have := (hGd.anc j k hj h4).1; omega
          · have := desL k hk2 h4; rw [this] at hl; cases hl
          · rw [h4.2] at hl; cases hl)]
    refine HS_congr fun k hk hq => ?_
    rcases h3' k (by omega) (by omega) hq with h4 | h4 | h4
    · exact ancL k h4
    · have := (hGd.anc k j (by omega) h4).1; omega
    · omega
  have hsub0 : (∀ k, alt j = some k → Lst listed k = false) → ∀ i o, (R j).hi.get i = some o → HS R (Lst listed) h.get ops.size i = some o := by
    intro hal i x hx
    obtain ⟨h1, h3⟩ := hGd.hij j i x hj hx
    refine hone i x h1 fun k hk hkj hq => ?_
    rcases h3 k hk hkj hq with h4 | h4 | ⟨h4, h5, h6⟩ | h4
    · exact .inl h4
    · exact .inr (.inl h4)
    · exact (hnew i x k h1 hk h4 h5 h6).elim
    · exact .inr (.inr ⟨(hGd.alt_ j k hj h4).1, hal k h4⟩)
  have hsub1 : ∀ k, alt j = some k → Lst listed k = true → ∀ i o, (ovr (R k) (R j)).get i = some o → HS R (Lst listed) h.get ops.size i = some o := by
    intro k hk hl i x hx
    obtain ⟨hjk, hks, _⟩ := hGd.alt_ j k hj hk
    rw [ovr_spec] at hx
    split at hx
    · rename_i hc
      obtain ⟨x0, hx0⟩ := Option.isSome_iff_exists.1 hc.2
      obtain ⟨h1, h3⟩ := hGd.hij j i x0 hj hx0
      have hiu : inU (R k) i = true := by simp only [inU, hc.1, Bool.true_or]
      rw [HS_trunc (j := k + 1) (by omega) (fun k2 hk1 hk2 hl2 => by
        cases hq : inU (R k2) i with
        | false => rfl
        | true =>
          rcases h3 k2 hk2 (by omega) hq with h4 | h4 | ⟨h4, h5, h6⟩ | h4
          · have := (hGd.anc j k2 hj h4).1; omega
          · have := desL k2 hk2 h4; rw [this] at hl2; cases hl2
          · exact (hnew i x0 k2 h1 hk2 h4 h5 h6).elim
          · rw [hk] at h4; cases h4; omega)]
      simp only [HS]
      rw [if_pos ⟨hl, hiu⟩]; exact hx
    · rename_i hc
      obtain ⟨h1, h3⟩ := hGd.hij j i x hj hx
      refine hone i x h1 fun k2 hk2 hkj hq => ?_
      rcases h3 k2 hk2 hkj hq with h4 | h4 | ⟨h4, h5, h6⟩ | h4
      · exact .inl h4
      · exact .inr (.inl h4)
      · exact (hnew i x k2 h1 hk2 h4 h5 h6).elim
      · exfalso
        rw [hk] at h4; cases h4
        simp only [inU, Bool.or_eq_true, Bool.and_eq_true, Nat.ble_eq, Nat.blt_eq] at hq
        rcases hq with hq | hq
        · exact hc ⟨hq, by rw [hx]; rfl⟩
        · exact hnew i x k h1 hk2 hjk hq.1 hq.2
  have rsubOf : ∀ hi : Hp, (∀ i o, hi.get i = some o → HS R (Lst listed) h.get ops.size i = some o) → Rel σ hi B w := fun hi hsub => ⟨fun i o hx => act.rel.obj i o (hsub i o hx), fun i k b c d hx hk => by
    obtain ⟨o1, h1⟩ := Option.isSome_iff_exists.1 hx
    obtain ⟨o2, h2⟩ := Option.isSome_iff_exists.1 hk
    exact act.rel.inj i k b c d (by simp [hsub i o1 h1]) (by simp [hsub k o2 h2])⟩
  have hfj : ∀ i, (R j).n ≤ i → i < (R j).n' → σ i = none := by
    intro i h1 h2
    cases hx : σ i with
    | none => rfl
    | some q =>
      rcases dm i (by simp [hx]) with h3 | ⟨k, hk, hl, h3, h4⟩
      · have := hnE j hj
        rw [hfree i (by omega) (by omega)] at h3; cases h3
      · exfalso
        rcases Nat.lt_trichotomy k j with h5 | h5 | h5
        · have := hGd.mono' h5 hj; omega
        · subst h5; rw [hun] at hl; cases hl
        · have := hGd.mono' h5 hk; omega
  have hBw : B ≤ w.heap.size := Nat.le_trans hB act.fr.size
  have hGw : GR G B w := hGl.step (act.below r0 hB)
  -- what stands behind it
  have fin : ∀ (hi ho : Hp), (∀ i o, hi.get i = some o → HS R (Lst listed) h.get ops.size i = some o) → (∀ i, inU (R j) i = true → ho.get i = (R j).ho.get i) → ∀ (a' : Act) (w' : World) (τ : Sg), Act1 σ hi (R j).n B w τ ho (R j).n' w' → KeptE hi (R j).n (R j).n' ho (R j).u → (∀ t, (R j).dst = some t → VR τ (R j).v (a'.tmps.getD t undef)) → (∀ t, (R j).dst ≠ some t → a'.tmps.getD t undef = a.tmps.getD t undef) → a'.tmps.size = a.tmps.size → a'.defers = a.defers → KK a' w' := by
    intro hi ho2 hsub hho a' w' τ act2 kept hv hov hsz hdf
    refine hKK a' w' ⟨by simp [I.len], ?_, ⟨τ, ?_, ?_, ?_⟩, hsz.trans I.size, hdf.trans I.def_⟩
    · intro k ok hok hl e he hb
      rw [lst_set hjl] at hl ⊢
      split
      · rfl
      · split at hl
        · rename_i hkj
          have : ok = o := by rw [hkj] at hok; exact Option.some.inj (hok.symm.trans ho)
          subst this; exact hrd e he hb
        · exact I.clo k ok hok hl e he hb
    · have big : ActF σ (HS R (Lst listed) h.get ops.size) (R j).n B w τ (HS R (Lst (listed.setIfInBounds j true)) h.get ops.size) (R j).n' w' := by
        have hU : ∀ i, inU (R j) i = true ↔ ((R j).u.contains i = true ∨ ((R j).n ≤ i ∧ i < (R j).n')) := by
          intro i
          simp only [inU, Bool.or_eq_true, Bool.and_eq_true, Nat.ble_eq, Nat.blt_eq]
        refine act_frame (u := (R j).u) act.rel hsub act2 kept ?_ ?_
        · intro i hi
          have hiu := (hU i).2 hi
          rw [hho i hiu]
          rw [HS_trunc (j := j + 1) (by omega) (fun k hk1 hk2 hl => by
            cases hq : inU (R k) i with
            | false => rfl
            | true =>
              rw [lst_set hjl, if_neg (by omega)] at hl
              rcases hGd.uu j k i hj hk2 (by omega) hiu hq with h4 | h4
              · have := (hGd.anc j k hj h4).1; omega
              · have := desL k hk2 h4; rw [this] at hl; cases hl)]
          simp only [HS]
          rw [if_pos ⟨by rw [lst_set hjl, if_pos rfl], hiu⟩]
        · intro i hi
          refine HS_congr fun k hk hq => ?_
          rw [lst_set hjl]
          split
          · rename_i hkj; rw [hkj] at hq; exact absurd ((hU i).1 hq) hi
          · rfl
      exact act.wide big hmonoN (hnE j hj)
    · intro i hi
      rcases act2.dom i hi with h1 | h1
      · rcases dm i h1 with h2 | ⟨k, hk, hl, h2⟩
        · exact .inl h2
        · refine .inr ⟨k, hk, ?_, h2⟩
          rw [lst_set hjl]; split
          · rfl
          · exact hl
      · exact .inr ⟨j, hj, by rw [lst_set hjl, if_pos rfl], h1⟩
    · intro t
      by_cases hd : (R j).dst = some t
      · have e : VS R (Lst (listed.setIfInBounds j true)) tm ops.size t = (R j).v := by
          rw [VS_trunc (j := j + 1) (by omega) (fun k hk1 hk2 hl hd2 => by
            have := hGd.once j k t hj hk2 hd hd2; omega)]
          simp only [VS]
          rw [if_pos ⟨by rw [lst_set hjl, if_pos rfl], hd⟩]
        rw [e]; exact hv t hd
      · have e : VS R (Lst (listed.setIfInBounds j true)) tm ops.size t = VS R (Lst listed) tm ops.size t := VS_congr fun k hk hd2 => by
          rw [lst_set hjl]; split
          · rename_i hkj; rw [hkj] at hd2; exact absurd hd2 hd
          · rfl
        rw [e, hov t hd]; exact (tr t).sub act2.sub
  have put1 : ∀ (v : Value) (t : Tmp), (R j).dst = some t → (a.put o.dst v).tmps.getD t undef = v := by
    intro v t hd
    rw [hGd.dst j o ho] at hd
    have := hGd.lt j o t ho hd
    rw [hd]
    simp [Act.put, Array.getD_eq_getD_getElem?, I.size, this]
  have put2 : ∀ (v : Value) (t : Tmp), (R j).dst ≠ some t → (a.put o.dst v).tmps.getD t undef = a.tmps.getD t undef := by
    intro v t hd
    rw [hGd.dst j o ho] at hd
    cases hx : o.dst with
    | none => rfl
    | some d =>
      rw [hx] at hd
      have : d ≠ t := fun e => hd (by rw [e])
      simp [Act.put, Array.getD_eq_getD_getElem?, Array.getElem?_setIfInBounds_ne this]
  unfold opX
  simp only [ho]
  have two : (∀ k, alt j = some k → Lst listed k = false) ∨ ∃ k, alt j = some k ∧ Lst listed k = true := by
    cases hx : alt j with
    | none => exact .inl fun k hk => by cases hk
    | some k =>
      cases hl : Lst listed k with
      | false => exact .inl fun k2 hk => by cases hk; exact hl
      | true => exact .inr ⟨k, rfl, hl⟩
  rcases two with two | ⟨k, hk1, hk2⟩
  rotate_left
  · obtain ⟨_, hks, hu0, hn0, o2, h2, ho2, hw2, hev⟩ := hGd.alt_ j k hj hk1
    rw [ho] at ho2; cases ho2
    have hsub := hsub1 k hk1 hk2
    have rsub := rsubOf _ hsub
    obtain ⟨⟨τ, w', v', h5, h6, h7⟩, hk⟩ := evOp_val hev htr rsub hGw hBw (fun i q1 q2 => by omega)
    have hno : ∀ i, inU (R j) i = true → h2.get i = (R j).ho.get i := by
      intro i hi
      simp only [inU, hu0, hn0, Bool.or_eq_true, Bool.and_eq_true, Nat.ble_eq, Nat.blt_eq, List.contains_nil, Bool.false_eq_true, false_or] at hi
      omega
    refine .inl ⟨wA_ok hw2 htr, noDefer hev, ?_⟩
    rcases h5 with h5 | ⟨h5, h8⟩
    · rw [h5]
      exact fin _ _ hsub hno _ _ τ (by rw [hn0]; exact h7) (by rw [hn0, hu0]; exact hk) (fun t ht => by rw [put1 v' t ht]; exact h6) (put2 v') (put_sz _ _ _) (put_df _ _ _)
    · subst h8
      rw [h5]
      exact fin _ _ hsub hno _ _ τ (by rw [hn0]; exact h7) (by rw [hn0, hu0]; exact hk) (fun t ht => by rw [put1 undef t ht]; exact h6) (put2 undef) (put_sz _ _ _) (put_df _ _ _)
  have hsub := hsub0 two
  have rsub := rsubOf _ hsub
  have fin := fin (R j).hi (R j).ho hsub (fun _ _ => rfl)
  rcases hGd.run j o ho with ⟨h1, h2, h3, h4, h5⟩ | ⟨h1, h2 | ⟨f, args, h2, h3⟩⟩
  · have act2 : Act1 σ (R j).hi (R j).n B w σ (R j).ho (R j).n' w := by rw [h4, h5]; exact ActF.refl rsub
    exact .inr ⟨wA_ok h1 htr, fin _ _ σ act2 (by rw [h5]; exact KeptE.refl _ _ _ _) (fun t ht => by rw [put1 undef t ht, h2]; exact .c _) (put2 undef) (put_sz _ _ _) (put_df _ _ _)⟩
  · obtain ⟨⟨τ, w', v', h5, h6, h7⟩, hk⟩ := evOp_val h2 htr rsub hGw hBw hfj
    refine .inl ⟨wA_ok h1 htr, noDefer h2, ?_⟩
    rcases h5 with h5 | ⟨h5, h8⟩
    · rw [h5]
      exact fin _ _ τ h7 hk (fun t ht => by rw [put1 v' t ht]; exact h6) (put2 v') (put_sz _ _ _) (put_df _ _ _)
    · subst h8
      rw [h5]
      exact fin _ _ τ h7 hk (fun t ht => by rw [put1 undef t ht]; exact h6) (put2 undef) (put_sz _ _ _) (put_df _ _ _)
  · refine .inl ⟨wA_ok h1 htr, noDefer h2, ?_⟩
    have hc2 := evOp_call hP h2 htr w
    cases f with
    | fn f =>
      obtain ⟨args', h5, h6⟩ := hc2
      obtain ⟨hk, k2⟩ := hK (.fn f) args _ _ _ _ _ _ h3 σ w args' rsub hGw hBw hfj h6
      rw [h5]
      refine Calls.mono k2 ?_
      rintro e w' ⟨τ, v', rfl, h7, h8⟩
      exact ⟨v', rfl, fin _ _ τ h8 hk (fun t ht => by rw [put1 v' t ht]; exact h7) (put2 v') (put_sz _ _ _) (put_df _ _ _)⟩
    | yld i =>
      obtain ⟨args', b, kp, h0, h5, h6⟩ := hc2
      obtain ⟨hk, k2⟩ := hK (.yld i) args _ _ _ _ _ _ h3 σ w args' rsub hGw hBw hfj h6
      obtain ⟨f', tmps, as, bd, k3, k4⟩ := k2 b kp h0
      rw [h5, k3]
      intro c cs
      obtain ⟨v', w', ⟨τ, h7, h8⟩, h9⟩ := k4 c cs
      exact ⟨v', w', fin _ _ τ h8 hk (fun t ht => by rw [put1 v' t ht]; exact h7) (put2 v') (put_sz _ _ _) (put_df _ _ _), h9⟩
end
end Go.Proofs.Ytcpifmhcebfglaa
namespace Go.Proofs.Ytcpifmhcebfglaa
open Go Go.RowKit
set_option linter.unusedVariables false
def anyX (P : Program) (ops : Array Oper) (F : Act → World → Prop) : Nat → Array Bool → Act → World → Prop
  | 0, listed, a, w => Region.ready .any ops listed = [] ∧ F a w
  | fuel + 1, listed, a, w => (Region.ready .any ops listed = [] → F a w) ∧ ∀ i ∈ Region.ready .any ops listed, opX P ops i (anyX P ops F fuel (listed.setIfInBounds i true)) a w
theorem anyX_sound {P : Program} {ops : Array Oper} {F : Act → World → Prop} : ∀ (fuel t : Nat) (listed : Array Bool) (a : Act) (w : World), anyX P ops F fuel listed a w → opsX P ops F (Region.linearise.go .any ops fuel t listed []) a w := by
  intro fuel
  induction fuel with
  | zero => intro t listed a w h; simpa [Region.linearise.go, opsX] using h.2
  | succ fuel ih =>
    intro t listed a w h
    obtain ⟨h₀, h₁⟩ := h
    simp only [Region.linearise.go]
    change opsX P ops F (match (Region.ready .any ops listed)[t % (Region.ready .any ops listed).length]? with
      | some i => Region.linearise.go .any ops fuel (t / (Region.ready .any ops listed).length) (listed.setIfInBounds i true) [i]
      | none => [].reverse) a w
    cases hi : (Region.ready .any ops listed)[t % (Region.ready .any ops listed).length]? with
    | none =>
      have hnil : Region.ready .any ops listed = [] := by
        cases hr : Region.ready .any ops listed with
        | nil => rfl
        | cons x xs =>
          rw [hr] at hi
          have hlt : t % (x :: xs).length < (x :: xs).length := Nat.mod_lt _ (by simp)
          simp at hi
          simp at hlt
          omega
      simpa [opsX] using h₀ hnil
    | some i =>
      simp only []
      rw [linearise_go_acc, List.reverse_singleton, List.singleton_append]
      exact opX_mono (fun a w => ih _ _ a w) (h₁ i (List.mem_of_getElem? hi))
section
variable {P : Program} {G : Gl} {B : Nat} {K : KT} {ops : Array Oper} {sz : Nat} {R : Nat → Rc} {A : Nat → Nat → Bool} {alt : Nat → Option Nat} {tm : T AV} {h : Hp} {n nE : Nat} {σ0 : Sg} {a0 : Act} {w0 : World}
def unlE (n : Nat) (listed : Array Bool) : List Nat := (List.range n).filter fun j => !listed.getD j false
theorem filter_ltE {α : Type} (p q : α → Bool) (hpq : ∀ x, q x = true → p x = true) (j : α) (hp : p j = true) (hq : q j = false) : ∀ l : List α, j ∈ l → (l.filter q).length < (l.filter p).length
  | [], h => by cases h
  | x :: l, h => by
    have hle : ∀ l : List α, (l.filter q).length ≤ (l.filter p).length := by
      intro l
      induction l with
      | nil => exact Nat.le_refl _
      | cons y l ih =>
        rw [List.filter_cons, List.filter_cons]
        by_cases hy : q y = true
        · rw [if_pos hy, if_pos (hpq y hy)]; simp; exact ih
        · rw [if_neg hy]
          split
          · simp; omega
          · exact ih
    rw [List.filter_cons, List.filter_cons]
    rcases List.mem_cons.1 h with rfl | h
    · rw [if_neg (by rw [hq]; simp), if_pos hp]
      have := hle l
      simp; omega
    · have ih := filter_ltE p q hpq j hp hq l h
      by_cases hx : q x = true
      · rw [if_pos hx, if_pos (hpq x hx)]; simp; exact ih
      · rw [if_neg hx]
        split
        · simp; omega
        · exact ih
theorem Good.ready (hG : Good P G B K ops sz R A alt tm h n) {listed : Array Bool} (hsz : listed.size = ops.size) : ∀ (i : Nat), i < ops.size → Lst listed i = false → Region.ready .any ops listed ≠ [] := by
  intro i
  induction i using Nat.strongRecOn with
  | _ i ih =>
    intro hi hun
    have ho : ops[i]? = some ops[i] := Array.getElem?_eq_getElem hi
    by_cases hx : ∀ e ∈ (ops[i]).after, Region.binds .any e = true → listed.getD e.on false = true
    · intro h0
      have hd : listed.getD i true = false := by
        have : listed.getD i false = false := hun
        have h2 : i < listed.size := by omega
        simp only [Array.getD_eq_getD_getElem?, Array.getElem?_eq_getElem h2, Option.getD_some] at this ⊢
        exact this
      have : i ∈ Region.ready .any ops listed := mem_ready.2 ⟨hd, _, ho, hx⟩
      rw [h0] at this; cases this
    · simp only [Classical.not_forall] at hx
      obtain ⟨e, he, hb, hl⟩ := hx
      have hlt := hG.back i _ ho e he hb
      exact ih e.on hlt (by omega) (by unfold Lst; simpa using hl)
theorem draw_any (hP : NoNum P) (hK : KOK P G B K) (hGd : Good P G B K ops sz R A alt tm h n) (hGl : GR G B w0) (hB : B ≤ w0.heap.size) (hnE : ∀ j, j < ops.size → (R j).n' ≤ nE) (hfree : ∀ i, n ≤ i → i < nE → σ0 i = none) (r0 : Rel σ0 h B w0)
    (F : Act → World → Prop) (hQ : ∀ listed a w, Inv ops B R A tm h n nE σ0 a0 w0 sz listed a w → (∀ j, j < ops.size → Lst listed j = true) → F a w) :
    ∀ (f : Nat) (listed : Array Bool) (a : Act) (w : World), (unlE ops.size listed).length ≤ f → Inv ops B R A tm h n nE σ0 a0 w0 sz listed a w → anyX P ops F f listed a w := by
  have fin : ∀ (listed : Array Bool) (a : Act) (w : World), Inv ops B R A tm h n nE σ0 a0 w0 sz listed a w → Region.ready .any ops listed = [] → F a w := by
    intro listed a w I hr
    refine hQ listed a w I fun j hj => ?_
    cases hl : Lst listed j with
    | true => rfl
    | false => exact absurd hr (hGd.ready I.len j hj hl)
  intro f
  induction f with
  | zero =>
    intro listed a w hf I
    have hr : Region.ready .any ops listed = [] := by
      cases hr : Region.ready .any ops listed with
      | nil => rfl
      | cons j l =>
        have hm : j ∈ Region.ready .any ops listed := by rw [hr]; exact List.mem_cons_self
        obtain ⟨h1, o, h2, _⟩ := mem_ready.1 hm
        have hj : j < ops.size := (Array.getElem?_eq_some_iff.1 h2).1
        have : j ∈ unlE ops.size listed := by
          refine List.mem_filter.2 ⟨List.mem_range.2 hj, ?_⟩
          have h3 : j < listed.size := by rw [I.len]; exact hj
          simp only [Array.getD_eq_getD_getElem?, Array.getElem?_eq_getElem h3, Option.getD_some] at h1 ⊢
          rw [h1]; rfl
        have h5 : (unlE ops.size listed).length = 0 := by omega
        rw [List.length_eq_zero_iff.1 h5] at this; cases this
    exact ⟨hr, fin listed a w I hr⟩
  | succ f ih =>
    intro listed a w hf I
    refine ⟨fin listed a w I, fun j hm => ?_⟩
    obtain ⟨h1, o, h2, h3⟩ := mem_ready.1 hm
    have hj : j < ops.size := (Array.getElem?_eq_some_iff.1 h2).1
    have hjl : j < listed.size := by rw [I.len]; exact hj
    have hun : Lst listed j = false := by
      unfold Lst
      simp only [Array.getD_eq_getD_getElem?, Array.getElem?_eq_getElem hjl, Option.getD_some] at h1 ⊢
      exact h1
    refine I.step hP hK hGd hGl hB hnE hfree r0 h2 hun h3 _ fun a' w' I' => ih _ _ _ ?_ I'
    have : (unlE ops.size (listed.setIfInBounds j true)).length < (unlE ops.size listed).length := by
      refine filter_ltE _ _ ?_ j ?_ ?_ _ (List.mem_range.2 hj)
      · intro x hx
        have hx' : Lst (listed.setIfInBounds j true) x = false := by simpa [Lst] using hx
        rw [lst_set hjl] at hx'
        split at hx'
        · cases hx'
        · have : listed.getD x false = false := hx'
          rw [this]; rfl
      · have : listed.getD j false = false := hun
        rw [this]; rfl
      · have : Lst (listed.setIfInBounds j true) j = true := by rw [lst_set hjl, if_pos rfl]
        have this : (listed.setIfInBounds j true).getD j false = true := this
        rw [this]; rfl
    omega
theorem HS_none {R : Nat → Rc} {L : Nat → Bool} {g : Nat → Option AO} (hL : ∀ k, L k = false) : ∀ m, HS R L g m = g
  | 0 => rfl
  | m + 1 => by
    funext i
    simp only [HS, hL m, Bool.false_eq_true, false_and, if_false]
    rw [HS_none hL m]
theorem VS_none {R : Nat → Rc} {L : Nat → Bool} {tm : T AV} (hL : ∀ k, L k = false) (t : Tmp) : ∀ m, VS R L tm m t = (tm.get t).getD .q
  | 0 => rfl
  | m + 1 => by
    simp only [VS, hL m, Bool.false_eq_true, false_and, if_false]
    exact VS_none hL t m
/-- THE REGION, whatever its order -/
theorem draw_ok (hP : NoNum P) (hK : KOK P G B K) (hm : P.follows .mixedOrders = true) (hGd : Good P G B K ops sz R A alt tm h n) {σ : Sg} {a : Act} {w : World} (hGl : GR G B w) (hB : B ≤ w.heap.size) (hnn : n ≤ nE) (hnE : ∀ j, j < ops.size → (R j).n' ≤ nE) (hfree : ∀ i, n ≤ i → i < nE → σ i = none) (r : Rel σ h B w) (ht : TRE σ tm a) (hs : a.tmps.size = sz)
    (F : Act → World → Prop) (hQ : ∀ a' w' τ, ActF σ h.get n B w τ (HS R (fun _ => true) h.get ops.size) nE w' → (∀ t, VR τ (VS R (fun _ => true) tm ops.size t) (a'.tmps.getD t undef)) → a'.tmps.size = sz → a'.defers = a.defers → F a' w') : ∀ t, opsX P ops F (Region.schedule (P.follows .mixedOrders) ops t) a { w with drawn := w.drawn + 1 } := by
  have a1 := act_drew (n := n) r (w.drawn + 1)
  intro t
  simp only [Region.schedule, hm, Bool.true_or, if_true]
  refine anyX_sound ops.size t _ a _ (draw_any (σ0 := σ) (a0 := a) (w0 := { w with drawn := w.drawn + 1 }) (nE := nE) hP hK hGd (hGl.step (a1.below r hB)) hB hnE hfree a1.rel F ?_ _ _ _ _ ?_ ?_)
  · intro listed a' w' I hall
    obtain ⟨τ, act, dm, tr⟩ := I.st
    have e1 : HS R (Lst listed) h.get ops.size = HS R (fun _ => true) h.get ops.size := by
      funext i; exact HS_congr fun k hk _ => hall k hk
    rw [e1] at act
    refine hQ a' w' τ ?_ (fun t => ?_) I.size I.def_
    · exact ⟨act.le, act.sub, act.dom, act.rel, ⟨act.fr.os, act.fr.tape, act.fr.output, act.fr.size, act.fr.block⟩, act.src⟩
    · have e2 : VS R (Lst listed) tm ops.size t = VS R (fun _ => true) tm ops.size t := VS_congr fun k hk _ => hall k hk
      rw [← e2]; exact tr t
  · refine Nat.le_trans (List.length_filter_le _ _) ?_
    simp
  · have hL : ∀ k, Lst (Array.replicate ops.size false) k = false := by
      intro k
      unfold Lst
      simp only [Array.getD_eq_getD_getElem?, Array.getElem?_replicate]
      split <;> rfl
    refine ⟨by simp, ?_, ⟨σ, ?_, fun i hi => .inl hi, fun t => ?_⟩, hs, rfl⟩
    · intro j o _ hl
      rw [hL] at hl; cases hl
    · rw [HS_none hL]
      exact ⟨hnn, Sub.refl _, fun i hi => .inl hi, a1.rel, FrE.refl _ _ _, fun i b k hi hb => .inr ⟨i, k, hi, hb⟩⟩
    · rw [VS_none hL]; exact ht t
end
end Go.Proofs.Ytcpifmhcebfglaa
namespace Go.Proofs.Ytcpifmhcebfglaa
open Go Go.RowKit
set_option linter.unusedVariables false
def ancOf (an : List Nat) (o : Oper) : Nat := o.after.toList.foldl (fun m e => cond (Region.binds .any e) (m ||| 2 ^ e.on ||| an.getD e.on 0) m) 0
def ancAll : List Oper → List Nat → List Nat
  | [], an => an
  | o :: l, an => ancAll l (an ++ [ancOf an o])
def Aof (an : List Nat) (j k : Nat) : Bool := (an.getD j 0).testBit k
def ancOk (an : List Nat) : List Oper → Nat → Bool
  | [], _ => true
  | o :: l, j => Nat.beq (an.getD j 0) (ancOf an o) && (o.after.toList.all fun e => !Region.binds .any e || Nat.blt e.on j) && ancOk an l (j + 1)
theorem ancOf_bit (an : List Nat) (k : Nat) : ∀ (l : List Edge) (m : Nat), (l.foldl (fun m e => cond (Region.binds .any e) (m ||| 2 ^ e.on ||| an.getD e.on 0) m) m).testBit k = true → m.testBit k = true ∨ ∃ e ∈ l, Region.binds .any e = true ∧ (e.on = k ∨ Aof an e.on k = true)
  | [], m, h => .inl h
  | e :: l, m, h => by
    simp only [List.foldl_cons] at h
    rcases ancOf_bit an k l _ h with h1 | ⟨e2, h1, h2⟩
    · cases hb : Region.binds .any e with
      | false => rw [hb] at h1; exact .inl h1
      | true =>
        rw [hb] at h1
        simp only [cond, Nat.testBit_or, Bool.or_eq_true, Nat.testBit_two_pow] at h1
        rcases h1 with (h1 | h1) | h1
        · exact .inl h1
        · exact .inr ⟨e, List.mem_cons_self, hb, .inl (by simpa using h1)⟩
        · exact .inr ⟨e, List.mem_cons_self, hb, .inr h1⟩
    · exact .inr ⟨e2, List.mem_cons_of_mem _ h1, h2⟩
theorem ancOk_spec {an : List Nat} : ∀ {l : List Oper} {j : Nat}, ancOk an l j = true → ∀ k o, l[k]? = some o → (∀ e ∈ o.after, Region.binds .any e = true → e.on < j + k) ∧ an.getD (j + k) 0 = ancOf an o
  | [], _, _, k, o, h => by simp at h
  | o' :: l, j, hc, k, o, h => by
    simp only [ancOk, Bool.and_eq_true] at hc
    cases k with
    | zero =>
      simp at h; subst h
      refine ⟨fun e he hb => ?_, Nat.eq_of_beq_eq_true hc.1.1⟩
      have := List.all_eq_true.1 hc.1.2 e (Array.mem_toList_iff.2 he)
      rw [hb] at this
      simp only [Bool.not_true, Bool.false_or] at this
      exact Nat.le_of_ble_eq_true this
    | succ k =>
      simp at h
      have := ancOk_spec hc.2 k o h
      rw [show j + (k + 1) = j + 1 + k by omega]; exact this
theorem Aof_spec {an : List Nat} {ops : Array Oper} (hc : ancOk an ops.toList 0 = true) : ∀ j k, j < ops.size → Aof an j k = true → k < j ∧ ∃ o, ops[j]? = some o ∧ ∃ e ∈ o.after, Region.binds .any e = true ∧ (e.on = k ∨ Aof an e.on k = true) := by
  intro j
  induction j using Nat.strongRecOn with
  | _ j ih =>
    intro k hj hA
    have ho : ops[j]? = some ops[j] := Array.getElem?_eq_getElem hj
    have ho' : ops.toList[j]? = some ops[j] := by rw [Array.getElem?_toList]; exact ho
    obtain ⟨h1, h2⟩ := ancOk_spec hc j _ ho'
    rw [Nat.zero_add] at h1 h2
    have hA' := hA
    unfold Aof at hA
    rw [h2] at hA
    rcases ancOf_bit an k _ _ hA with h3 | ⟨e, he, hb, hor⟩
    · simp at h3
    · have hlt := h1 e (Array.mem_toList_iff.1 he) hb
      refine ⟨?_, _, ho, e, Array.mem_toList_iff.1 he, hb, hor⟩
      rcases hor with h4 | h4
      · omega
      · have := (ih e.on hlt k (by omega) h4).1; omega
def wrOk (an : List Nat) (j t : Nat) : List Oper → Nat → Bool
  | [], _ => true
  | o :: l, k => (match o.dst with
    | some d => !Nat.beq d t || Nat.beq k j || Aof an j k || Aof an k j
    | none => true) && wrOk an j t l (k + 1)
theorem wrOk_spec {an : List Nat} {j t : Nat} : ∀ {l : List Oper} {q : Nat}, wrOk an j t l q = true → ∀ (k : Nat) (o : Oper), l[k]? = some o → o.dst = some t → q + k = j ∨ Aof an j (q + k) = true ∨ Aof an (q + k) j = true
  | [], _, _, k, o, h, _ => by simp at h
  | o' :: l, q, hc, k, o, h, hd => by
    simp only [wrOk, Bool.and_eq_true] at hc
    cases k with
    | zero =>
      simp at h; subst h
      rw [hd] at hc
      have := hc.1
      simp only [Nat.beq_refl, Bool.not_true, Bool.false_or, Bool.or_eq_true] at this
      rcases this with (h1 | h1) | h1
      · exact .inl (Nat.eq_of_beq_eq_true h1)
      · exact .inr (.inl h1)
      · exact .inr (.inr h1)
    | succ k =>
      simp at h
      have := wrOk_spec hc.2 k o h hd
      rw [show q + (k + 1) = q + 1 + k by omega]; exact this
def onceOk : List Oper → Bool
  | [] => true
  | o :: l => (match o.dst with
    | some d => l.all fun o2 => match o2.dst with
      | some d2 => !Nat.beq d d2
      | none => true
    | none => true) && onceOk l
theorem onceOk_spec : ∀ {l : List Oper}, onceOk l = true → ∀ (j k : Nat) (x y : Oper) (t : Tmp), l[j]? = some x → l[k]? = some y → x.dst = some t → y.dst = some t → j = k
  | [], _, j, k, x, y, t, h, _, _, _ => by simp at h
  | o :: l, hc, j, k, x, y, t, hx, hy, hdx, hdy => by
    simp only [onceOk, Bool.and_eq_true] at hc
    have key : ∀ (z : Oper) (m : Nat), l[m]? = some z → o.dst = some t → z.dst = some t → False := by
      intro z m hz h1 h2
      have hc1 := hc.1
      rw [h1] at hc1
      have := List.all_eq_true.1 hc1 z (List.mem_of_getElem? hz)
      rw [h2] at this
      simp at this
    cases j with
    | zero => cases k with
      | zero => rfl
      | succ k => simp at hx hy; subst hx; exact (key y k hy hdx hdy).elim
    | succ j => cases k with
      | zero => simp at hx hy; subst hy; exact (key x j hx hdy hdx).elim
      | succ k => simp at hx hy; rw [onceOk_spec hc.2 j k x y t hx hy hdx hdy]
def touched (an : List Nat) (j : Nat) : List Rc → Nat → Nat → Bool
  | [], _, _ => false
  | r :: l, k, i => (!Aof an j k && inU r i) || touched an j l (k + 1) i
theorem touched_spec {an : List Nat} {j i : Nat} : ∀ {l : List Rc} {q : Nat}, touched an j l q i = false → ∀ k r, l[k]? = some r → inU r i = true → Aof an j (q + k) = true
  | [], _, _, k, r, h, _ => by simp at h
  | r' :: l, q, hc, k, r, h, hu => by
    simp only [touched, Bool.or_eq_false_iff] at hc
    cases k with
    | zero =>
      simp at h; subst h
      have := hc.1
      rw [hu] at this
      simpa using this
    | succ k =>
      simp at h
      have := touched_spec hc.2 k r h hu
      rw [show q + (k + 1) = q + 1 + k by omega]; exact this
def avIds : AV → List Nat
  | .p i _ => [i]
  | .s i _ _ _ => [i]
  | .m i => [i]
  | _ => []
def restr (h : Hp) : List Nat → Hp → Hp
  | [], t => t
  | i :: l, t => restr h l (t.set i (h.get i))
theorem restr_spec {h : Hp} : ∀ {l : List Nat} {t : Hp} {i : Nat} {o : AO}, (restr h l t).get i = some o → (i ∈ l ∧ h.get i = some o) ∨ (t.get i = some o)
  | [], t, i, o, e => .inr e
  | j :: l, t, i, o, e => by
    simp only [restr] at e
    rcases restr_spec e with ⟨h1, h2⟩ | h1
    · exact .inl ⟨List.mem_cons_of_mem _ h1, h2⟩
    · rw [T.get_set] at h1
      split at h1
      · rename_i hij; subst hij; exact .inl ⟨List.mem_cons_self, h1⟩
      · exact .inr h1
def dropIds : List Nat → Hp → Hp
  | [], t => t
  | i :: l, t => dropIds l (t.set i none)
theorem dropIds_spec : ∀ (l : List Nat) (t : Hp) (i : Nat), (dropIds l t).get i = if l.contains i then none else t.get i
  | [], t, i => by simp [dropIds]
  | j :: l, t, i => by
    simp only [dropIds]
    rw [dropIds_spec l _ i, T.get_set]
    simp only [List.contains_cons]
    by_cases hij : i = j
    · subst hij; simp
    · have : (i == j) = false := by simpa using hij
      simp [hij, this]
def newIds (r : Rc) : List Nat := List.range' r.n (r.n' - r.n)
theorem newIds_spec (r : Rc) (i : Nat) : (newIds r).contains i = true ↔ (r.n ≤ i ∧ i < r.n') := by
  unfold newIds
  rw [List.contains_iff_mem, List.mem_range'_1]
  omega
theorem inU_iff (r : Rc) (i : Nat) : inU r i = true ↔ (r.u.contains i = true ∨ (newIds r).contains i = true) := by
  rw [newIds_spec]
  simp only [inU, Bool.or_eq_true, Bool.and_eq_true, Nat.ble_eq, Nat.blt_eq]
def erAll (an : List Nat) (j : Nat) : List Rc → Nat → Hp → Hp
  | [], _, h => h
  | r :: l, k, h => erAll an j l (k + 1) (cond (Aof an j k) h (dropIds (newIds r) (dropIds r.u h)))
theorem erAll_spec {an : List Nat} {j : Nat} : ∀ {l : List Rc} {q : Nat} {h : Hp} {i : Nat} {o : AO}, (erAll an j l q h).get i = some o → h.get i = some o ∧ ∀ k r, l[k]? = some r → inU r i = true → Aof an j (q + k) = true
  | [], q, h, i, o, e => ⟨e, fun k r hr => by simp at hr⟩
  | r' :: l, q, h, i, o, e => by
    simp only [erAll] at e
    obtain ⟨h1, h2⟩ := erAll_spec e
    cases hA : Aof an j q with
    | true =>
      rw [hA] at h1
      refine ⟨h1, fun k r hr hu => ?_⟩
      cases k with
      | zero => exact hA
      | succ k => simp at hr; have := h2 k r hr hu; rwa [show q + (k + 1) = q + 1 + k by omega]
    | false =>
      rw [hA] at h1
      simp only [cond, dropIds_spec] at h1
      split at h1
      · cases h1
      · rename_i q1
        split at h1
        · cases h1
        · rename_i q2
          refine ⟨h1, fun k r hr hu => ?_⟩
          cases k with
          | zero =>
            simp at hr; subst hr
            rcases (inU_iff r' i).1 hu with h3 | h3
            · exact absurd h3 q2
            · exact absurd h3 q1
          | succ k => simp at hr; have := h2 k r hr hu; rwa [show q + (k + 1) = q + 1 + k by omega]
def incOne (an : List Nat) (j : Nat) (uj : List Nat) (r : Rc) (k : Nat) : Bool := Aof an j k || ((uj.all fun i => !inU r i) && (match r.ft with
      | some ids => ids.all fun i => !uj.contains i
      | none => uj.isEmpty))
def IncR (u : List Nat) (r : Rc) : Prop := (∀ i, u.contains i = true → inU r i = false) ∧ (match r.ft with
      | some ids => ∀ i, i ∈ ids → u.contains i = false
      | none => u = [])
theorem incOne_spec {an : List Nat} {j : Nat} {uj : List Nat} {r : Rc} {k : Nat} (h : incOne an j uj r k = true) : Aof an j k = true ∨ IncR uj r := by
  unfold incOne at h
  rw [Bool.or_eq_true] at h
  rcases h with h1 | h1
  · exact .inl h1
  · right
    simp only [Bool.and_eq_true] at h1
    refine ⟨fun i hi => ?_, ?_⟩
    · have := List.all_eq_true.1 h1.1 i (List.contains_iff_mem.1 hi)
      simpa using this
    · have h2 := h1.2
      split at h2
      · intro i hi
        have := List.all_eq_true.1 h2 i hi
        simpa using this
      · simpa using h2
def altOf : List (Nat × Nat) → Nat → Option Nat
  | [], _ => none
  | (a, b) :: l, k => cond (Nat.beq a k) (some b) (altOf l k)
def sameInt : AV → AV → Bool
  | .c (.int k a), .c (.int k2 b) => decide (k = k2) && decide (a = b)
  | _, _ => false
theorem sameInt_ok {x y : AV} (h : sameInt x y = true) : x = y := by
  unfold sameInt at h
  split at h
  · simp only [Bool.and_eq_true, decide_eq_true_eq] at h
    rw [h.1, h.2]
  · cases h
def altSame (r' : Rc) : Option Out → Bool
  | some (.val v _ n' u) => sameInt v r'.v && Nat.beq n' r'.n && u.isEmpty
  | _ => false
def altOk (P : Program) (G : Gl) (ops : Array Oper) (r r' : Rc) (o : Oper) : Bool := r'.u.isEmpty && Nat.beq r'.n' r'.n && (match wA ops r'.tj o with
  | some true => altSame r' (evOp P G r'.tj (ovr r r') r'.n o)
  | _ => false)
theorem altOk_ok {P : Program} {G : Gl} {ops : Array Oper} {r r' : Rc} {o : Oper} {k' : Nat} (ho : ops[k']? = some o) (h : altOk P G ops r r' o = true) : AltR P G ops r r' k' := by
  unfold altOk at h
  simp only [Bool.and_eq_true] at h
  obtain ⟨⟨h1, h2⟩, h3⟩ := h
  split at h3
  · rename_i hw
    unfold altSame at h3
    split at h3
    · rename_i v h4 n' u he
      simp only [Bool.and_eq_true] at h3
      obtain ⟨⟨h5, h6⟩, h7⟩ := h3
      have h5 := sameInt_ok h5
      have h6 := Nat.eq_of_beq_eq_true h6
      have h7 : u = [] := by simpa using h7
      subst h5 h6 h7
      exact ⟨by simpa using h1, Nat.eq_of_beq_eq_true h2, o, h4, ho, hw, he⟩
    · cases h3
  · cases h3
def conf (P : Program) (G : Gl) (ops : Array Oper) (an : List Nat) (j : Nat) (r : Rc) : List Rc → List Oper → Nat → List (Nat × Nat) → Option (List (Nat × Nat))
  | [], _, _, al => some al
  | r' :: l, os, k, al => cond (incOne an j r.u r' k) (conf P G ops an j r l os.tail (k + 1) al) (match os with
    | o :: _ => cond ((altOf al k).isNone && altOk P G ops r r' o) (conf P G ops an j r l os.tail (k + 1) ((k, j) :: al)) none
    | [] => none)
theorem altOf_cons {al : List (Nat × Nat)} {k j k' : Nat} : altOf ((k, j) :: al) k' = if k = k' then some j else altOf al k' := by
  simp only [altOf]
  by_cases h : k = k'
  · subst h; simp
  · rw [if_neg h, T.beq_no h]; rfl
theorem conf_spec {P : Program} {G : Gl} {ops : Array Oper} {an : List Nat} {j : Nat} {r : Rc} : ∀ {l : List Rc} {os : List Oper} {q : Nat} {al al' : List (Nat × Nat)}, conf P G ops an j r l os q al = some al' → (∀ k, os[k]? = ops[q + k]?) →
    (∀ k r', l[k]? = some r' → Aof an j (q + k) = true ∨ IncR r.u r' ∨ altOf al' (q + k) = some j) ∧ (∀ k' m, altOf al' k' = some m → altOf al k' = some m ∨ (m = j ∧ ∃ k r', k' = q + k ∧ l[k]? = some r' ∧ AltR P G ops r r' k')) ∧ (∀ k' m, altOf al k' = some m → altOf al' k' = some m)
  | [], os, q, al, al', e, _ => by
    cases e
    exact ⟨fun k r' h => by simp at h, fun k' m h => .inl h, fun k' m h => h⟩
  | r' :: l, os, q, al, al', e, ho => by
    have hot : ∀ k, os.tail[k]? = ops[q + 1 + k]? := fun k => by
      rw [List.getElem?_tail, ho (k + 1), show q + (k + 1) = q + 1 + k by omega]
    simp only [conf] at e
    cases hc : incOne an j r.u r' q with
    | true =>
      rw [hc] at e
      obtain ⟨h1, h2, h3⟩ := conf_spec e hot
      refine ⟨fun k r2 h => ?_, fun k' m h => ?_, h3⟩
      · cases k with
        | zero =>
          simp at h; subst h
          rcases incOne_spec hc with h4 | h4
          · exact .inl h4
          · exact .inr (.inl h4)
        | succ k => simp at h; have := h1 k r2 h; rwa [show q + (k + 1) = q + 1 + k by omega]
      · rcases h2 k' m h with h4 | ⟨h4, k, r2, h5, h6, h7⟩
        · exact .inl h4
        · exact .inr ⟨h4, k + 1, r2, by omega, by simpa using h6, h7⟩
    | false =>
      rw [hc] at e
      simp only [cond] at e
      split at e
      · rename_i o _ 
        cases hd : ((altOf al q).isNone && altOk P G ops r r' o) with
        | false => rw [hd] at e; cases e
        | true =>
          rw [hd] at e
          obtain ⟨h1, h2, h3⟩ := conf_spec e hot
          simp only [Bool.and_eq_true, Option.isNone_iff_eq_none] at hd
          have hoq : ops[q]? = some o := by have := ho 0; simpa using this.symm
          have hA := altOk_ok hoq hd.2
          have hq : altOf al' q = some j := h3 q j (by rw [altOf_cons, if_pos rfl])
          refine ⟨fun k r2 h => ?_, fun k' m h => ?_, fun k' m h => ?_⟩
          · cases k with
            | zero => exact .inr (.inr hq)
            | succ k => simp at h; have := h1 k r2 h; rwa [show q + (k + 1) = q + 1 + k by omega]
          · rcases h2 k' m h with h4 | ⟨h4, k, r2, h5, h6, h7⟩
            · rw [altOf_cons] at h4
              split at h4
              · rename_i hk; cases h4; subst hk
                exact .inr ⟨rfl, 0, r', rfl, rfl, hA⟩
              · exact .inl h4
            · exact .inr ⟨h4, k + 1, r2, by omega, by simpa using h6, h7⟩
          · refine h3 k' m ?_
            rw [altOf_cons, if_neg (fun hk => by rw [← hk, hd.1] at h; cases h)]; exact h
      · cases e
def tjOf (an : List Nat) (ops : Array Oper) (j : Nat) (tm : T AV) : List Tmp → T AV → T AV
  | [], t => t
  | x :: l, t => tjOf an ops j tm l (cond (wrOk an j x ops.toList 0) (t.set x (tm.get x)) t)
theorem tjOf_spec {an : List Nat} {ops : Array Oper} {j : Nat} {tm : T AV} : ∀ {l : List Tmp} {t : T AV} {i : Nat} {x : AV}, (tjOf an ops j tm l t).get i = some x → (wrOk an j i ops.toList 0 = true ∧ tm.get i = some x) ∨ t.get i = some x
  | [], t, i, x, e => .inr e
  | y :: l, t, i, x, e => by
    simp only [tjOf] at e
    rcases tjOf_spec e with h1 | h1
    · exact .inl h1
    · cases hw : wrOk an j y ops.toList 0 with
      | false => rw [hw] at h1; exact .inr h1
      | true =>
        rw [hw] at h1
        simp only [cond, T.get_set] at h1
        split at h1
        · rename_i hiy; subst hiy; exact .inl ⟨hw, h1⟩
        · exact .inr h1
def stepD (P : Program) (G : Gl) (K : KT) (ops : Array Oper) (an : List Nat) (j : Nat) (o : Oper) (recs : List Rc) (s : S1) : Option Rc :=
  (fun tj => match wA ops tj o with
  | none => none
  | some false => some ⟨tj, o.dst, .c undef, .nil, .nil, s.n, s.n, [], some []⟩
  | some true => (fun ids => (fun hi => match evOp P G tj hi s.n o with
      | some (.val v ho n' u) => some ⟨tj, o.dst, v, hi, ho, s.n, n', u, some ids⟩
      | some (.call _ _) => (fun h2 => match evOp P G tj h2 s.n o with
        | some (.call f args) => match K f args h2 s.n with
          | some (v, ho, n', u) => some ⟨tj, o.dst, v, h2, ho, s.n, n', u, none⟩
          | none => none
        | _ => none) (erAll an j recs 0 s.h)
      | none => none) (restr s.h ids .nil)) ((o.op.operands.toList.flatMap fun x => avIds (ev tj x)).filter fun i => !touched an j recs 0 i)) (tjOf an ops j s.tm (o.looksAt ops) .nil)
def goD (P : Program) (G : Gl) (K : KT) (ops : Array Oper) (an : List Nat) (sz n0 : Nat) : List Oper → Nat → List Rc → List (Nat × Nat) → S1 → Option (List Rc × S1)
  | [], _, recs, _, s => some (recs, s)
  | o :: l, j, recs, al, s => match stepD P G K ops an j o recs s with
    | some r => cond (Nat.ble r.n r.n' && (r.u.all fun i => Nat.blt i r.n))
      (match conf P G ops an j r recs ops.toList 0 al with
      | some al' => match putD sz o.dst r.v s.tm with
        | some tm => goD P G K ops an sz n0 l (j + 1) (recs ++ [r]) al' ⟨tm, copyIds r.ho (newIds r) (copyIds r.ho r.u s.h), r.n', mrg n0 r.n' s.u r.u⟩
        | none => none
      | none => none) none
    | none => none
def runDraw (P : Program) (G : Gl) (K : KT) (ops : Array Oper) (sz n0 : Nat) (s : S1) : Option S1 :=
  (fun an => cond (ancOk an ops.toList 0 && onceOk ops.toList) ((goD P G K ops an sz n0 ops.toList 0 [] [] s).map (·.2)) none) (ancAll ops.toList [])
end Go.Proofs.Ytcpifmhcebfglaa
namespace Go.Proofs.Ytcpifmhcebfglaa
open Go Go.RowKit
set_option linter.unusedVariables false
instance : Inhabited Rc := ⟨⟨.nil, none, .q, .nil, .nil, 0, 0, [], some []⟩⟩
def getR (l : List Rc) (k : Nat) : Rc := (l[k]?).getD default
theorem getR_old {l : List Rc} {r : Rc} {k : Nat} (h : k < l.length) : getR (l ++ [r]) k = getR l k := by
  unfold getR; rw [List.getElem?_append_left h]
theorem getR_new {l : List Rc} {r : Rc} : getR (l ++ [r]) l.length = r := by
  unfold getR; simp
theorem getR_some {l : List Rc} {k : Nat} (h : k < l.length) : l[k]? = some (getR l k) := by
  unfold getR; rw [List.getElem?_eq_getElem h]; rfl
theorem HS_congrR {R R' : Nat → Rc} {L : Nat → Bool} {g : Nat → Option AO} {i : Nat} : ∀ {m : Nat}, (∀ k, k < m → R k = R' k) → HS R L g m i = HS R' L g m i
  | 0, _ => rfl
  | m + 1, h => by
    simp only [HS]
    rw [HS_congrR (m := m) fun k hk => h k (by omega), h m (by omega)]
theorem VS_congrR {R R' : Nat → Rc} {L : Nat → Bool} {tm : T AV} {t : Tmp} : ∀ {m : Nat}, (∀ k, k < m → R k = R' k) → VS R L tm m t = VS R' L tm m t
  | 0, _ => rfl
  | m + 1, h => by
    simp only [VS]
    rw [VS_congrR (m := m) fun k hk => h k (by omega), h m (by omega)]
abbrev Al : Nat → Bool := fun _ => true
def RunR (P : Program) (G : Gl) (K : KT) (ops : Array Oper) (r : Rc) (o : Oper) : Prop :=
  (wA ops r.tj o = some false ∧ r.v = .c undef ∧ r.u = [] ∧ r.n' = r.n ∧ r.ho = r.hi) ∨
    (wA ops r.tj o = some true ∧ (evOp P G r.tj r.hi r.n o = some (.val r.v r.ho r.n' r.u) ∨
      ∃ f args, evOp P G r.tj r.hi r.n o = some (.call f args) ∧ K f args r.hi r.n = some (r.v, r.ho, r.n', r.u)))
def FtR (r : Rc) : Prop := match r.ft with
  | some ids => ∀ i o, r.hi.get i = some o → i ∈ ids
  | none => True
structure DInv (P : Program) (G : Gl) (K : KT) (ops : Array Oper) (sz : Nat) (an : List Nat) (tm : T AV) (h : Hp) (n : Nat) (R : Nat → Rc) (s : S1) (al : List (Nat × Nat)) (j : Nat) : Prop where
  hs : ∀ i, s.h.get i = HS R Al h.get j i
  vs : ∀ t, (s.tm.get t).getD .q = VS R Al tm j t
  sn : (j = 0 ∧ s.n = n) ∨ (0 < j ∧ s.n = (R (j - 1)).n')
  dst : ∀ (k : Nat) (o : Oper), k < j → ops[k]? = some o → (R k).dst = o.dst
  lt : ∀ (k : Nat) (o : Oper) (t : Tmp), k < j → ops[k]? = some o → o.dst = some t → t < sz
  n0 : 0 < j → (R 0).n = n
  nn : ∀ k, k + 1 < j → (R (k + 1)).n = (R k).n'
  nle : ∀ k, k < j → (R k).n ≤ (R k).n'
  ult : ∀ k i, k < j → (R k).u.contains i = true → i < (R k).n
  tmj : ∀ (k t : Nat) (x : AV), k < j → (R k).tj.get t = some x → x = VS R Al tm k t ∧ wrOk an k t ops.toList 0 = true
  ft : ∀ k, k < j → FtR (R k)
  hij1 : ∀ (k i : Nat) (o : AO), k < j → (R k).hi.get i = some o → HS R Al h.get k i = some o
  hij2 : ∀ (k k' i : Nat) (o : AO), k < j → k' < k → (R k).hi.get i = some o → inU (R k') i = true → Aof an k k' = true
  inc : ∀ k k', k' < k → k < j → Aof an k k' = true ∨ IncR (R k).u (R k') ∨ altOf al k' = some k
  alt_ : ∀ k' k, altOf al k' = some k → k' < k ∧ k < j ∧ AltR P G ops (R k) (R k') k'
  run : ∀ (k : Nat) (o : Oper), k < j → ops[k]? = some o → RunR P G K ops (R k) o
section
variable {P : Program} {G : Gl} {B : Nat} {K : KT} {ops : Array Oper} {sz : Nat} {an : List Nat} {tm : T AV} {h : Hp} {n n0 : Nat}
theorem stepD_ok {j : Nat} {o : Oper} {recs : List Rc} {s : S1} {r : Rc} (e : stepD P G K ops an j o recs s = some r) : r.dst = o.dst ∧ r.n = s.n ∧ RunR P G K ops r o ∧ FtR r ∧
    (∀ t x, r.tj.get t = some x → s.tm.get t = some x ∧ wrOk an j t ops.toList 0 = true) ∧ (∀ i x, r.hi.get i = some x → s.h.get i = some x ∧ ∀ k r', recs[k]? = some r' → inU r' i = true → Aof an j k = true) := by
  unfold stepD at e
  have htj : ∀ t x, (tjOf an ops j s.tm (o.looksAt ops) .nil).get t = some x → s.tm.get t = some x ∧ wrOk an j t ops.toList 0 = true := by
    intro t x hx
    rcases tjOf_spec hx with ⟨h1, h2⟩ | h1
    · exact ⟨h2, h1⟩
    · cases h1
  generalize tjOf an ops j s.tm (o.looksAt ops) .nil = tj at e htj
  simp only at e
  split at e
  · cases e
  · rename_i hw
    cases e
    refine ⟨rfl, rfl, .inl ⟨hw, rfl, rfl, rfl, rfl⟩, ?_, htj, fun i x h => ?_⟩
    · unfold FtR; intro i o h; simp [T.get_nil] at h
    · simp [T.get_nil] at h
  · rename_i hw
    have hhi : ∀ i x, (restr s.h ((o.op.operands.toList.flatMap fun x => avIds (ev tj x)).filter fun i => !touched an j recs 0 i) .nil).get i = some x → i ∈ ((o.op.operands.toList.flatMap fun x => avIds (ev tj x)).filter fun i => !touched an j recs 0 i) ∧ s.h.get i = some x := by
      intro i x hx
      rcases restr_spec hx with h1 | h1
      · exact h1
      · cases h1
    have hto : ∀ i, i ∈ ((o.op.operands.toList.flatMap fun x => avIds (ev tj x)).filter fun i => !touched an j recs 0 i) → touched an j recs 0 i = false := by
      intro i hi
      have := (List.mem_filter.1 hi).2
      simpa using this
    generalize ((o.op.operands.toList.flatMap fun x => avIds (ev tj x)).filter fun i => !touched an j recs 0 i) = ids at e hhi hto
    generalize restr s.h ids .nil = hi at e hhi
    split at e
    · rename_i v ho n' u he
      cases e
      refine ⟨rfl, rfl, .inr ⟨hw, .inl he⟩, fun i o h => (hhi i o h).1, htj, fun i x h => ⟨(hhi i x h).2, fun k r' hr hu => ?_⟩⟩
      have := touched_spec (hto i (hhi i x h).1) k r' hr hu
      rwa [Nat.zero_add] at this
    · split at e
      · rename_i f args he2
        split at e
        · rename_i v ho n' u hk
          cases e
          refine ⟨rfl, rfl, .inr ⟨hw, .inr ⟨f, args, he2, hk⟩⟩, trivial, htj, fun i x h => ?_⟩
          obtain ⟨h1, h2⟩ := erAll_spec h
          exact ⟨h1, fun k r' hr hu => by have := h2 k r' hr hu; rwa [Nat.zero_add] at this⟩
        · cases e
      · cases e
    · cases e
theorem goD_ok : ∀ {l : List Oper} {j : Nat} {recs recs' : List Rc} {al : List (Nat × Nat)} {s s' : S1}, goD P G K ops an sz n0 l j recs al s = some (recs', s') → recs.length = j → (∀ k, l[k]? = ops[j + k]?) → DInv P G K ops sz an tm h n (getR recs) s al j → ∃ al', DInv P G K ops sz an tm h n (getR recs') s' al' (j + l.length) ∧ recs'.length = j + l.length
  | [], j, recs, recs', al, s, s', e, hl, ho, I => by cases e; exact ⟨_, I, hl⟩
  | o :: l, j, recs, recs', al, s, s', e, hl, ho, I => by
    simp only [goD] at e
    split at e
    · rename_i r hr
      cases hc : (Nat.ble r.n r.n' && (r.u.all fun i => Nat.blt i r.n)) with
      | false => rw [hc] at e; cases e
      | true =>
        rw [hc] at e
        simp only [cond] at e
        split at e
        rotate_left
        · cases e
        rename_i al2 hcf
        obtain ⟨f1, f2, f3⟩ := conf_spec hcf (fun k => by simp)
        split at e
        · rename_i tm2 hp
          simp only [Bool.and_eq_true] at hc
          obtain ⟨c1, c2⟩ := hc
          have c1 := Nat.le_of_ble_eq_true c1
          obtain ⟨q1, q2, q3, q4, q5, q6⟩ := stepD_ok hr
          have hoj : ops[j]? = some o := by have := ho 0; simpa using this.symm
          have hold : ∀ k, k < j → getR (recs ++ [r]) k = getR recs k := fun k hk => getR_old (by omega)
          have hnew : getR (recs ++ [r]) j = r := by rw [← hl]; exact getR_new
          have hH : ∀ m, m ≤ j → ∀ i, HS (getR (recs ++ [r])) Al h.get m i = HS (getR recs) Al h.get m i := fun m hm i => HS_congrR fun k hk => hold k (by omega)
          have hV : ∀ m, m ≤ j → ∀ t, VS (getR (recs ++ [r])) Al tm m t = VS (getR recs) Al tm m t := fun m hm t => VS_congrR fun k hk => hold k (by omega)
          have key : DInv P G K ops sz an tm h n (getR (recs ++ [r])) ⟨tm2, copyIds r.ho (newIds r) (copyIds r.ho r.u s.h), r.n', mrg n0 r.n' s.u r.u⟩ al2 (j + 1) := by
            have hdl : ∀ t, o.dst = some t → t < sz := by
              intro t hd
              unfold putD at hp
              rw [hd] at hp
              simp only at hp
              cases hb : Nat.blt t sz with
              | false => rw [hb] at hp; cases hp
              | true => exact Nat.le_of_ble_eq_true hb
            refine ⟨?_, ?_, .inr ⟨by omega, by rw [show j + 1 - 1 = j by omega, hnew]⟩, ?_, ?_, ?_, ?_, ?_, ?_, ?_, ?_, ?_, ?_, ?_, ?_, ?_⟩
            · intro i
              simp only [HS, hnew, true_and]
              rw [copyIds_spec, copyIds_spec, hH j (Nat.le_refl _), ← I.hs i]
              by_cases hu : inU r i = true
              · rw [if_pos hu]
                rcases (inU_iff r i).1 hu with h1 | h1
                · split <;> first | rfl | rw [if_pos h1]
                · rw [if_pos h1]
              · rw [if_neg hu, if_neg (fun h1 => hu ((inU_iff r i).2 (.inr h1))), if_neg (fun h1 => hu ((inU_iff r i).2 (.inl h1)))]
            · intro t
              simp only [VS, hnew, true_and]
              rw [hV j (Nat.le_refl _), ← I.vs t]
              unfold putD at hp
              rw [q1]
              cases hd : o.dst with
              | none => rw [hd] at hp; cases hp; simp
              | some d =>
                rw [hd] at hp
                simp only at hp
                cases hb : Nat.blt d sz with
                | false => rw [hb] at hp; cases hp
                | true =>
                  rw [hb] at hp; cases hp
                  rw [T.get_set]
                  by_cases htd : t = d
                  · subst htd; simp
                  · rw [if_neg htd, if_neg (fun h2 => htd (Option.some.inj h2).symm)]
            · intro k o2 hk hok
              by_cases hkj : k = j
              · subst hkj; rw [hnew, q1]; rw [hoj] at hok; cases hok; rfl
              · rw [hold k (by omega)]; exact I.dst k o2 (by omega) hok
            · intro k o2 t hk hok hd
              by_cases hkj : k = j
              · subst hkj; rw [hoj] at hok; cases hok; exact hdl t hd
              · exact I.lt k o2 t (by omega) hok hd
            · intro _
              rcases I.sn with ⟨h1, h2⟩ | ⟨h1, h2⟩
              · subst h1; rw [hnew, q2, h2]
              · rw [hold 0 h1]; exact I.n0 h1
            · intro k hk
              by_cases hkj : k + 1 = j
              · rw [hkj, hnew, hold k (by omega), q2]
                rcases I.sn with ⟨h1, h2⟩ | ⟨h1, h2⟩
                · omega
                · rw [h2, show j - 1 = k by omega]
              · rw [hold (k + 1) (by omega), hold k (by omega)]; exact I.nn k (by omega)
            · intro k hk
              by_cases hkj : k = j
              · subst hkj; rw [hnew]; exact c1
              · rw [hold k (by omega)]; exact I.nle k (by omega)
            · intro k i hk hu
              by_cases hkj : k = j
              · subst hkj; rw [hnew] at hu ⊢
                have := List.all_eq_true.1 c2 i (List.contains_iff_mem.1 hu)
                exact Nat.le_of_ble_eq_true this
              · rw [hold k (by omega)] at hu ⊢; exact I.ult k i (by omega) hu
            · intro k t x hk hx
              by_cases hkj : k = j
              · subst hkj; rw [hnew] at hx
                obtain ⟨h1, h2⟩ := q5 t x hx
                rw [hV k (Nat.le_refl _), ← I.vs t, h1]
                exact ⟨rfl, h2⟩
              · rw [hold k (by omega)] at hx
                rw [hV k (by omega)]; exact I.tmj k t x (by omega) hx
            · intro k hk
              by_cases hkj : k = j
              · subst hkj; rw [hnew]; exact q4
              · rw [hold k (by omega)]; exact I.ft k (by omega)
            · intro k i x hk hx
              by_cases hkj : k = j
              · subst hkj; rw [hnew] at hx
                rw [hH k (Nat.le_refl _), ← I.hs i]; exact (q6 i x hx).1
              · rw [hold k (by omega)] at hx
                rw [hH k (by omega)]; exact I.hij1 k i x (by omega) hx
            · intro k k' i x hk hk' hx hu
              rw [hold k' (by omega)] at hu
              by_cases hkj : k = j
              · subst hkj; rw [hnew] at hx
                exact (q6 i x hx).2 k' _ (getR_some (by omega)) hu
              · rw [hold k (by omega)] at hx
                exact I.hij2 k k' i x (by omega) hk' hx hu
            · intro k k' hk' hk
              rw [hold k' (by omega)]
              by_cases hkj : k = j
              · subst hkj; rw [hnew]
                have := f1 k' _ (getR_some (by omega))
                rwa [Nat.zero_add] at this
              · rw [hold k (by omega)]
                rcases I.inc k k' hk' (by omega) with g1 | g1 | g1
                · exact .inl g1
                · exact .inr (.inl g1)
                · exact .inr (.inr (f3 _ _ g1))
            · intro k' m hk
              rcases f2 k' m hk with g1 | ⟨rfl, k, r', g2, g3, g4⟩
              · obtain ⟨g2, g3, g4⟩ := I.alt_ k' m g1
                rw [hold m g3, hold k' (by omega)]
                exact ⟨g2, by omega, g4⟩
              · rw [Nat.zero_add] at g2
                subst g2
                have hlt : k' < recs.length := (List.getElem?_eq_some_iff.1 g3).1
                have hg : getR recs k' = r' := by unfold getR; rw [g3]; rfl
                rw [hnew, hold k' (by omega), hg]
                exact ⟨by omega, by omega, g4⟩
            · intro k o2 hk hok
              by_cases hkj : k = j
              · subst hkj; rw [hnew]; rw [hoj] at hok; cases hok; exact q3
              · rw [hold k (by omega)]; exact I.run k o2 (by omega) hok
          have := goD_ok e (by simp [hl]) (fun k => by have := ho (k + 1); simp at this; rw [this, show j + (k + 1) = j + 1 + k by omega]) key
          simp only [List.length_cons]
          rw [show j + (l.length + 1) = j + 1 + l.length by omega]
          exact this
        · cases e
    · cases e
theorem goD_kept : ∀ {l : List Oper} {j : Nat} {recs recs' : List Rc} {al : List (Nat × Nat)} {s s' : S1}, goD P G K ops an sz n0 l j recs al s = some (recs', s') → s.n ≤ s'.n ∧ (n0 ≤ s.n → ∀ h00, KeptE h00 n0 s.n s.h s.u → KeptE h00 n0 s'.n s'.h s'.u)
  | [], j, recs, recs', al, s, s', e => by cases e; exact ⟨Nat.le_refl _, fun _ _ k => k⟩
  | o :: l, j, recs, recs', al, s, s', e => by
    simp only [goD] at e
    split at e
    · rename_i r hr
      cases hc : (Nat.ble r.n r.n' && (r.u.all fun i => Nat.blt i r.n)) with
      | false => rw [hc] at e; cases e
      | true =>
        rw [hc] at e
        simp only [cond] at e
        split at e
        rotate_left
        · cases e
        split at e
        · rename_i tm2 hp
          simp only [Bool.and_eq_true] at hc
          have c1 := Nat.le_of_ble_eq_true hc.1
          obtain ⟨q1, q2, q3, q4, q5, q6⟩ := stepD_ok hr
          obtain ⟨k1, k2⟩ := goD_kept e
          simp only at k1 k2
          refine ⟨by omega, fun hn h00 k => k2 (by omega) h00 ?_⟩
          refine k.step ?_ hn (by omega)
          intro i hi hu
          rw [copyIds_spec, copyIds_spec, if_neg (fun h1 => by have := (newIds_spec r i).1 h1; omega), if_neg (by rw [hu]; simp)]
        · cases e
    · cases e
theorem DInv.mono {R : Nat → Rc} {s : S1} {al : List (Nat × Nat)} {j : Nat} (I : DInv P G K ops sz an tm h n R s al j) : ∀ k k', k' ≤ k → k < j → (R k').n ≤ (R k).n
  | 0, k', hk', hk => by rw [show k' = 0 by omega]; exact Nat.le_refl _
  | k + 1, k', hk', hk => by
    by_cases e : k' = k + 1
    · rw [e]; exact Nat.le_refl _
    · have h1 := I.mono k k' (by omega) (by omega)
      have h2 := I.nle k (by omega)
      have h3 := I.nn k hk
      omega
theorem DInv.mono' {R : Nat → Rc} {s : S1} {al : List (Nat × Nat)} {j : Nat} (I : DInv P G K ops sz an tm h n R s al j) {k k' : Nat} (hk' : k' < k) (hk : k < j) : (R k').n' ≤ (R k).n := by
  have h1 := I.nn k' (by omega)
  have h2 := I.mono k (k' + 1) (by omega) hk
  omega
theorem DInv.good {R : Nat → Rc} {s : S1} {al : List (Nat × Nat)} (hc : ancOk an ops.toList 0 = true) (hO : onceOk ops.toList = true) (I : DInv P G K ops sz an tm h n R s al ops.size) : Good P G B K ops sz R (Aof an) (altOf al) tm h n where
  alt_ := fun j k _ h => by
    obtain ⟨h1, h2, h3⟩ := I.alt_ j k h
    exact ⟨h1, h2, h3⟩
  dst := fun j o ho => I.dst j o (Array.getElem?_eq_some_iff.1 ho).1 ho
  lt := fun j o t ho hd => I.lt j o t (Array.getElem?_eq_some_iff.1 ho).1 ho hd
  once := fun j k t hj hk h1 h2 => by
    have oj : ops[j]? = some ops[j] := Array.getElem?_eq_getElem hj
    have ok : ops[k]? = some ops[k] := Array.getElem?_eq_getElem hk
    rw [I.dst j _ hj oj] at h1
    rw [I.dst k _ hk ok] at h2
    exact onceOk_spec hO j k _ _ t (by rw [Array.getElem?_toList]; exact oj) (by rw [Array.getElem?_toList]; exact ok) h1 h2
  back := fun j o ho e he hb => by
    have := (ancOk_spec hc j o (by rw [Array.getElem?_toList]; exact ho)).1 e he hb
    rwa [Nat.zero_add] at this
  anc := fun j k hj hA => Aof_spec hc j k hj hA
  n0 := fun h => I.n0 (by omega)
  nn := fun j hj => I.nn j hj
  nle := fun j hj => I.nle j hj
  ult := fun j i hj hu => I.ult j i hj hu
  tmj := fun j t x hj hx => by
    obtain ⟨h1, h2⟩ := I.tmj j t x hj hx
    refine ⟨h1, fun k hk hkj hd => ?_⟩
    have ok : ops[k]? = some ops[k] := Array.getElem?_eq_getElem hk
    rw [I.dst k _ hk ok] at hd
    rcases wrOk_spec h2 k _ (by rw [Array.getElem?_toList]; exact ok) hd with h3 | h3
    · rw [Nat.zero_add] at h3; exact absurd h3 hkj
    · rw [Nat.zero_add] at h3; exact h3
  hij := fun j i x hj hx => by
    refine ⟨I.hij1 j i x hj hx, fun k hk hkj hu => ?_⟩
    rcases Nat.lt_trichotomy k j with h1 | h1 | h1
    · exact .inl (I.hij2 j k i x hj h1 hx hu)
    · exact absurd h1 hkj
    · right
      rcases I.inc k j h1 hk with h2 | ⟨h2, h3⟩ | h2
      rotate_left 2
      · exact .inr (.inr h2)
      · exact .inl h2
      · right; left
        rcases (inU_iff _ i).1 hu with h4 | h4
        · exfalso
          have hf := I.ft j hj
          unfold FtR at hf
          split at h3
          · rename_i ids hft
            rw [hft] at hf
            have := h3 i (hf i x hx)
            rw [this] at h4; cases h4
          · rw [h3] at h4; simp at h4
        · exact ⟨h1, (newIds_spec _ i).1 h4⟩
  uu := fun j k i hj hk hkj h1 h2 => by
    have key : ∀ a b, a < b → b < ops.size → inU (R a) i = true → inU (R b) i = true → Aof an b a = true := by
      intro a b hab hb ha hbu
      rcases I.inc b a hab hb with h3 | ⟨h3, _⟩ | h3
      rotate_left 2
      · exfalso
        obtain ⟨_, _, h4, h5, _⟩ := I.alt_ a b h3
        simp only [inU, h4, h5, Bool.or_eq_true, Bool.and_eq_true, Nat.ble_eq, Nat.blt_eq, List.contains_nil, Bool.false_eq_true, false_or] at ha
        omega
      · exact h3
      · exfalso
        rcases (inU_iff _ i).1 hbu with h4 | h4
        · rw [h3 i h4] at ha; cases ha
        · have h5 := (newIds_spec _ i).1 h4
          have m := I.mono' hab hb
          have m2 := I.nle a (by omega)
          rcases (inU_iff _ i).1 ha with h6 | h6
          · have := I.ult a i (by omega) h6; omega
          · have := (newIds_spec _ i).1 h6; omega
    rcases Nat.lt_trichotomy k j with h3 | h3 | h3
    · exact .inl (key k j h3 hj h2 h1)
    · exact absurd h3 hkj
    · exact .inr (key j k h3 hk h1 h2)
  run := fun j o ho => I.run j o (Array.getElem?_eq_some_iff.1 ho).1 ho
theorem runDraw_ok (hP : NoNum P) (hK : KOK P G B K) (hm : P.follows .mixedOrders = true) {s s' : S1} (e : runDraw P G K ops sz n0 s = some s') {σ : Sg} {a : Act} {w : World} (hGl : GR G B w) (hB : B ≤ w.heap.size) (hfree : ∀ i, s.n ≤ i → i < s'.n → σ i = none) (r : Rel σ s.h B w) (ht : TRE σ s.tm a) (hs : a.tmps.size = sz)
    (F : Act → World → Prop) (hQ : ∀ a' w' τ, TRE τ s'.tm a' → Act1 σ s.h s.n B w τ s'.h s'.n w' → a'.tmps.size = sz → a'.defers = a.defers → F a' w') : (∀ t, opsX P ops F (Region.schedule (P.follows .mixedOrders) ops t) a { w with drawn := w.drawn + 1 }) ∧ s.n ≤ s'.n ∧ (n0 ≤ s.n → ∀ h0, KeptE h0 n0 s.n s.h s.u → KeptE h0 n0 s'.n s'.h s'.u) := by
  unfold runDraw at e
  generalize ancAll ops.toList [] = an at e
  simp only at e
  cases hc : (ancOk an ops.toList 0 && onceOk ops.toList) with
  | false => rw [hc] at e; cases e
  | true =>
    rw [hc] at e
    simp only [cond, Option.map_eq_some_iff] at e
    obtain ⟨⟨recs, s2⟩, he, rfl⟩ := e
    simp only [Bool.and_eq_true] at hc
    have I0 : DInv P G K ops sz an s.tm s.h s.n (getR []) s [] 0 := by
      refine ⟨fun i => rfl, fun t => rfl, .inl ⟨rfl, rfl⟩, ?_, ?_, ?_, ?_, ?_, ?_, ?_, ?_, ?_, ?_, ?_, (fun k' k h => by cases h), ?_⟩
      all_goals intros; omega
    obtain ⟨al, I, hl⟩ := goD_ok he rfl (fun k => by simp) I0
    simp only [Nat.zero_add, Array.length_toList] at I hl
    obtain ⟨k1, k2⟩ := goD_kept he
    refine ⟨?_, k1, k2⟩
    have hG := I.good (B := B) hc.1 hc.2
    have hend : ∀ j, j < ops.size → (getR recs j).n' ≤ s2.n := by
      intro j hj
      rcases I.sn with ⟨h1, h2⟩ | ⟨h1, h2⟩
      · omega
      · by_cases hjl : j = ops.size - 1
        · subst hjl; rw [h2]; exact Nat.le_refl _
        · have := I.mono' (k := ops.size - 1) (k' := j) (by omega) (by omega)
          have := I.nle (ops.size - 1) (by omega)
          omega
    refine draw_ok hP hK hm hG hGl hB k1 hend hfree r ht hs F fun a' w' τ act tr h1 h2 => hQ a' w' τ ?_ ?_ h1 h2
    · intro t
      rw [I.vs t]; exact tr t
    · have e1 : HS (getR recs) Al s.h.get ops.size = s2.h.get := by funext i; exact (I.hs i).symm
      have e2 : HS (getR recs) (fun _ => true) s.h.get ops.size = s2.h.get := e1
      rw [e2] at act; exact act
end
end Go.Proofs.Ytcpifmhcebfglaa
namespace Go.Proofs.Ytcpifmhcebfglaa
open Go Go.RowKit
set_option linter.unusedVariables false
def evRes (P : Program) (tm : T AV) (h : Hp) : List ResultVar → Option (List AV)
  | [] => some []
  | .tmp t :: l => match evRes P tm h l with
    | some vs => some ((tm.get t).getD .q :: vs)
    | none => none
  | .cell t ty :: l => match cellsAt (fun _ => none) h ((tm.get t).getD .q) with
    | some (lc, off) => match loadAs P ty lc off, evRes P tm h l with
      | some v, some vs => some (v :: vs)
      | _, _ => none
    | none => none
def resF (tmps : Array Value) : ResultVar → Sem Value
  | .tmp t => pure (tmps.getD t undef)
  | .cell c t => do loadVar t (← asAddr (tmps.getD c undef))
theorem evRes_ok {P : Program} {tm : T AV} {h : Hp} {σ : Sg} {a : Act} {w : World} {B : Nat} (ht : TRE σ tm a) (r : Rel σ h B w) : ∀ {l : List ResultVar} {vs : List AV}, evRes P tm h l = some vs → ∃ us, (l.mapM (resF a.tmps)).run P w = .ok us w ∧ VRs σ vs us
  | [], vs, e => by cases e; exact ⟨[], by simp, .nil⟩
  | .tmp t :: l, vs, e => by
    simp only [evRes] at e
    split at e
    · rename_i vs' h1
      cases e
      obtain ⟨us, k1, k2⟩ := evRes_ok ht r h1
      exact ⟨_ :: us, by simp only [List.mapM_cons, resF, Sem.run_bind, Sem.run_pure, Result.andThen_ok, k1], .cons (ht t) k2⟩
    · cases e
  | .cell t ty :: l, vs, e => by
    simp only [evRes] at e
    split at e
    · rename_i lc off h1
      split at e
      · rename_i v vs' h2 h3
        cases e
        obtain ⟨us, k1, k2⟩ := evRes_ok ht r h3
        obtain ⟨b, hb, hc⟩ := cellsAt_ok (G := fun _ => none) r (fun g l h => by cases h) (ht t) h1
        obtain ⟨u', q1, q2⟩ := loadAs_ok (P := P) hc h2
        have hone : (resF a.tmps (.cell t ty)).run P w = .ok u' w := by
          simp only [resF, hb, asAddr, Sem.run_bind, Sem.run_pure, Result.andThen_ok, q1]
        exact ⟨u' :: us, by simp only [List.mapM_cons, hone, Sem.run_bind, Sem.run_pure, Result.andThen_ok, k1], .cons q2 k2⟩
      · cases e
    · cases e
def mkR : List AV → AV
  | [x] => x
  | l => mkT l
theorem results_ok {P : Program} {tm : T AV} {h : Hp} {σ : Sg} {a : Act} {w : World} {B : Nat} {fd : Func} (ht : TRE σ tm a) (r : Rel σ h B w) {vs : List AV} (e : evRes P tm h fd.results.toList = some vs) : ∃ v', (results fd a.tmps).run P w = .ok v' w ∧ VR σ (mkR vs) v' := by
  obtain ⟨us, h1, h2⟩ := evRes_ok ht r e
  refine ⟨if h : us.toArray.size = 1 then us.toArray[0] else .tuple us.toArray, ?_, ?_⟩
  · show (do let vs ← fd.results.mapM (resF a.tmps); pure (if h : vs.size = 1 then vs[0] else .tuple vs) : Sem Value).run P w = _
    rw [Sem.run_bind, Array.mapM_eq_mapM_toList, Sem.run_map, h1]
    simp only [Result.andThen_ok, Sem.run_pure]
  · cases h2 with
    | nil => simp [mkR]; exact mkT_ok .nil
    | cons a1 b1 => cases b1 with
      | nil => simp [mkR]; exact a1
      | cons a2 b2 =>
        simp only [mkR]
        rw [dif_neg (by simp)]
        exact mkT_ok (.cons a1 (.cons a2 b2))
def listT : List AV → Nat → T AV → T AV
  | [], _, t => t
  | x :: l, k, t => listT l (k + 1) (t.set k (some x))
theorem listT_get : ∀ {l : List AV} {k : Nat} {t : T AV} {i : Nat} {x : AV}, (listT l k t).get i = some x → (k ≤ i ∧ l[i - k]? = some x) ∨ t.get i = some x
  | [], k, t, i, x, e => .inr e
  | y :: l, k, t, i, x, e => by
    simp only [listT] at e
    rcases listT_get e with ⟨h1, h2⟩ | h1
    · exact .inl ⟨by omega, by rw [show i - k = (i - (k + 1)) + 1 by omega]; simpa using h2⟩
    · rw [T.get_set] at h1
      split at h1
      · rename_i hi; subst hi; exact .inl ⟨Nat.le_refl _, by simpa using h1⟩
      · exact .inr h1
theorem listT_ok {σ : Sg} {l : List AV} {args : Array Value} (h : VRs σ l args.toList) (k : Nat) : TRE σ (listT l 0 .nil) { tmps := args ++ Array.replicate k undef, defers := [] } := by
  intro t
  cases hx : (listT l 0 .nil).get t with
  | none => exact .q
  | some x =>
    rcases listT_get hx with ⟨_, h2⟩ | h2
    · rw [Nat.sub_zero] at h2
      obtain ⟨v, hv, hr⟩ := h.get h2
      have hlt : t < args.size := by
        rcases Nat.lt_or_ge t args.size with h | h
        · exact h
        · rw [List.getElem?_eq_none (by simpa using h)] at hv; cases hv
      simp only [Option.getD_some, Array.getD_eq_getD_getElem?]
      rw [Array.getElem?_append_left hlt]
      rw [Array.getElem?_toList] at hv
      rw [hv]; exact hr
    · cases h2
abbrev Res := Option (AV × Hp × Nat × List Nat)
/-- the blocks for deferred calls, taken at a frame's end -/
def takeAll : List Nat → Hp → Option Hp
  | [], h => some h
  | d :: l, h => match h.get d with
    | some (.dfr true) => takeAll l (h.set d (some (.dfr false)))
    | _ => none
def evFin (P : Program) (fd : Func) (n0 : Nat) (df : List Nat) (tm : T AV) (h : Hp) (n : Nat) (u : List Nat) : Res :=
  match takeAll df h with
  | some h1 => match evRes P tm h1 fd.results.toList with
    | some vs => some (mkR vs, h1, n, mrg n0 n u df)
    | none => none
  | none => none
def evEnd (n0 : Nat) (l : Nat) (jump : Option Code) (h : Hp) (n : Nat) (u : List Nat) : Res :=
  match h.get l with
  | some (.loop _ _ fn tm sz ps as bd df) => some (.c (.bool jump.isNone), h.set l (some (.loop (if jump.isNone then .ready else .done) jump fn tm sz ps as bd df)), n, mrg n0 n u [l])
  | _ => none
def leaveF (P : Program) (fd : Func) (n0 : Nat) (rd : Option Nat) (df : List Nat) (tm : T AV) (h : Hp) (n : Nat) (u : List Nat) (jump : Option Code) : Res :=
  match rd with
  | none => evFin P fd n0 df tm h n u
  | some l => evEnd n0 l jump h n u
def zipT (sz : Nat) : List Tmp → List AV → T AV → Option (T AV)
  | [], [], t => some t
  | d :: l, x :: l', t => cond (Nat.blt d sz) (zipT sz l l' (t.set d (some x))) none
  | _, _, _ => none
/-- a range over a function, entered: the loop's name, the block's name -/
def enterF (rd : Option Nat) (df : List Nat) (fid : FuncId) (tm : T AV) (sz : Nat) (ps : Array Tmp) (as bd : Code) (h : Hp) (n : Nat) : Option (Nat × List Nat × Hp × Nat) :=
  match rd with
  | none => some (n + 1, n :: df, (h.set n (some (.dfr true))).set (n + 1) (some (.loop .ready none fid tm sz ps as bd n)), n + 2)
  | some l0 => match h.get l0 with
    | some (.loop _ _ _ _ _ _ _ _ d0) => some (n, df, h.set n (some (.loop .ready none fid tm sz ps as bd d0)), n + 1)
    | _ => none
def calleeOf : AV → Option (FuncId × List AV)
  | .f (.func g) l => some (g, l)
  | .c (.func (.func g) first cap) => cond first.isEmpty (some (g, cap.toList.map .c)) none
  | _ => none
def evF (P : Program) (G : Gl) : Nat → FuncId → Func → Nat → Nat → Option Nat → List Nat → T AV → List Item → Hp → Nat → List Nat → Res
  | 0, _, _, _, _, _, _, _, _, _, _, _ => none
  | f + 1, fid, fd, sz, n0, rd, df, tm, td, h, n, u =>
    (fun (K : KT) => match td with
    | [] => leaveF P fd n0 rd df tm h n u none
    | .inBlock _ :: k => evF P G f fid fd sz n0 rd df tm k h n u
    | .inScope _ :: k => evF P G f fid fd sz n0 rd df tm k h n u
    | .inLoop c :: k => evF P G f fid fd sz n0 rd df tm (.code c :: .inLoop c :: k) h n u
    | .beginRound :: k => match rd with
      | some l => match h.get l with
        | some (.loop .ready pe fn tm' sz' ps as bd d0) => evF P G f fid fd sz n0 rd df tm k (h.set l (some (.loop .busy pe fn tm' sz' ps as bd d0))) n (mrg n0 n u [l])
        | _ => none
      | none => none
    | .code c :: k => match c with
      | .ret => leaveF P fd n0 rd df tm h n u (some .ret)
      | .skip => evF P G f fid fd sz n0 rd df tm k h n u
      | .label _ => evF P G f fid fd sz n0 rd df tm k h n u
      | .seq x y => evF P G f fid fd sz n0 rd df tm (.code x :: .code y :: k) h n u
      | .cond c x y => match ev tm c with
        | .c (.bool t) => evF P G f fid fd sz n0 rd df tm (.code (if t then x else y) :: k) h n u
        | _ => none
      | .block id c => evF P G f fid fd sz n0 rd df tm (.code c :: .inBlock id :: k) h n u
      | .loop c => evF P G f fid fd sz n0 rd df tm (.code c :: .inLoop c :: k) h n u
      | .exit id => match exitTo id k with
        | some k' => evF P G f fid fd sz n0 rd df tm k' h n u
        | none => match rd with
          | some l => evEnd n0 l (some (.exit id)) h n u
          | none => none
      | .goto q => match gotoIn q k with
        | some k' => evF P G f fid fd sz n0 rd df tm k' h n u
        | none => match rd with
          | some l => evEnd n0 l (some (.goto q)) h n u
          | none => none
      | .region _ ops draw => match (cond draw (runDraw P G K ops sz n0 ⟨tm, h, n, u⟩) (runOps P G K ops sz n0 ops.toList ⟨tm, h, n, u⟩)) with
        | some s => evF P G f fid fd sz n0 rd df s.tm k s.h s.n s.u
        | none => none
      | .rangeFunc g ps as bd => match enterF rd df fid tm sz ps as bd h n, calleeOf (ev tm g) with
        | some (l, df1, h1, n1), some (gf, caps) => match K (.fn gf) (.y l :: caps) h1 n1 with
          | some (_, h2, n2, u2) => match h2.get l with
            | some (.loop st pe fn tm' sz' ps' as' bd' d0) => cond (Nat.ble n1 n2 && !(decide (st = .busy)))
              (evF P G f fid fd sz n0 rd df1 tm ((pe.map Item.code).toList ++ k) (h2.set l (some (.loop .exhausted pe fn tm' sz' ps' as' bd' d0))) n2 (mrg n0 n2 (mrg n0 n2 u u2) [l])) none
            | _ => none
          | none => none
        | _, _ => none
      | _ => none
    | _ => none) (fun t args h n => match t with
      | .fn g => match P.funcs[g]? with
        | some fd => match fd.body with
          | some c => evF P G f g fd (args.length + (fd.ntmps - args.length)) n none [] (listT args 0 .nil) [.code c] h n []
          | none => none
        | none => none
      | .yld i => match h.get i with
        | some (.loop _ _ fn tm sz ps as bd _) => match zipT sz ps.toList args tm with
          | some tm' => evF P G f fn default sz n (some i) [] tm' [.code as, .beginRound, .code bd] h n []
          | none => none
        | _ => none)
def evK (P : Program) (G : Gl) (f : Nat) : KT := fun t args h n => match t with
      | .fn g => match P.funcs[g]? with
        | some fd => match fd.body with
          | some c => evF P G f g fd (args.length + (fd.ntmps - args.length)) n none [] (listT args 0 .nil) [.code c] h n []
          | none => none
        | none => none
      | .yld i => match h.get i with
        | some (.loop _ _ fn tm sz ps as bd _) => match zipT sz ps.toList args tm with
          | some tm' => evF P G f fn default sz n (some i) [] tm' [.code as, .beginRound, .code bd] h n []
          | none => none
        | _ => none
end Go.Proofs.Ytcpifmhcebfglaa
namespace Go.Proofs.Ytcpifmhcebfglaa
open Go Go.RowKit
set_option linter.unusedVariables false
inductive DfR (σ : Sg) : List Nat → List Deferred → Prop
  | nil : DfR σ [] []
  | cons {d b k : Nat} {l : List Nat} {ds : List Deferred} (h : σ d = some (b, k)) (hs : DfR σ l ds) : DfR σ (d :: l) ({ target := .collected b, args := #[] } :: ds)
theorem DfR.sub {σ τ : Sg} (h : Sub σ τ) : ∀ {l : List Nat} {ds : List Deferred}, DfR σ l ds → DfR τ l ds
  | _, _, .nil => .nil
  | _, _, .cons e hs => .cons (h _ _ e) (DfR.sub h hs)
section
variable {P : Program} {G : Gl} {B : Nat}
theorem step_take {fr : Frame} {cs : List Frame} {w w' : World} {b : Nat} {ds : List Deferred} (hd : fr.defers = { target := .collected b, args := #[] } :: ds) (hm : fr.mode = .returning) (hr : (Instr.takeDeferred b).run P w = .ok [] w') :
    step P (lone fr cs w) = .next (lone { fr with defers := ds } cs w') :=
  step_lone_go (by simp [stepG, hm, unwind, hd, Sem.runT_eq, hr, GStep.bare_after])
/-- an object that is no row turns -/
theorem act_obj {σ : Sg} {h : Hp} {n B : Nat} {w : World} (r : Rel σ h B w) {i b c : Nat} {x y : AO} {ob : Obj} (hx : h.get i = some x) (hb : σ i = some (b, c)) (hy : OR σ c (some ob) y) :
    Act1 σ h n B w σ (h.set i (some y)) n { w with heap := w.heap.setIfInBounds b ob } := by
  obtain ⟨b2, c2, h1, h2, h3, _⟩ := r.obj i x hx
  rw [hb] at h1; cases h1
  refine act_put r hx hb rfl rfl rfl (by simp) (fun k hk => ?_) ?_
  · show (w.heap.setIfInBounds b _)[k]? = _
    rw [Array.getElem?_setIfInBounds_ne (Ne.symm hk)]
  · show OR σ c (w.heap.setIfInBounds b _)[b]? y
    rw [Array.getElem?_setIfInBounds_self_of_lt h3]; exact hy
theorem kept_one {h : Hp} {n m i : Nat} {y : Option AO} : KeptE h n m (h.set i y) [i] := by
  intro j _ hu
  rw [T.get_set, if_neg]
  intro e; subst e; simp at hu
theorem takeAll_ok {σ : Sg} {n : Nat} : ∀ {df : List Nat} {ds : List Deferred} {h h1 : Hp} {w : World}, takeAll df h = some h1 → DfR σ df ds → Rel σ h B w → ∀ (fr : Frame), fr.mode = .returning → fr.defers = ds → ∃ w1, (∀ cs, Steps P (lone fr cs w) (lone { fr with defers := [] } cs w1)) ∧ Act1 σ h n B w σ h1 n w1 ∧ KeptE h n n h1 df
  | [], _, h, h1, w, e, .nil, r, fr, hm, hd => by
    cases e
    refine ⟨w, fun cs => ?_, ActF.refl r, KeptE.refl _ _ _ _⟩
    have : ({ fr with defers := [] } : Frame) = fr := by cases fr; simp at hd; subst hd; rfl
    rw [this]; exact Steps.refl _ _
  | d :: l, _, h, h1, w, e, .cons (b := b) (k := k) (ds := ds) hb hs, r, fr, hm, hd => by
    simp only [takeAll] at e
    split at e
    · rename_i hg
      obtain ⟨b2, k2, q1, q2, q3, q4⟩ := r.obj d _ hg
      rw [hb] at q1; cases q1
      have q4 : w.heap[b]? = some (.deferred (some [])) := q4
      have hrun : (Instr.takeDeferred b).run P w = .ok [] { w with heap := w.heap.setIfInBounds b (.deferred none) } := by
        simp [Instr.takeDeferred, getObj, setObj, Sem.run, q4]
      have a1 := act_obj (n := n) (y := .dfr false) (ob := .deferred none) r hg hb rfl
      obtain ⟨w1, s1, s2, s3⟩ := takeAll_ok (n := n) e hs a1.rel { fr with defers := ds } hm rfl
      refine ⟨w1, fun cs => .head (step_take hd hm hrun) (s1 cs), a1.trans s2, ?_⟩
      intro i hi hu
      simp only [List.contains_cons, Bool.or_eq_false_iff] at hu
      rw [s3 i hi hu.2, T.get_set, if_neg]
      intro e2; subst e2; simp at hu
    · cases e
theorem evEnd_ok {σ : Sg} {n0 l n : Nat} {jump : Option Code} {h : Hp} {u : List Nat} {v : AV} {h' : Hp} {n' : Nat} {u' : List Nat} {w : World} (e : evEnd n0 l jump h n u = some (v, h', n', u')) (r : Rel σ h B w) {b k : Nat} (hb : σ l = some (b, k)) :
    n' = n ∧ u' = mrg n0 n u [l] ∧ v = .c (.bool jump.isNone) ∧ ∃ w1, (Instr.endRound b jump).run P w = .ok (.bool jump.isNone) w1 ∧ Act1 σ h n B w σ h' n w1 ∧ KeptE h n n h' [l] := by
  unfold evEnd at e
  split at e
  · rename_i st pe fn tm sz ps as bd df hg
    cases e
    obtain ⟨b2, k2, q1, q2, q3, tmps, db, kd, q4, q5, q6, q7⟩ := r.obj l _ hg
    rw [hb] at q1; cases q1
    refine ⟨rfl, rfl, rfl, _, ?_, act_obj (ob := .loop { state := if jump.isNone then .ready else .done, pending := jump, fn := fn, tmps := tmps, params := ps, assign := as, body := bd, defers := db }) r hg hb ⟨tmps, db, kd, rfl, q5, q6, q7⟩, kept_one⟩
    simp [Instr.endRound, Instr.getLoop, getObj, setObj, Sem.run, q4]
  · cases e
def EndR (P : Program) (rd : Option Nat) (fid : FuncId) (fr0 : Frame) (σ : Sg) (h : Hp) (n B : Nat) (w : World) (v : AV) (h' : Hp) (n' : Nat) : Prop :=
  match rd with
  | none => ∀ cs, ∃ fr τ w' v', Steps P (lone fr0 cs w) (lone fr cs w') ∧ fr.fn = fid ∧ fr.leaving P w' (.returned v') ∧ VR τ v v' ∧ Act1 σ h n B w τ h' n' w'
  | some _ => ∀ c cs, ∃ τ w' v', Steps P (lone fr0 (c :: cs) w) (lone (c.finish v') cs w') ∧ VR τ v v' ∧ Act1 σ h n B w τ h' n' w'
theorem EndR.via {rd : Option Nat} {fid : FuncId} {fr0 : Frame} {σ : Sg} {h : Hp} {n : Nat} {w : World} {v : AV} {h' : Hp} {n' : Nat}
    (k : ∀ cs, ∃ fr1 τ1 h1 n1 w1, Steps P (lone fr0 cs w) (lone fr1 cs w1) ∧ Act1 σ h n B w τ1 h1 n1 w1 ∧ EndR P rd fid fr1 τ1 h1 n1 B w1 v h' n') : EndR P rd fid fr0 σ h n B w v h' n' := by
  cases rd with
  | none =>
    intro cs
    obtain ⟨fr1, τ1, h1, n1, w1, s1, s2, s3⟩ := k cs
    obtain ⟨fr, τ, w', v', q1, q2, q3, q4, q5⟩ := s3 cs
    exact ⟨fr, τ, w', v', Steps.trans s1 q1, q2, q3, q4, s2.trans q5⟩
  | some l =>
    intro c cs
    obtain ⟨fr1, τ1, h1, n1, w1, s1, s2, s3⟩ := k (c :: cs)
    obtain ⟨τ, w', v', q1, q4, q5⟩ := s3 c cs
    exact ⟨τ, w', v', Steps.trans s1 q1, q4, s2.trans q5⟩
/-- the frame's place in a loop -/
def RdR (σ : Sg) (rd : Option Nat) (b : Frame) : Prop := match rd with
  | none => b.roundOf = none
  | some l => ∃ b0 k0, σ l = some (b0, k0) ∧ b.roundOf = some b0
theorem RdR.sub {σ τ : Sg} (h : Sub σ τ) {rd : Option Nat} {b : Frame} (k : RdR σ rd b) : RdR τ rd b := by
  cases rd with
  | none => exact k
  | some l => obtain ⟨b0, k0, h1, h2⟩ := k; exact ⟨b0, k0, h _ _ h1, h2⟩
theorem runDraw_le {K : KT} {ops : Array Oper} {sz n0 : Nat} {s s' : S1} (e : runDraw P G K ops sz n0 s = some s') : s.n ≤ s'.n := by
  unfold runDraw at e
  generalize ancAll ops.toList [] = an at e
  simp only at e
  cases hc : (ancOk an ops.toList 0 && onceOk ops.toList) with
  | false => rw [hc] at e; cases e
  | true =>
    rw [hc] at e
    simp only [cond, Option.map_eq_some_iff] at e
    obtain ⟨⟨recs, s2⟩, he, rfl⟩ := e
    exact (goD_kept he).1
theorem leaveF_le {fd : Func} {n0 : Nat} {rd : Option Nat} {df : List Nat} {tm : T AV} {h : Hp} {n : Nat} {u : List Nat} {jump : Option Code} {v : AV} {h' : Hp} {n' : Nat} {u' : List Nat} (e : leaveF P fd n0 rd df tm h n u jump = some (v, h', n', u')) : n' = n := by
  cases rd with
  | none =>
    simp only [leaveF, evFin] at e
    split at e
    · split at e
      · cases e; rfl
      · cases e
    · cases e
  | some l =>
    simp only [leaveF, evEnd] at e
    split at e
    · cases e; rfl
    · cases e
theorem evEnd_n {n0 l n : Nat} {jump : Option Code} {h : Hp} {u : List Nat} {v : AV} {h' : Hp} {n' : Nat} {u' : List Nat} (e : evEnd n0 l jump h n u = some (v, h', n', u')) : n' = n := by
  unfold evEnd at e
  split at e
  · cases e; rfl
  · cases e
theorem enterF_le {rd : Option Nat} {df : List Nat} {fid : FuncId} {tm : T AV} {sz : Nat} {ps : Array Tmp} {as bd : Code} {h : Hp} {n l : Nat} {df1 : List Nat} {h1 : Hp} {n1 : Nat} (e : enterF rd df fid tm sz ps as bd h n = some (l, df1, h1, n1)) : n ≤ n1 := by
  cases rd with
  | none => simp only [enterF] at e; cases e; omega
  | some l0 =>
    simp only [enterF] at e
    split at e
    · cases e; omega
    · cases e
theorem evF_le : ∀ (f : Nat) {fid : FuncId} {fd : Func} {sz n0 : Nat} {rd : Option Nat} {df : List Nat} {tm : T AV} {td : List Item} {h : Hp} {n : Nat} {u : List Nat} {v : AV} {h' : Hp} {n' : Nat} {u' : List Nat}, evF P G f fid fd sz n0 rd df tm td h n u = some (v, h', n', u') → n ≤ n' := by
  intro f
  induction f with
  | zero => intro fid fd sz n0 rd df tm td h n u v h' n' u' e; cases e
  | succ f ih =>
    intro fid fd sz n0 rd df tm td h n u v h' n' u' e
    simp only [evF] at e
    split at e
    · rw [leaveF_le e]; exact Nat.le_refl _
    · exact ih e
    · exact ih e
    · exact ih e
    · split at e
      · split at e
        · exact ih e
        · cases e
      · cases e
    · split at e
      · rw [leaveF_le e]; exact Nat.le_refl _
      · exact ih e
      · exact ih e
      · exact ih e
      · split at e
        · exact ih e
        · cases e
      · exact ih e
      · exact ih e
      · split at e
        · exact ih e
        · split at e
          · rw [evEnd_n e]; exact Nat.le_refl _
          · cases e
      · split at e
        · exact ih e
        · split at e
          · rw [evEnd_n e]; exact Nat.le_refl _
          · cases e
      · rename_i ops draw
        split at e
        · rename_i s hs
          have h1 := ih e
          cases draw with
          | true => have := runDraw_le hs; simp only at this; omega
          | false => have := runOps_le hs; simp only at this; omega
        · cases e
      · split at e
        · rename_i l df1 h1 n1 gf caps he hc
          split at e
          · rename_i v2 h2 n2 u2 hk
            split at e
            · rename_i st pe fn tm' sz' ps' as' bd' d0 hg
              cases hcc : (Nat.ble n1 n2 && !(decide (st = .busy))) with
              | false => rw [hcc] at e; cases e
              | true =>
                rw [hcc] at e
                simp only [Bool.and_eq_true] at hcc
                have := Nat.le_of_ble_eq_true hcc.1
                have := enterF_le he
                have := ih e
                omega
            · cases e
          · cases e
        · cases e
      · cases e
    · cases e
theorem zipT_ok {σ : Sg} {sz : Nat} : ∀ {ps : List Tmp} {xs : List AV} {vs : List Value} {tm tm' : T AV} {tmps : Array Value}, zipT sz ps xs tm = some tm' → VRs σ xs vs → TRE σ tm { tmps := tmps, defers := [] } → tmps.size = sz → ps.length = vs.length ∧ TRE σ tm' { tmps := (ps.zip vs).foldl (fun tmps (t, a) => tmps.setIfInBounds t a) tmps, defers := [] } ∧ ((ps.zip vs).foldl (fun tmps (t, a) => tmps.setIfInBounds t a) tmps).size = sz
  | [], [], [], tm, tm', tmps, e, .nil, ht, hs => by cases e; exact ⟨rfl, ht, hs⟩
  | [], _ :: _, _ :: _, tm, tm', tmps, e, .cons _ _, ht, hs => by simp [zipT] at e
  | _ :: _, [], [], tm, tm', tmps, e, .nil, ht, hs => by simp [zipT] at e
  | d :: ps, x :: xs, v :: vs, tm, tm', tmps, e, .cons hv hvs, ht, hs => by
    simp only [zipT] at e
    cases hc : Nat.blt d sz with
    | false => rw [hc] at e; cases e
    | true =>
      rw [hc] at e
      have hd : d < sz := Nat.le_of_ble_eq_true hc
      have ht2 := ht.put (d := d) (by rw [hs]; exact hd) hv
      obtain ⟨q1, q2, q3⟩ := zipT_ok (tmps := tmps.setIfInBounds d v) e hvs ht2 (by simp [hs])
      exact ⟨by simp [q1], q2, q3⟩
end
end Go.Proofs.Ytcpifmhcebfglaa
namespace Go.Proofs.Ytcpifmhcebfglaa
open Go Go.RowKit
set_option linter.unusedVariables false
section
variable {P : Program} {G : Gl} {B : Nat}
theorem calleeOf_ok {σ : Sg} {x : AV} {v : Value} {g : FuncId} {caps : List AV} (e : calleeOf x = some (g, caps)) (hv : VR σ x v) : ∃ cap', v = .func (.func g) #[] cap' ∧ VRs σ caps cap'.toList := by
  unfold calleeOf at e
  split at e
  · cases e
    cases hv with
    | f h => exact ⟨_, rfl, by simpa using h⟩
  · rename_i g' first cap
    cases hf : first.isEmpty with
    | false => rw [hf] at e; cases e
    | true =>
      rw [hf] at e
      cases e
      cases hv
      have : first = #[] := by simpa using hf
      subst this
      exact ⟨cap, rfl, VRs.cs _⟩
  · cases e
/-- entering a range over a function -/
theorem enterF_ok {σ : Sg} {rd : Option Nat} {df : List Nat} {fid : FuncId} {tm : T AV} {sz : Nat} {ps : Array Tmp} {as bd : Code} {h : Hp} {n l : Nat} {df1 : List Nat} {h1 : Hp} {n1 : Nat} (e : enterF rd df fid tm sz ps as bd h n = some (l, df1, h1, n1))
    {a : Act} {w : World} {b : Frame} (ht : TRE σ tm a) (hs : a.tmps.size = sz) (hd : DfR σ df a.defers) (r : Rel σ h B w) (hB : B ≤ w.heap.size) (hf : ∀ i, n ≤ i → i < n1 → σ i = none) (hfn : b.fn = fid) (hrd : RdR σ rd b) :
    ∃ τ lb kl mark w1, (Instr.enterLoop b.fn a.tmps ps as bd b.roundOf).run P w = .ok (lb, mark) w1 ∧ τ l = some (lb, kl) ∧ Act1 σ h n B w τ h1 n1 w1 ∧ DfR τ df1 (mark ++ a.defers) ∧ KeptE h n n1 h1 [] := by
  cases rd with
  | none =>
    simp only [enterF] at e
    cases e
    have hro : b.roundOf = none := hrd
    have a1 := act_new (n := n) (kap := 0) (o := .deferred (some [])) (x := .dfr true) r hB (hf n (by omega) (by omega)) rfl
    have hn1 : ext σ n (w.heap.size, 0) (n + 1) = none := by simp [ext, hf (n + 1) (by omega) (by omega)]
    have a2 := act_new (n := n + 1) (kap := 0) (o := .loop { state := .ready, pending := none, fn := fid, tmps := a.tmps, params := ps, assign := as, body := bd, defers := w.heap.size }) (x := .loop .ready none fid tm sz ps as bd n) a1.rel (by simp; omega) hn1 ⟨a.tmps, w.heap.size, 0, rfl, by simp [ext], hs, fun t => (ht t).sub a1.sub⟩
    refine ⟨_, w.heap.size + 1, 0, [{ target := .collected w.heap.size, args := #[] }], _, ?_, ?_, a1.trans a2, ?_, ?_⟩
    · rw [hro, hfn]
      simp [Instr.enterLoop]
    · simp [ext]
    · refine .cons (k := 0) (a2.sub _ _ (by simp [ext])) ?_
      exact (hd.sub a1.sub).sub a2.sub
    · intro i hi _
      rw [T.get_set, if_neg (by omega), T.get_set, if_neg (by omega)]
  | some l0 =>
    simp only [enterF] at e
    split at e
    · rename_i st pe fn' tm' sz' ps' as' bd' d0 hg
      cases e
      obtain ⟨b0, k0, hl0, hro⟩ := hrd
      obtain ⟨b2, k2, q1, q2, q3, tmps, db, kd, q4, q5, q6, q7⟩ := r.obj l0 _ hg
      rw [hl0] at q1; cases q1
      have a1 := act_new (n := n) (kap := 0) (o := .loop { state := .ready, pending := none, fn := fid, tmps := a.tmps, params := ps, assign := as, body := bd, defers := db }) (x := .loop .ready none fid tm sz ps as bd d0) r hB (hf n (by omega) (by omega)) ⟨a.tmps, db, kd, rfl, q5, hs, ht⟩
      refine ⟨_, w.heap.size, 0, [], _, ?_, by simp [ext], a1, ?_, ?_⟩
      · rw [hro, hfn]
        simp [Instr.enterLoop, Instr.getLoop, getObj, Sem.run, q4]
      · exact hd.sub a1.sub
      · intro i hi _
        rw [T.get_set, if_neg (by omega)]
    · cases e
/-- ONE FRAME, and with it every call -/
theorem evF_ok (hP : NoNum P) (hm : P.follows .mixedOrders = true) : ∀ (f : Nat) {fid : FuncId} {fd : Func} {sz n0 : Nat} {rd : Option Nat} {df : List Nat} {tm : T AV} {td : List Item} {h : Hp} {n : Nat} {u : List Nat} {v : AV} {h' : Hp} {n' : Nat} {u' : List Nat}, evF P G f fid fd sz n0 rd df tm td h n u = some (v, h', n', u') → (rd = none → P.funcs[fid]? = some fd) → ∀ {σ : Sg} {a : Act} {w : World}, TRE σ tm a → a.tmps.size = sz → DfR σ df a.defers → Rel σ h B w → GR G B w → B ≤ w.heap.size → (∀ i, n ≤ i → i < n' → σ i = none) → n0 ≤ n → ∀ (b : Frame), b.fn = fid → b.kind = .normal → RdR σ rd b →
    (∀ h00, KeptE h00 n0 n h u → KeptE h00 n0 n' h' u') ∧ EndR P rd fid (b.atR a td) σ h n B w v h' n' := by
  intro f
  induction f with
  | zero => intro fid fd sz n0 rd df tm td h n u v h' n' u' e; cases e
  | succ f ih =>
    intro fid fd sz n0 rd df tm td h n u v h' n' u' e hfid σ a w ht hs hd r hG hB hf hn b hbf hbk hbr
    have hK : KOK P G B (evK P G f) := by
      intro t args h n v h' n' u e σ w args' r hG hB hf ha
      cases t with
      | fn g =>
        simp only [evK] at e
        split at e
        · rename_i gd hg
          split at e
          · rename_i c hc
            have hlen : args.length = args'.size := by have := ha.length; simpa using this
            obtain ⟨k1, k2⟩ := ih e (fun _ => hg) (listT_ok ha (gd.ntmps - args'.size)) (by simp [hlen]) .nil r hG hB hf (Nat.le_refl _) { (default : Frame) with fn := g, kind := .normal } rfl rfl rfl
            refine ⟨k1 h (KeptE.refl _ _ _ _), fun cs => ?_⟩
            obtain ⟨fr, τ, w', v', s1, s2, s3, s4, s5⟩ := k2 cs
            have henter : Frame.enter P g args' .normal = ({ (default : Frame) with fn := g, kind := .normal } : Frame).atR { tmps := args' ++ Array.replicate (gd.ntmps - args'.size) undef, defers := [] } [.code c] := by
              simp [Frame.enter, Frame.atR, hg, hc]
              rfl
            refine ⟨.returned v', w', fr, ⟨τ, v', rfl, s4, s5⟩, ?_, s2, s3⟩
            rw [henter]; exact s1
          · cases e
        · cases e
      | yld i =>
        simp only [evK] at e
        split at e
        · rename_i st pe fn tm sz ps as bd d0 hg
          split at e
          · rename_i tm' hz
            obtain ⟨b2, k2, q1, q2, q3, tmps, db, kd, q4, q5, q6, q7⟩ := r.obj i _ hg
            obtain ⟨z1, z2, z3⟩ := zipT_ok hz ha (tmps := tmps) q7 q6
            obtain ⟨k1, k3⟩ := ih e (fun h => by cases h) z2 z3 .nil r hG hB hf (Nat.le_refl _) { (default : Frame) with fn := fn, kind := .normal, roundOf := some b2 } rfl rfl ⟨b2, k2, q1, rfl⟩
            refine ⟨k1 h (KeptE.refl _ _ _ _), fun b k hbk => ?_⟩
            rw [q1] at hbk; cases hbk
            refine ⟨fn, (ps.toList.zip args'.toList).foldl (fun tmps (t, a) => tmps.setIfInBounds t a) tmps, as, bd, ?_, ?_⟩
            · have hsz : args'.size = ps.size := by simp at z1; omega
              have hfold : (ps.zip args').foldl (fun tmps (t, a) => tmps.setIfInBounds t a) tmps = (ps.toList.zip args'.toList).foldl (fun tmps (t, a) => tmps.setIfInBounds t a) tmps := by
                rw [← Array.foldl_toList, Array.toList_zip]
              simp only [Instr.yield, Instr.getLoop, getObj, Sem.run_bind, Sem.run, q4, Result.andThen_ok, Sem.run_pure, hsz, ne_eq, not_true_eq_false, if_false, hfold]
            · intro c cs
              obtain ⟨τ, w', v', s1, s2, s3⟩ := k3 c cs
              exact ⟨v', w', ⟨τ, s2, s3⟩, s1⟩
          · cases e
        · cases e
    have one : ∀ {td' : List Item}, evF P G f fid fd sz n0 rd df tm td' h n u = some (v, h', n', u') → (∀ (cs : List Frame), step P (lone (b.atR a td) cs w) = .next (lone (b.atR a td') cs w)) →
        (∀ h00, KeptE h00 n0 n h u → KeptE h00 n0 n' h' u') ∧ EndR P rd fid (b.atR a td) σ h n B w v h' n' := by
      intro td' e' hst
      obtain ⟨k1, k2⟩ := ih e' hfid ht hs hd r hG hB hf hn b hbf hbk hbr
      exact ⟨k1, EndR.via fun cs => ⟨_, σ, h, n, w, .one (hst cs), ActF.refl r, k2⟩⟩
    have leave : ∀ {jump : Option Code}, leaveF P fd n0 rd df tm h n u jump = some (v, h', n', u') → (b.roundOf = none → ∀ (cs : List Frame), step P (lone (b.atR a td) cs w) = .next (lone { b.atR a td with mode := .returning } cs w)) →
        (∀ b0 v1 w1, b.roundOf = some b0 → (Instr.endRound b0 jump).run P w = .ok v1 w1 → ∀ (c : Frame) (cs : List Frame), step P (lone (b.atR a td) (c :: cs) w) = .next (lone (c.finish v1) cs w1)) →
        (∀ h00, KeptE h00 n0 n h u → KeptE h00 n0 n' h' u') ∧ EndR P rd fid (b.atR a td) σ h n B w v h' n' := by
      intro jump e' hret hend
      cases rd with
      | none =>
        simp only [leaveF, evFin] at e'
        split at e'
        · rename_i h1 hta
          split at e'
          · rename_i vs hv
            cases e'
            obtain ⟨w1, q1, q2, q3⟩ := takeAll_ok (P := P) (n := n) hta hd r { b.atR a td with mode := .returning } rfl rfl
            obtain ⟨v', q4, q5⟩ := results_ok (a := a) ht q2.rel hv
            refine ⟨fun h00 k => k.step q3 hn (Nat.le_refl _), fun cs => ?_⟩
            exact ⟨_, σ, w1, v', .head (hret hbr cs) (q1 cs), hbf, ⟨rfl, rfl, hbk, fd, by show P.funcs[b.fn]? = _; rw [hbf]; exact hfid rfl, q4⟩, q5, q2⟩
          · cases e'
        · cases e'
      | some l =>
        simp only [leaveF] at e'
        obtain ⟨b0, k0, q1, q2⟩ := hbr
        obtain ⟨rfl, rfl, rfl, w1, p1, p2, p3⟩ := evEnd_ok (P := P) e' r q1
        exact ⟨fun h00 k => k.step p3 hn (Nat.le_refl _), fun c cs => ⟨σ, w1, _, .one (hend b0 _ w1 q2 p1 c cs), .c _, p2⟩⟩
    simp only [evF] at e
    split at e
    · exact leave e (fun h cs => stepR_end h) (fun b0 v1 w1 h1 h2 c cs => stepR_round_end h1 hbk h2)
    · exact one e fun cs => stepR_inBlock
    · exact one e fun cs => step_lone_go (by simp [stepG, stepG.exec, Frame.atR])
    · exact one e fun cs => stepR_inLoop
    · rename_i k
      split at e
      · rename_i l
        split at e
        · rename_i pe fn tm' sz' ps as bd d0 hg
          obtain ⟨b0, k0, q1, q2⟩ := hbr
          obtain ⟨b2, k2, p1, p2, p3, tmps, db, kd, p4, p5, p6, p7⟩ := r.obj l _ hg
          rw [q1] at p1; cases p1
          have hrun : (Instr.beginRound b0).run P w = .ok () { w with heap := w.heap.setIfInBounds b0 (.loop { state := .busy, pending := pe, fn := fn, tmps := tmps, params := ps, assign := as, body := bd, defers := db }) } := by
            simp [Instr.beginRound, Instr.getLoop, getObj, setObj, Sem.run, p4]
          have a1 := act_obj (n := n) (y := .loop .busy pe fn tm' sz' ps as bd d0) (ob := .loop { state := .busy, pending := pe, fn := fn, tmps := tmps, params := ps, assign := as, body := bd, defers := db }) r hg q1 ⟨tmps, db, kd, rfl, p5, p6, p7⟩
          obtain ⟨k1, k3⟩ := ih e hfid ht hs hd a1.rel (hG.step (a1.below r hB)) (Nat.le_trans hB a1.fr.size) hf hn b hbf hbk ⟨b0, k0, q1, q2⟩
          exact ⟨fun h00 kk => k1 h00 (kk.step kept_one hn (Nat.le_refl _)), EndR.via fun cs => ⟨_, σ, _, n, _, .one (stepR_beginRound q2 hrun), a1, k3⟩⟩
        · cases e
      · cases e
    · split at e
      · exact leave e (fun h cs => stepR_ret h) (fun b0 v1 w1 h1 h2 c cs => stepR_round_ret h1 hbk h2)
      · exact one e fun cs => stepR_skip
      · exact one e fun cs => stepR_label
      · exact one e fun cs => stepR_seq
      · rename_i c x y
        split at e
        · rename_i t hc
          have hv := ev_ok ht c
          rw [hc] at hv
          generalize hce : a.eval c = cv at hv
          cases hv
          exact one e fun cs => stepR_cond hce
        · cases e
      · exact one e fun cs => stepR_block
      · exact one e fun cs => stepR_loop
      · rename_i k _ id
        split at e
        · rename_i k' hk'; exact one e fun cs => stepR_exit hk'
        · rename_i hk'
          split at e
          · rename_i l
            exact leave (jump := some (.exit id)) e (fun h => by obtain ⟨b0, k0, q1, q2⟩ := hbr; rw [q2] at h; cases h) (fun b0 v1 w1 h1 h2 c cs => stepR_round_exit h1 hbk hk' h2)
          · cases e
      · rename_i k _ q
        split at e
        · rename_i k' hk'; exact one e fun cs => stepR_goto hk'
        · rename_i hk'
          split at e
          · rename_i l
            exact leave (jump := some (.goto q)) e (fun h => by obtain ⟨b0, k0, q1, q2⟩ := hbr; rw [q2] at h; cases h) (fun b0 v1 w1 h1 h2 c cs => stepR_round_goto h1 hbk hk' h2)
          · cases e
      · rename_i k _ id ops draw
        split at e
        · rename_i s hs'
          have hle2 := evF_le f e
          have hreg : (∀ cs, ∃ a' w' τ, TRE τ s.tm a' ∧ Act1 σ h n B w τ s.h s.n w' ∧ a'.tmps.size = sz ∧ a'.defers = a.defers ∧ Steps P (lone (b.atR a (.code (.region id ops draw) :: k)) cs w) (lone (b.atR a' k) cs w')) ∧ n ≤ s.n ∧ (n0 ≤ n → ∀ h0, KeptE h0 n0 n h u → KeptE h0 n0 s.n s.h s.u) := by
            cases draw with
            | true =>
              have hle := runDraw_le hs'
              obtain ⟨q1, q2, q3⟩ := runDraw_ok (s := ⟨tm, h, n, u⟩) hP hK hm hs' hG hB (fun i h1 h2 => hf i h1 (by omega)) r ht hs (fun a' w' => ∃ τ, TRE τ s.tm a' ∧ Act1 σ h n B w τ s.h s.n w' ∧ a'.tmps.size = sz ∧ a'.defers = a.defers) (fun a' w' τ t1 t2 t3 t4 => ⟨τ, t1, t2, t3, t4⟩)
              refine ⟨fun cs => ?_, q2, q3⟩
              obtain ⟨a', w', ⟨τ, t1, t2, t3, t4⟩, st⟩ := opsX_sound _ (q1 (w.tape w.drawn (.order b.fn id))) b k cs
              exact ⟨a', w', τ, t1, t2, t3, t4, .head stepR_region_draw st⟩
            | false =>
              have hle := runOps_le hs'
              obtain ⟨q1, q2⟩ := runOps_ok (s := ⟨tm, h, n, u⟩) hP hK hs' ht hs r hG hB (fun i h1 h2 => hf i h1 (by omega)) (fun a' w' => ∃ τ, TRE τ s.tm a' ∧ Act1 σ h n B w τ s.h s.n w' ∧ a'.tmps.size = sz ∧ a'.defers = a.defers) (fun a' w' τ t1 t2 t3 t4 => ⟨τ, t1, t2, t3, t4⟩)
              refine ⟨fun cs => ?_, hle, q2⟩
              have q3 : opsX P ops (fun a' w' => ∃ τ, TRE τ s.tm a' ∧ Act1 σ h n B w τ s.h s.n w' ∧ a'.tmps.size = sz ∧ a'.defers = a.defers) (List.range ops.size) a w := by
                rw [List.range_eq_range', ← Array.length_toList, opsX_eq ops.toList 0 (by simp)]; exact q1
              obtain ⟨a', w', ⟨τ, t1, t2, t3, t4⟩, st⟩ := opsX_sound _ q3 b k cs
              exact ⟨a', w', τ, t1, t2, t3, t4, .head stepR_region st⟩
          obtain ⟨w1, w2, w3⟩ := hreg
          have go := fun (a' : Act) (w' : World) (τ : Sg) (t1 : TRE τ s.tm a') (t2 : Act1 σ h n B w τ s.h s.n w') (t3 : a'.tmps.size = sz) (t4 : a'.defers = a.defers) =>
            ih e hfid t1 t3 (by rw [t4]; exact hd.sub t2.sub) t2.rel (hG.step (t2.below r hB)) (Nat.le_trans hB t2.fr.size) (fun i hi hi2 => by
              cases hx : τ i with
              | none => rfl
              | some q =>
                rcases t2.dom i (by simp [hx]) with h | h
                · rw [hf i (by omega) hi2] at h; cases h
                · omega) (by omega : n0 ≤ s.n) b hbf hbk (hbr.sub t2.sub)
          refine ⟨?_, EndR.via fun cs => ?_⟩
          · obtain ⟨a', w', τ, t1, t2, t3, t4, _⟩ := w1 []
            exact fun h00 kk => (go a' w' τ t1 t2 t3 t4).1 h00 (w3 hn h00 kk)
          · obtain ⟨a', w', τ, t1, t2, t3, t4, st⟩ := w1 cs
            exact ⟨_, τ, s.h, s.n, w', st, t2, (go a' w' τ t1 t2 t3 t4).2⟩
        · cases e
      · rename_i k _ g ps as bd
        split at e
        · rename_i l df1 h1 n1 gf caps he hc
          split at e
          · rename_i v2 h2 n2 u2 hk
            split at e
            · rename_i st pe fn tm' sz' ps' as' bd' d0 hg
              cases hcc : (Nat.ble n1 n2 && !(decide (st = .busy))) with
              | false => rw [hcc] at e; cases e
              | true =>
                rw [hcc] at e
                simp only [cond] at e
                simp only [Bool.and_eq_true] at hcc
                have hn12 := Nat.le_of_ble_eq_true hcc.1
                have hnb : ¬ (st = LoopState.busy) := by simpa using hcc.2
                have hle := enterF_le he
                have hle2 := evF_le f e
                obtain ⟨τ, lb, kl, mark, w1, e1, e2, e3, e4, e5⟩ := enterF_ok (P := P) he ht hs hd r hB (fun i q1 q2 => hf i q1 (by omega)) hbf hbr
                obtain ⟨cap', hge, hcaps⟩ := calleeOf_ok hc (ev_ok ht g)
                have freeAt : ∀ {τ' : Sg} {hh : Hp} {m : Nat} {ww : World}, Act1 σ h n B w τ' hh m ww → ∀ i, m ≤ i → i < n' → τ' i = none := by
                  intro τ' hh m ww ac i q1 q2
                  cases hx : τ' i with
                  | none => rfl
                  | some q =>
                    rcases ac.dom i (by simp [hx]) with h | h
                    · have := ac.le; rw [hf i (by omega) q2] at h; cases h
                    · omega
                have hkv : VRs τ (.y l :: caps) (#[Value.func (.yield lb) #[] #[]] ++ cap').toList := by
                  simp only [Array.toList_append, List.cons_append, List.nil_append]
                  exact .cons (.y e2) (hcaps.sub e3.sub)
                have hGr := hG.step (e3.below r hB)
                have hB1 := Nat.le_trans hB e3.fr.size
                obtain ⟨k1, k2⟩ := hK (.fn gf) _ _ _ _ _ _ _ hk τ w1 _ e3.rel hGr hB1 (fun i q1 q2 => freeAt e3 i q1 (by omega)) hkv
                have hfun : ∃ gd c, P.funcs[gf]? = some gd ∧ gd.body = some c := by
                  split at hk
                  · rename_i gd hg2
                    split at hk
                    · rename_i c hc2; exact ⟨gd, c, hg2, hc2⟩
                    · cases hk
                  · cases hk
                obtain ⟨gd, c, hg2, hc2⟩ := hfun
                have hres : (resolve a.eval (rangeCall g lb) 0).run P w1 = .ok { target := .fn (.func gf) cap', args := #[Value.func (.yield lb) #[] #[]] } w1 := by
                  have hcst : a.eval (.const (Value.func (.yield lb) #[] #[])) = .func (.yield lb) #[] #[] := rfl
                  simp [resolve, hge, hcst, Deferred.ofValue]
                have hinv : (invoke (.fn (.func gf) cap') #[Value.func (.yield lb) #[] #[]]).run P w1 = .ok (.enter gf (#[Value.func (.yield lb) #[] #[]] ++ cap')) w1 := by
                  have := hP gf gd hg2
                  simp only [invoke, callFunc, Sem.run_bind, run_program, Result.andThen_ok, hg2, this, hc2, Bool.false_eq_true, if_false, Option.isNone_some, Sem.run_pure]
                have henter := fun cs => stepR_rangeFunc (P := P) (b := b) (a := a) (k := k) (cs := cs) (w := w) e1 hres hinv
                have back : ∀ cs, ∃ υ w3, Steps P (lone (b.atR a (.code (.rangeFunc g ps as bd) :: k)) cs w) (lone (b.atR { a with defers := mark ++ a.defers } ((pe.map Item.code).toList ++ k)) cs w3) ∧ Act1 σ h n B w υ (h2.set l (some (.loop .exhausted pe fn tm' sz' ps' as' bd' d0))) n2 w3 ∧ Sub τ υ := by
                  intro cs
                  obtain ⟨e9, w2, fr, ⟨υ, v', rfl, q1, q2⟩, hsteps, _, hleave⟩ := k2 (b.atR { a with defers := mark ++ a.defers } (.inRangeFunc lb :: k) :: cs)
                  obtain ⟨b2, kk2, p1, p2, p3, tmps, db, kd, p4, p5, p6, p7⟩ := q2.rel.obj l _ hg
                  have hlb := q2.sub _ _ e2
                  rw [hlb] at p1; cases p1
                  have hendl : (Instr.endLoop lb).run P w2 = .ok pe { w2 with heap := w2.heap.setIfInBounds lb (.loop { state := .exhausted, pending := pe, fn := fn, tmps := tmps, params := ps', assign := as', body := bd', defers := db }) } := by
                    simp [Instr.endLoop, Instr.getLoop, getObj, setObj, Sem.run, p4, hnb]
                  have a3 := act_obj (n := n2) (y := .loop .exhausted pe fn tm' sz' ps' as' bd' d0) (ob := .loop { state := .exhausted, pending := pe, fn := fn, tmps := tmps, params := ps', assign := as', body := bd', defers := db }) q2.rel hg hlb ⟨tmps, db, kd, rfl, p5, p6, p7⟩
                  refine ⟨υ, _, .head (henter cs) (Steps.trans hsteps (.head ?_ (.one (stepR_endRangeFunc hendl)))), (e3.trans q2).trans a3, q2.sub⟩
                  rw [← finish_atR_inRangeFunc lb v']; exact step_leave_returned hleave
                have go := fun (υ : Sg) (w3 : World) (ac : Act1 σ h n B w υ (h2.set l (some (.loop .exhausted pe fn tm' sz' ps' as' bd' d0))) n2 w3) (sb : Sub τ υ) =>
                  ih (a := { a with defers := mark ++ a.defers }) e hfid (fun t => (ht t).sub ac.sub) hs (e4.sub sb) ac.rel (hG.step (ac.below r hB)) (Nat.le_trans hB ac.fr.size) (freeAt ac) (by omega : n0 ≤ n2) b hbf hbk (hbr.sub ac.sub)
                refine ⟨?_, EndR.via fun cs => ?_⟩
                · obtain ⟨υ, w3, _, ac, sb⟩ := back []
                  refine fun h00 kk => (go υ w3 ac sb).1 h00 ?_
                  have s1 := kk.step e5 hn hle
                  have s2 := s1.step k1 (by omega) hn12
                  exact s2.step kept_one (by omega) (Nat.le_refl _)
                · obtain ⟨υ, w3, st, ac, sb⟩ := back cs
                  exact ⟨_, υ, _, n2, w3, st, ac, (go υ w3 ac sb).2⟩
            · cases e
          · cases e
        · cases e
      · cases e
    · cases e
/-- A CLOSED CALL: what the rules say, the program does, in whatever memory -/
theorem run_closed (hP : NoNum P) (hm : P.follows .mixedOrders = true) (f : Nat) {g : FuncId} {args : List Value} {v : Value} {h' : Hp} {n' : Nat} {u' : List Nat} (e : evK P G f (.fn g) (args.map .c) .nil 0 = some (.c v, h', n', u')) (w : World) (hG : GR G w.heap.size w) :
    Calls P g args.toArray w fun e w' => e = .returned v ∧ Below w.heap.size w w' := by
  have hr : Rel (fun _ => none) .nil w.heap.size w := ⟨fun i o h => by simp [T.get_nil] at h, fun i j b c d h => by simp [T.get_nil] at h⟩
  simp only [evK] at e
  split at e
  · rename_i gd hg
    split at e
    · rename_i c hc
      have ha : VRs (fun _ => none) (args.map .c) args.toArray.toList := VRs.cs _
      have hlen : (args.map AV.c).length = args.toArray.size := by simp
      obtain ⟨k1, k2⟩ := evF_ok (B := w.heap.size) hP hm f e (fun _ => hg) (listT_ok ha (gd.ntmps - args.toArray.size)) (by simp [hlen]) .nil hr hG (Nat.le_refl _) (fun i _ _ => rfl) (Nat.le_refl _) { (default : Frame) with fn := g, kind := .normal } rfl rfl rfl
      intro cs
      obtain ⟨fr, τ, w', v', s1, s2, s3, s4, s5⟩ := k2 cs
      have henter : Frame.enter P g args.toArray .normal = ({ (default : Frame) with fn := g, kind := .normal } : Frame).atR { tmps := args.toArray ++ Array.replicate (gd.ntmps - args.toArray.size) undef, defers := [] } [.code c] := by
        simp [Frame.enter, Frame.atR, hg, hc]
        rfl
      cases s4
      refine ⟨.returned v, w', fr, ⟨rfl, s5.below hr (Nat.le_refl _)⟩, ?_, s2, s3⟩
      rw [henter]; exact s1
    · cases e
  · cases e
end
end Go.Proofs.Ytcpifmhcebfglaa
namespace Go.Proofs.Ytcpifmhcebfglaa
open Go Go.RowKit
set_option linter.unusedVariables false
structure Cx where
  fid : FuncId
  fd : Func
  sz : Nat
  n0 : Nat
  rd : Option Nat
abbrev ZT := Cx → List Nat → T AV → List Item → Hp → Nat → List Nat → Res
abbrev ZI := Program → Gl → ZT → ZT
abbrev ZO := Oper → Program → Gl → T AV → Hp → Nat → Option Out
/-- single operations -/
def zClosed : ZO := fun o P _ tm h n => evClosed P tm h n o
def zMove (x : Operand) : ZO := fun _ _ _ tm h n => evMove h n (ev tm x)
def zPick (c x y : Operand) : ZO := fun _ _ _ tm h n => evPick h n (ev tm c) (ev tm x) (ev tm y)
def zAlloc (t : TypeId) : ZO := fun _ P _ tm h n => evAlloc P h n t
def zBox (t : TypeId) (x : Operand) : ZO := fun _ _ _ tm h n => evBox h n t (ev tm x)
def zBuild (t : TypeId) (ps : Array (Nat × Operand)) : ZO := fun o P _ tm h n => orC (evClosed P tm h n o) (evBuild P h n t (ps.toList.map fun p => (p.1, ev tm p.2)))
def zBuildSlice (t : TypeId) (len : Nat) (ps : Array (Nat × Operand)) : ZO := fun o P _ tm h n => evBuildSlice P h n t len (ps.toList.map fun p => (p.1, ev tm p.2))
def zLoad (t : TypeId) (x : Operand) : ZO := fun _ P G tm h n => evLoad P G h n t (ev tm x)
def zStore (t : TypeId) (x y : Operand) : ZO := fun _ P _ tm h n => evStore P h n t (ev tm x) (ev tm y)
def zNilCheck (x : Operand) : ZO := fun o P _ tm h n => orC (evNilCheck h n (ev tm x)) (evClosed P tm h n o)
def zFieldAddr (s : TypeId) (x : Operand) (f : Nat) : ZO := fun o P _ tm h n => orC (evFieldAddr P h n s f (ev tm x)) (evClosed P tm h n o)
def zField (s : TypeId) (x : Operand) (f : Nat) : ZO := fun o P _ tm h n => orC (evField P h n s f (ev tm x)) (evClosed P tm h n o)
def zIndexAddr (t : TypeId) (x y : Operand) : ZO := fun o P _ tm h n => orC (evIndexAddr P h n t (ev tm x) (ev tm y)) (evClosed P tm h n o)
def zIndex (t : TypeId) (x y : Operand) : ZO := fun o P _ tm h n => orC (evIndex P h n t (ev tm x) (ev tm y)) (evClosed P tm h n o)
def zExtract (x : Operand) (i : Nat) : ZO := fun o P _ tm h n => orC (evExtract h n (ev tm x) i) (evClosed P tm h n o)
def zCall (c : Call) : ZO := fun o P _ tm h n => orC (evCallOp P tm h n c) (evClosed P tm h n o)
def zElse : ZO := fun o P G tm h n => evOp P G tm h n o
def zOpOf : Op → ZO
  | .move x => zMove x
  | .assign x => zMove x
  | .pick c x y => zPick c x y
  | .alloc t => zAlloc t
  | .box t x => zBox t x
  | .build t ps => zBuild t ps
  | .buildSlice t len ps => zBuildSlice t len ps
  | .load t x => zLoad t x
  | .store t x y => zStore t x y
  | .nilCheck x => zNilCheck x
  | .fieldAddr s x f => zFieldAddr s x f
  | .field s x f => zField s x f
  | .indexAddr t x y => zIndexAddr t x y
  | .index t x y => zIndex t x y
  | .extract x i => zExtract x i
  | .call c => zCall c
  | _ => zElse
def zOp : ZO := fun o P G tm h n => zOpOf o.op o P G tm h n
theorem zOp_eq (o : Oper) (P : Program) (G : Gl) (tm : T AV) (h : Hp) (n : Nat) : zOp o P G tm h n = evOp P G tm h n o := by
  unfold zOp zOpOf
  cases ho : o.op <;> first | rfl | (unfold evOp; rw [ho]; rfl)
/-- a region in the order of the text -/
def zPut (sz n0 : Nat) (o : Oper) (n : Nat) (u : List Nat) (tm : T AV) (v : AV) (h' : Hp) (n' : Nat) (u' : List Nat) : Option S1 :=
  cond (Nat.ble n n') ((putD sz o.dst v tm).map fun tm => ⟨tm, h', n', mrg n0 n' u u'⟩) none
def zRes (sz n0 : Nat) (o : Oper) (n : Nat) (u : List Nat) (tm : T AV) : Res → Option S1
  | some (v, h', n', u') => zPut sz n0 o n u tm v h' n' u'
  | none => none
def zOut (K : KT) (sz n0 : Nat) (o : Oper) (tm : T AV) (h : Hp) (n : Nat) (u : List Nat) : Option Out → Option S1
  | some (.val v h' n' u') => zPut sz n0 o n u tm v h' n' u'
  | some (.call f args) => zRes sz n0 o n u tm (K f args h n)
  | none => none
def zW (P : Program) (G : Gl) (K : KT) (sz n0 : Nat) (o : Oper) (tm : T AV) (h : Hp) (n : Nat) (u : List Nat) : Option Bool → Option S1
  | some true => zOut K sz n0 o tm h n u (zOp o P G tm h n)
  | some false => (putD sz o.dst (.c undef) tm).map fun tm => ⟨tm, h, n, u⟩
  | none => none
def zStep (P : Program) (G : Gl) (K : KT) (ops : Array Oper) (sz n0 : Nat) (o : Oper) (s : S1) : Option S1 :=
  S1.casesOn s fun tm h n u => zW P G K sz n0 o tm h n u (wA ops tm o)
theorem zStep_eq (P : Program) (G : Gl) (K : KT) (ops : Array Oper) (sz n0 : Nat) (o : Oper) (s : S1) : zStep P G K ops sz n0 o s = step1 P G K ops sz n0 o s := by
  cases s with
  | mk tm h n u =>
  show zW P G K sz n0 o tm h n u (wA ops tm o) = _
  unfold step1
  simp only
  cases wA ops tm o with
  | none => rfl
  | some b => cases b with
    | false => rfl
    | true =>
      simp only [zW, zOp_eq]
      cases evOp P G tm h n o with
      | none => rfl
      | some x => cases x with
        | val v h' n' u' => rfl
        | call f args =>
          simp only [zOut]
          cases K f args h n with
          | none => rfl
          | some y => rfl
def zGo (zRun : S1 → Option S1) : Option S1 → Option S1
  | some s => zRun s
  | none => none
def zRunOps (P : Program) (G : Gl) (K : KT) (ops : Array Oper) (sz n0 : Nat) : List Oper → S1 → Option S1
  | [] => some
  | o :: l => fun s => zGo (zRunOps P G K ops sz n0 l) (zStep P G K ops sz n0 o s)
theorem zRunOps_eq (P : Program) (G : Gl) (K : KT) (ops : Array Oper) (sz n0 : Nat) : ∀ (l : List Oper) (s : S1), zRunOps P G K ops sz n0 l s = runOps P G K ops sz n0 l s
  | [], s => rfl
  | o :: l, s => by
    show zGo _ (zStep P G K ops sz n0 o s) = _
    rw [zStep_eq]
    simp only [runOps]
    cases step1 P G K ops sz n0 o s with
    | none => rfl
    | some s' => exact zRunOps_eq P G K ops sz n0 l s'
/-- a region that draws its order -/
def zD5 (tj : T AV) (dst : Option Tmp) (h2 : Hp) (n : Nat) : Res → Option Rc
  | some (v, ho, n', u) => some ⟨tj, dst, v, h2, ho, n, n', u, none⟩
  | none => none
def zD4 (K : KT) (tj : T AV) (dst : Option Tmp) (h2 : Hp) (n : Nat) : Option Out → Option Rc
  | some (.call f args) => zD5 tj dst h2 n (K f args h2 n)
  | _ => none
def zD3 (P : Program) (G : Gl) (K : KT) (an : List Nat) (j : Nat) (o : Oper) (recs : List Rc) (h : Hp) (n : Nat) (tj : T AV) (ids : List Nat) (hi : Hp) : Option Out → Option Rc
  | some (.val v ho n' u) => some ⟨tj, o.dst, v, hi, ho, n, n', u, some ids⟩
  | some (.call _ _) => (fun h2 => zD4 K tj o.dst h2 n (zOp o P G tj h2 n)) (erAll an j recs 0 h)
  | none => none
def zD2 (P : Program) (G : Gl) (K : KT) (an : List Nat) (j : Nat) (o : Oper) (recs : List Rc) (h : Hp) (n : Nat) (tj : T AV) (ids : List Nat) (hi : Hp) : Option Rc :=
  zD3 P G K an j o recs h n tj ids hi (zOp o P G tj hi n)
def zD1 (P : Program) (G : Gl) (K : KT) (an : List Nat) (j : Nat) (o : Oper) (recs : List Rc) (h : Hp) (n : Nat) (tj : T AV) (ids : List Nat) : Option Rc :=
  zD2 P G K an j o recs h n tj ids (restr h ids .nil)
def zD0 (P : Program) (G : Gl) (K : KT) (an : List Nat) (j : Nat) (o : Oper) (recs : List Rc) (h : Hp) (n : Nat) (tj : T AV) : Option Bool → Option Rc
  | some true => zD1 P G K an j o recs h n tj ((o.op.operands.toList.flatMap fun x => avIds (ev tj x)).filter fun i => !touched an j recs 0 i)
  | some false => some ⟨tj, o.dst, .c undef, .nil, .nil, n, n, [], some []⟩
  | none => none
def zStepD (P : Program) (G : Gl) (K : KT) (ops : Array Oper) (an : List Nat) (j : Nat) (o : Oper) (recs : List Rc) (tm : T AV) (h : Hp) (n : Nat) : Option Rc :=
  (fun tj => zD0 P G K an j o recs h n tj (wA ops tj o)) (tjOf an ops j tm (o.looksAt ops) .nil)
theorem zStepD_eq (P : Program) (G : Gl) (K : KT) (ops : Array Oper) (an : List Nat) (j : Nat) (o : Oper) (recs : List Rc) (s : S1) : zStepD P G K ops an j o recs s.tm s.h s.n = stepD P G K ops an j o recs s := by
  unfold zStepD stepD
  simp only
  generalize tjOf an ops j s.tm (o.looksAt ops) .nil = tj
  cases wA ops tj o with
  | none => rfl
  | some b => cases b with
    | false => rfl
    | true =>
      simp only [zD0, zD1, zD2, zOp_eq]
      generalize ((o.op.operands.toList.flatMap fun x => avIds (ev tj x)).filter fun i => !touched an j recs 0 i) = ids
      generalize restr s.h ids .nil = hi
      cases evOp P G tj hi s.n o with
      | none => rfl
      | some x => cases x with
        | val v h' n' u' => rfl
        | call f args =>
          simp only [zD3, zOp_eq]
          cases evOp P G tj (erAll an j recs 0 s.h) s.n o with
          | none => rfl
          | some y => cases y with
            | val v h' n' u' => rfl
            | call f args =>
              simp only [zD4]
              cases K f args (erAll an j recs 0 s.h) s.n with
              | none => rfl
              | some z => rfl
abbrev ZG := List Rc → List (Nat × Nat) → T AV → Hp → Nat → List Nat → Option (List Rc × S1)
def zG3 (go : ZG) (n0 : Nat) (recs : List Rc) (al : List (Nat × Nat)) (h : Hp) (u : List Nat) (r : Rc) (ho : Hp) (n' : Nat) (u' : List Nat) (ids : List Nat) : Option (T AV) → Option (List Rc × S1)
  | some tm => go (recs ++ [r]) al tm (copyIds ho ids (copyIds ho u' h)) n' (mrg n0 n' u u')
  | none => none
def zG2b (go : ZG) (sz n0 : Nat) (dst : Option Tmp) (recs : List Rc) (tm : T AV) (h : Hp) (u : List Nat) (r : Rc) (v : AV) (ho : Hp) (rn rn' : Nat) (ru : List Nat) : Option (List (Nat × Nat)) → Option (List Rc × S1)
  | some al => zG3 go n0 recs al h u r ho rn' ru (List.range' rn (rn' - rn)) (putD sz dst v tm)
  | none => none
def zG2 (go : ZG) (P : Program) (G : Gl) (ops : Array Oper) (an : List Nat) (sz n0 j : Nat) (dst : Option Tmp) (recs : List Rc) (al : List (Nat × Nat)) (tm : T AV) (h : Hp) (u : List Nat) (r : Rc) : Option (List Rc × S1) :=
  Rc.casesOn r fun _ _ v _ ho rn rn' ru _ => cond (Nat.ble rn rn' && (ru.all fun i => Nat.blt i rn))
    (zG2b go sz n0 dst recs tm h u r v ho rn rn' ru (conf P G ops an j r recs ops.toList 0 al)) none
def zG1 (go : ZG) (P : Program) (G : Gl) (ops : Array Oper) (an : List Nat) (sz n0 j : Nat) (dst : Option Tmp) (recs : List Rc) (al : List (Nat × Nat)) (tm : T AV) (h : Hp) (u : List Nat) : Option Rc → Option (List Rc × S1)
  | some r => zG2 go P G ops an sz n0 j dst recs al tm h u r
  | none => none
def zGoD (P : Program) (G : Gl) (K : KT) (ops : Array Oper) (an : List Nat) (sz n0 : Nat) : List Oper → Nat → ZG
  | [], _ => fun recs al tm h n u => some (recs, ⟨tm, h, n, u⟩)
  | o :: l, j => fun recs al tm h n u => zG1 (zGoD P G K ops an sz n0 l (Nat.add j 1)) P G ops an sz n0 j o.dst recs al tm h u (zStepD P G K ops an j o recs tm h n)
theorem zGoD_eq (P : Program) (G : Gl) (K : KT) (ops : Array Oper) (an : List Nat) (sz n0 : Nat) : ∀ (l : List Oper) (j : Nat) (recs : List Rc) (al : List (Nat × Nat)) (s : S1), zGoD P G K ops an sz n0 l j recs al s.tm s.h s.n s.u = goD P G K ops an sz n0 l j recs al s
  | [], j, recs, al, s => rfl
  | o :: l, j, recs, al, s => by
    show zG1 _ P G ops an sz n0 j o.dst recs al s.tm s.h s.u (zStepD P G K ops an j o recs s.tm s.h s.n) = _
    rw [zStepD_eq]
    simp only [goD]
    cases stepD P G K ops an j o recs s with
    | none => rfl
    | some r =>
      simp only [zG1]
      cases hr : r with
      | mk tj dst v hi ho rn rn' ru ft =>
      simp only [zG2, newIds]
      cases (Nat.ble rn rn' && (ru.all fun i => Nat.blt i rn)) with
      | false => rfl
      | true =>
        simp only [cond]
        cases conf P G ops an j ⟨tj, dst, v, hi, ho, rn, rn', ru, ft⟩ recs ops.toList 0 al with
        | none => rfl
        | some al2 =>
          simp only [zG2b]
          cases putD sz o.dst v s.tm with
          | none => rfl
          | some tm => exact zGoD_eq P G K ops an sz n0 l (j + 1) (recs ++ [_]) al2 ⟨tm, _, _, _⟩
def zDraw (P : Program) (G : Gl) (K : KT) (ops : Array Oper) (an : List Nat) (sz n0 : Nat) (s : S1) : Option S1 :=
  cond (ancOk an ops.toList 0 && onceOk ops.toList) ((zGoD P G K ops an sz n0 ops.toList 0 [] [] s.tm s.h s.n s.u).map (·.2)) none
theorem zDraw_eq (P : Program) (G : Gl) (K : KT) (ops : Array Oper) (sz n0 : Nat) (s : S1) : zDraw P G K ops (ancAll ops.toList []) sz n0 s = runDraw P G K ops sz n0 s := by
  unfold zDraw runDraw
  simp only [zGoD_eq]
/-- a frame -/
def zK (P : Program) (ih : ZT) : KT := fun t args h n => match t with
  | .fn g => match P.funcs[g]? with
    | some fd => match fd.body with
      | some c => ih ⟨g, fd, args.length + (fd.ntmps - args.length), n, none⟩ [] (listT args 0 .nil) [.code c] h n []
      | none => none
    | none => none
  | .yld i => match h.get i with
    | some (.loop _ _ fn tm sz ps as bd _) => match zipT sz ps.toList args tm with
      | some tm' => ih ⟨fn, default, sz, n, some i⟩ [] tm' [.code as, .beginRound, .code bd] h n []
      | none => none
    | _ => none
def zSkip : ZI := fun _ _ ih C df tm k h n u => ih C df tm k h n u
def zInLoop (c : Code) : ZI := fun _ _ ih C df tm k h n u => ih C df tm (.code c :: .inLoop c :: k) h n u
def zBegin : ZI := fun _ _ ih C df tm k h n u => match C.rd with
  | some l => match h.get l with
    | some (.loop .ready pe fn tm' sz' ps as bd d0) => ih C df tm k (h.set l (some (.loop .busy pe fn tm' sz' ps as bd d0))) n (mrg C.n0 n u [l])
    | _ => none
  | none => none
def zRet : ZI := fun P _ _ C df tm _ h n u => leaveF P C.fd C.n0 C.rd df tm h n u (some .ret)
def zSeq (x y : Code) : ZI := fun _ _ ih C df tm k h n u => ih C df tm (.code x :: .code y :: k) h n u
def zIf (x y : Code) (ih : Code → Res) : AV → Res
  | .c (.bool t) => Bool.casesOn t (ih y) (ih x)
  | _ => none
def zCond (c : Operand) (x y : Code) : ZI := fun _ _ ih C df tm k h n u => zIf x y (fun z => ih C df tm (.code z :: k) h n u) (ev tm c)
def zBlock (id : Nat) (c : Code) : ZI := fun _ _ ih C df tm k h n u => ih C df tm (.code c :: .inBlock id :: k) h n u
def zExit (id : Nat) : ZI := fun _ _ ih C df tm k h n u => match exitTo id k with
  | some k' => ih C df tm k' h n u
  | none => match C.rd with
    | some l => evEnd C.n0 l (some (.exit id)) h n u
    | none => none
def zGoto (q : Nat) : ZI := fun _ _ ih C df tm k h n u => match gotoIn q k with
  | some k' => ih C df tm k' h n u
  | none => match C.rd with
    | some l => evEnd C.n0 l (some (.goto q)) h n u
    | none => none
def zThen (ih : ZT) (C : Cx) (df : List Nat) (k : List Item) : Option S1 → Res
  | some s => S1.casesOn s fun tm h n u => ih C df tm k h n u
  | none => none
def zText (ops : Array Oper) : ZI := fun P G ih C df tm k h n u => zThen ih C df k (zRunOps P G (zK P ih) ops C.sz C.n0 ops.toList ⟨tm, h, n, u⟩)
def zDrawn (ops : Array Oper) : ZI := fun P G ih C df tm k h n u => zThen ih C df k (zDraw P G (zK P ih) ops (ancAll ops.toList []) C.sz C.n0 ⟨tm, h, n, u⟩)
def zRange (g : Operand) (ps : Array Tmp) (as bd : Code) : ZI := fun P G ih C df tm k h n u => match enterF C.rd df C.fid tm C.sz ps as bd h n, calleeOf (ev tm g) with
  | some (l, df1, h1, n1), some (gf, caps) => match zK P ih (.fn gf) (.y l :: caps) h1 n1 with
    | some (_, h2, n2, u2) => match h2.get l with
      | some (.loop st pe fn tm' sz' ps' as' bd' d0) => cond (Nat.ble n1 n2 && !(decide (st = .busy)))
        (ih C df1 tm ((pe.map Item.code).toList ++ k) (h2.set l (some (.loop .exhausted pe fn tm' sz' ps' as' bd' d0))) n2 (mrg C.n0 n2 (mrg C.n0 n2 u u2) [l])) none
      | _ => none
    | none => none
  | _, _ => none
def zNo : ZI := fun _ _ _ _ _ _ _ _ _ _ => none
def zCode : Code → ZI
  | .ret => zRet
  | .skip => zSkip
  | .label _ => zSkip
  | .seq x y => zSeq x y
  | .cond c x y => zCond c x y
  | .block id c => zBlock id c
  | .loop c => zInLoop c
  | .exit id => zExit id
  | .goto q => zGoto q
  | .region _ ops draw => Bool.casesOn draw (zText ops) (zDrawn ops)
  | .rangeFunc g ps as bd => zRange g ps as bd
  | _ => zNo
def zItem : Item → ZI
  | .code c => zCode c
  | .inBlock _ => zSkip
  | .inScope _ => zSkip
  | .inLoop c => zInLoop c
  | .beginRound => zBegin
  | _ => zNo
def zDo (P : Program) (G : Gl) (ih : ZT) : ZT := fun C df tm td h n u => match td with
  | i :: k => zItem i P G ih C df tm k h n u
  | [] => leaveF P C.fd C.n0 C.rd df tm h n u none
def zF (P : Program) (G : Gl) (f : Nat) : ZT := Nat.rec (motive := fun _ => ZT) (fun _ _ _ _ _ _ _ => none) (fun _ ih => zDo P G ih) f
def zzK (P : Program) (G : Gl) (f : Nat) : KT := zK P (zF P G f)
theorem zK_evK {P : Program} {G : Gl} {f : Nat} (e : ∀ (C : Cx) (df : List Nat) (tm : T AV) (td : List Item) (h : Hp) (n : Nat) (u : List Nat), zF P G f C df tm td h n u = evF P G f C.fid C.fd C.sz C.n0 C.rd df tm td h n u) : zK P (zF P G f) = evK P G f := by
  funext t args h n
  unfold zK evK
  simp only [e]
  all_goals rfl
theorem zF_eq (P : Program) (G : Gl) : ∀ (f : Nat) (C : Cx) (df : List Nat) (tm : T AV) (td : List Item) (h : Hp) (n : Nat) (u : List Nat), zF P G f C df tm td h n u = evF P G f C.fid C.fd C.sz C.n0 C.rd df tm td h n u
  | 0, C, df, tm, td, h, n, u => rfl
  | f + 1, C, df, tm, td, h, n, u => by
    have ih := zF_eq P G f
    have hK := zK_evK ih
    show zDo P G (zF P G f) C df tm td h n u = _
    simp only [evF, zDo]
    cases td with
    | nil => rfl
    | cons i k =>
      cases i with
      | code c =>
        cases c with
        | cond c x y =>
          simp only [zItem, zCode, zCond, ih]
          cases ev tm c with
          | c v => cases v with
            | bool t => cases t <;> rfl
            | _ => rfl
          | _ => rfl
        | region id ops draw =>
          cases draw with
          | false =>
            simp only [zItem, zCode, zText, cond, zRunOps_eq, hK]
            show zThen _ C df k (runOps P G (evK P G f) ops C.sz C.n0 ops.toList ⟨tm, h, n, u⟩) = match runOps P G (evK P G f) ops C.sz C.n0 ops.toList ⟨tm, h, n, u⟩ with | some s => _ | none => _
            cases runOps P G (evK P G f) ops C.sz C.n0 ops.toList ⟨tm, h, n, u⟩ with
            | none => rfl
            | some s => exact ih C df s.tm k s.h s.n s.u
          | true =>
            simp only [zItem, zCode, zDrawn, cond, zDraw_eq, hK]
            show zThen _ C df k (runDraw P G (evK P G f) ops C.sz C.n0 ⟨tm, h, n, u⟩) = match runDraw P G (evK P G f) ops C.sz C.n0 ⟨tm, h, n, u⟩ with | some s => _ | none => _
            cases runDraw P G (evK P G f) ops C.sz C.n0 ⟨tm, h, n, u⟩ with
            | none => rfl
            | some s => exact ih C df s.tm k s.h s.n s.u
        | rangeFunc g ps as bd =>
          simp only [zItem, zCode, zRange, hK, ih]
          rfl
        | _ => simp only [zItem, zCode, zSkip, zRet, zSeq, zBlock, zInLoop, zExit, zGoto, zNo, ih] <;> rfl
      | beginRound =>
        simp only [zItem, zBegin, ih] <;> rfl
      | _ => simp only [zItem, zSkip, zInLoop, zNo, ih] <;> rfl
theorem zzK_eq (P : Program) (G : Gl) (f : Nat) : zzK P G f = evK P G f := zK_evK (zF_eq P G f)
/-- a closed call, by the small steps -/
theorem run_closed2 {P : Program} {G : Gl} (hP : NoNum P) (hm : P.follows .mixedOrders = true) (f : Nat) {g : FuncId} {args : List Value} {v : Value} {h' : Hp} {n' : Nat} {u' : List Nat} (e : zzK P G f (.fn g) (args.map .c) .nil 0 = some (.c v, h', n', u')) (w : World) (hG : GR G w.heap.size w) :
    Calls P g args.toArray w fun e w' => e = .returned v ∧ Below w.heap.size w w' := run_closed hP hm f (by rw [← zzK_eq]; exact e) w hG
end Go.Proofs.Ytcpifmhcebfglaa
