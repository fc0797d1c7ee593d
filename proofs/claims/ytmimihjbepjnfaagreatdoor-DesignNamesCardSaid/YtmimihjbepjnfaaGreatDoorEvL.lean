/- Running a closed program text by its own rules: a region that draws its order, all orders at once: frames and orders. No condition. -/
import Derived.Test.YtmimihjbepjnfaaGreatDoorEvJ
namespace Go.Proofs.YtmimihjbepjnfaaGreatDoor
open Go Go.RowKit
set_option linter.unusedVariables false
theorem ActF.wide {σ τ υ : Sg} {h h' h'' : Nat → Option AO} {n m p q B : Nat} {w w' w'' : World} (x : ActF σ h n B w τ h' m w') (y : ActF τ h' p B w' υ h'' q w'') (hp : n ≤ p) (hq : q ≤ m) : ActF σ h n B w υ h'' m w'' where
  le := x.le
  sub := x.sub.trans y.sub
  dom := fun i hi => by
    rcases y.dom i hi with h1 | h1
    · exact x.dom i h1
    · exact .inr ⟨by omega, by omega⟩
  rel := y.rel
  fr := {
    os := y.fr.os.trans x.fr.os
    tape := y.fr.tape.trans x.fr.tape
    output := y.fr.output.trans x.fr.output
    size := Nat.le_trans x.fr.size y.fr.size
    block := fun k hk hn => by
      rw [y.fr.block k (Nat.lt_of_lt_of_le hk x.fr.size) ?_, x.fr.block k hk hn]
      intro i c hi he
      rcases x.src i k c hi he with h1 | ⟨j, k', h1, h2⟩
      · omega
      · exact hn j k' h1 h2 }
  src := fun i b k hi hb => by
    rcases y.src i b k hi hb with h1 | ⟨j, k', h1, h2⟩
    · exact .inl (Nat.le_trans x.fr.size h1)
    · exact x.src j b k' h1 h2
/-- an act upon a part of the memory is one upon the whole -/
theorem act_frame {σ τ : Sg} {g hi ho g' : Nat → Option AO} {n n' B : Nat} {w w' : World} {u : List Nat} (r : RelF σ g B w) (hsub : ∀ i o, hi i = some o → g i = some o)
    (act : ActF σ hi n B w τ ho n' w') (kept : ∀ i, (i < n ∨ n' ≤ i) → u.contains i = false → ho i = hi i) (hin : ∀ i, (u.contains i = true ∨ (n ≤ i ∧ i < n')) → g' i = ho i) (hout : ∀ i, ¬ (u.contains i = true ∨ (n ≤ i ∧ i < n')) → g' i = g i) : ActF σ g n B w τ g' n' w' := by
  have cls : ∀ i o, g' i = some o → (ho i = some o) ∨ (hi i = none ∧ g i = some o) := by
    intro i o h
    by_cases hc : u.contains i = true ∨ (n ≤ i ∧ i < n')
    · left; rw [← hin i hc]; exact h
    · rw [hout i hc] at h
      cases hh : hi i with
      | none => exact .inr ⟨rfl, h⟩
      | some o2 =>
        left
        have h1 := hsub i o2 hh
        rw [h1] at h; cases h
        have hu : u.contains i = false := by
          cases hq : u.contains i with
          | false => rfl
          | true => exact absurd (.inl hq) hc
        have hni : ¬ (n ≤ i ∧ i < n') := fun h2 => hc (.inr h2)
        rw [kept i (by omega) hu]; exact hh
  have far : ∀ i o, hi i = none → g i = some o → ∃ b k, σ i = some (b, k) ∧ τ i = some (b, k) ∧ B ≤ b ∧ b < w.heap.size ∧ OR σ k w.heap[b]? o ∧ ∀ j c, (hi j).isSome → σ j ≠ some (b, c) := by
    intro i o h1 h2
    obtain ⟨b, k, k1, k2, k3, k4⟩ := r.obj i o h2
    refine ⟨b, k, k1, act.sub _ _ k1, k2, k3, k4, fun j c hj e => ?_⟩
    obtain ⟨o2, ho2⟩ := Option.isSome_iff_exists.1 hj
    have := r.inj i j b k c (by simp [h2]) (by simp [hsub j o2 ho2]) k1 e
    subst this; rw [h1] at ho2; cases ho2
  refine ⟨act.le, act.sub, act.dom, ⟨?_, ?_⟩, ⟨act.fr.os, act.fr.tape, act.fr.output, act.fr.size, ?_⟩, ?_⟩
  · intro i o h
    rcases cls i o h with h1 | ⟨h1, h2⟩
    · exact act.rel.obj i o h1
    · obtain ⟨b, k, k1, k2, k3, k4, k5, k6⟩ := far i o h1 h2
      refine ⟨b, k, k2, k3, Nat.lt_of_lt_of_le k4 act.fr.size, ?_⟩
      rw [act.fr.block b k4 k6]; exact k5.sub act.sub
  · intro i j b c d hi' hj' e1 e2
    obtain ⟨o1, ho1⟩ := Option.isSome_iff_exists.1 hi'
    obtain ⟨o2, ho2⟩ := Option.isSome_iff_exists.1 hj'
    have mixed : ∀ i j o1 o2 c d, ho i = some o1 → hi j = none → g j = some o2 → τ i = some (b, c) → τ j = some (b, d) → False := by
      intro i j o1 o2 c d h1 h2 h3 e1 e2
      obtain ⟨b2, k, k1, k2, k3, k4, k5, k6⟩ := far j o2 h2 h3
      rw [k2] at e2; cases e2
      rcases act.src i b c (by simp [h1]) e1 with h4 | ⟨j0, c0, h4, h5⟩
      · omega
      · exact k6 j0 c0 h4 h5
    rcases cls i o1 ho1 with h1 | ⟨h1, h1'⟩ <;> rcases cls j o2 ho2 with h2 | ⟨h2, h2'⟩
    · exact act.rel.inj i j b c d (by simp [h1]) (by simp [h2]) e1 e2
    · exact (mixed i j o1 o2 c d h1 h2 h2' e1 e2).elim
    · exact (mixed j i o2 o1 d c h2 h1 h1' e2 e1).elim
    · obtain ⟨b1, k1, p1, p2, _⟩ := far i o1 h1 h1'
      obtain ⟨b2, k2, q1, q2, _⟩ := far j o2 h2 h2'
      rw [p2] at e1; cases e1
      rw [q2] at e2; cases e2
      exact r.inj i j b c d (by simp [h1']) (by simp [h2']) p1 q1
  · intro k hk hnn
    refine act.fr.block k hk fun i c hi' e => ?_
    obtain ⟨o, ho⟩ := Option.isSome_iff_exists.1 hi'
    exact hnn i c (by simp [hsub i o ho]) e
  · intro i b k hi' e
    obtain ⟨o, ho'⟩ := Option.isSome_iff_exists.1 hi'
    rcases cls i o ho' with h1 | ⟨h1, h2⟩
    · rcases act.src i b k (by simp [h1]) e with h3 | ⟨j, k', h3, h4⟩
      · exact .inl h3
      · obtain ⟨o3, ho3⟩ := Option.isSome_iff_exists.1 h3
        exact .inr ⟨j, k', by simp [hsub j o3 ho3], h4⟩
    · obtain ⟨b2, k2, p1, p2, _⟩ := far i o h1 h2
      rw [p2] at e; cases e
      exact .inr ⟨i, k, by simp [h2], p1⟩
/-- what an operation of a region has done -/
structure Rc where
  tj : T AV
  dst : Option Tmp
  v : AV
  hi : Hp
  ho : Hp
  n : Nat
  n' : Nat
  u : List Nat
  ft : Option (List Nat)
def inU (r : Rc) (i : Nat) : Bool := r.u.contains i || (Nat.ble r.n i && Nat.blt i r.n')
/-- the memory once the operations that are listed have come up, in the order of the text -/
def HS (R : Nat → Rc) (L : Nat → Bool) (g : Nat → Option AO) : Nat → Nat → Option AO
  | 0 => g
  | m + 1 => fun i => if L m = true ∧ inU (R m) i = true then (R m).ho.get i else HS R L g m i
def VS (R : Nat → Rc) (L : Nat → Bool) (tm : T AV) : Nat → Tmp → AV
  | 0 => fun t => (tm.get t).getD .q
  | m + 1 => fun t => if L m = true ∧ (R m).dst = some t then (R m).v else VS R L tm m t
theorem HS_congr {R : Nat → Rc} {L L' : Nat → Bool} {g : Nat → Option AO} {i : Nat} : ∀ {m : Nat}, (∀ k, k < m → inU (R k) i = true → L k = L' k) → HS R L g m i = HS R L' g m i
  | 0, _ => rfl
  | m + 1, h => by
    simp only [HS]
    rw [HS_congr (m := m) fun k hk => h k (by omega)]
    by_cases hu : inU (R m) i = true
    · rw [h m (by omega) hu]
    · simp [hu]
theorem VS_congr {R : Nat → Rc} {L L' : Nat → Bool} {tm : T AV} {t : Tmp} : ∀ {m : Nat}, (∀ k, k < m → (R k).dst = some t → L k = L' k) → VS R L tm m t = VS R L' tm m t
  | 0, _ => rfl
  | m + 1, h => by
    simp only [VS]
    rw [VS_congr (m := m) fun k hk => h k (by omega)]
    by_cases hu : (R m).dst = some t
    · rw [h m (by omega) hu]
    · simp [hu]
/-- those behind number j do not matter if they are not listed or have nothing to do with it -/
theorem HS_trunc {R : Nat → Rc} {L : Nat → Bool} {g : Nat → Option AO} {i j : Nat} : ∀ {m : Nat}, j ≤ m → (∀ k, j ≤ k → k < m → L k = true → inU (R k) i = false) → HS R L g m i = HS R L g j i
  | 0, hj, _ => by rw [show j = 0 by omega]
  | m + 1, hj, h => by
    by_cases e : j = m + 1
    · rw [e]
    · simp only [HS]
      rw [if_neg (fun hh => by have := h m (by omega) (by omega) hh.1; rw [this] at hh; cases hh.2)]
      exact HS_trunc (by omega) fun k h1 h2 => h k h1 (by omega)
theorem VS_trunc {R : Nat → Rc} {L : Nat → Bool} {tm : T AV} {t : Tmp} {j : Nat} : ∀ {m : Nat}, j ≤ m → (∀ k, j ≤ k → k < m → L k = true → (R k).dst ≠ some t) → VS R L tm m t = VS R L tm j t
  | 0, hj, _ => by rw [show j = 0 by omega]
  | m + 1, hj, h => by
    by_cases e : j = m + 1
    · rw [e]
    · simp only [VS]
      rw [if_neg (fun hh => h m (by omega) (by omega) hh.1 hh.2)]
      exact VS_trunc (by omega) fun k h1 h2 => h k h1 (by omega)
def copyIds (src : Hp) : List Nat → Hp → Hp
  | [], t => t
  | i :: l, t => copyIds src l (t.set i (src.get i))
theorem copyIds_spec {src : Hp} : ∀ (l : List Nat) (t : Hp) (i : Nat), (copyIds src l t).get i = if l.contains i then src.get i else t.get i
  | [], t, i => by simp [copyIds]
  | j :: l, t, i => by
    simp only [copyIds]
    rw [copyIds_spec l _ i, T.get_set]
    simp only [List.contains_cons]
    by_cases hij : i = j
    · subst hij; simp
    · have : (i == j) = false := by simpa using hij
      simp [hij, this]
/-- the memory that a later operation has turned, as an earlier one sees it -/
def ovr (r r' : Rc) : Hp := copyIds r.ho (r.u.filter fun i => (r'.hi.get i).isSome) r'.hi
theorem ovr_spec {r r' : Rc} {i : Nat} : (ovr r r').get i = if r.u.contains i = true ∧ (r'.hi.get i).isSome = true then r.ho.get i else r'.hi.get i := by
  unfold ovr
  rw [copyIds_spec]
  congr 1
  simp only [List.contains_iff_mem, List.mem_filter]
/-- an operation that but reads comes to the same value behind a later one -/
def AltR (P : Program) (G : Gl) (ops : Array Oper) (r r' : Rc) (k' : Nat) : Prop := r'.u = [] ∧ r'.n' = r'.n ∧ ∃ o h2, ops[k']? = some o ∧ wA ops r'.tj o = some true ∧ evOp P G r'.tj (ovr r r') r'.n o = some (.val r'.v h2 r'.n [])
/-- what is shown of the operations of a region, one by one; A j k: number k surely comes up ahead of number j -/
structure Good (P : Program) (G : Gl) (B : Nat) (K : KT) (ops : Array Oper) (sz : Nat) (R : Nat → Rc) (A : Nat → Nat → Bool) (alt : Nat → Option Nat) (tm : T AV) (h : Hp) (n : Nat) : Prop where
  dst : ∀ (j : Nat) (o : Oper), ops[j]? = some o → (R j).dst = o.dst
  lt : ∀ (j : Nat) (o : Oper) (t : Tmp), ops[j]? = some o → o.dst = some t → t < sz
  once : ∀ j k t, j < ops.size → k < ops.size → (R j).dst = some t → (R k).dst = some t → j = k
  back : ∀ (j : Nat) (o : Oper), ops[j]? = some o → ∀ e ∈ o.after, Region.binds .any e = true → e.on < j
  anc : ∀ j k, j < ops.size → A j k = true → k < j ∧ ∃ o, ops[j]? = some o ∧ ∃ e ∈ o.after, Region.binds .any e = true ∧ (e.on = k ∨ A e.on k = true)
  n0 : ops.size ≠ 0 → (R 0).n = n
  nn : ∀ j, j + 1 < ops.size → (R (j + 1)).n = (R j).n'
  nle : ∀ j, j < ops.size → (R j).n ≤ (R j).n'
  ult : ∀ j i, j < ops.size → (R j).u.contains i = true → i < (R j).n
  tmj : ∀ j t x, j < ops.size → (R j).tj.get t = some x → x = VS R (fun _ => true) tm j t ∧ ∀ k, k < ops.size → k ≠ j → (R k).dst = some t → A j k = true ∨ A k j = true
  hij : ∀ (j i : Nat) (o : AO), j < ops.size → (R j).hi.get i = some o → HS R (fun _ => true) h.get j i = some o ∧ ∀ k, k < ops.size → k ≠ j → inU (R k) i = true → A j k = true ∨ A k j = true ∨ (j < k ∧ (R k).n ≤ i ∧ i < (R k).n') ∨ alt j = some k
  alt_ : ∀ j k, j < ops.size → alt j = some k → j < k ∧ k < ops.size ∧ AltR P G ops (R k) (R j) j
  uu : ∀ j k i, j < ops.size → k < ops.size → k ≠ j → inU (R j) i = true → inU (R k) i = true → A j k = true ∨ A k j = true
  run : ∀ (j : Nat) (o : Oper), ops[j]? = some o → ((wA ops (R j).tj o = some false ∧ (R j).v = .c undef ∧ (R j).u = [] ∧ (R j).n' = (R j).n ∧ (R j).ho = (R j).hi) ∨
    (wA ops (R j).tj o = some true ∧ (evOp P G (R j).tj (R j).hi (R j).n o = some (.val (R j).v (R j).ho (R j).n' (R j).u) ∨
      ∃ f args, evOp P G (R j).tj (R j).hi (R j).n o = some (.call f args) ∧ K f args (R j).hi (R j).n = some ((R j).v, (R j).ho, (R j).n', (R j).u))))
def Lst (listed : Array Bool) (j : Nat) : Bool := listed.getD j false
structure Inv (ops : Array Oper) (B : Nat) (R : Nat → Rc) (A : Nat → Nat → Bool) (tm : T AV) (h : Hp) (n : Nat) (nE : Nat) (σ0 : Sg) (a0 : Act) (w0 : World) (sz : Nat) (listed : Array Bool) (a : Act) (w : World) : Prop where
  len : listed.size = ops.size
  clo : ∀ (j : Nat) (o : Oper), ops[j]? = some o → Lst listed j = true → ∀ e ∈ o.after, Region.binds .any e = true → Lst listed e.on = true
  st : ∃ σ, ActF σ0 h.get n B w0 σ (HS R (Lst listed) h.get ops.size) nE w ∧ (∀ i, (σ i).isSome → (σ0 i).isSome ∨ ∃ k, k < ops.size ∧ Lst listed k = true ∧ (R k).n ≤ i ∧ i < (R k).n') ∧ ∀ t, VR σ (VS R (Lst listed) tm ops.size t) (a.tmps.getD t undef)
  size : a.tmps.size = sz
  def_ : a.defers = a0.defers
section
variable {P : Program} {G : Gl} {B : Nat} {K : KT} {ops : Array Oper} {sz : Nat} {R : Nat → Rc} {A : Nat → Nat → Bool} {alt : Nat → Option Nat} {tm : T AV} {h : Hp} {n nE : Nat} {σ0 : Sg} {a0 : Act} {w0 : World}
theorem lst_set {listed : Array Bool} {i : Nat} (hi : i < listed.size) (k : Nat) : Lst (listed.setIfInBounds i true) k = if k = i then true else Lst listed k := by
  unfold Lst
  by_cases hk : k = i
  · subst hk; simp [hi]
  · rw [if_neg hk]
    simp only [Array.getD_eq_getD_getElem?, Array.getElem?_setIfInBounds]
    rw [if_neg (Ne.symm hk)]
theorem Inv.anc (hG : Good P G B K ops sz R A alt tm h n) {listed : Array Bool} {a : Act} {w : World} (I : Inv ops B R A tm h n nE σ0 a0 w0 sz listed a w) : ∀ j k, j < ops.size → A j k = true → (∀ o, ops[j]? = some o → ∀ e ∈ o.after, Region.binds .any e = true → Lst listed e.on = true) → Lst listed k = true := by
  intro j
  induction j using Nat.strongRecOn with
  | _ j ih =>
    intro k hj hA hall
    obtain ⟨hk, o, ho, e, he, hb, hor⟩ := hG.anc j k hj hA
    have hl := hall o ho e he hb
    rcases hor with h1 | h1
    · rw [← h1]; exact hl
    · have hlt := hG.back j o ho e he hb
      exact ih e.on hlt k (by omega) h1 fun o' ho' => I.clo e.on o' ho' hl
theorem Good.mono (hG : Good P G B K ops sz R A alt tm h n) : ∀ k j, j ≤ k → k < ops.size → (R j).n ≤ (R k).n
  | 0, j, hj, _ => by rw [show j = 0 by omega]; exact Nat.le_refl _
  | k + 1, j, hj, hk => by
    by_cases e : j = k + 1
    · rw [e]; exact Nat.le_refl _
    · have := hG.mono k j (by omega) (by omega)
      have h2 := hG.nle k (by omega)
      have h3 := hG.nn k hk
      omega
theorem Good.mono' (hG : Good P G B K ops sz R A alt tm h n) {j k : Nat} (hj : j < k) (hk : k < ops.size) : (R j).n' ≤ (R k).n := by
  have h1 := hG.nn j (by omega)
  have h2 := hG.mono k (j + 1) (by omega) hk
  omega
/-- ONE operation, in whatever order -/
theorem Inv.step (hP : NoNum P) (hK : KOK P G B K) (hGd : Good P G B K ops sz R A alt tm h n) (hGl : GR G B w0) (hB : B ≤ w0.heap.size) (hnE : ∀ j, j < ops.size → (R j).n' ≤ nE) (hfree : ∀ i, n ≤ i → i < nE → σ0 i = none) (r0 : Rel σ0 h B w0)
    {listed : Array Bool} {a : Act} {w : World} (I : Inv ops B R A tm h n nE σ0 a0 w0 sz listed a w) {j : Nat} {o : Oper} (ho : ops[j]? = some o) (hun : Lst listed j = false) (hrd : ∀ e ∈ o.after, Region.binds .any e = true → Lst listed e.on = true)
    (KK : Act → World → Prop) (hKK : ∀ a' w', Inv ops B R A tm h n nE σ0 a0 w0 sz (listed.setIfInBounds j true) a' w' → KK a' w') : opX P ops j KK a w := by
  have hj : j < ops.size := (Array.getElem?_eq_some_iff.1 ho).1
  obtain ⟨σ, act, dm, tr⟩ := I.st
  have ancL : ∀ k, A j k = true → Lst listed k = true := fun k hA => I.anc hGd j k hj hA fun o' ho' => by
    have : o' = o := Option.some.inj (ho'.symm.trans ho)
    subst this; exact hrd
  have desL : ∀ k, k < ops.size → A k j = true → Lst listed k = false := fun k hk hA => by
    cases hl : Lst listed k with
    | false => rfl
    | true =>
      have := I.anc hGd k j hk hA fun o' ho' => I.clo k o' ho' hl
      rw [hun] at this; cases this
  have hjl : j < listed.size := by rw [I.len]; exact hj
  have hmonoN : n ≤ (R j).n := by
    have h1 := hGd.n0 (by omega)
    have h2 := hGd.mono j 0 (by omega) hj
    omega
  -- the slots that the operation may look at
  have htr : TR σ (R j).tj a := by
    intro t
    cases hx : (R j).tj.get t with
    | none => exact .q
    | some x =>
      obtain ⟨h1, h2⟩ := hGd.tmj j t x hj hx
      have e : VS R (Lst listed) tm ops.size t = x := by
        rw [VS_trunc (j := j) (Nat.le_of_lt hj) (fun k hk1 hk2 hl hd => by
          by_cases hkj : k = j
          · subst hkj; rw [hun] at hl; cases hl
          · rcases h2 k hk2 hkj hd with this | this
            · have := (hGd.anc j k hj this).1
              omega
            · have := desL k hk2 this
              rw [this] at hl; cases hl), h1]
        exact VS_congr fun k hk hd => by
          rcases h2 k (by omega) (by omega) hd with this | this
          · exact ancL k this
          · have := (hGd.anc k j (by omega) this).1
            omega
      have := tr t
      rw [e] at this
      exact this
  -- the memory that the operation looks at
  have none0 : ∀ i, n ≤ i → i < nE → h.get i = none := by
    intro i h1 h2
    cases hx : h.get i with
    | none => rfl
    | some x =>
      obtain ⟨b, k, k1, _⟩ := r0.obj i x hx
      rw [hfree i h1 h2] at k1; cases k1
  have hnew : ∀ i x k, HS R (fun _ => true) h.get j i = some x → k < ops.size → j < k → (R k).n ≤ i → i < (R k).n' → False := by
    intro i x k h1 hk h4 h5 h6
    have e : HS R (fun _ => true) h.get j i = h.get i := HS_trunc (j := 0) (Nat.zero_le _) fun k' _ hk' _ => by
      have m1 := hGd.mono' (j := k') (k := k) (by omega) hk
      have m2 := hGd.nle k' (by omega)
      cases hq' : inU (R k') i with
      | false => rfl
      | true =>
        simp only [inU, Bool.or_eq_true, Bool.and_eq_true, Nat.ble_eq, Nat.blt_eq] at hq'
        rcases hq' with hq' | hq'
        · have := hGd.ult k' i (by omega) hq'; omega
        · omega
    have m3 := hnE k hk
    have m4 := hGd.mono k j (by omega) hk
    rw [e, none0 i (by omega) (by omega)] at h1; cases h1
  -- an object that no operation but an ordered one, or one that is not listed, has to do with
  have hone : ∀ i x, HS R (fun _ => true) h.get j i = some x → (∀ k, k < ops.size → k ≠ j → inU (R k) i = true → A j k = true ∨ A k j = true ∨ (j < k ∧ Lst listed k = false)) → HS R (Lst listed) h.get ops.size i = some x := by
    intro i x h1 h3'
    rw [← h1]
    rw [HS_trunc (j := j) (Nat.le_of_lt hj) (fun k hk1 hk2 hl => by
      by_cases hkj : k = j
      · subst hkj; rw [hun] at hl; cases hl
      · cases hq : inU (R k) i with
        | false => rfl
        | true =>
          rcases h3' k hk2 hkj hq with h4 | h4 | h4
          · have := (hGd.anc j k hj h4).1; omega
          · have := desL k hk2 h4; rw [this] at hl; cases hl
          · rw [h4.2] at hl; cases hl)]
    refine HS_congr fun k hk hq => ?_
    rcases h3' k (by omega) (by omega) hq with h4 | h4 | h4
    · exact ancL k h4
    · have := (hGd.anc k j (by omega) h4).1; omega
    · omega
  have hsub0 : (∀ k, alt j = some k → Lst listed k = false) → ∀ i o, (R j).hi.get i = some o → HS R (Lst listed) h.get ops.size i = some o := by
    intro hal i x hx
    obtain ⟨h1, h3⟩ := hGd.hij j i x hj hx
    refine hone i x h1 fun k hk hkj hq => ?_
    rcases h3 k hk hkj hq with h4 | h4 | ⟨h4, h5, h6⟩ | h4
    · exact .inl h4
    · exact .inr (.inl h4)
    · exact (hnew i x k h1 hk h4 h5 h6).elim
    · exact .inr (.inr ⟨(hGd.alt_ j k hj h4).1, hal k h4⟩)
  have hsub1 : ∀ k, alt j = some k → Lst listed k = true → ∀ i o, (ovr (R k) (R j)).get i = some o → HS R (Lst listed) h.get ops.size i = some o := by
    intro k hk hl i x hx
    obtain ⟨hjk, hks, _⟩ := hGd.alt_ j k hj hk
    rw [ovr_spec] at hx
    split at hx
    · rename_i hc
      obtain ⟨x0, hx0⟩ := Option.isSome_iff_exists.1 hc.2
      obtain ⟨h1, h3⟩ := hGd.hij j i x0 hj hx0
      have hiu : inU (R k) i = true := by simp only [inU, hc.1, Bool.true_or]
      rw [HS_trunc (j := k + 1) (by omega) (fun k2 hk1 hk2 hl2 => by
        cases hq : inU (R k2) i with
        | false => rfl
        | true =>
          rcases h3 k2 hk2 (by omega) hq with h4 | h4 | ⟨h4, h5, h6⟩ | h4
          · have := (hGd.anc j k2 hj h4).1; omega
          · have := desL k2 hk2 h4; rw [this] at hl2; cases hl2
          · exact (hnew i x0 k2 h1 hk2 h4 h5 h6).elim
          · rw [hk] at h4; cases h4; omega)]
      simp only [HS]
      rw [if_pos ⟨hl, hiu⟩]; exact hx
    · rename_i hc
      obtain ⟨h1, h3⟩ := hGd.hij j i x hj hx
      refine hone i x h1 fun k2 hk2 hkj hq => ?_
      rcases h3 k2 hk2 hkj hq with h4 | h4 | ⟨h4, h5, h6⟩ | h4
      · exact .inl h4
      · exact .inr (.inl h4)
      · exact (hnew i x k2 h1 hk2 h4 h5 h6).elim
      · exfalso
        rw [hk] at h4; cases h4
        simp only [inU, Bool.or_eq_true, Bool.and_eq_true, Nat.ble_eq, Nat.blt_eq] at hq
        rcases hq with hq | hq
        · exact hc ⟨hq, by rw [hx]; rfl⟩
        · exact hnew i x k h1 hk2 hjk hq.1 hq.2
  have rsubOf : ∀ hi : Hp, (∀ i o, hi.get i = some o → HS R (Lst listed) h.get ops.size i = some o) → Rel σ hi B w := fun hi hsub => ⟨fun i o hx => act.rel.obj i o (hsub i o hx), fun i k b c d hx hk => by
    obtain ⟨o1, h1⟩ := Option.isSome_iff_exists.1 hx
    obtain ⟨o2, h2⟩ := Option.isSome_iff_exists.1 hk
    exact act.rel.inj i k b c d (by simp [hsub i o1 h1]) (by simp [hsub k o2 h2])⟩
  have hfj : ∀ i, (R j).n ≤ i → i < (R j).n' → σ i = none := by
    intro i h1 h2
    cases hx : σ i with
    | none => rfl
    | some q =>
      rcases dm i (by simp [hx]) with h3 | ⟨k, hk, hl, h3, h4⟩
      · have := hnE j hj
        rw [hfree i (by omega) (by omega)] at h3; cases h3
      · exfalso
        rcases Nat.lt_trichotomy k j with h5 | h5 | h5
        · have := hGd.mono' h5 hj; omega
        · subst h5; rw [hun] at hl; cases hl
        · have := hGd.mono' h5 hk; omega
  have hBw : B ≤ w.heap.size := Nat.le_trans hB act.fr.size
  have hGw : GR G B w := hGl.step (act.below r0 hB)
  -- what stands behind it
  have fin : ∀ (hi ho : Hp), (∀ i o, hi.get i = some o → HS R (Lst listed) h.get ops.size i = some o) → (∀ i, inU (R j) i = true → ho.get i = (R j).ho.get i) → ∀ (a' : Act) (w' : World) (τ : Sg), Act1 σ hi (R j).n B w τ ho (R j).n' w' → Kept hi (R j).n (R j).n' ho (R j).u → (∀ t, (R j).dst = some t → VR τ (R j).v (a'.tmps.getD t undef)) → (∀ t, (R j).dst ≠ some t → a'.tmps.getD t undef = a.tmps.getD t undef) → a'.tmps.size = a.tmps.size → a'.defers = a.defers → KK a' w' := by
    intro hi ho2 hsub hho a' w' τ act2 kept hv hov hsz hdf
    refine hKK a' w' ⟨by simp [I.len], ?_, ⟨τ, ?_, ?_, ?_⟩, hsz.trans I.size, hdf.trans I.def_⟩
    · intro k ok hok hl e he hb
      rw [lst_set hjl] at hl ⊢
      split
      · rfl
      · split at hl
        · rename_i hkj
          have : ok = o := by rw [hkj] at hok; exact Option.some.inj (hok.symm.trans ho)
          subst this; exact hrd e he hb
        · exact I.clo k ok hok hl e he hb
    · have big : ActF σ (HS R (Lst listed) h.get ops.size) (R j).n B w τ (HS R (Lst (listed.setIfInBounds j true)) h.get ops.size) (R j).n' w' := by
        have hU : ∀ i, inU (R j) i = true ↔ ((R j).u.contains i = true ∨ ((R j).n ≤ i ∧ i < (R j).n')) := by
          intro i
          simp only [inU, Bool.or_eq_true, Bool.and_eq_true, Nat.ble_eq, Nat.blt_eq]
        refine act_frame (u := (R j).u) act.rel hsub act2 kept ?_ ?_
        · intro i hi
          have hiu := (hU i).2 hi
          rw [hho i hiu]
          rw [HS_trunc (j := j + 1) (by omega) (fun k hk1 hk2 hl => by
            cases hq : inU (R k) i with
            | false => rfl
            | true =>
              rw [lst_set hjl, if_neg (by omega)] at hl
              rcases hGd.uu j k i hj hk2 (by omega) hiu hq with h4 | h4
              · have := (hGd.anc j k hj h4).1; omega
              · have := desL k hk2 h4; rw [this] at hl; cases hl)]
          simp only [HS]
          rw [if_pos ⟨by rw [lst_set hjl, if_pos rfl], hiu⟩]
        · intro i hi
          refine HS_congr fun k hk hq => ?_
          rw [lst_set hjl]
          split
          · rename_i hkj; rw [hkj] at hq; exact absurd ((hU i).1 hq) hi
          · rfl
      exact act.wide big hmonoN (hnE j hj)
    · intro i hi
      rcases act2.dom i hi with h1 | h1
      · rcases dm i h1 with h2 | ⟨k, hk, hl, h2⟩
        · exact .inl h2
        · refine .inr ⟨k, hk, ?_, h2⟩
          rw [lst_set hjl]; split
          · rfl
          · exact hl
      · exact .inr ⟨j, hj, by rw [lst_set hjl, if_pos rfl], h1⟩
    · intro t
      by_cases hd : (R j).dst = some t
      · have e : VS R (Lst (listed.setIfInBounds j true)) tm ops.size t = (R j).v := by
          rw [VS_trunc (j := j + 1) (by omega) (fun k hk1 hk2 hl hd2 => by
            have := hGd.once j k t hj hk2 hd hd2; omega)]
          simp only [VS]
          rw [if_pos ⟨by rw [lst_set hjl, if_pos rfl], hd⟩]
        rw [e]; exact hv t hd
      · have e : VS R (Lst (listed.setIfInBounds j true)) tm ops.size t = VS R (Lst listed) tm ops.size t := VS_congr fun k hk hd2 => by
          rw [lst_set hjl]; split
          · rename_i hkj; rw [hkj] at hd2; exact absurd hd2 hd
          · rfl
        rw [e, hov t hd]; exact (tr t).sub act2.sub
  have put1 : ∀ (v : Value) (t : Tmp), (R j).dst = some t → (a.put o.dst v).tmps.getD t undef = v := by
    intro v t hd
    rw [hGd.dst j o ho] at hd
    have := hGd.lt j o t ho hd
    rw [hd]
    simp [Act.put, Array.getD_eq_getD_getElem?, I.size, this]
  have put2 : ∀ (v : Value) (t : Tmp), (R j).dst ≠ some t → (a.put o.dst v).tmps.getD t undef = a.tmps.getD t undef := by
    intro v t hd
    rw [hGd.dst j o ho] at hd
    cases hx : o.dst with
    | none => rfl
    | some d =>
      rw [hx] at hd
      have : d ≠ t := fun e => hd (by rw [e])
      simp [Act.put, Array.getD_eq_getD_getElem?, Array.getElem?_setIfInBounds_ne this]
  unfold opX
  simp only [ho]
  have two : (∀ k, alt j = some k → Lst listed k = false) ∨ ∃ k, alt j = some k ∧ Lst listed k = true := by
    cases hx : alt j with
    | none => exact .inl fun k hk => by cases hk
    | some k =>
      cases hl : Lst listed k with
      | false => exact .inl fun k2 hk => by cases hk; exact hl
      | true => exact .inr ⟨k, rfl, hl⟩
  rcases two with two | ⟨k, hk1, hk2⟩
  rotate_left
  · obtain ⟨_, hks, hu0, hn0, o2, h2, ho2, hw2, hev⟩ := hGd.alt_ j k hj hk1
    rw [ho] at ho2; cases ho2
    have hsub := hsub1 k hk1 hk2
    have rsub := rsubOf _ hsub
    obtain ⟨⟨τ, w', v', h5, h6, h7⟩, hk⟩ := evOp_val hev htr rsub hGw hBw (fun i q1 q2 => by omega)
    have hno : ∀ i, inU (R j) i = true → h2.get i = (R j).ho.get i := by
      intro i hi
      simp only [inU, hu0, hn0, Bool.or_eq_true, Bool.and_eq_true, Nat.ble_eq, Nat.blt_eq, List.contains_nil, Bool.false_eq_true, false_or] at hi
      omega
    refine .inl ⟨wA_ok hw2 htr, noDefer hev, ?_⟩
    rcases h5 with h5 | ⟨h5, h8⟩
    · rw [h5]
      exact fin _ _ hsub hno _ _ τ (by rw [hn0]; exact h7) (by rw [hn0, hu0]; exact hk) (fun t ht => by rw [put1 v' t ht]; exact h6) (put2 v') (put_sz _ _ _) (put_df _ _ _)
    · subst h8
      rw [h5]
      exact fin _ _ hsub hno _ _ τ (by rw [hn0]; exact h7) (by rw [hn0, hu0]; exact hk) (fun t ht => by rw [put1 undef t ht]; exact h6) (put2 undef) (put_sz _ _ _) (put_df _ _ _)
  have hsub := hsub0 two
  have rsub := rsubOf _ hsub
  have fin := fin (R j).hi (R j).ho hsub (fun _ _ => rfl)
  rcases hGd.run j o ho with ⟨h1, h2, h3, h4, h5⟩ | ⟨h1, h2 | ⟨f, args, h2, h3⟩⟩
  · have act2 : Act1 σ (R j).hi (R j).n B w σ (R j).ho (R j).n' w := by rw [h4, h5]; exact ActF.refl rsub
    exact .inr ⟨wA_ok h1 htr, fin _ _ σ act2 (by rw [h5]; exact Kept.refl _ _ _ _) (fun t ht => by rw [put1 undef t ht, h2]; exact .c _) (put2 undef) (put_sz _ _ _) (put_df _ _ _)⟩
  · obtain ⟨⟨τ, w', v', h5, h6, h7⟩, hk⟩ := evOp_val h2 htr rsub hGw hBw hfj
    refine .inl ⟨wA_ok h1 htr, noDefer h2, ?_⟩
    rcases h5 with h5 | ⟨h5, h8⟩
    · rw [h5]
      exact fin _ _ τ h7 hk (fun t ht => by rw [put1 v' t ht]; exact h6) (put2 v') (put_sz _ _ _) (put_df _ _ _)
    · subst h8
      rw [h5]
      exact fin _ _ τ h7 hk (fun t ht => by rw [put1 undef t ht]; exact h6) (put2 undef) (put_sz _ _ _) (put_df _ _ _)
  · refine .inl ⟨wA_ok h1 htr, noDefer h2, ?_⟩
    have hc2 := evOp_call hP h2 htr w
    cases f with
    | fn f =>
      obtain ⟨args', h5, h6⟩ := hc2
      obtain ⟨hk, k2⟩ := hK (.fn f) args _ _ _ _ _ _ h3 σ w args' rsub hGw hBw hfj h6
      rw [h5]
      refine Calls.mono k2 ?_
      rintro e w' ⟨τ, v', rfl, h7, h8⟩
      exact ⟨v', rfl, fin _ _ τ h8 hk (fun t ht => by rw [put1 v' t ht]; exact h7) (put2 v') (put_sz _ _ _) (put_df _ _ _)⟩
    | yld i =>
      obtain ⟨args', b, kp, h0, h5, h6⟩ := hc2
      obtain ⟨hk, k2⟩ := hK (.yld i) args _ _ _ _ _ _ h3 σ w args' rsub hGw hBw hfj h6
      obtain ⟨f', tmps, as, bd, k3, k4⟩ := k2 b kp h0
      rw [h5, k3]
      intro c cs
      obtain ⟨v', w', ⟨τ, h7, h8⟩, h9⟩ := k4 c cs
      exact ⟨v', w', fin _ _ τ h8 hk (fun t ht => by rw [put1 v' t ht]; exact h7) (put2 v') (put_sz _ _ _) (put_df _ _ _), h9⟩
end
end Go.Proofs.YtmimihjbepjnfaaGreatDoor
