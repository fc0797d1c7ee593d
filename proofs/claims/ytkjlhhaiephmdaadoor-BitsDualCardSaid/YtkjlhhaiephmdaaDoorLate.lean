/- A region that draws its order, whose last operations store into cells that the region loads: the condition S is asked only ahead of operation L. After Derived/OrdersHeld. No program here. -/
import Derived.OrdersHeld
import Derived.NoCompiler
namespace Go.Proofs.YtkjlhhaiephmdaaDoor
open Go
set_option linter.unusedVariables false
section
variable {P : Program} {ops : Array Oper} {Q : Exit → Act → World → Prop} {md : Region.Mode} {S : World → Prop} {L : Nat}
/-- What is listed waits for nothing that is not. -/
def Closed (md : Region.Mode) (ops : Array Oper) (listed : Array Bool) : Prop :=
  ∀ j o, ops[j]? = some o → listed.getD j false = true → ∀ e ∈ o.after, Region.binds md e = true → listed.getD e.on false = true
def waits (md : Region.Mode) (ops : Array Oper) (j i : Nat) : Bool :=
  match ops[j]? with
  | none => false
  | some o => o.after.any fun e => Region.binds md e && e.on == i
theorem Closed.step {listed : Array Bool} (h : Closed md ops listed) {j i : Nat} (hw : waits md ops j i = true) (hj : listed.getD j false = true) : listed.getD i false = true := by
  unfold waits at hw
  split at hw
  · cases hw
  · rename_i o ho
    rw [Array.any_eq_true'] at hw
    obtain ⟨e, he, hb⟩ := hw
    simp only [Bool.and_eq_true, beq_iff_eq] at hb
    have := h j o ho hj e he hb.1
    rwa [hb.2] at this
theorem Closed.set {listed : Array Bool} (h : Closed md ops listed) {i : Nat} (hi : i ∈ Region.ready md ops listed) : Closed md ops (listed.setIfInBounds i true) := by
  intro j o ho hj e he hb
  obtain ⟨_, oi, hoi, hall⟩ := mem_ready.1 hi
  by_cases hji : i = j
  · subst hji
    rw [ho] at hoi
    cases hoi
    exact getD_set_true (hall e he hb)
  · have : listed.getD j false = true := by rwa [getD_set_ne false hji] at hj
    exact getD_set_true (h j o ho this e he hb)
theorem getD_ft {listed : Array Bool} {i : Nat} (h : listed.getD i false = true) (k : listed.getD i true = false) : False := by
  rcases Nat.lt_or_ge i listed.size with h' | h'
  · simp [h'] at h k; rw [h] at k; cases k
  · simp [Array.getElem?_eq_none h'] at h
/-- Whatever order is picked from here on, and S holds behind every operation that is carried out ahead of number L. -/
def wpAnyG (P : Program) (md : Region.Mode) (ops : Array Oper) (Q : Exit → Act → World → Prop) (S : World → Prop) (L : Nat) : Nat → Array Bool → Act → World → Prop
  | 0, listed, a, w => Region.ready md ops listed = [] ∧ Q .normal a w
  | fuel + 1, listed, a, w =>
    (Region.ready md ops listed = [] → Q .normal a w) ∧
    ∀ i ∈ Region.ready md ops listed, wpOp P ops Q i (fun a' w' => ((listed.setIfInBounds i true).getD L true = false → S w') ∧ wpAnyG P md ops Q S L fuel (listed.setIfInBounds i true) a' w') a w
theorem wpAny_of_G : ∀ (fuel : Nat) (listed : Array Bool) (a : Act) (w : World), wpAnyG P md ops Q S L fuel listed a w → wpAny P md ops Q fuel listed a w
  | 0, _, _, _, h => h
  | fuel + 1, _, _, _, h => ⟨h.1, fun i hi => wpOp_mono (fun a' w' h' => wpAny_of_G fuel _ a' w' h'.2) (h.2 i hi)⟩
theorem wpAnyG_first {i : Nat} {oi : Oper} {v : Value} (hi : ops[i]? = some oi) (hsel : ∀ (j : Nat) (o : Oper) cs b, ops[j]? = some o → o.op ≠ .select cs b)
    (hQ : ∀ c a w, Q (.panic c) (a.put oi.dst v) w → Q (.panic c) a w) (hL : ∀ l, Closed md ops l → l.getD L false = true → l.getD i false = true) (hiL : i ≠ L) (hsz : L < ops.size) :
    ∀ (fuel : Nat) (listed : Array Bool) (a : Act) (w : World), listed.size = ops.size → Closed md ops listed →
      (∀ j oj, ops[j]? = some oj → j ≠ i → listed.getD j true = false → (∀ e ∈ oj.after, Region.binds md e = true → e.on ≠ i) → oi.apart ops oj = true) →
      i ∈ Region.ready md ops listed → YieldsIf P ops S oi v a → S w →
      wpAnyG P md ops Q S L fuel (listed.setIfInBounds i true) (a.put oi.dst v) w → wpAnyG P md ops Q S L (fuel + 1) listed a w := by
  intro fuel
  induction fuel with
  | zero =>
    intro listed a w _ _ _ hr hy hS H
    refine ⟨fun h => (by rw [h] at hr; cases hr), fun j hj => ?_⟩
    by_cases hji : j = i
    · subst hji; exact hy.wpOp hi hS ⟨fun _ => hS, H⟩
    · have := ready_mono hj hji
      rw [H.1] at this
      cases this
  | succ fuel ih =>
    intro listed a w hls hc hfree hr hy hS H
    refine ⟨fun h => (by rw [h] at hr; cases hr), fun j hj => ?_⟩
    by_cases hji : j = i
    · subst hji; exact hy.wpOp hi hS ⟨fun _ => hS, H⟩
    · have h1 := H.2 j (ready_mono hj hji)
      obtain ⟨hjun, oj, hoj, hall⟩ := mem_ready.1 hj
      have hnot : ∀ e ∈ oj.after, Region.binds md e = true → e.on ≠ i := fun e he hb heq => by
        have h1 := hall e he hb
        have h0 := (mem_ready.1 hr).1
        rw [heq] at h1
        exact getD_ft h1 h0
      have hcj := hc.set hj
      have hun : ((listed.setIfInBounds i true).setIfInBounds j true).getD L true = false := by
        cases q : ((listed.setIfInBounds i true).setIfInBounds j true).getD L true with
        | false => rfl
        | true =>
          exfalso
          rw [Array.setIfInBounds_comm _ _ (Ne.symm hji), getD_set_ne true hiL] at q
          have q' : (listed.setIfInBounds j true).getD L false = true := by
            have hs : L < (listed.setIfInBounds j true).size := by simpa using (by omega : L < listed.size)
            simp only [Array.getD, hs, dite_true] at q ⊢
            exact q
          have := hL _ hcj q'
          exact getD_ft this (by rw [getD_set_ne true hji]; exact (mem_ready.1 hr).1)
      have h2 := wpOp_putIf hoj (hfree j oj hoj hji hjun hnot) (fun cs b => hsel i oi cs b hi) (fun cs b => hsel j oj cs b hoj) hQ hy h1
      have hfree' : ∀ k ok, ops[k]? = some ok → k ≠ i → (listed.setIfInBounds j true).getD k true = false →
          (∀ e ∈ ok.after, Region.binds md e = true → e.on ≠ i) → oi.apart ops ok = true := fun k ok hk hki hun hno => by
        refine hfree k ok hk hki ?_ hno
        by_cases hjk : j = k
        · subst hjk; exact hjun
        · rw [getD_set_ne true hjk] at hun; exact hun
      refine wpOp_mono (fun a' w' h3 => ⟨fun _ => h3.2.1 hun, ih (listed.setIfInBounds j true) a' w' (by simpa using hls) hcj hfree' (ready_mono hr (Ne.symm hji)) h3.1 (h3.2.1 hun) ?_⟩) h2
      rw [Array.setIfInBounds_comm _ _ hji]
      exact h3.2.2
/-- The list is as long as the region, and closed. -/
def OKL (md : Region.Mode) (ops : Array Oper) (listed : Array Bool) : Prop := listed.size = ops.size ∧ Closed md ops listed
theorem OKL.set {listed : Array Bool} (h : OKL md ops listed) {i : Nat} (hi : (Region.ready md ops listed).contains i = true) : OKL md ops (listed.setIfInBounds i true) :=
  ⟨by simpa using h.1, h.2.set (by simpa using hi)⟩
theorem OKL.new : OKL md ops (Array.replicate ops.size false) :=
  ⟨by simp, fun j _ _ h => by
    exfalso
    rcases Nat.lt_or_ge j ops.size with h' | h'
    · simp [h'] at h
    · simp [h'] at h⟩
theorem wpAnyG_take {i : Nat} {oi : Oper} {v : Value} {fuel : Nat} {listed : Array Bool} {a : Act} {w : World} (hC : OKL md ops listed) (hi : ops[i]? = some oi)
    (hs : Region.noSelect ops = true) (hf : Region.free md ops listed i = true) (hr : (Region.ready md ops listed).contains i = true)
    (hL : ∀ l, Closed md ops l → l.getD L false = true → l.getD i false = true) (hiL : i ≠ L) (hsz : L < ops.size)
    (hQ : ∀ c a w, Q (.panic c) (a.put oi.dst v) w → Q (.panic c) a w) (hy : YieldsIf P ops S oi v a) (hS : S w)
    (h : OKL md ops (listed.setIfInBounds i true) → wpAnyG P md ops Q S L fuel (listed.setIfInBounds i true) (a.put oi.dst v) w) : wpAnyG P md ops Q S L (fuel + 1) listed a w :=
  wpAnyG_first hi (Region.noSelect_spec hs) hQ hL hiL hsz fuel listed a w hC.1 hC.2 (Region.free_spec hi hf) (by simpa using hr) hy hS (h (hC.set hr))
theorem wpAnyG_one {i : Nat} {o : Oper} {fuel : Nat} {listed : Array Bool} {a : Act} {w : World} (hC : OKL md ops listed) (hr : Region.ready md ops listed = [i]) (ho : ops[i]? = some o) (hg : o.guard = none)
    (h : ∀ K' : Act → World → Prop, (∀ a' w', ((listed.setIfInBounds i true).getD L true = false → S w') → (OKL md ops (listed.setIfInBounds i true) → wpAnyG P md ops Q S L fuel (listed.setIfInBounds i true) a' w') → K' a' w') →
      Oper.wp P o a w K' Q) : wpAnyG P md ops Q S L (fuel + 1) listed a w := by
  refine ⟨fun h0 => absurd (hr ▸ h0) (by simp), fun j hj => ?_⟩
  rw [hr] at hj
  obtain rfl : j = i := by simpa using hj
  have hC' := hC.set (i := j) (by rw [hr]; simp)
  have := h (fun a' w' => ((listed.setIfInBounds j true).getD L true = false → S w') ∧ wpAnyG P md ops Q S L fuel (listed.setIfInBounds j true) a' w') (fun a' w' x y => ⟨x, y hC'⟩)
  have hw : Region.wanted o (yielded ops a.tmps) = true := by simp [Region.wanted, hg]
  unfold wpOp
  simp only [ho]
  rw [if_pos hw]
  exact .inl this
theorem wpAnyG_done {listed : Array Bool} {a : Act} {w : World} (hr : Region.ready md ops listed = []) (h : Q .normal a w) :
    ∀ fuel, wpAnyG P md ops Q S L fuel listed a w
  | 0 => ⟨hr, h⟩
  | _ + 1 => ⟨fun _ => h, by rw [hr]; simp⟩
theorem wp_region_G (S : World → Prop) (L : Nat) {id : Nat} {a : Act} {w : World} (hm : P.follows .mixedOrders = true)
    (h : OKL .any ops (Array.replicate ops.size false) → wpAnyG P .any ops Q S L ops.size (Array.replicate ops.size false) a w.drew) : (Code.region id ops true).wp P Q a w :=
  wp_region_any hm (wpAny_of_G _ _ _ _ (h OKL.new))
end
end Go.Proofs.YtkjlhhaiephmdaaDoor
