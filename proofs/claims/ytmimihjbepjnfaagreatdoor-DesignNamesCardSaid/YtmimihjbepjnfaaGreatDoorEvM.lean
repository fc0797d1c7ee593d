/- Running a closed program text by its own rules: a region that draws its order. No condition. -/
import Derived.Test.YtmimihjbepjnfaaGreatDoorEvL
namespace Go.Proofs.YtmimihjbepjnfaaGreatDoor
open Go Go.RowKit
set_option linter.unusedVariables false
def anyX (P : Program) (ops : Array Oper) (F : Act → World → Prop) : Nat → Array Bool → Act → World → Prop
  | 0, listed, a, w => Region.ready .any ops listed = [] ∧ F a w
  | fuel + 1, listed, a, w => (Region.ready .any ops listed = [] → F a w) ∧ ∀ i ∈ Region.ready .any ops listed, opX P ops i (anyX P ops F fuel (listed.setIfInBounds i true)) a w
theorem anyX_sound {P : Program} {ops : Array Oper} {F : Act → World → Prop} : ∀ (fuel t : Nat) (listed : Array Bool) (a : Act) (w : World), anyX P ops F fuel listed a w → opsX P ops F (Region.linearise.go .any ops fuel t listed []) a w := by
  intro fuel
  induction fuel with
  | zero => intro t listed a w h; simpa [Region.linearise.go, opsX] using h.2
  | succ fuel ih =>
    intro t listed a w h
    obtain ⟨h₀, h₁⟩ := h
    simp only [Region.linearise.go]
    change opsX P ops F (match (Region.ready .any ops listed)[t % (Region.ready .any ops listed).length]? with
      | some i => Region.linearise.go .any ops fuel (t / (Region.ready .any ops listed).length) (listed.setIfInBounds i true) [i]
      | none => [].reverse) a w
    cases hi : (Region.ready .any ops listed)[t % (Region.ready .any ops listed).length]? with
    | none =>
      have hnil : Region.ready .any ops listed = [] := by
        cases hr : Region.ready .any ops listed with
        | nil => rfl
        | cons x xs =>
          rw [hr] at hi
          have hlt : t % (x :: xs).length < (x :: xs).length := Nat.mod_lt _ (by simp)
          simp at hi
          simp at hlt
          omega
      simpa [opsX] using h₀ hnil
    | some i =>
      simp only []
      rw [linearise_go_acc, List.reverse_singleton, List.singleton_append]
      exact opX_mono (fun a w => ih _ _ a w) (h₁ i (List.mem_of_getElem? hi))
section
variable {P : Program} {G : Gl} {B : Nat} {K : KT} {ops : Array Oper} {sz : Nat} {R : Nat → Rc} {A : Nat → Nat → Bool} {alt : Nat → Option Nat} {tm : T AV} {h : Hp} {n nE : Nat} {σ0 : Sg} {a0 : Act} {w0 : World}
def unlE (n : Nat) (listed : Array Bool) : List Nat := (List.range n).filter fun j => !listed.getD j false
theorem filter_ltE {α : Type} (p q : α → Bool) (hpq : ∀ x, q x = true → p x = true) (j : α) (hp : p j = true) (hq : q j = false) : ∀ l : List α, j ∈ l → (l.filter q).length < (l.filter p).length
  | [], h => by cases h
  | x :: l, h => by
    have hle : ∀ l : List α, (l.filter q).length ≤ (l.filter p).length := by
      intro l
      induction l with
      | nil => exact Nat.le_refl _
      | cons y l ih =>
        rw [List.filter_cons, List.filter_cons]
        by_cases hy : q y = true
        · rw [if_pos hy, if_pos (hpq y hy)]; simp; exact ih
        · rw [if_neg hy]
          split
          · simp; omega
          · exact ih
    rw [List.filter_cons, List.filter_cons]
    rcases List.mem_cons.1 h with rfl | h
    · rw [if_neg (by rw [hq]; simp), if_pos hp]
      have := hle l
      simp; omega
    · have ih := filter_ltE p q hpq j hp hq l h
      by_cases hx : q x = true
      · rw [if_pos hx, if_pos (hpq x hx)]; simp; exact ih
      · rw [if_neg hx]
        split
        · simp; omega
        · exact ih
theorem Good.ready (hG : Good P G B K ops sz R A alt tm h n) {listed : Array Bool} (hsz : listed.size = ops.size) : ∀ (i : Nat), i < ops.size → Lst listed i = false → Region.ready .any ops listed ≠ [] := by
  intro i
  induction i using Nat.strongRecOn with
  | _ i ih =>
    intro hi hun
    have ho : ops[i]? = some ops[i] := Array.getElem?_eq_getElem hi
    by_cases hx : ∀ e ∈ (ops[i]).after, Region.binds .any e = true → listed.getD e.on false = true
    · intro h0
      have hd : listed.getD i true = false := by
        have : listed.getD i false = false := hun
        have h2 : i < listed.size := by omega
        simp only [Array.getD_eq_getD_getElem?, Array.getElem?_eq_getElem h2, Option.getD_some] at this ⊢
        exact this
      have : i ∈ Region.ready .any ops listed := mem_ready.2 ⟨hd, _, ho, hx⟩
      rw [h0] at this; cases this
    · simp only [Classical.not_forall] at hx
      obtain ⟨e, he, hb, hl⟩ := hx
      have hlt := hG.back i _ ho e he hb
      exact ih e.on hlt (by omega) (by unfold Lst; simpa using hl)
theorem draw_any (hP : NoNum P) (hK : KOK P G B K) (hGd : Good P G B K ops sz R A alt tm h n) (hGl : GR G B w0) (hB : B ≤ w0.heap.size) (hnE : ∀ j, j < ops.size → (R j).n' ≤ nE) (hfree : ∀ i, n ≤ i → i < nE → σ0 i = none) (r0 : Rel σ0 h B w0)
    (F : Act → World → Prop) (hQ : ∀ listed a w, Inv ops B R A tm h n nE σ0 a0 w0 sz listed a w → (∀ j, j < ops.size → Lst listed j = true) → F a w) :
    ∀ (f : Nat) (listed : Array Bool) (a : Act) (w : World), (unlE ops.size listed).length ≤ f → Inv ops B R A tm h n nE σ0 a0 w0 sz listed a w → anyX P ops F f listed a w := by
  have fin : ∀ (listed : Array Bool) (a : Act) (w : World), Inv ops B R A tm h n nE σ0 a0 w0 sz listed a w → Region.ready .any ops listed = [] → F a w := by
    intro listed a w I hr
    refine hQ listed a w I fun j hj => ?_
    cases hl : Lst listed j with
    | true => rfl
    | false => exact absurd hr (hGd.ready I.len j hj hl)
  intro f
  induction f with
  | zero =>
    intro listed a w hf I
    have hr : Region.ready .any ops listed = [] := by
      cases hr : Region.ready .any ops listed with
      | nil => rfl
      | cons j l =>
        have hm : j ∈ Region.ready .any ops listed := by rw [hr]; exact List.mem_cons_self
        obtain ⟨h1, o, h2, _⟩ := mem_ready.1 hm
        have hj : j < ops.size := (Array.getElem?_eq_some_iff.1 h2).1
        have : j ∈ unlE ops.size listed := by
          refine List.mem_filter.2 ⟨List.mem_range.2 hj, ?_⟩
          have h3 : j < listed.size := by rw [I.len]; exact hj
          simp only [Array.getD_eq_getD_getElem?, Array.getElem?_eq_getElem h3, Option.getD_some] at h1 ⊢
          rw [h1]; rfl
        have h5 : (unlE ops.size listed).length = 0 := by omega
        rw [List.length_eq_zero_iff.1 h5] at this; cases this
    exact ⟨hr, fin listed a w I hr⟩
  | succ f ih =>
    intro listed a w hf I
    refine ⟨fin listed a w I, fun j hm => ?_⟩
    obtain ⟨h1, o, h2, h3⟩ := mem_ready.1 hm
    have hj : j < ops.size := (Array.getElem?_eq_some_iff.1 h2).1
    have hjl : j < listed.size := by rw [I.len]; exact hj
    have hun : Lst listed j = false := by
      unfold Lst
      simp only [Array.getD_eq_getD_getElem?, Array.getElem?_eq_getElem hjl, Option.getD_some] at h1 ⊢
      exact h1
    refine I.step hP hK hGd hGl hB hnE hfree r0 h2 hun h3 _ fun a' w' I' => ih _ _ _ ?_ I'
    have : (unlE ops.size (listed.setIfInBounds j true)).length < (unlE ops.size listed).length := by
      refine filter_ltE _ _ ?_ j ?_ ?_ _ (List.mem_range.2 hj)
      · intro x hx
        have hx' : Lst (listed.setIfInBounds j true) x = false := by simpa [Lst] using hx
        rw [lst_set hjl] at hx'
        split at hx'
        · cases hx'
        · have : listed.getD x false = false := hx'
          rw [this]; rfl
      · have : listed.getD j false = false := hun
        rw [this]; rfl
      · have : Lst (listed.setIfInBounds j true) j = true := by rw [lst_set hjl, if_pos rfl]
        have this : (listed.setIfInBounds j true).getD j false = true := this
        rw [this]; rfl
    omega
theorem HS_none {R : Nat → Rc} {L : Nat → Bool} {g : Nat → Option AO} (hL : ∀ k, L k = false) : ∀ m, HS R L g m = g
  | 0 => rfl
  | m + 1 => by
    funext i
    simp only [HS, hL m, Bool.false_eq_true, false_and, if_false]
    rw [HS_none hL m]
theorem VS_none {R : Nat → Rc} {L : Nat → Bool} {tm : T AV} (hL : ∀ k, L k = false) (t : Tmp) : ∀ m, VS R L tm m t = (tm.get t).getD .q
  | 0 => rfl
  | m + 1 => by
    simp only [VS, hL m, Bool.false_eq_true, false_and, if_false]
    exact VS_none hL t m
/-- THE REGION, whatever its order -/
theorem draw_ok (hP : NoNum P) (hK : KOK P G B K) (hm : P.follows .mixedOrders = true) (hGd : Good P G B K ops sz R A alt tm h n) {σ : Sg} {a : Act} {w : World} (hGl : GR G B w) (hB : B ≤ w.heap.size) (hnn : n ≤ nE) (hnE : ∀ j, j < ops.size → (R j).n' ≤ nE) (hfree : ∀ i, n ≤ i → i < nE → σ i = none) (r : Rel σ h B w) (ht : TR σ tm a) (hs : a.tmps.size = sz)
    (F : Act → World → Prop) (hQ : ∀ a' w' τ, ActF σ h.get n B w τ (HS R (fun _ => true) h.get ops.size) nE w' → (∀ t, VR τ (VS R (fun _ => true) tm ops.size t) (a'.tmps.getD t undef)) → a'.tmps.size = sz → a'.defers = a.defers → F a' w') : ∀ t, opsX P ops F (Region.schedule (P.follows .mixedOrders) ops t) a { w with drawn := w.drawn + 1 } := by
  have a1 := act_drew (n := n) r (w.drawn + 1)
  intro t
  simp only [Region.schedule, hm, Bool.true_or, if_true]
  refine anyX_sound ops.size t _ a _ (draw_any (σ0 := σ) (a0 := a) (w0 := { w with drawn := w.drawn + 1 }) (nE := nE) hP hK hGd (hGl.step (a1.below r hB)) hB hnE hfree a1.rel F ?_ _ _ _ _ ?_ ?_)
  · intro listed a' w' I hall
    obtain ⟨τ, act, dm, tr⟩ := I.st
    have e1 : HS R (Lst listed) h.get ops.size = HS R (fun _ => true) h.get ops.size := by
      funext i; exact HS_congr fun k hk _ => hall k hk
    rw [e1] at act
    refine hQ a' w' τ ?_ (fun t => ?_) I.size I.def_
    · exact ⟨act.le, act.sub, act.dom, act.rel, ⟨act.fr.os, act.fr.tape, act.fr.output, act.fr.size, act.fr.block⟩, act.src⟩
    · have e2 : VS R (Lst listed) tm ops.size t = VS R (fun _ => true) tm ops.size t := VS_congr fun k hk _ => hall k hk
      rw [← e2]; exact tr t
  · refine Nat.le_trans (List.length_filter_le _ _) ?_
    simp
  · have hL : ∀ k, Lst (Array.replicate ops.size false) k = false := by
      intro k
      unfold Lst
      simp only [Array.getD_eq_getD_getElem?, Array.getElem?_replicate]
      split <;> rfl
    refine ⟨by simp, ?_, ⟨σ, ?_, fun i hi => .inl hi, fun t => ?_⟩, hs, rfl⟩
    · intro j o _ hl
      rw [hL] at hl; cases hl
    · rw [HS_none hL]
      exact ⟨hnn, Sub.refl _, fun i hi => .inl hi, a1.rel, Fr.refl _ _ _, fun i b k hi hb => .inr ⟨i, k, hi, hb⟩⟩
    · rw [VS_none hL]; exact ht t
end
end Go.Proofs.YtmimihjbepjnfaaGreatDoor
