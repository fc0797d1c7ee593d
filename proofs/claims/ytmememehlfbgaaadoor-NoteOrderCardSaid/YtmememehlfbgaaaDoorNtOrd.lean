/- The order of messages: note.Cmp's numbers make a total order. No program here but the numbers' names. -/
import Derived.Test.YtmememehlfbgaaaDoorNtCmp
import Derived.Sort.Statements
import Derived.Shelf.SlSortCmp.Insertion
namespace Go.Proofs.YtmememehlfbgaaaDoor
open Go Go.Sort
set_option linter.unusedVariables false
/-- a comparison that parts whatever two that are not one -/
structure TC {α : Type} (f : α → α → Int) : Prop where
  neg : ∀ x y, f y x = - f x y
  zero : ∀ x y, f x y = 0 → x = y
  tr : ∀ x y z, f x y < 0 → f y z < 0 → f x z < 0
/-- a comparison -/
structure PC {α : Type} (f : α → α → Int) : Prop where
  neg : ∀ x y, f y x = - f x y
  tr : ∀ x y z, f x y < 0 → f y z < 0 → f x z < 0
  eqv : ∀ x y, f x y = 0 → ∀ z, f x z = f y z
theorem TC.self {α : Type} {f : α → α → Int} (h : TC f) (x : α) : f x x = 0 := by have := h.neg x x; omega
theorem TC.proj {α β : Type} {f : β → β → Int} (h : TC f) (p : α → β) : PC fun x y => f (p x) (p y) :=
  ⟨fun x y => h.neg _ _, fun x y z => h.tr _ _ _, fun x y e z => by rw [h.zero _ _ e]⟩
def lexC {α : Type} (f g : α → α → Int) (x y : α) : Int := if f x y = 0 then g x y else f x y
theorem PC.lex {α : Type} {f g : α → α → Int} (h : PC f) (k : PC g) : PC (lexC f g) := by
  refine ⟨fun x y => ?_, fun x y z h1 h2 => ?_, fun x y e z => ?_⟩
  · unfold lexC
    by_cases e : f x y = 0
    · rw [if_pos e, if_pos (by have := h.neg x y; omega), k.neg]
    · rw [if_neg e, if_neg (by have := h.neg x y; omega), h.neg]
  · unfold lexC at h1 h2 ⊢
    by_cases e1 : f x y = 0
    · rw [if_pos e1] at h1
      have e3 := h.eqv x y e1 z
      by_cases e2 : f y z = 0
      · rw [if_pos e2] at h2
        rw [if_pos (by omega)]; exact k.tr _ _ _ h1 h2
      · rw [if_neg e2] at h2
        rw [if_neg (by omega)]; omega
    · rw [if_neg e1] at h1
      by_cases e2 : f y z = 0
      · have e4 := h.eqv z y (by have := h.neg y z; omega) x
        have e5 := h.neg z x
        have e6 := h.neg y x
        rw [if_neg (by omega)]; omega
      · rw [if_neg e2] at h2
        have := h.tr _ _ _ h1 h2
        rw [if_neg (by omega)]; exact this
  · unfold lexC at e ⊢
    by_cases e1 : f x y = 0
    · rw [if_pos e1] at e
      rw [h.eqv x y e1 z, k.eqv x y e z]
    · rw [if_neg e1] at e; exact absurd e e1
theorem lex_zero {α : Type} {f g : α → α → Int} {x y : α} (h : lexC f g x y = 0) : f x y = 0 ∧ g x y = 0 := by
  unfold lexC at h
  by_cases e : f x y = 0
  · rw [if_pos e] at h; exact ⟨e, h⟩
  · rw [if_neg e] at h; exact absurd h e
theorem int_lt (x y : Int) : Lib.compareInt x y < 0 ↔ x < y := by
  unfold Lib.compareInt; by_cases h1 : x < y <;> by_cases h2 : y < x <;> simp [h1, h2]
theorem int_tc : TC Lib.compareInt := by
  refine ⟨fun x y => ?_, fun x y h => ?_, fun x y z h1 h2 => ?_⟩
  · unfold Lib.compareInt; by_cases h1 : x < y <;> by_cases h2 : y < x <;> simp [h1, h2] <;> omega
  · unfold Lib.compareInt at h; by_cases h1 : x < y <;> by_cases h2 : y < x <;> simp [h1, h2] at h <;> omega
  · rw [int_lt] at *; omega
theorem u8_lt (a b : UInt8) : a < b ↔ a.toNat < b.toNat := UInt8.lt_iff_toNat_lt
theorem bytes_neg : ∀ a b : List UInt8, Lib.compareBytes b a = - Lib.compareBytes a b
  | [], [] => rfl
  | [], _ :: _ => rfl
  | _ :: _, [] => rfl
  | x :: a, y :: b => by
    unfold Lib.compareBytes
    by_cases h1 : x < y
    · have h2 : ¬ y < x := by rw [u8_lt] at *; omega
      rw [if_neg h2, if_pos h1, if_pos h1]; rfl
    · by_cases h2 : y < x
      · rw [if_pos h2, if_neg h1, if_pos h2]
      · rw [if_neg h2, if_neg h1, if_neg h1, if_neg h2]; exact bytes_neg a b
theorem bytes_zero : ∀ a b : List UInt8, Lib.compareBytes a b = 0 → a = b
  | [], [], _ => rfl
  | [], _ :: _, h => by cases h
  | _ :: _, [], h => by cases h
  | x :: a, y :: b, h => by
    unfold Lib.compareBytes at h
    by_cases h1 : x < y
    · rw [if_pos h1] at h; cases h
    · rw [if_neg h1] at h
      by_cases h2 : y < x
      · rw [if_pos h2] at h; cases h
      · rw [if_neg h2] at h
        have : x = y := by
          apply UInt8.toNat_inj.1
          rw [u8_lt] at h1 h2; omega
        rw [this, bytes_zero a b h]
theorem bytes_tr : ∀ a b c : List UInt8, Lib.compareBytes a b < 0 → Lib.compareBytes b c < 0 → Lib.compareBytes a c < 0
  | [], [], _, h, _ => by cases h
  | _ :: _, [], _, h, _ => by cases h
  | [], _ :: _, [], _, h => by cases h
  | [], _ :: _, _ :: _, _, _ => by show (-1 : Int) < 0; decide
  | _ :: _, _ :: _, [], _, h => by cases h
  | x :: a, y :: b, z :: c, h, k => by
    unfold Lib.compareBytes at h k ⊢
    by_cases h1 : x < y
    · by_cases k1 : y < z
      · rw [if_pos (by rw [u8_lt] at *; omega)]; decide
      · rw [if_neg k1] at k
        by_cases k2 : z < y
        · rw [if_pos k2] at k; cases k
        · rw [if_pos (by rw [u8_lt] at *; omega)]; decide
    · rw [if_neg h1] at h
      by_cases h2 : y < x
      · rw [if_pos h2] at h; cases h
      · rw [if_neg h2] at h
        have e : x = y := by
          apply UInt8.toNat_inj.1
          rw [u8_lt] at h1 h2; omega
        subst e
        by_cases k1 : x < z
        · rw [if_pos k1]; decide
        · rw [if_neg k1] at k ⊢
          by_cases k2 : z < x
          · rw [if_pos k2] at k; cases k
          · rw [if_neg k2] at k ⊢; exact bytes_tr a b c h k
theorem bytes_tc : TC Lib.compareBytes := ⟨bytes_neg, bytes_zero, bytes_tr⟩
def cmpX : Nt → Nt → Int :=
  lexC (fun x y => Lib.compareBytes x.f.data.toList y.f.data.toList) (lexC (fun x y => Lib.compareInt x.l y.l) (lexC (fun x y => Lib.compareInt x.c y.c) (lexC (fun x y => Lib.compareInt x.e y.e) (fun x y => Lib.compareBytes x.t.data.toList y.t.data.toList))))
theorem orL_one (a : Int) : orL [a] = a := by
  show (if a = 0 then 0 else a) = a
  by_cases h : a = 0
  · rw [if_pos h, h]
  · rw [if_neg h]
theorem cmpN_x (x y : Nt) : cmpN x y = cmpX x y := by
  unfold cmpN cmpL cmpX lexC
  show (if _ = 0 then (if _ = 0 then (if _ = 0 then (if _ = 0 then orL [_] else _) else _) else _) else _) = _
  rw [orL_one]
theorem cmpX_pc : PC cmpX :=
  (bytes_tc.proj fun x : Nt => x.f.data.toList).lex ((int_tc.proj fun x : Nt => x.l).lex ((int_tc.proj fun x : Nt => x.c).lex ((int_tc.proj fun x : Nt => x.e).lex (bytes_tc.proj fun x : Nt => x.t.data.toList))))
theorem bytes_ext {a b : ByteArray} (h : a.data.toList = b.data.toList) : a = b := by
  cases a; cases b; simp at h; simp [h]
theorem cmpN_tc : TC cmpN := by
  have e : cmpN = cmpX := by funext x y; exact cmpN_x x y
  rw [e]
  refine ⟨cmpX_pc.neg, fun x y h => ?_, cmpX_pc.tr⟩
  obtain ⟨h1, h⟩ := lex_zero h
  obtain ⟨h2, h⟩ := lex_zero h
  obtain ⟨h3, h⟩ := lex_zero h
  obtain ⟨h4, h5⟩ := lex_zero h
  obtain ⟨xf, xl, xc, xe, xt⟩ := x
  obtain ⟨yf, yl, yc, ye, yt⟩ := y
  have g1 := bytes_ext (bytes_tc.zero _ _ h1)
  have g2 := int_tc.zero _ _ h2
  have g3 := int_tc.zero _ _ h3
  have g4 := int_tc.zero _ _ h4
  have g5 := bytes_ext (bytes_tc.zero _ _ h5)
  simp only at g1 g2 g3 g4 g5
  rw [g1, g2, g3, g4, g5]
/-- x stands ahead of y -/
def ltN (x y : Nt) : Bool := decide (cmpN x y < 0)
theorem ltN_is : ltOf cmpN = ltN := rfl
theorem ltN_tr {x y z : Nt} (h : ltN x y = true) (k : ltN y z = true) : ltN x z = true := by
  unfold ltN at *; rw [decide_eq_true_eq] at *; exact cmpN_tc.tr _ _ _ h k
theorem ltN_self (x : Nt) : ltN x x = false := by
  unfold ltN; rw [cmpN_tc.self]; rfl
theorem ltN_asym {x y : Nt} (h : ltN x y = true) : ltN y x = false := by
  unfold ltN at *; rw [decide_eq_true_eq] at h; rw [decide_eq_false_iff_not, cmpN_tc.neg x y]; omega
theorem ltN_total {x y : Nt} (h : ltN x y = false) (k : ltN y x = false) : x = y := by
  unfold ltN at *; rw [decide_eq_false_iff_not] at *
  rw [cmpN_tc.neg x y] at k
  exact cmpN_tc.zero _ _ (by omega)
theorem ltN_swo : SWO (ltOf cmpN) where
  irrefl := ltN_self
  trans x y z := ltN_tr
  ntrans x y z h k := by
    cases e : ltN x z with
    | false => exact e
    | true =>
      exfalso
      cases e1 : ltN y x with
      | true =>
        have := ltN_tr e1 e
        rw [ltN_is] at k; rw [this] at k; cases k
      | false =>
        have := ltN_total (ltN_is ▸ h) e1
        subst this
        rw [ltN_is] at k; rw [e] at k; cases k
end Go.Proofs.YtmememehlfbgaaaDoor
