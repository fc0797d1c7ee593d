/- The names of the bits of a signal: the program. -/
import Derived.Test.YtmimihjbepjnfaaGreatDoorDnName
import Derived.Test.YtmimihjbepjnfaaGreatDoorDnDec
import Derived.Test.YtmimihjbepjnfaaGreatDoorRel
import Derived.Lib.QuietBelow
namespace Go.Proofs.YtmimihjbepjnfaaGreatDoor
open Go Go.RowKit Go.Sort
set_option linter.unusedVariables false
/-- a signal in Lean: its name, and the numbers that are looked at; the others are kept -/
structure Sgn where
  s : ByteArray
  a : Int
  b : Int
  W : Int
  f : Bool
  E : Int
  l : Value
def Sgn.v (x : Sgn) : Value := .agg #[.string x.s, .int .i64 x.a, .int .i64 x.b, .int .i64 x.W, .bool x.f, .int .i64 x.E, x.l]
def hasB (W E : Int) : Bool := decide (1 ≤ W) && decide (W ≤ 64) && decide (1 ≤ E) && decide (E ≤ 32)
set_option maxRecDepth 100000 in
set_option maxHeartbeats 1600000 in
theorem has_any (s : ByteArray) (a b W E : Int) (f : Bool) (l : Value) (w : World) : Calls Tryz.prog 27 #[.agg #[.string s, .int .i64 a, .int .i64 b, .int .i64 W, .bool f, .int .i64 E, l]] w fun e w' => e = .returned (.bool (hasB W E)) ∧ Below w.heap.size w w' := by
  by_cases h1 : 1 ≤ W
  · by_cases h2 : W ≤ 64
    · by_cases h3 : 1 ≤ E
      · by_cases h4 : E ≤ 32
        · have HP : Hid (hasB W E = true) := by show hasB W E = true; simp [hasB, h1, h2, h3, h4]
          go_enter Tryz.func27, Tryz.ntmps27
          go_wp2_with fail
          go_ret
          exact ⟨ret_bool HP.out.symm, (Below.refl _ _).alloc (Nat.le_refl _) _⟩
        · have HP : Hid (hasB W E = false) := by show hasB W E = false; simp [hasB, h1, h2, h3, h4]
          go_enter Tryz.func27, Tryz.ntmps27
          go_wp2_with fail
          go_ret
          exact ⟨ret_bool HP.out.symm, (Below.refl _ _).alloc (Nat.le_refl _) _⟩
      · have HP : Hid (hasB W E = false) := by show hasB W E = false; simp [hasB, h1, h2, h3]
        go_enter Tryz.func27, Tryz.ntmps27
        go_wp2_with fail
        go_ret
        exact ⟨ret_bool HP.out.symm, (Below.refl _ _).alloc (Nat.le_refl _) _⟩
    · have HP : Hid (hasB W E = false) := by show hasB W E = false; simp [hasB, h1, h2]
      go_enter Tryz.func27, Tryz.ntmps27
      go_wp2_with fail
      go_ret
      exact ⟨ret_bool HP.out.symm, (Below.refl _ _).alloc (Nat.le_refl _) _⟩
  · have HP : Hid (hasB W E = false) := by show hasB W E = false; simp [hasB, h1]
    go_enter Tryz.func27, Tryz.ntmps27
    go_wp2_with fail
    go_ret
    exact ⟨ret_bool HP.out.symm, (Below.refl _ _).alloc (Nat.le_refl _) _⟩
theorem dec_size (n : Nat) (h : n < 100000) : (⟨(Lib.decDigits n).toArray⟩ : ByteArray).size ≤ 5 := by
  have := dec_len5 n h
  show (Lib.decDigits n).toArray.size ≤ 5
  simpa using this
theorem ix_size (i n : Nat) (h : i < 100000) : (ixB i n).size ≤ 7 := by
  have := dec_len5 i h
  show (ixL i n).toArray.size ≤ 7
  unfold ixL
  split <;> simp; omega
theorem ix_put (i n : Nat) (h : n ≠ 1) : (⟨#[91]⟩ : ByteArray) ++ ⟨(Lib.decDigits i).toArray⟩ ++ ⟨#[93]⟩ = ixB i n := by
  apply ByteArray.ext
  unfold ixB ixL
  rw [if_neg h]
  simp
set_option maxRecDepth 100000 in
set_option maxHeartbeats 1600000 in
theorem index_any (i n : Nat) (h : i < 100) (w : World) : Calls Tryz.prog 75 #[.int .i64 i, .int .i64 n] w fun e w' => e = .returned (.string (ixB i n)) ∧ w' = w := by
  by_cases h1 : n = 1
  · subst h1
    go_enter Tryz.func75, Tryz.ntmps75
    go_wp2_with fail
    go_ret
    exact ⟨rfl, rfl⟩
  · have hi : ((n : Int) == 1) = false := beq_eq_false_iff_ne.2 (by omega)
    have HP := Lib.hid (ix_put i n h1)
    have hz := dec_size i (by omega)
    have hI := Tryz.strconv_Itoa_small i h
    generalize (⟨(Lib.decDigits i).toArray⟩ : ByteArray) = d at HP hz hI
    have s1 : ((⟨#[91]⟩ : ByteArray) ++ d).size = 1 + d.size := by rw [ByteArray.size_append]; rfl
    have g1 : ¬ 9223372036854775807 < 1 + d.size := by omega
    have g2 : ¬ 9223372036854775807 < 1 + d.size + 1 := by omega
    have HI := Lib.hid hI
    clear hI h1
    go_enter Tryz.func75, Tryz.ntmps75
    go_wp2_with (first | (with_reducible refine (HI.out _).mono ?_; rintro e w3 ⟨rfl, rfl⟩))
    go_ret
    exact ⟨ret_str HP.out, rfl⟩
set_option maxRecDepth 100000 in
set_option maxHeartbeats 2000000 in
theorem bitName_any (s : ByteArray) (a b : Int) (W E e k : Nat) (f : Bool) (l : Value) (hs : s.size ≤ 1000) (he : e < 100) (hk : k < 100) (w : World) : Calls Tryz.prog 28 #[.agg #[.string s, .int .i64 a, .int .i64 b, .int .i64 W, .bool f, .int .i64 E, l], .int .i64 e, .int .i64 k] w fun e' w' => e' = .returned (.string (bitB s E W e k)) ∧ Below w.heap.size w w' := by
  have z1 := ix_size e E (by omega)
  have z2 := ix_size k W (by omega)
  have i1 := fun (W1 : World) => index_any e E he W1
  have i2 := fun (W1 : World) => index_any k W hk W1
  unfold bitB
  generalize ixB e E = x1 at z1 i1 ⊢
  generalize ixB k W = x2 at z2 i2 ⊢
  have s1 : (s ++ x1).size = s.size + x1.size := ByteArray.size_append
  have g1 : ¬ 9223372036854775807 < s.size + x1.size := by omega
  have g2 : ¬ 9223372036854775807 < s.size + x1.size + x2.size := by omega
  go_enter Tryz.func28, Tryz.ntmps28
  go_upto_region 1 with fail
  have hb0 := (Below.refl w.heap.size w).alloc (Nat.le_refl _) (.cells #[.string s, .int .i64 a, .int .i64 b, .int .i64 W, .bool f, .int .i64 E, l] 24)
  have c0 : (w.alloc (.cells #[.string s, .int .i64 a, .int .i64 b, .int .i64 W, .bool f, .int .i64 E, l] 24)).cell? ⟨w.heap.size, 0, none⟩ = some (.string s) := by go_simp
  have c3 : (w.alloc (.cells #[.string s, .int .i64 a, .int .i64 b, .int .i64 W, .bool f, .int .i64 E, l] 24)).cell? ⟨w.heap.size, 3, none⟩ = some (.int .i64 W) := by go_simp
  have c5 : (w.alloc (.cells #[.string s, .int .i64 a, .int .i64 b, .int .i64 W, .bool f, .int .i64 E, l] 24)).cell? ⟨w.heap.size, 5, none⟩ = some (.int .i64 E) := by go_simp
  have hlt : w.heap.size < (w.alloc (.cells #[.string s, .int .i64 a, .int .i64 b, .int .i64 W, .bool f, .int .i64 E, l] 24)).heap.size := by simp
  generalize w.alloc (.cells #[.string s, .int .i64 a, .int .i64 b, .int .i64 W, .bool f, .int .i64 E, l] 24) = W0 at hb0 c0 c3 c5 hlt ⊢
  generalize hg : w.heap.size = g at c0 c3 c5 hlt ⊢
  have HG := Lib.hid hg
  clear hg
  have k0 := cell_regrown c0
  have k3 := cell_regrown c3
  have k5 := cell_regrown c5
  have q1 : ∀ d os, Calls Tryz.prog 75 #[.int .i64 e, .int .i64 E] (grow (redrawn W0 d) os) fun e w'' => e = .returned (.string x1) ∧ ∃ p : Regrown, w'' = grow (redrawn W0 p.d) p.os := fun d os => Calls.regrown_of ((i1 _).mono fun _ _ ⟨a, b⟩ => ⟨a, by rw [b]; exact Below.refl _ _⟩)
  have q2 : ∀ d os, Calls Tryz.prog 75 #[.int .i64 k, .int .i64 W] (grow (redrawn W0 d) os) fun e w'' => e = .returned (.string x2) ∧ ∃ p : Regrown, w'' = grow (redrawn W0 p.d) p.os := fun d os => Calls.regrown_of ((i2 _).mono fun _ _ ⟨a, b⟩ => ⟨a, by rw [b]; exact Below.refl _ _⟩)
  clear i1 i2
  refine wp_region_quiet_below (by kernel_rfl) (by kernel_rfl) ?_
  repeat (quiet_step (first | (with_reducible exact q1 _ _) | (with_reducible exact q2 _ _)))
  refine wpQuiet_nil ?_
  intro _ hw'
  obtain ⟨⟨dq, osq⟩, hw''⟩ := hw'
  subst hw''
  clear k0 k3 k5 q1 q2
  go_wp2_with fail
  go_ret
  exact ⟨rfl, hb0.trans ((below_regrown W0 dq osq).mono (by have := HG.out; omega))⟩
end Go.Proofs.YtmimihjbepjnfaaGreatDoor
