/- What the reference's readDigits reckons with: the digits' text, a digit's bits. No program here.
   The reference's readDigits.
   The map of the bases: made, and looked up. -/
import Derived.Test.YtogmipbdnffegaaGreatDoorMgDec
import Derived.Test.YtogmipbdnffegaaGreatDoorMgRefs
import Derived.Test.YtogmipbdnffegaaGreatDoorRfNum
import Derived.Deep.RegionLaw
import Derived.Deep.CutBlock
import Derived.Deep.DeepCutAuto
import Derived.LoopTactic
import Derived.Test.YtogmipbdnffegaaGreatDoorBase
import Derived.MapKept
namespace Go.Proofs.YtogmipbdnffegaaGreatDoor
open Go Go.RowKit
set_option linter.unusedVariables false
/-- the digits, in their order -/
def hxB : ByteArray := ⟨#[48, 49, 50, 51, 52, 53, 54, 55, 56, 57, 97, 98, 99, 100, 101, 102]⟩
theorem hx_size : hxB.size = 16 := by decide +kernel
theorem hx_all : ∀ j : Fin 16, ∀ c : Fin 256, ((hxB.data[j.1]!).toNat == c.1) = decide (dv c.1 = j.1) := by decide +kernel
theorem int_beq (x c : Nat) : ((x : Int) == (c : Int)) = (x == c) := by rw [Bool.eq_iff_iff, beq_iff_eq, beq_iff_eq]; omega
theorem hx_at {j c : Nat} (hj : j < hxB.size) (hc : c ≤ 255) : ((hxB[j].toNat : Int) == (c : Int)) = decide (dv c = j) := by
  have h16 : j < 16 := by rw [hx_size] at hj; exact hj
  have h := hx_all ⟨j, h16⟩ ⟨c, by omega⟩
  have e : hxB.data[j]! = hxB[j] := by rw [getElem!_pos hxB.data j hj]; rfl
  rw [e] at h
  exact (int_beq _ _).trans h
/-- which digit has been found among the first j -/
def fnd (c j : Nat) : Int := if dv c < j then (dv c : Int) else -1
theorem fnd_zero (c : Nat) : fnd c 0 = -1 := by unfold fnd; rw [if_neg (by omega)]
theorem fnd_yes {c j : Nat} (h : dv c = j) : fnd c (j + 1) = j := by unfold fnd; rw [if_pos (by omega), h]
theorem fnd_no {c j : Nat} (h : dv c ≠ j) : fnd c (j + 1) = fnd c j := by
  unfold fnd
  by_cases c1 : dv c < j
  · rw [if_pos c1, if_pos (by omega)]
  · rw [if_neg c1, if_neg (by omega)]
/-- the states of a digit's first bits -/
def dbl (size c m : Nat) : List UInt8 := (List.range m).map (st (dbits size c))
theorem dbl_succ (size c m : Nat) : dbl size c (m + 1) = dbl size c m ++ [st (dbits size c) m] := by unfold dbl; rw [List.range_succ, List.map_append]; rfl
theorem dbl_len (size c m : Nat) : (dbl size c m).length = m := by unfold dbl; simp
theorem dl_succ (size : Nat) (s : ByteArray) (k : Nat) : dl size s (k + 1) = dl size s k ++ dbl size (dgt s k) size := rfl
theorem dbl_fill {size : Nat} (z2 : size ≤ 4) {c : Nat} (h : c = 120 ∨ c = 122) : dbl size c size = List.replicate size (UInt8.ofNat c) := by
  unfold dbl
  apply List.ext_getElem
  · simp
  · intro i h1 h2
    have hi : i < size := by simpa using h1
    rw [List.getElem_map, List.getElem_range, List.getElem_replicate]
    rcases h with rfl | rfl <;> simp [dbits, st, fl, msk_bit (show size ≤ 64 by omega), hi] <;> rfl
theorem st_bit : ∀ z : Fin 5, ∀ c : Fin 256, ∀ m : Fin 4, c.1 ≠ 120 → c.1 ≠ 122 → dv c.1 < 2 ^ z.1 → m.1 < z.1 → (st (dbits z.1 c.1) m.1).toNat = 48 + dv c.1 / 2 ^ m.1 % 2 := by decide +kernel
theorem bit_val : ∀ d : Fin 16, ∀ m : Fin 4, wrap64 (48 + bits BinOp.and IntKind.i64 ((d.1 : Int) / 2 ^ m.1) 1) % 256 = ((48 + d.1 / 2 ^ m.1 % 2 : Nat) : Int) := by decide +kernel
theorem loo_le {n size : Nat} (s : ByteArray) (K : Nat) : loo n size s K ≤ size := by
  rcases loo_spec n size s K with ⟨k, _, _, _, h⟩ | ⟨_, h⟩ <;> omega
/-- the list that is checked at the end -/
def ful (n size : Nat) (s : ByteArray) : List UInt8 := dl size s s.size ++ List.replicate (n - s.size * size) (fst_ s)
theorem ful_len (n size : Nat) (s : ByteArray) : (ful n size s).length = max n (s.size * size) := by unfold ful; rw [List.length_append, dl_len, List.length_replicate]; omega
theorem ful_large {n size : Nat} (z1 : 1 ≤ size) (z2 : size ≤ 4) (s : ByteArray) {q : Nat} (h1 : n + loo n size s s.size ≤ q) (h2 : q < (ful n size s).length) (h3 : (ful n size s)[q] ≠ 48) : ∃ k, k < s.size ∧ rdE n size s k = true := by
  rw [ful_len] at h2
  have hq : q < s.size * size := by omega
  refine (large_iff z1 z2 s).1 ⟨q, h1, hq, ?_⟩
  have e : (ful n size s)[q] = (dl size s s.size)[q]'(by rw [dl_len]; exact hq) := List.getElem_append_left (by rw [dl_len]; exact hq)
  rw [List.getD_eq_getElem?_getD, List.getElem?_eq_getElem (by rw [dl_len]; exact hq)]
  show (dl size s s.size)[q]'_ ≠ 48
  rw [← e]; exact h3
theorem ful_fine {n size : Nat} (z1 : 1 ≤ size) (z2 : size ≤ 4) (s : ByteArray) (h : ∀ q (hq : q < (ful n size s).length), n + loo n size s s.size ≤ q → (ful n size s)[q] = 48) : ∀ k, k < s.size → rdE n size s k = false := by
  intro k hk
  cases e : rdE n size s k
  · rfl
  · obtain ⟨i, h1, h2, h3⟩ := (large_iff z1 z2 s).2 ⟨k, hk, e⟩
    have hl : i < (ful n size s).length := by rw [ful_len]; omega
    have h4 := h i hl h1
    have e2 : (ful n size s)[i] = (dl size s s.size)[i]'(by rw [dl_len]; exact h2) := List.getElem_append_left (by rw [dl_len]; exact h2)
    rw [List.getD_eq_getElem?_getD, List.getElem?_eq_getElem (by rw [dl_len]; exact h2)] at h3
    exact absurd (e2.symm.trans h4) h3
theorem ful_B {n size : Nat} (h1 : 1 ≤ n) (h2 : n ≤ 64) (z2 : size ≤ 4) (s : ByteArray) : Bl ((ful n size s).take n) = ⟨n, (rdB n size s s.size).v, (rdB n size s s.size).x⟩ :=
  Bl_map (rdB_ok h1 h2 size s s.size) (rdB_vl h2 z2 s).symm
end Go.Proofs.YtogmipbdnffegaaGreatDoor
namespace Go.Proofs.YtogmipbdnffegaaGreatDoor
open Go Go.RowKit
set_option linter.unusedVariables false
end Go.Proofs.YtogmipbdnffegaaGreatDoor
namespace Go.Proofs.YtogmipbdnffegaaGreatDoor
open Go Go.RowKit
set_option linter.unusedVariables false
theorem keyT : Tryz.prog.underlying 5 = some (.int .u8) := by kernel_rfl
theorem set_alloc (W : World) (o o' : Obj) : ({ W.alloc o with heap := (W.alloc o).heap.setIfInBounds W.heap.size o' } : World) = W.alloc o' := by
  show ({ W with heap := (W.heap.push o).setIfInBounds W.heap.size o' } : World) = { W with heap := W.heap.push o' }
  congr 1
  apply Array.ext_getElem?
  intro i
  by_cases h : i = W.heap.size
  · subst h; simp
  · rw [Array.getElem?_setIfInBounds_ne (by omega), Array.getElem?_push, Array.getElem?_push]
    simp [h]
def bases : Array MapEntry := #[⟨.int .u8 98, .int .i64 1, 0⟩, ⟨.int .u8 111, .int .i64 3, 1⟩, ⟨.int .u8 104, .int .i64 4, 2⟩, ⟨.int .u8 100, .int .i64 99, 3⟩]
def mz (c : Int) : Nat := if c = 98 then 1 else if c = 111 then 3 else if c = 104 then 4 else if c = 100 then 99 else 0
end Go.Proofs.YtogmipbdnffegaaGreatDoor
