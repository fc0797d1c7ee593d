/- The law on places: its walk. -/
import Derived.Test.YtplbnjpojjcnlabGreatDoorEvWh
import Derived.WalkKit
import Derived.WalkSpells
import Derived.WalkLawsBesides
import Derived.Deep.QuietTactic
import Derived.BigQuiet
import Derived.Lib.Hide
import Derived.WalkSmall
import Derived.RegionTactic
import Derived.LoopTactic
import Derived.Deep.CutBlock
import Derived.Deep.DeepCutAuto
namespace Go.Proofs.YtplbnjpojjcnlabGreatDoor
open Go Go.RowKit
set_option linter.unusedVariables false
/-- where a line comes from -/
structure Og where
  f : ByteArray
  l : Int
  w : Bool
instance : Inhabited Og := ⟨⟨⟨#[]⟩, 0, false⟩⟩
/-- three cells of a block hold it -/
structure OC (w : World) (b p : Nat) (o : Og) : Prop where
  c0 : w.cell? ⟨b, p, none⟩ = some (.string o.f)
  c1 : w.cell? ⟨b, p + 1, none⟩ = some (.int .i64 o.l)
  c2 : w.cell? ⟨b, p + 2, none⟩ = some (.bool o.w)
theorem OC.lt {w : World} {b p : Nat} {o : Og} (h : OC w b p o) : b < w.heap.size := World.block_lt_of_cell? w _ h.c0
theorem OC.below {w w' : World} {b p : Nat} {o : Og} (h : OC w b p o) (hb : Below w.heap.size w w') : OC w' b p o :=
  ⟨(hb.cell (p := ⟨b, p, none⟩) h.lt).trans h.c0, (hb.cell (p := ⟨b, p + 1, none⟩) h.lt).trans h.c1, (hb.cell (p := ⟨b, p + 2, none⟩) h.lt).trans h.c2⟩
theorem below_drewN {B : Nat} {a w : World} (h : Below B a w) (n : Nat) : Below B a (w.drewN n) := ⟨h.os, h.tape, h.output, h.size, h.block⟩
/-- where a source lies that the law has boxed -/
structure SB (w : World) (p : Nat) (t : ByteArray) (a : Option Addr) (len cap : Nat) : Prop where
  c0 : w.cell? ⟨p, 0, none⟩ = some (.string t)
  c1 : w.cell? ⟨p, 1, none⟩ = some (.slice a len cap)
theorem OC.mono {w w' : World} {B b p : Nat} {o : Og} (h : OC w b p o) (hb : Below B w w') (hB : B = w.heap.size := by rfl) : OC w' b p o := by subst hB; exact h.below hb
theorem SB.lt {w : World} {p : Nat} {t : ByteArray} {a : Option Addr} {len cap : Nat} (h : SB w p t a len cap) : p < w.heap.size := World.block_lt_of_cell? w _ h.c0
theorem SB.below {w w' : World} {p : Nat} {t : ByteArray} {a : Option Addr} {len cap : Nat} (h : SB w p t a len cap) (hb : Below w.heap.size w w') : SB w' p t a len cap :=
  ⟨(hb.cell (p := ⟨p, 0, none⟩) h.lt).trans h.c0, (hb.cell (p := ⟨p, 1, none⟩) h.lt).trans h.c1⟩
theorem OC.new (w : World) (f : ByteArray) (l : Int) (z : Bool) : OC (w.alloc (.cells #[.string f, .int .i64 l, .bool z] 29)) w.heap.size 0 ⟨f, l, z⟩ := ⟨by go_simp, by go_simp, by go_simp⟩
theorem SB.new (w : World) (t : ByteArray) (a : Option Addr) (len cap : Nat) : SB (w.alloc (.cells #[.string t, .slice a len cap] 24)) w.heap.size t a len cap := ⟨by go_simp, by go_simp⟩
set_option maxRecDepth 100000 in
set_option maxHeartbeats 1000000 in
theorem where_low (t : ByteArray) (a : Option Addr) (len cap : Nat) (line col : Int) (hn : len ≤ 5000000000000) (h : line < 1) (w : World) : Calls Tryz.prog 4 #[.agg #[.string t, .slice a len cap], .int .i64 line, .int .i64 col] w fun e w' => e = .returned (.tuple #[.string ⟨#[]⟩, .int .i64 0, .int .i64 0, .bool false]) ∧ Below w.heap.size w w' := by
  have h1 : ¬ (1 ≤ line) := by omega
  have h2 : ¬ (line = (len : Int) + 1) := by omega
  go_enter Tryz.func4, Tryz.ntmps4
  go_wp2_with fail
  exact bodyPost_ret (v := (.tuple #[.string ⟨#[]⟩, .int .i64 0, .int .i64 0, .bool false])) (by simp [results, Tryz.results4, go_sem]) rfl ⟨rfl, ((Below.refl _ _).alloc (Nat.le_refl _) _)⟩
set_option maxRecDepth 100000 in
set_option maxHeartbeats 1000000 in
theorem where_high (t : ByteArray) (a : Option Addr) (len cap : Nat) (line col : Int) (hn : len ≤ 5000000000000) (h : (len : Int) + 1 < line) (w : World) : Calls Tryz.prog 4 #[.agg #[.string t, .slice a len cap], .int .i64 line, .int .i64 col] w fun e w' => e = .returned (.tuple #[.string ⟨#[]⟩, .int .i64 0, .int .i64 0, .bool false]) ∧ Below w.heap.size w w' := by
  have h1 : 1 ≤ line := by omega
  have h3 : ¬ (line ≤ len) := by omega
  have h2 : ¬ (line = (len : Int) + 1) := by omega
  go_enter Tryz.func4, Tryz.ntmps4
  go_wp2_with fail
  exact bodyPost_ret (v := (.tuple #[.string ⟨#[]⟩, .int .i64 0, .int .i64 0, .bool false])) (by simp [results, Tryz.results4, go_sem]) rfl ⟨rfl, ((Below.refl _ _).alloc (Nat.le_refl _) _)⟩
set_option maxRecDepth 100000 in
set_option maxHeartbeats 1000000 in
theorem where_zero (t : ByteArray) (a : Option Addr) (cap : Nat) (line col : Int) (w : World) : Calls Tryz.prog 4 #[.agg #[.string t, .slice a 0 cap], .int .i64 line, .int .i64 col] w fun e w' => e = .returned (.tuple #[.string ⟨#[]⟩, .int .i64 0, .int .i64 0, .bool false]) ∧ Below w.heap.size w w' := by
  by_cases h1 : 1 ≤ line
  · have h3 : ¬ (line ≤ 0) := by omega
    by_cases h2 : line = 1
    · subst h2
      go_enter Tryz.func4, Tryz.ntmps4
      go_wp2_with fail
      exact bodyPost_ret (v := (.tuple #[.string ⟨#[]⟩, .int .i64 0, .int .i64 0, .bool false])) (by simp [results, Tryz.results4, go_sem]) rfl ⟨rfl, ((Below.refl _ _).alloc (Nat.le_refl _) _)⟩
    · go_enter Tryz.func4, Tryz.ntmps4
      go_wp2_with fail
      exact bodyPost_ret (v := (.tuple #[.string ⟨#[]⟩, .int .i64 0, .int .i64 0, .bool false])) (by simp [results, Tryz.results4, go_sem]) rfl ⟨rfl, ((Below.refl _ _).alloc (Nat.le_refl _) _)⟩
  · have h2 : ¬ (line = 1) := by omega
    go_enter Tryz.func4, Tryz.ntmps4
    go_wp2_with fail
    exact bodyPost_ret (v := (.tuple #[.string ⟨#[]⟩, .int .i64 0, .int .i64 0, .bool false])) (by simp [results, Tryz.results4, go_sem]) rfl ⟨rfl, ((Below.refl _ _).alloc (Nat.le_refl _) _)⟩
set_option maxRecDepth 100000 in
set_option maxHeartbeats 1000000 in
theorem where_mid (t : ByteArray) (b off cap : Nat) (w : World) (k : Nat) (col : Int) (L : List Og) (hk : k < L.length) (hn : L.length ≤ 5000000000000) (hR : ∀ j, j < L.length → OC w b (off + j * 3) L[j]!) : Calls Tryz.prog 4 #[.agg #[.string t, .slice (some ⟨b, off, none⟩) L.length cap], .int .i64 ((k : Int) + 1), .int .i64 col] w fun e w' => e = .returned (.tuple #[.string L[k]!.f, .int .i64 L[k]!.l, .int .i64 (if L[k]!.w then col else 1), .bool true]) ∧ Below w.heap.size w w' := by
  have C := (hR k hk)
  generalize L[k]! = o at C
  clear hR
  generalize L.length = len at hk hn
  obtain ⟨f, l, z⟩ := o
  have hlt := C.lt
  obtain ⟨c0, c1, c2⟩ := C
  have h1 : (1 : Int) ≤ (k : Int) + 1 := by omega
  have h2 : (k : Int) + 1 ≤ (len : Int) := by omega
  cases z
  · go_enter Tryz.func4, Tryz.ntmps4
    go_wp2_with fail
    go_quiet (fail)
    go_wp2_with fail
    exact bodyPost_ret (v := .tuple #[.string f, .int .i64 l, .int .i64 1, .bool true]) (by simp [results, Tryz.results4, go_sem]) rfl ⟨rfl, below_drewN (((Below.refl _ _).alloc (Nat.le_refl _) _).alloc (by simp) _) _⟩
  · go_enter Tryz.func4, Tryz.ntmps4
    go_wp2_with fail
    go_quiet (fail)
    go_wp2_with fail
    exact bodyPost_ret (v := .tuple #[.string f, .int .i64 l, .int .i64 col, .bool true]) (by simp [results, Tryz.results4, go_sem]) rfl ⟨rfl, below_drewN (((Below.refl _ _).alloc (Nat.le_refl _) _).alloc (by simp) _) _⟩
set_option maxRecDepth 100000 in
set_option maxHeartbeats 1000000 in
theorem where_last (t : ByteArray) (b off cap : Nat) (w : World) (k : Nat) (col : Int) (L : List Og) (hk : L.length = k + 1) (hn : L.length ≤ 5000000000000) (hR : ∀ j, j < L.length → OC w b (off + j * 3) L[j]!) : Calls Tryz.prog 4 #[.agg #[.string t, .slice (some ⟨b, off, none⟩) (k + 1) cap], .int .i64 ((k : Int) + 2), .int .i64 col] w fun e w' => e = .returned (.tuple #[.string L[k]!.f, .int .i64 L[k]!.l, .int .i64 1, .bool true]) ∧ Below w.heap.size w w' := by
  have C := (hR k (by omega))
  generalize L[k]! = o at C
  clear hR
  rw [hk] at hn
  clear hk
  obtain ⟨f, l, z⟩ := o
  have hlt := C.lt
  obtain ⟨c0, c1, c2⟩ := C
  have h1 : (1 : Int) ≤ (k : Int) + 2 := by omega
  have h2 : ¬ ((k : Int) + 2 ≤ ((k + 1 : Nat) : Int)) := by omega
  go_enter Tryz.func4, Tryz.ntmps4
  go_wp2_with fail
  go_quiet (fail)
  go_wp2_with fail
  exact bodyPost_ret (v := .tuple #[.string f, .int .i64 l, .int .i64 1, .bool true]) (by simp [results, Tryz.results4, go_sem]) rfl ⟨rfl, below_drewN (((Below.refl _ _).alloc (Nat.le_refl _) _).alloc (by simp) _) _⟩
end Go.Proofs.YtplbnjpojjcnlabGreatDoor
