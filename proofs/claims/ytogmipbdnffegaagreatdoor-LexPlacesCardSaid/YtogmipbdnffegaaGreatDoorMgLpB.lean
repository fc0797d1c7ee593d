/- The makers' stream of numbers (a copy of NStream for this seat).
   The program's rows of words and of signs, and where they lie.
   The makers' tokens. -/
import Derived.Test.YtogmipbdnffegaaGreatDoorMgLpA
import Derived.Deep.QuietTactic
import Derived.Test.YtogmipbdnffegaaGreatDoorLnEq
import Derived.Test.YtogmipbdnffegaaGreatDoorMgTok
import Derived.Deep.MidRow
import Derived.Deep.WholeRow
import Derived.Deep.CutBlock
import Derived.Deep.DeepCutAuto
import Derived.Test.YtogmipbdnffegaaGreatDoorLnSp
namespace Go.Proofs.YtogmipbdnffegaaGreatDoor
open Go Go.RowKit
set_option linter.unusedVariables false
def bel (x n : Int) : Int := if x.tmod n < 0 then x.tmod n + n else x.tmod n
theorem bel_range (x n : Int) (hn : 1 ≤ n) : 0 ≤ bel x n ∧ bel x n < n := by
  have h1 := Int.tmod_lt_of_pos x (show 0 < n by omega)
  have h2 := Int.lt_tmod_of_pos x (show 0 < n by omega)
  unfold bel; split <;> omega
set_option maxHeartbeats 400000 in
theorem below_any (x n : Int) (hn : 1 ≤ n) (hn2 : n ≤ 1073741824) (w : World) : Calls Tryz.prog 37 #[.int .i64 x, .int .i64 n] w fun e w' => e = .returned (.int .i64 (bel x n)) ∧ w = w' := by
  have h2 := Int.lt_tmod_of_pos x (show 0 < n by omega)
  by_cases hs : x.tmod n < 0
  · go_enter Tryz.func37, Tryz.ntmps37
    go_wp2_with fail
    go_ret
    exact ⟨ret_int (by unfold bel; first | rw [if_pos hs] | rw [if_neg (by omega)]), rfl⟩
  · go_enter Tryz.func37, Tryz.ntmps37
    go_wp2_with fail
    go_ret
    exact ⟨ret_int (by unfold bel; first | rw [if_pos hs] | rw [if_neg (by omega)]), rfl⟩
/-- the numbers that a stream reads: a slice of integers that lies outside block b -/
structure Rd (b : Nat) (a : Option Addr) (len : Nat) (w : World) : Prop where
  le : len ≤ 17592186044416
  el : ∀ j, j < len → ∃ bl off z, a = some ⟨bl, off, none⟩ ∧ bl ≠ b ∧ w.cell? ⟨bl, off + j, none⟩ = some (.int .i64 z)
structure Str (b : Nat) (a : Option Addr) (len cap k : Nat) (w : World) : Prop where
  c0 : w.cell? ⟨b, 0, none⟩ = some (.slice a len cap)
  c1 : w.cell? ⟨b, 1, none⟩ = some (.int .i64 k)
  fz : w.frozen? ⟨b, 1, none⟩ = false
  rd : Rd b a len w
/-- what a call that asks the stream for at most c numbers does to memory -/
structure Adv (b : Nat) (a : Option Addr) (len cap k c : Nat) (w w' : World) : Prop where
  st : ∃ k', k' ≤ k + c ∧ Str b a len cap k' w'
  gr : w.grownBy w' (some b)
theorem Rd.kept {b : Nat} {a : Option Addr} {len : Nat} {w w' : World} (h : Rd b a len w) (hg : w.grownBy w' (some b)) : Rd b a len w' :=
  ⟨h.le, fun j hj => by
    obtain ⟨bl, off, z, h1, h2, h3⟩ := h.el j hj
    exact ⟨bl, off, z, h1, h2, hg.cell h3 (by simpa using h2)⟩⟩
theorem grown_refl (w : World) (r : Option Nat) : w.grownBy w r := ⟨rfl, rfl, rfl, Nat.le_refl _, fun _ _ _ => rfl⟩
theorem grown_trans {a b c : World} {r : Option Nat} (h : a.grownBy b r) (k : b.grownBy c r) : a.grownBy c r :=
  ⟨k.os.trans h.os, k.tape.trans h.tape, k.output.trans h.output, Nat.le_trans h.size k.size, fun i hi hr => (k.block i (Nat.lt_of_lt_of_le hi h.size) hr).trans (h.block i hi hr)⟩
theorem grown_below {w w' : World} (r : Option Nat) (h : Below w.heap.size w w') : w.grownBy w' r := ⟨h.os, h.tape, h.output, h.size, fun i hi _ => h.block i hi⟩
theorem grown_drewN {a w : World} {r : Option Nat} (h : a.grownBy w r) (n : Nat) : a.grownBy (w.drewN n) r := ⟨h.os, h.tape, h.output, h.size, h.block⟩
theorem grown_alloc {a w : World} {r : Option Nat} (h : a.grownBy w r) (o : Obj) : a.grownBy (w.alloc o) r := grown_trans h (World.grownBy_alloc w o r)
theorem grown_set {a w : World} {b o : Nat} (h : a.grownBy w (some b)) (u : Value) : a.grownBy (w.setCell ⟨b, o, none⟩ u) (some b) :=
  have hb : Below 0 w (w.setCell ⟨b, o, none⟩ u) := (Below.refl 0 w).setCell (Nat.zero_le _) u
  grown_trans h ⟨hb.os, hb.tape, hb.output, hb.size, fun i _ hr => Below.heap_setCell w _ u i (by simpa using hr)⟩
theorem Str.below {b : Nat} {a : Option Addr} {len cap k : Nat} {w w' : World} (h : Str b a len cap k w) (hb : Below w.heap.size w w') : Str b a len cap k w' := by
  have hl := World.block_lt_of_cell? w _ h.c0
  exact ⟨(hb.cell hl).trans h.c0, (hb.cell (p := ⟨b, 1, none⟩) hl).trans h.c1, (hb.frozen (p := ⟨b, 1, none⟩) hl).trans h.fz, h.rd.kept (grown_below _ hb)⟩
theorem adv_set {b : Nat} {a : Option Addr} {len cap k : Nat} {w : World} (h : Str b a len cap k w) : Adv b a len cap k 1 w (w.setCell ⟨b, 1, none⟩ (.int .i64 ((k : Int) + 1))) := by
  obtain ⟨h0, h1, hf, hr⟩ := h
  have hg := grown_set (b := b) (o := 1) (grown_refl w (some b)) (.int .i64 ((k : Int) + 1))
  exact ⟨⟨k + 1, by omega, by go_simp, by go_simp, by go_simp, hr.kept hg⟩, hg⟩
theorem adv_drewN {b : Nat} {a : Option Addr} {len cap k c : Nat} {w w' : World} (h : Adv b a len cap k c w w') (n : Nat) : Adv b a len cap k c w (w'.drewN n) := by
  obtain ⟨⟨k', hk, h0, h1, hf, hr⟩, hg⟩ := h
  exact ⟨⟨k', hk, h0, h1, hf, hr.kept (grown_drewN (grown_refl w' _) n)⟩, grown_drewN hg n⟩
theorem adv_setN {b : Nat} {a : Option Addr} {len cap k : Nat} {w : World} (h : Str b a len cap k w) (n : Nat) : Adv b a len cap k 1 w ((w.setCell ⟨b, 1, none⟩ (.int .i64 ((k : Int) + 1))).drewN n) := adv_drewN (adv_set h) n
def SomeNat (P : Nat → Prop) (R : World → Prop) (e : Ending) (w' : World) : Prop := ∃ r : Nat, P r ∧ e = .returned (.int .i64 r) ∧ R w'
theorem some_bel {x n : Int} {R : World → Prop} {w' : World} (hn : 1 ≤ n) (h : R w') : SomeNat (fun r => (r : Int) < n) R (.returned (.int .i64 (bel x n))) w' := by
  have hr := bel_range x n (by omega)
  exact ⟨(bel x n).toNat, by show ((bel x n).toNat : Int) < n; omega, by rw [Int.toNat_of_nonneg hr.1], h⟩
set_option maxHeartbeats 400000 in
theorem next_any (b len cap : Nat) (a : Option Addr) (k : Nat) (n : Int) (hn : 1 ≤ n) (hn2 : n ≤ 1073741824) (hk : k ≤ 1000000) (w : World) (hS : Str b a len cap k w) :
    Calls Tryz.prog 20 #[.pointer (some ⟨b, 0, none⟩), .int .i64 n] w (SomeNat (fun r => (r : Int) < n) (Adv b a len cap k 1 w)) := by
  obtain ⟨h0, h1, hf, hrd⟩ := hS
  have hl := hrd.le
  by_cases hz : len = 0
  · have hb : ((len : Int) == 0) = true := by rw [hz]; rfl
    clear hz
    have HR := Lib.hid hrd
    clear hrd
    go_enter Tryz.func20, Tryz.ntmps20
    go_wp2_with fail
    refine (below_any _ _ (by omega) (by omega) _).mono ?_
    rintro e w' ⟨rfl, rfl⟩
    go_wp2_with fail
    go_ret
    exact some_bel (by omega) (adv_set ⟨h0, h1, hf, HR.out⟩)
  · have hb : ((len : Int) == 0) = false := by simpa using hz
    have hlt : k % len < len := Nat.mod_lt _ (by omega)
    obtain ⟨bl, off, z, ha, hne, hc⟩ := hrd.el _ hlt
    have HR := Lib.hid hrd
    clear hrd
    subst ha
    go_enter Tryz.func20, Tryz.ntmps20
    go_wp2_with fail
    go_quiet (fail)
    go_wp2_with fail
    go_quiet (fail)
    go_wp2_with fail
    refine (below_any _ _ (by omega) (by omega) _).mono ?_
    rintro e w' ⟨rfl, rfl⟩
    go_wp2_with fail
    refine (below_any _ _ (by omega) (by omega) _).mono ?_
    rintro e w' ⟨rfl, rfl⟩
    go_wp2_with fail
    go_ret
    exact some_bel (by omega) (adv_setN ⟨h0, h1, hf, HR.out⟩ _)
theorem adv_trans {b : Nat} {a : Option Addr} {len cap k k1 c1 c2 c : Nat} {w w1 w2 : World} (h : Adv b a len cap k c1 w w1) (hk : k1 ≤ k + c1) (h2 : Adv b a len cap k1 c2 w1 w2) (hc : c1 + c2 ≤ c) : Adv b a len cap k c w w2 := by
  obtain ⟨⟨k2, hk2, s2⟩, g2⟩ := h2
  exact ⟨⟨k2, by omega, s2⟩, grown_trans h.gr g2⟩
theorem adv_below {b : Nat} {a : Option Addr} {len cap k c : Nat} {w w1 w2 : World} (h : Adv b a len cap k c w w1) (hb : Below w1.heap.size w1 w2) : Adv b a len cap k c w w2 := by
  obtain ⟨⟨k1, hk1, s1⟩, g1⟩ := h
  exact ⟨⟨k1, hk1, s1.below hb⟩, grown_trans g1 (grown_below _ hb)⟩
theorem adv_refl {b : Nat} {a : Option Addr} {len cap k : Nat} {w : World} (h : Str b a len cap k w) (c : Nat) : Adv b a len cap k c w w := ⟨⟨k, by omega, h⟩, grown_refl _ _⟩
theorem adv_mono {b : Nat} {a : Option Addr} {len cap k c c' : Nat} {w w1 : World} (h : Adv b a len cap k c w w1) (hc : c ≤ c') : Adv b a len cap k c' w w1 := by
  obtain ⟨⟨k1, hk1, s1⟩, g1⟩ := h
  exact ⟨⟨k1, by omega, s1⟩, g1⟩
set_option maxHeartbeats 400000 in
theorem range_any (b len cap : Nat) (a : Option Addr) (k : Nat) (lo hi : Nat) (h1 : lo ≤ hi) (h2 : hi ≤ 1000000) (hk : k ≤ 900000) (w : World) (hS : Str b a len cap k w) :
    Calls Tryz.prog 36 #[.pointer (some ⟨b, 0, none⟩), .int .i64 lo, .int .i64 hi] w (SomeNat (fun r => lo ≤ r ∧ r ≤ hi) (Adv b a len cap k 1 w)) := by
  go_enter Tryz.func36, Tryz.ntmps36
  go_wp2_with fail
  refine (next_any b len cap a k _ (by omega) (by omega) (by omega) _ hS).mono ?_
  rintro e w1 ⟨r1, hr1, rfl, A1⟩
  go_wp2_with fail
  go_ret
  exact ⟨lo + r1, ⟨by omega, by omega⟩, rfl, A1⟩
def SomeBool (R : World → Prop) (e : Ending) (w' : World) : Prop := ∃ t : Bool, e = .returned (.bool t) ∧ R w'
/-- a slice of integers that can be read -/
structure Sl (a : Option Addr) (len : Nat) (w : World) : Prop where
  le : len ≤ 17592186044416
  el : ∀ j, j < len → ∃ bl off z, a = some ⟨bl, off, none⟩ ∧ w.cell? ⟨bl, off + j, none⟩ = some (.int .i64 z)
theorem Sl.str {a : Option Addr} {len : Nat} {w : World} (h : Sl a len w) (cap : Nat) (W : World) (hW : W = w.alloc (.cells #[.slice a len cap, .int .i64 0] 31)) : Str w.heap.size a len cap 0 W := by
  subst hW
  refine ⟨by go_simp, by go_simp, by go_simp, h.le, fun j hj => ?_⟩
  obtain ⟨bl, off, z, h1, h2⟩ := h.el j hj
  have hlt : bl < w.heap.size := World.block_lt_of_cell? w _ h2
  exact ⟨bl, off, z, h1, by omega, by go_simp⟩
theorem adv_low {a : Option Addr} {len cap k c : Nat} {w W w1 : World} (A : Adv w.heap.size a len cap k c W w1) (hW : Below w.heap.size w W) : Below w.heap.size w w1 :=
  ⟨A.gr.os.trans hW.os, A.gr.tape.trans hW.tape, A.gr.output.trans hW.output, Nat.le_trans hW.size A.gr.size, fun i hi => (A.gr.block i (Nat.lt_of_lt_of_le hi hW.size) (by simp; omega)).trans (hW.block i hi)⟩
end Go.Proofs.YtogmipbdnffegaaGreatDoor
namespace Go.Proofs.YtogmipbdnffegaaGreatDoor
open Go Go.RowKit
set_option linter.unusedVariables false
set_option maxRecDepth 100000 in
set_option maxHeartbeats 3000000 in
theorem words_new (w : World) (hG : LG w) : Calls Tryz.prog 8 #[] w fun e w' => ∃ g cap, e = .returned (.slice (some ⟨g, 0, none⟩) 54 cap) ∧ w.heap.size ≤ g ∧ 54 ≤ cap ∧ TxtRow w' g 54 wordB ∧ Below w.heap.size w w' := by
  have hld : w.rangeAt 0 0 ((List.range 54).map fun i => Value.string (wordB i)) := by
    intro j v hj
    rw [Nat.zero_add]
    obtain ⟨hj1, hj2⟩ := List.getElem?_eq_some_iff.1 hj
    have hj3 : j < 54 := by simpa using hj1
    rw [hG.wd j hj3]
    simp at hj2
    rw [← hj2]
  have hln : ((List.range 54).map fun i => Value.string (wordB i)).length = 54 := by simp
  have hat : ∀ i, i < 54 → ((List.range 54).map fun i => Value.string (wordB i)).toArray[i]? = some (.string (wordB i)) := fun i hi => by simp [hi]
  have hone : ((List.range 54).map fun i => Value.string (wordB i)).toArray.all (·.oneCell') = true := by simp [Value.oneCell']
  generalize ((List.range 54).map fun i => Value.string (wordB i)) = A at *
  obtain ⟨hzv, hzi⟩ := zero_of_info (show (Tryz.prog.info? 46).map (fun i => (i.zero, i.size)) = some (some (.agg (Array.replicate 54 (Value.string ⟨#[]⟩))), 54) from by kernel_rfl)
  have hst := run_storeCells_new (P := Tryz.prog) w 46 (Array.replicate 54 (Value.string ⟨#[]⟩)) A.toArray (by rw [hzi]; simp [hln]) (by simp [hln]) hone
  have HAT := Lib.hid hat
  clear hat hone
  go_enter Tryz.func8, Tryz.ntmps8
  go_upto_region 1 with fail
  refine wp_region_lit (wpList_load_mid rfl 46 _ rfl 0 0 rfl A (.array 54 9) hld (by kernel_rfl) rfl (by rw [hln]; kernel_rfl) ?_)
  clear hld hzi
  have HLN := Lib.hid hln
  clear hln
  go_wp2_with fail
  go_ret
  exact ⟨w.heap.size, 54, rfl, Nat.le_refl _, Nat.le_refl _, fun i hi => by rw [World.cell?_alloc_new]; exact HAT.out i hi, (Below.refl _ _).alloc (Nat.le_refl _) _⟩
set_option maxRecDepth 100000 in
set_option maxHeartbeats 3000000 in
theorem signs_new (w : World) (hG : LG w) : Calls Tryz.prog 10 #[] w fun e w' => ∃ g cap, e = .returned (.slice (some ⟨g, 0, none⟩) 39 cap) ∧ w.heap.size ≤ g ∧ 39 ≤ cap ∧ TxtRow w' g 39 signB ∧ Below w.heap.size w w' := by
  have hld : w.rangeAt 1 0 ((List.range 39).map fun i => Value.string (signB i)) := by
    intro j v hj
    rw [Nat.zero_add]
    obtain ⟨hj1, hj2⟩ := List.getElem?_eq_some_iff.1 hj
    have hj3 : j < 39 := by simpa using hj1
    rw [hG.sg j hj3]
    simp at hj2
    rw [← hj2]
  have hln : ((List.range 39).map fun i => Value.string (signB i)).length = 39 := by simp
  have hat : ∀ i, i < 39 → ((List.range 39).map fun i => Value.string (signB i)).toArray[i]? = some (.string (signB i)) := fun i hi => by simp [hi]
  have hone : ((List.range 39).map fun i => Value.string (signB i)).toArray.all (·.oneCell') = true := by simp [Value.oneCell']
  generalize ((List.range 39).map fun i => Value.string (signB i)) = A at *
  obtain ⟨hzv, hzi⟩ := zero_of_info (show (Tryz.prog.info? 48).map (fun i => (i.zero, i.size)) = some (some (.agg (Array.replicate 39 (Value.string ⟨#[]⟩))), 39) from by kernel_rfl)
  have hst := run_storeCells_new (P := Tryz.prog) w 48 (Array.replicate 39 (Value.string ⟨#[]⟩)) A.toArray (by rw [hzi]; simp [hln]) (by simp [hln]) hone
  have HAT := Lib.hid hat
  clear hat hone
  go_enter Tryz.func10, Tryz.ntmps10
  go_upto_region 1 with fail
  refine wp_region_lit (wpList_load_mid rfl 48 _ rfl 1 0 rfl A (.array 39 9) hld (by kernel_rfl) rfl (by rw [hln]; kernel_rfl) ?_)
  clear hld hzi
  have HLN := Lib.hid hln
  clear hln
  go_wp2_with fail
  go_ret
  exact ⟨w.heap.size, 39, rfl, Nat.le_refl _, Nat.le_refl _, fun i hi => by rw [World.cell?_alloc_new]; exact HAT.out i hi, (Below.refl _ _).alloc (Nat.le_refl _) _⟩
end Go.Proofs.YtogmipbdnffegaaGreatDoor
namespace Go.Proofs.YtogmipbdnffegaaGreatDoor
open Go Go.RowKit
set_option linter.unusedVariables false
/-- the stream is kept where a row of the call's own alone has changed -/
theorem lp_str {a : Option Addr} {len cap k : Nat} {w W W' : World} {r : Option Nat} (hS : Sl a len w) (h : Str w.heap.size a len cap k W) (hg : W.grownBy W' r) (hr : ∀ g, r = some g → w.heap.size < g) (hl : Below w.heap.size w W) : Str w.heap.size a len cap k W' := by
  have hlt : w.heap.size < W.heap.size := World.block_lt_of_cell? W _ h.c0
  have hb : W'.heap[w.heap.size]? = W.heap[w.heap.size]? := hg.block _ hlt (fun e => by have := hr _ e.symm; omega)
  have hc : ∀ o, W'.cell? ⟨w.heap.size, o, none⟩ = W.cell? ⟨w.heap.size, o, none⟩ := fun o => World.cell?_of_block (a := ⟨w.heap.size, o, none⟩) hb
  have hf : W'.frozen? ⟨w.heap.size, 1, none⟩ = W.frozen? ⟨w.heap.size, 1, none⟩ := World.frozen?_of_block (a := ⟨w.heap.size, 1, none⟩) hb
  refine ⟨(hc 0).trans h.c0, (hc 1).trans h.c1, hf.trans h.fz, h.rd.le, fun j hj => ?_⟩
  obtain ⟨bl, off, z, h1, h2, h3⟩ := h.rd.el j hj
  obtain ⟨bl', off', z', g1, g2⟩ := hS.el j hj
  have hlt' : bl' < w.heap.size := World.block_lt_of_cell? w _ g2
  rw [h1] at g1
  injection g1 with g1; injection g1 with g1 g3
  have hbl : bl < w.heap.size := by omega
  refine ⟨bl, off, z, h1, h2, ?_⟩
  have hb2 : W'.heap[bl]? = W.heap[bl]? := hg.block _ (by omega) (fun e => by have := hr _ e.symm; omega)
  exact (World.cell?_of_block (a := ⟨bl, off + j, none⟩) hb2).trans h3
theorem lp_block {w : World} {B : Nat} {T : TypeId} {k n : Nat} {v : Value} {xs : List Value} (h : w.ownsRow B T k v n xs) : ∀ g, v.ownBlock = some g → B ≤ g := by
  intro g hg
  obtain ⟨_, ⟨h1, _⟩ | ⟨g', cp, cur, h1, h2, _⟩⟩ := h
  · rw [h1] at hg; simp [Value.ownBlock] at hg
  · rw [h1] at hg; simp [Value.ownBlock] at hg; omega
theorem lp_low {w W W' : World} {r : Option Nat} (hl : Below w.heap.size w W) (hg : W.grownBy W' r) (hr : ∀ g, r = some g → w.heap.size < g) : Below w.heap.size w W' :=
  hl.grown hg hl.size (fun j hj => by have := hr j hj; omega)
/-- the tokens so far -/
structure Mk (w : World) (a : Option Addr) (len cap : Nat) (v : Value) (L : List ByteArray) (m k : Nat) (W : World) : Prop where
  own : OS (w.heap.size + 1) W v L
  ll : L.length ≤ m
  good : ∀ x ∈ L, isGood x.data.toList
  str : Str w.heap.size a len cap k W
  low : Below w.heap.size w W
theorem Mk.lt {w : World} {a : Option Addr} {len cap : Nat} {v : Value} {L : List ByteArray} {m k : Nat} {W : World} (h : Mk w a len cap v L m k W) : w.heap.size < W.heap.size := World.block_lt_of_cell? W _ h.str.c0
theorem Mk.adv {w : World} {a : Option Addr} {len cap : Nat} {v : Value} {L : List ByteArray} {m k c : Nat} {W W' : World} (h : Mk w a len cap v L m k W) (A : Adv w.heap.size a len cap k c W W') : ∃ k', k' ≤ k + c ∧ Mk w a len cap v L m k' W' := by
  obtain ⟨k', hk', s⟩ := A.st
  refine ⟨k', hk', World.ownsRow.kept h.own A.gr ?_, h.ll, h.good, s, adv_low A h.low⟩
  cases e : v.ownBlock with
  | none => exact .inl rfl
  | some g =>
    right
    intro e2
    have := lp_block h.own g e
    injection e2 with e2
    omega
theorem Mk.below {w : World} {a : Option Addr} {len cap : Nat} {v : Value} {L : List ByteArray} {m k : Nat} {W W' : World} (h : Mk w a len cap v L m k W) (hb : Below W.heap.size W W') : Mk w a len cap v L m k W' :=
  ⟨h.own.below hb, h.ll, h.good, h.str.below hb, h.low.trans (hb.mono h.low.size)⟩
/-- one token more -/
theorem Mk.more {w : World} {a : Option Addr} {len cap : Nat} {v v' : Value} {L : List ByteArray} {m k : Nat} {W W' : World} (hS : Sl a len w) (h : Mk w a len cap v L m k W) (x : ByteArray) (hx : isGood x.data.toList) (ho : W'.ownsRow (w.heap.size + 1) 9 1 v' (L.length + 1) (L.map Value.string ++ [.string x])) (hg : W.grownBy W' v.ownBlock) : Mk w a len cap v' (L ++ [x]) (m + 1) k W' := by
  have hr : ∀ g, v.ownBlock = some g → w.heap.size < g := fun g e => by have := lp_block h.own g e; omega
  refine ⟨?_, by simp; exact h.ll, fun y hy => ?_, lp_str hS h.str hg hr h.low, lp_low h.low hg hr⟩
  · unfold OS
    rw [List.map_append, show (L ++ [x]).length = L.length + 1 by simp]
    exact ho
  · rcases List.mem_append.1 hy with hy | hy
    · exact h.good y hy
    · rw [List.mem_singleton] at hy
      rw [hy]
      exact hx
theorem TxtRow.adv {b : Nat} {a : Option Addr} {len cap k c : Nat} {W W' : World} {g n : Nat} {f : Nat → ByteArray} (h : TxtRow W g n f) (A : Adv b a len cap k c W W') (hg : b < g) : TxtRow W' g n f := fun i hi =>
  A.gr.cell (h i hi) (fun e => by
    injection e with e
    have e2 : g = b := e
    omega)
theorem os_slice {B : Nat} {w : World} {v : Value} {l : List ByteArray} (h : OS B w v l) : ∃ ad cp, v = .slice ad l.length cp := by
  rcases h.2 with ⟨h1, h2⟩ | ⟨g, cap, cur, hv, _⟩
  · exact ⟨none, 0, by rw [h1, h2]⟩
  · exact ⟨_, _, hv⟩
theorem strB_le (i : Nat) (h : i < 4) : (strB i).size ≤ 1000 := by
  match i, h with
  | 0, _ => decide
  | 1, _ => decide
  | 2, _ => decide
  | 3, _ => decide
theorem qnB_le (i : Nat) (h : i < 4) : (qnB i).size ≤ 10 := by
  match i, h with
  | 0, _ => decide
  | 1, _ => decide
  | 2, _ => decide
  | 3, _ => decide
set_option maxRecDepth 100000 in
set_option maxHeartbeats 8000000 in
theorem tokens_made (a : Option Addr) (len cap k0 : Nat) (hk0 : k0 ≤ 10) (w W : World) (hG : PG w) (hS : Sl a len w) (hStr : Str w.heap.size a len cap k0 W) (hlow : Below w.heap.size w W) :
    Calls Tryz.prog 19 #[.pointer (some ⟨w.heap.size, 0, none⟩)] W fun e w' => ∃ v L k, e = .returned v ∧ k ≤ 100 ∧ Mk w a len cap v L 30 k w' := by
  obtain ⟨i0, hi, hz0, hz1, hz2⟩ := infoS_parts
  have HI := Lib.hid hi
  have HZ := Lib.hid (And.intro hz0 (And.intro hz1 hz2))
  clear hi hz0 hz1 hz2
  have HS := Lib.hid hS
  have HW := Lib.hid (fun (W : World) (hb : Below w.heap.size w W) => words_new W (hG.lg.below hb))
  have HN := Lib.hid (fun (W : World) (hb : Below w.heap.size w W) => signs_new W (hG.lg.below hb))
  have M0 : Mk w a len cap (.slice none 0 0) [] 0 k0 W := ⟨⟨rfl, .inl ⟨rfl, rfl⟩⟩, Nat.le_refl _, fun x hx => by simp at hx, hStr, hlow⟩
  clear hS hG hlow
  go_enter Tryz.func19, Tryz.ntmps19
  go_wp2_with (go_at_call 36; refine (range_any w.heap.size len cap a k0 0 30 (by omega) (by omega) (by omega) _ hStr).mono ?_; rintro e w1 ⟨n, ⟨_, hn⟩, rfl, A1⟩; obtain ⟨k1, hk1, M1⟩ := M0.adv A1; clear A1 M0 hStr)
  have HM1 := Lib.hid M1
  clear M1
  go_loopw [3, 6] (fun v i wr => ∃ (j : Nat) (L : List ByteArray) (k : Nat), j ≤ n ∧ i = .int .i64 (j : Int) ∧ k ≤ 20 + 2 * j ∧ Mk w a len cap v L j k wr) (fun _ i _ => n - (intOf i).toNat)
  case atStart => exact ⟨0, [], k1, Nat.zero_le _, rfl, by omega, HM1.out⟩
  case round =>
    obtain ⟨j, L, k, hj, rfl, hk, M⟩ := hrel
    obtain ⟨ad, cpv, rfl⟩ := os_slice M.own
    rename World => WR
    have hj0 : (0 : Int) ≤ (j : Int) := by omega
    by_cases hjn : j < n
    · have hji : (j : Int) < (n : Int) := by omega
      go_upto_region 6 with (go_at_call 20; refine (next_any w.heap.size len cap a k 6 (by omega) (by omega) (by omega) _ M.str).mono ?_; rintro e w2 ⟨r, hr, rfl, A2⟩; obtain ⟨k2, hk2, M2⟩ := M.adv A2; clear A2 M)
      have HM := Lib.hid M2
      clear M2
      have hr6 : r = 0 ∨ r = 1 ∨ r = 2 ∨ r = 3 ∨ r = 4 ∨ r = 5 := by omega
      rcases hr6 with rfl | rfl | rfl | rfl | rfl | rfl
      · have M := HM.out
        go_wp2_with (first
          | (go_at_call 10; refine (HN.out _ M.low).mono ?_; rintro e w3 ⟨g2, c2, rfl, l2, k2, T2, hb2⟩; replace T1 := T1.below hb2; replace M := M.below hb2; clear hb2)
          | (go_at_call 10; refine (HN.out _ M.low).mono ?_; rintro e w3 ⟨g1, c1, rfl, l1, k1, T1, hb2⟩; replace l1 := Nat.lt_of_lt_of_le M.lt l1; replace M := M.below hb2; clear hb2)
          | (go_at_call 20; refine (next_any w.heap.size len cap a _ 39 (by omega) (by omega) (by omega) _ M.str).mono ?_; rintro e w4 ⟨q, hq, rfl, A4⟩; replace T1 := T1.adv A4 l1; obtain ⟨k3, hk3, M3⟩ := M.adv A4; clear A4 M T2; have cq := T1 q (by omega); have gX := good_sign q (by omega); clear T1; generalize signB q = X at *; have Ma := M3.below (W' := w4.alloc (Obj.cells #[.string X] 9)) ((Below.refl _ _).alloc (Nat.le_refl _) _); clear M3; have hq0 : (0 : Int) ≤ (q : Int) := (by omega))
          | (at_builtin; refine wpList_append_own _ rfl _ _ 24 rfl (w.heap.size + 1) 9 i0 (.string ⟨#[]⟩) 1 16 Tryz.underlying24 HI.out HZ.out.1 HZ.out.2.1 HZ.out.2.2 rfl (by decide) _ _ _ rfl (show (w4.alloc (Obj.cells #[.string X] 9)).ownsRow (w.heap.size + 1) 9 1 _ L.length (L.map Value.string) from Ma.own) ⟨w4.heap.size, 0, none⟩ 1 1 [.string X] rfl rfl ?d1_0 ?d2_0 ?d3_0 ?d4_0 ?d5_0 ?_))
        try case d1_0 =>
          intro q u hq
          match q, hq with
          | 0, hq => simp at hq; subst hq; simp [Addr.add]
        try case d2_0 => intro u hu; simp at hu; subst hu; rfl
        try case d3_0 => have := Ma.ll; unfold maxLen; omega
        try case d4_0 => have := Ma.ll; omega
        try case d5_0 => have := Ma.lt; simp at this ⊢; omega
        intro v3 w9 hown hgrow hnil
        have M9 := Ma.more HS.out X gX hown hgrow
        clear hown hgrow hnil Ma
        go_wp2_with fail
        go_roundw
        case rel => exact ⟨j + 1, _, k3, by omega, by go_num, by omega, M9⟩
        case measure => simp [intOf] <;> omega
      · have M := HM.out
        go_wp2_with (first
          | (go_at_call 8; refine (HW.out _ M.low).mono ?_; rintro e w3 ⟨g2, c2, rfl, l2, k2, T2, hb2⟩; replace T1 := T1.below hb2; replace M := M.below hb2; clear hb2)
          | (go_at_call 8; refine (HW.out _ M.low).mono ?_; rintro e w3 ⟨g1, c1, rfl, l1, k1, T1, hb2⟩; replace l1 := Nat.lt_of_lt_of_le M.lt l1; replace M := M.below hb2; clear hb2)
          | (go_at_call 20; refine (next_any w.heap.size len cap a _ 54 (by omega) (by omega) (by omega) _ M.str).mono ?_; rintro e w4 ⟨q, hq, rfl, A4⟩; replace T1 := T1.adv A4 l1; obtain ⟨k3, hk3, M3⟩ := M.adv A4; clear A4 M T2; have cq := T1 q (by omega); have gX := good_word q (by omega); clear T1; generalize wordB q = X at *; have Ma := M3.below (W' := w4.alloc (Obj.cells #[.string X] 9)) ((Below.refl _ _).alloc (Nat.le_refl _) _); clear M3; have hq0 : (0 : Int) ≤ (q : Int) := (by omega))
          | (at_builtin; refine wpList_append_own _ rfl _ _ 24 rfl (w.heap.size + 1) 9 i0 (.string ⟨#[]⟩) 1 16 Tryz.underlying24 HI.out HZ.out.1 HZ.out.2.1 HZ.out.2.2 rfl (by decide) _ _ _ rfl (show (w4.alloc (Obj.cells #[.string X] 9)).ownsRow (w.heap.size + 1) 9 1 _ L.length (L.map Value.string) from Ma.own) ⟨w4.heap.size, 0, none⟩ 1 1 [.string X] rfl rfl ?d1_1 ?d2_1 ?d3_1 ?d4_1 ?d5_1 ?_))
        try case d1_1 =>
          intro q u hq
          match q, hq with
          | 0, hq => simp at hq; subst hq; simp [Addr.add]
        try case d2_1 => intro u hu; simp at hu; subst hu; rfl
        try case d3_1 => have := Ma.ll; unfold maxLen; omega
        try case d4_1 => have := Ma.ll; omega
        try case d5_1 => have := Ma.lt; simp at this ⊢; omega
        intro v3 w9 hown hgrow hnil
        have M9 := Ma.more HS.out X gX hown hgrow
        clear hown hgrow hnil Ma
        go_wp2_with fail
        go_roundw
        case rel => exact ⟨j + 1, _, k3, by omega, by go_num, by omega, M9⟩
        case measure => simp [intOf] <;> omega
      · have M := HM.out.below (W' := w2.alloc (Obj.cells #[.string ⟨#[48]⟩, .string ⟨#[55]⟩, .string ⟨#[49, 50, 51, 52, 53]⟩, .string ⟨#[56, 39, 104, 102, 102]⟩, .string ⟨#[52, 39, 98, 49, 48, 120, 122]⟩, .string ⟨#[51, 39, 115, 100, 50]⟩, .string ⟨#[54, 52, 39, 111, 49, 55]⟩] 9)) ((Below.refl _ _).alloc (Nat.le_refl _) _)
        have l1 := HM.out.lt
        have T1 : TxtRow (w2.alloc (Obj.cells #[.string ⟨#[48]⟩, .string ⟨#[55]⟩, .string ⟨#[49, 50, 51, 52, 53]⟩, .string ⟨#[56, 39, 104, 102, 102]⟩, .string ⟨#[52, 39, 98, 49, 48, 120, 122]⟩, .string ⟨#[51, 39, 115, 100, 50]⟩, .string ⟨#[54, 52, 39, 111, 49, 55]⟩] 9)) w2.heap.size 7 numB := fun i hi => by
          rw [World.cell?_alloc_new]
          match i, hi with
          | 0, _ => rfl
          | 1, _ => rfl
          | 2, _ => rfl
          | 3, _ => rfl
          | 4, _ => rfl
          | 5, _ => rfl
          | 6, _ => rfl
        go_wp2_with (first | (go_at_call 20; refine (next_any w.heap.size len cap a _ 7 (by omega) (by omega) (by omega) _ M.str).mono ?_; rintro e w4 ⟨q, hq, rfl, A4⟩; replace T1 := T1.adv A4 l1; obtain ⟨k3, hk3, M3⟩ := M.adv A4; clear A4 M; have cq := T1 q (by omega); clear T1; have hq0 : (0 : Int) ≤ (q : Int) := (by omega); have gX := good_num q (by omega); generalize numB q = X at *; have Ma := M3.below (W' := w4.alloc (Obj.cells #[.string X] 9)) ((Below.refl _ _).alloc (Nat.le_refl _) _); clear M3) | (at_builtin; refine wpList_append_own _ rfl _ _ 24 rfl (w.heap.size + 1) 9 i0 (.string ⟨#[]⟩) 1 16 Tryz.underlying24 HI.out HZ.out.1 HZ.out.2.1 HZ.out.2.2 rfl (by decide) _ _ _ rfl (show (w4.alloc (Obj.cells #[.string X] 9)).ownsRow (w.heap.size + 1) 9 1 _ L.length (L.map Value.string) from Ma.own) ⟨w4.heap.size, 0, none⟩ 1 1 [.string X] rfl rfl ?d1_2 ?d2_2 ?d3_2 ?d4_2 ?d5_2 ?_))
        try case d1_2 =>
          intro q u hq
          match q, hq with
          | 0, hq => simp at hq; subst hq; simp [Addr.add]
        try case d2_2 => intro u hu; simp at hu; subst hu; rfl
        try case d3_2 => have := Ma.ll; unfold maxLen; omega
        try case d4_2 => have := Ma.ll; omega
        try case d5_2 => have := Ma.lt; simp at this ⊢; omega
        intro v3 w9 hown hgrow hnil
        have M9 := Ma.more HS.out X gX hown hgrow
        clear hown hgrow hnil Ma
        go_wp2_with fail
        go_roundw
        case rel => exact ⟨j + 1, _, k3, by omega, by go_num, by omega, M9⟩
        case measure => simp [intOf] <;> omega
      · have M := HM.out.below (W' := w2.alloc (Obj.cells #[.string ⟨#[]⟩, .string ⟨#[97, 32, 98]⟩, .string ⟨#[120, 34, 121]⟩, .string ⟨#[92]⟩] 9)) ((Below.refl _ _).alloc (Nat.le_refl _) _)
        have l1 := HM.out.lt
        have T1 : TxtRow (w2.alloc (Obj.cells #[.string ⟨#[]⟩, .string ⟨#[97, 32, 98]⟩, .string ⟨#[120, 34, 121]⟩, .string ⟨#[92]⟩] 9)) w2.heap.size 4 strB := fun i hi => by
          rw [World.cell?_alloc_new]
          match i, hi with
          | 0, _ => rfl
          | 1, _ => rfl
          | 2, _ => rfl
          | 3, _ => rfl
        go_wp2_with (first
          | (go_at_call 20; refine (next_any w.heap.size len cap a _ 4 (by omega) (by omega) (by omega) _ M.str).mono ?_; rintro e w4 ⟨q, hq, rfl, A4⟩; replace T1 := T1.adv A4 l1; obtain ⟨k3, hk3, M3⟩ := M.adv A4; clear A4 M; have cq := T1 q (by omega); clear T1; have hq0 : (0 : Int) ≤ (q : Int) := (by omega))
          | (go_at_call 16; refine (quote_any (strB q) (strB_le q (by omega)) _).mono ?_; rintro e w5 ⟨rfl, hb5⟩; replace M3 := M3.below hb5; clear cq hb5; have gX := good_str q (by omega); generalize qbs (quoL (strB q).data.toList) = X at *; have Ma := M3.below (W' := w5.alloc (Obj.cells #[.string X] 9)) ((Below.refl _ _).alloc (Nat.le_refl _) _); clear M3)
          | (at_builtin; refine wpList_append_own _ rfl _ _ 24 rfl (w.heap.size + 1) 9 i0 (.string ⟨#[]⟩) 1 16 Tryz.underlying24 HI.out HZ.out.1 HZ.out.2.1 HZ.out.2.2 rfl (by decide) _ _ _ rfl (show (w5.alloc (Obj.cells #[.string X] 9)).ownsRow (w.heap.size + 1) 9 1 _ L.length (L.map Value.string) from Ma.own) ⟨w5.heap.size, 0, none⟩ 1 1 [.string X] rfl rfl ?d1_3 ?d2_3 ?d3_3 ?d4_3 ?d5_3 ?_))
        try case d1_3 =>
          intro q u hq
          match q, hq with
          | 0, hq => simp at hq; subst hq; simp [Addr.add]
        try case d2_3 => intro u hu; simp at hu; subst hu; rfl
        try case d3_3 => have := Ma.ll; unfold maxLen; omega
        try case d4_3 => have := Ma.ll; omega
        try case d5_3 => have := Ma.lt; simp at this ⊢; omega
        intro v3 w9 hown hgrow hnil
        have M9 := Ma.more HS.out X gX hown hgrow
        clear hown hgrow hnil Ma
        go_wp2_with fail
        go_roundw
        case rel => exact ⟨j + 1, _, k3, by omega, by go_num, by omega, M9⟩
        case measure => simp [intOf] <;> omega
      · have M := HM.out.below (W' := w2.alloc (Obj.cells #[.string ⟨#[43]⟩, .string ⟨#[47, 42]⟩, .string ⟨#[49, 39, 98, 48]⟩, .string ⟨#[47, 47]⟩] 9)) ((Below.refl _ _).alloc (Nat.le_refl _) _)
        have l1 := HM.out.lt
        have T1 : TxtRow (w2.alloc (Obj.cells #[.string ⟨#[43]⟩, .string ⟨#[47, 42]⟩, .string ⟨#[49, 39, 98, 48]⟩, .string ⟨#[47, 47]⟩] 9)) w2.heap.size 4 qnB := fun i hi => by
          rw [World.cell?_alloc_new]
          match i, hi with
          | 0, _ => rfl
          | 1, _ => rfl
          | 2, _ => rfl
          | 3, _ => rfl
        go_wp2_with (first | (go_at_call 20; refine (next_any w.heap.size len cap a _ 4 (by omega) (by omega) (by omega) _ M.str).mono ?_; rintro e w4 ⟨q, hq, rfl, A4⟩; replace T1 := T1.adv A4 l1; obtain ⟨k3, hk3, M3⟩ := M.adv A4; clear A4 M; have cq := T1 q (by omega); clear T1; have hq0 : (0 : Int) ≤ (q : Int) := (by omega); have gX := good_qn q (by omega); have hz := qnB_le q (by omega); have h92 : (ByteArray.mk #[92, 113]).size = 2 := rfl; have Ma := M3.below (W' := w4.alloc (Obj.cells #[.string (⟨#[92, 113]⟩ ++ qnB q)] 9)) ((Below.refl _ _).alloc (Nat.le_refl _) _); clear M3) | (at_builtin; refine wpList_append_own _ rfl _ _ 24 rfl (w.heap.size + 1) 9 i0 (.string ⟨#[]⟩) 1 16 Tryz.underlying24 HI.out HZ.out.1 HZ.out.2.1 HZ.out.2.2 rfl (by decide) _ _ _ rfl (show (w4.alloc (Obj.cells #[.string (⟨#[92, 113]⟩ ++ qnB q)] 9)).ownsRow (w.heap.size + 1) 9 1 _ L.length (L.map Value.string) from Ma.own) ⟨w4.heap.size, 0, none⟩ 1 1 [.string (⟨#[92, 113]⟩ ++ qnB q)] rfl rfl ?d1_4 ?d2_4 ?d3_4 ?d4_4 ?d5_4 ?_))
        try case d1_4 =>
          intro q u hq
          match q, hq with
          | 0, hq => simp at hq; subst hq; simp [Addr.add]
        try case d2_4 => intro u hu; simp at hu; subst hu; rfl
        try case d3_4 => have := Ma.ll; unfold maxLen; omega
        try case d4_4 => have := Ma.ll; omega
        try case d5_4 => have := Ma.lt; simp at this ⊢; omega
        intro v3 w9 hown hgrow hnil
        have M9 := Ma.more HS.out (⟨#[92, 113]⟩ ++ qnB q) gX hown hgrow
        clear hown hgrow hnil Ma
        go_wp2_with fail
        go_roundw
        case rel => exact ⟨j + 1, _, k3, by omega, by go_num, by omega, M9⟩
        case measure => simp [intOf] <;> omega
      · have M := HM.out.below (W' := w2.alloc (Obj.cells #[.string ⟨#[97]⟩, .string ⟨#[98, 49]⟩, .string ⟨#[95]⟩, .string ⟨#[119, 104, 105, 108]⟩, .string ⟨#[77, 111, 100, 117, 108, 101]⟩] 9)) ((Below.refl _ _).alloc (Nat.le_refl _) _)
        have l1 := HM.out.lt
        have T1 : TxtRow (w2.alloc (Obj.cells #[.string ⟨#[97]⟩, .string ⟨#[98, 49]⟩, .string ⟨#[95]⟩, .string ⟨#[119, 104, 105, 108]⟩, .string ⟨#[77, 111, 100, 117, 108, 101]⟩] 9)) w2.heap.size 5 namB := fun i hi => by
          rw [World.cell?_alloc_new]
          match i, hi with
          | 0, _ => rfl
          | 1, _ => rfl
          | 2, _ => rfl
          | 3, _ => rfl
          | 4, _ => rfl
        go_wp2_with (first | (go_at_call 20; refine (next_any w.heap.size len cap a _ 5 (by omega) (by omega) (by omega) _ M.str).mono ?_; rintro e w4 ⟨q, hq, rfl, A4⟩; replace T1 := T1.adv A4 l1; obtain ⟨k3, hk3, M3⟩ := M.adv A4; clear A4 M; have cq := T1 q (by omega); clear T1; have hq0 : (0 : Int) ≤ (q : Int) := (by omega); have gX := good_nam q (by omega); generalize namB q = X at *; have Ma := M3.below (W' := w4.alloc (Obj.cells #[.string X] 9)) ((Below.refl _ _).alloc (Nat.le_refl _) _); clear M3) | (at_builtin; refine wpList_append_own _ rfl _ _ 24 rfl (w.heap.size + 1) 9 i0 (.string ⟨#[]⟩) 1 16 Tryz.underlying24 HI.out HZ.out.1 HZ.out.2.1 HZ.out.2.2 rfl (by decide) _ _ _ rfl (show (w4.alloc (Obj.cells #[.string X] 9)).ownsRow (w.heap.size + 1) 9 1 _ L.length (L.map Value.string) from Ma.own) ⟨w4.heap.size, 0, none⟩ 1 1 [.string X] rfl rfl ?d1_5 ?d2_5 ?d3_5 ?d4_5 ?d5_5 ?_))
        try case d1_5 =>
          intro q u hq
          match q, hq with
          | 0, hq => simp at hq; subst hq; simp [Addr.add]
        try case d2_5 => intro u hu; simp at hu; subst hu; rfl
        try case d3_5 => have := Ma.ll; unfold maxLen; omega
        try case d4_5 => have := Ma.ll; omega
        try case d5_5 => have := Ma.lt; simp at this ⊢; omega
        intro v3 w9 hown hgrow hnil
        have M9 := Ma.more HS.out X gX hown hgrow
        clear hown hgrow hnil Ma
        go_wp2_with fail
        go_roundw
        case rel => exact ⟨j + 1, _, k3, by omega, by go_num, by omega, M9⟩
        case measure => simp [intOf] <;> omega
    · obtain rfl : j = n := by omega
      go_wp2_with fail
      go_ret
      exact ⟨_, L, k, rfl, by omega, ⟨M.own, Nat.le_trans M.ll hn, M.good, M.str, M.low⟩⟩
end Go.Proofs.YtogmipbdnffegaaGreatDoor
