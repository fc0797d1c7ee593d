/- The names of the bits of a signal: all of them, by the program and by the reference. -/
import Derived.Test.YtmimihjbepjnfaaGreatDoorDnBits
import Derived.Test.YtmimihjbepjnfaaGreatDoorDnRow
namespace Go.Proofs.YtmimihjbepjnfaaGreatDoor
open Go Go.RowKit Go.Sort
set_option linter.unusedVariables false
def rowE (s : ByteArray) (E W e k : Nat) : List ByteArray := (List.range k).map (bitB s E W e)
def allE (s : ByteArray) (E W : Nat) : Nat → List ByteArray
  | 0 => []
  | e + 1 => allE s E W e ++ rowE s E W e W
theorem rowE_snoc (s : ByteArray) (E W e k : Nat) : rowE s E W e (k + 1) = rowE s E W e k ++ [bitB s E W e k] := by
  unfold rowE; rw [List.range_succ, List.map_append]; rfl
theorem allE_len (s : ByteArray) (E W : Nat) : ∀ e, (allE s E W e).length = e * W
  | 0 => by simp [allE]
  | e + 1 => by simp [allE, allE_len s E W e, rowE, Nat.succ_mul]
/-- a signal in memory -/
structure SG (g : Nat) (s : ByteArray) (a b W : Int) (f : Bool) (E : Int) (l : Value) (w : World) : Prop where
  c0 : w.cell? ⟨g, 0, none⟩ = some (.string s)
  c1 : w.cell? ⟨g, 1, none⟩ = some (.int .i64 a)
  c2 : w.cell? ⟨g, 2, none⟩ = some (.int .i64 b)
  c3 : w.cell? ⟨g, 3, none⟩ = some (.int .i64 W)
  c4 : w.cell? ⟨g, 4, none⟩ = some (.bool f)
  c5 : w.cell? ⟨g, 5, none⟩ = some (.int .i64 E)
  c6 : w.cell? ⟨g, 6, none⟩ = some l
theorem os_slice {B : Nat} {w : World} {v : Value} {l : List ByteArray} (h : OS B w v l) : ∃ ad cp, v = .slice ad l.length cp := by
  rcases h.2 with ⟨h1, h0⟩ | ⟨g, cap, cur, hv, _⟩
  · exact ⟨none, 0, by rw [h1, h0]⟩
  · exact ⟨_, _, hv⟩
variable {g : Nat} {s : ByteArray} {a b W : Int} {f : Bool} {E : Int} {l : Value} {w w' : World}
theorem SG.lt (h : SG g s a b W f E l w) : g < w.heap.size := World.block_lt_of_cell? w _ h.c0
theorem SG.below (h : SG g s a b W f E l w) (hb : Below w.heap.size w w') : SG g s a b W f E l w' := by
  have hl := h.lt
  have e := fun k => hb.cell (p := ⟨g, k, none⟩) hl
  exact ⟨(e 0).trans h.c0, (e 1).trans h.c1, (e 2).trans h.c2, (e 3).trans h.c3, (e 4).trans h.c4, (e 5).trans h.c5, (e 6).trans h.c6⟩
theorem SG.mono {B : Nat} (h : SG g s a b W f E l w) (hb : Below B w w') (hg : g < B) : SG g s a b W f E l w' := by
  have e := fun k => hb.cell (p := ⟨g, k, none⟩) hg
  exact ⟨(e 0).trans h.c0, (e 1).trans h.c1, (e 2).trans h.c2, (e 3).trans h.c3, (e 4).trans h.c4, (e 5).trans h.c5, (e 6).trans h.c6⟩
theorem SG.new (w : World) (s : ByteArray) (a b W : Int) (f : Bool) (E : Int) (l : Value) : SG w.heap.size s a b W f E l (w.alloc (.cells #[.string s, .int .i64 a, .int .i64 b, .int .i64 W, .bool f, .int .i64 E, l] 24)) := by
  constructor <;> go_simp
set_option maxRecDepth 100000 in
set_option maxHeartbeats 1600000 in
theorem bits_none (s : ByteArray) (a b W E : Int) (f : Bool) (l : Value) (h : hasB W E = false) (w : World) : Calls Tryz.prog 11 #[.agg #[.string s, .int .i64 a, .int .i64 b, .int .i64 W, .bool f, .int .i64 E, l]] w fun e w' => e = .returned (.slice none 0 0) ∧ Below w.heap.size w w' := by
  have H := fun W1 => has_any s a b W E f l W1
  rw [h] at H
  have HH := Lib.hid H
  clear H h
  go_enter Tryz.func11, Tryz.ntmps11
  go_upto_region 1 with fail
  have bel := (Below.refl w.heap.size w).alloc (Nat.le_refl _) (.cells #[.string s, .int .i64 a, .int .i64 b, .int .i64 W, .bool f, .int .i64 E, l] 24)
  have S := SG.new w s a b W f E l
  generalize w.alloc (.cells #[.string s, .int .i64 a, .int .i64 b, .int .i64 W, .bool f, .int .i64 E, l] 24) = W0 at bel S ⊢
  obtain ⟨s0, s1, s2, s3, s4, s5, s6⟩ := id S
  go_wp2_with (first | (with_reducible refine (HH.out _).mono ?_; rintro e w3 ⟨rfl, hb3⟩))
  go_ret
  exact ⟨rfl, bel.trans (hb3.mono bel.size)⟩
set_option maxRecDepth 100000 in
set_option maxHeartbeats 8000000 in
theorem bits_some (s : ByteArray) (a b : Int) (W E : Nat) (f : Bool) (l : Value) (hs : s.size ≤ 1000) (hW1 : 1 ≤ W) (hW2 : W ≤ 64) (hE1 : 1 ≤ E) (hE2 : E ≤ 32) (w : World) : Calls Tryz.prog 11 #[.agg #[.string s, .int .i64 a, .int .i64 b, .int .i64 W, .bool f, .int .i64 E, l]] w fun e w' => ∃ v, e = .returned v ∧ OS (w.heap.size + 1) w' v (allE s E W E) ∧ Below w.heap.size w w' := by
  obtain ⟨i0, hi, hz0, hz1, hz2⟩ := infoS_parts
  have H := fun W1 => has_any s a b W E f l W1
  rw [show hasB W E = true by simp [hasB]; omega] at H
  have HH := Lib.hid H
  clear H
  go_enter Tryz.func11, Tryz.ntmps11
  go_upto_region 1 with fail
  have bel := (Below.refl w.heap.size w).alloc (Nat.le_refl _) (.cells #[.string s, .int .i64 a, .int .i64 b, .int .i64 W, .bool f, .int .i64 E, l] 24)
  have S := SG.new w s a b W f E l
  generalize w.alloc (.cells #[.string s, .int .i64 a, .int .i64 b, .int .i64 W, .bool f, .int .i64 E, l] 24) = W0 at bel S ⊢
  generalize hg : w.heap.size = g at S ⊢
  have HG := Lib.hid hg
  clear hg
  obtain ⟨s0, s1, s2, s3, s4, s5, s6⟩ := id S
  go_upto_region 3 with (first | (with_reducible refine (HH.out _).mono ?_; rintro e w3 ⟨rfl, hb3⟩))
  replace bel := bel.trans (hb3.mono bel.size)
  replace S := S.below hb3
  clear s0 s1 s2 s3 s4 s5 s6 hb3 HH
  obtain ⟨s0, s1, s2, s3, s4, s5, s6⟩ := id S
  go_upto_block 0 with fail
  clear s0 s1 s2 s3 s4 s5 s6
  go_wp2_with fail
  go_loopw [3, 11] (fun v i wr => ∃ e : Nat, e ≤ E ∧ i = .int .i64 (e : Int) ∧ Hid (OS (w.heap.size + 1) wr v (allE s E W e)) ∧ Hid (SG g s a b W f E l wr) ∧ Hid (Below w.heap.size w wr)) (fun _ i _ => E - (intOf i).toNat)
  case atStart => exact ⟨0, Nat.zero_le _, rfl, Lib.hid (World.ownsRow_nil _ _ _ _), Lib.hid S, Lib.hid bel⟩
  case round =>
    obtain ⟨e, he, rfl, hO, hS, hB⟩ := hrel
    have he0 : (0 : Int) ≤ (e : Int) := by omega
    by_cases hlt : e < E
    · have hei : (e : Int) < (E : Int) := by omega
      obtain ⟨s0, s1, s2, s3, s4, s5, s6⟩ := id hS.out
      go_upto_block 2 with fail
      clear s0 s1 s2 s3 s4 s5 s6
      go_wp2_with fail
      go_loopw [3, 16] (fun v i wi => ∃ k : Nat, k ≤ W ∧ i = .int .i64 (k : Int) ∧ Hid (OS (w.heap.size + 1) wi v (allE s E W e ++ rowE s E W e k)) ∧ Hid (SG g s a b W f E l wi) ∧ Hid (Below w.heap.size w wi)) (fun _ i _ => W - (intOf i).toNat)
      case atStart => exact ⟨0, Nat.zero_le _, rfl, by rw [show allE s E W e ++ rowE s E W e 0 = allE s E W e by simp [rowE]]; exact hO, hS, hB⟩
      case round =>
        obtain ⟨k, hk, rfl, hO2, hS2, hB2⟩ := hrel
        rename World => WK
        have hk0 : (0 : Int) ≤ (k : Int) := by omega
        by_cases hlt2 : k < W
        · have hki : (k : Int) < (W : Int) := by omega
          have HN : Hid (allE s E W e ++ rowE s E W e (k + 1) = (allE s E W e ++ rowE s E W e k) ++ [bitB s E W e k]) := Lib.hid (by rw [rowE_snoc, List.append_assoc])
          have HLn : (allE s E W e ++ rowE s E W e k).length ≤ 3000 := by
            rw [List.length_append, allE_len]
            simp only [rowE, List.length_map, List.length_range]
            have : e * W ≤ 32 * 64 := Nat.mul_le_mul (by omega) hW2
            omega
          have O2 := hO2.out
          have b2 := hB2.out
          have S2 := hS2.out
          clear hO2 hB2 hS2 hO hB hS
          generalize allE s E W e ++ rowE s E W e k = L at HN HLn O2
          obtain ⟨ad, cpv, rfl⟩ := os_slice O2
          have z2 := S2.lt
          obtain ⟨s0, s1, s2, s3, s4, s5, s6⟩ := id S2
          have hbn := fun W1 => bitName_any s a b W E e k f l hs (by omega) (by omega) W1
          generalize bitB s E W e k = x at HN hbn
          have HBN := Lib.hid hbn
          clear hbn
          go_upto_region 10 with fail
          go_wp2_with (first | (go_at_call 28; refine (HBN.out _).mono ?_; rintro e' w3 ⟨rfl, hb3⟩; have O3 := (O2.below hb3).below (w' := w3.alloc (Obj.cells #[.string x] 9)) ((Below.refl _ _).alloc (Nat.le_refl _) _); have b3 := b2.trans (hb3.mono b2.size); replace S2 := S2.below hb3; clear O2 b2 hb3) | (at_builtin; refine wpList_append_own _ rfl _ _ 28 rfl (w.heap.size + 1) 9 i0 (.string ⟨#[]⟩) 1 16 Tryz.underlying28 hi hz0 hz1 hz2 rfl (by decide) _ _ _ rfl (show (w3.alloc (Obj.cells #[.string x] 9)).ownsRow (w.heap.size + 1) 9 1 _ L.length (L.map Value.string) from O3) ⟨w3.heap.size, 0, none⟩ 1 1 [.string x] rfl rfl ?d1 ?d2 ?d3 ?d4 ?d5 ?_))
          try case d1 =>
            intro q u hq
            match q, hq with
            | 0, hq => simp at hq; subst hq; simp [Addr.add]
          case d2 => first | (intro u hu; simp at hu; subst hu; rfl) | rfl
          case d3 => unfold maxLen; omega
          case d4 => omega
          case d5 => have := b3.size; simp; omega
          intro v5 w5 hown5 hgr5 _
          have hown6 : OS (w.heap.size + 1) w5 v5 (L ++ [x]) := by
            unfold OS
            simpa using hown5
          have hlow : Below (w.heap.size + 1) w3 w5 := ((Below.refl (w.heap.size + 1) w3).alloc (by have := S2.lt; have := HG.out; omega) _).grown hgr5 (by have := S2.lt; have := HG.out; simp; omega) (fun q hq => (World.ownsRow.lt O3 q hq).1)
          have S5 := S2.mono hlow (by have := HG.out; omega)
          have b5 : Below w.heap.size w w5 := b3.trans (hlow.mono (by omega))
          clear hown5 hgr5 O3 hlow b3 S2
          have HO6 := Lib.hid hown6
          have HS6 := Lib.hid S5
          have HB6 := Lib.hid b5
          clear hown6 S5 b5
          go_wp2_with fail
          go_roundw
          case rel => exact ⟨k + 1, by omega, by go_num, by rw [HN.out]; exact HO6, HS6, HB6⟩
          case measure => first | done | (simp [intOf]; done) | (simp [intOf]; omega)
        · obtain rfl : k = W := by omega
          have HO7 : Hid (OS (w.heap.size + 1) WK _ (allE s E k (e + 1))) := hO2
          have hki : ¬ (k : Int) < (k : Int) := by omega
          go_wp2_with fail
          go_roundw
          case rel => exact ⟨e + 1, by omega, by go_num, HO7, hS2, hB2⟩
          case measure => first | done | (simp [intOf]; done) | (simp [intOf]; omega)
    · obtain rfl : e = E := by omega
      have hei : ¬ (e : Int) < (e : Int) := by omega
      go_wp2_with fail
      go_ret
      exact ⟨_, rfl, hO.out, hB.out⟩
end Go.Proofs.YtmimihjbepjnfaaGreatDoor
