/- Package note: the text of a valid message is read back. -/
import Derived.Test.YtmeofhjnckgcpaaDoorNoteMath2
namespace Go.Proofs.YtmeofhjnckgcpaaDoor
open Go Go.RowKit
set_option linter.unusedVariables false
abbrev Mx (w : World) : Prop := ∃ m : Int, w.cell? ⟨1, 0, none⟩ = some (.int .i64 m)
theorem Mx.on {B : Nat} {w w' : World} (h : Mx w) (hb : Below B w w') (hB : 1 < B) : Mx w' := by
  obtain ⟨m, hm⟩ := h
  exact ⟨m, (hb.cell (p := ⟨1, 0, none⟩) hB).trans hm⟩
theorem Mx.lt {w : World} (h : Mx w) : 1 < w.heap.size := by obtain ⟨m, hm⟩ := h; exact World.block_lt_of_cell? w _ hm
theorem Mx.here {w w' : World} (h : Mx w) (hb : Below w.heap.size w w') : Mx w' := h.on hb h.lt
set_option maxRecDepth 100000 in
set_option maxHeartbeats 1000000 in
theorem read_ok (s f t : ByteArray) (l c e : Int) (hf : f.size ≤ 9223372036854775807) (ht : t.size ≤ 9223372036854775807) (hk : Hid (noteChk f.data.toList l c e t.data.toList = 0))
    (hT : Hid (∀ (B : Nat) (w : World), NGlob B w → Mx w → Calls Tryd.prog 40 #[.string s] w fun e' w' => e' = .returned (.tuple #[.agg #[.string f, .int .i64 l, .int .i64 c, .int .i64 e, .string t], .bool true]) ∧ Below w.heap.size w w'))
    {B : Nat} (w : World) (hG : NGlob B w) (hM : Mx w) :
    Calls Tryd.prog 19 #[.string s] w fun e' w' => e' = .returned (.tuple #[.agg #[.string f, .int .i64 l, .int .i64 c, .int .i64 e, .string t], .int .i64 0]) ∧ Below w.heap.size w w' := by
  have HG := Lib.hid hG
  have HM := Lib.hid hM
  clear hG hM
  go_enter Tryd.func19, Tryd.ntmps19
  go_wp2_with fail
  refine (hT.out _ _ (HG.out.here ((Below.refl _ _).alloc (Nat.le_refl _) _)) (HM.out.here ((Below.refl _ _).alloc (Nat.le_refl _) _))).mono ?_
  rintro e' w1 ⟨rfl, hb1⟩
  obtain ⟨hc1, hf1⟩ := bcell hb1
  have z1 : w.heap.size < w1.heap.size := bsize hb1 (by first | omega | (simp <;> omega))
  have G1 := (HG.out.here ((Below.refl _ _).alloc (Nat.le_refl _) _)).here hb1
  have b1 : Below w.heap.size w w1 := ((Below.refl _ _).alloc (Nat.le_refl _) _).trans (hb1.mono (by simp))
  have x0 : w1.cell? ⟨w.heap.size, 0, none⟩ = some (.string ⟨#[]⟩) := by rw [hc1 _ _ (by simp)]; go_simp
  have x1 : w1.cell? ⟨w.heap.size, 1, none⟩ = some (.int .i64 0) := by rw [hc1 _ _ (by simp)]; go_simp
  have x2 : w1.cell? ⟨w.heap.size, 2, none⟩ = some (.int .i64 0) := by rw [hc1 _ _ (by simp)]; go_simp
  have x3 : w1.cell? ⟨w.heap.size, 3, none⟩ = some (.int .i64 0) := by rw [hc1 _ _ (by simp)]; go_simp
  have x4 : w1.cell? ⟨w.heap.size, 4, none⟩ = some (.string ⟨#[]⟩) := by rw [hc1 _ _ (by simp)]; go_simp
  have xf : ∀ o, w1.frozen? ⟨w.heap.size, o, none⟩ = false := fun o => by rw [hf1 _ _ (by simp)]; go_simp
  have HG1 := Lib.hid G1
  have HB1 := Lib.hid b1
  clear hc1 hf1 hb1 G1 b1
  go_wp2_with fail
  refine (chk_any f t l c e hf ht _ (HG1.out.here ((Below.refl _ _).alloc (Nat.le_refl _) _))).mono ?_
  rintro e' w2 ⟨rfl, hb2⟩
  rw [hk.out]
  have X : MsgAt (w1.alloc (Obj.cells #[Value.string f, Value.int IntKind.i64 l, Value.int IntKind.i64 c, Value.int IntKind.i64 e, Value.string t] 24)) w1.heap.size f l c e t := ⟨by go_simp, by go_simp, by go_simp, by go_simp, by go_simp, fun o => by go_simp⟩
  have Y : MsgAt (w1.alloc (Obj.cells #[Value.string f, Value.int IntKind.i64 l, Value.int IntKind.i64 c, Value.int IntKind.i64 e, Value.string t] 24)) w.heap.size ⟨#[]⟩ 0 0 0 ⟨#[]⟩ := ⟨by go_simp, by go_simp, by go_simp, by go_simp, by go_simp, fun o => by go_simp⟩
  have hz0 : w.heap.size < (w1.alloc (Obj.cells #[Value.string f, Value.int IntKind.i64 l, Value.int IntKind.i64 c, Value.int IntKind.i64 e, Value.string t] 24)).heap.size := by simp; omega
  have hz1 : w1.heap.size < (w1.alloc (Obj.cells #[Value.string f, Value.int IntKind.i64 l, Value.int IntKind.i64 c, Value.int IntKind.i64 e, Value.string t] 24)).heap.size := by simp
  have b2 : Below w.heap.size w w2 := (HB1.out.alloc HB1.out.size _).trans (hb2.mono (by simp; omega))
  obtain ⟨hc2, hf2⟩ := bcell hb2
  have p0 := (hc2 _ 0 hz1).trans X.c0
  have p1 := (hc2 _ 1 hz1).trans X.c1
  have p2 := (hc2 _ 2 hz1).trans X.c2
  have p3 := (hc2 _ 3 hz1).trans X.c3
  have p4 := (hc2 _ 4 hz1).trans X.c4
  have r0 := (hc2 _ 0 hz0).trans Y.c0
  have r1 := (hc2 _ 1 hz0).trans Y.c1
  have r2 := (hc2 _ 2 hz0).trans Y.c2
  have r3 := (hc2 _ 3 hz0).trans Y.c3
  have r4 := (hc2 _ 4 hz0).trans Y.c4
  have rf : ∀ o, w2.frozen? ⟨w.heap.size, o, none⟩ = false := fun o => (hf2 _ o hz0).trans (Y.fz o)
  have hz2 : w.heap.size < w2.heap.size := World.block_lt_of_cell? w2 _ r0
  have hne : w.heap.size ≠ w1.heap.size := by omega
  clear hc2 hf2 X Y hz0 hz1 x0 x1 x2 x3 x4 xf hb2 HB1 HG1
  generalize w1.heap.size = g1 at p0 p1 p2 p3 p4 hne ⊢
  go_wp2_with fail
  exact bodyPost_ret (v := .tuple #[.agg #[.string f, .int .i64 l, .int .i64 c, .int .i64 e, .string t], .int .i64 0]) (by simp [results, Tryd.results19, go_sem, r0, r1, r2, r3, r4]) rfl ⟨rfl, by (repeat (first | (with_reducible exact b2) | (with_reducible exact Nat.le_refl _) | (with_reducible refine Below.setCell ?_ ?_ _) | (with_reducible refine Below.alloc ?_ ?_ _) | (with_reducible refine below_drewN ?_ _) | (with_reducible refine Below.drew ?_))) <;> (first | omega | (simp <;> omega))⟩
/-- the tail of a message's text -/
def tailL (t : ByteArray) : List UInt8 := if t.toList.isEmpty then [] else 32 :: t.data.toList
theorem ba_list (l : List UInt8) : (⟨l.toArray⟩ : ByteArray).data.toList = l := by simp
theorem ba_size (l : List UInt8) : (⟨l.toArray⟩ : ByteArray).size = l.length := by show l.toArray.size = _; simp
theorem take_it (s f t : ByteArray) (l c : Int) (j : Nat) (hs : s.size ≤ 1000000) (hf : ∀ x ∈ f.data.toList, x ≠ 58) (l1 : 1 ≤ l) (l2 : l ≤ 16000) (c1 : 1 ≤ c) (c2 : c ≤ 16001) (j1 : 1 ≤ j) (j2 : j < 23)
    (hS : s.data.toList = f.data.toList ++ 58 :: (Lib.itoa l ++ 58 :: (Lib.itoa c ++ 58 :: 32 :: (wordsL.getD j [] ++ tailL t)))) (B : Nat) (w : World) (hG : NGlob B w) (hM : Mx w) :
    Calls Tryd.prog 40 #[.string s] w fun e' w' => e' = .returned (.tuple #[.agg #[.string f, .int .i64 l, .int .i64 c, .int .i64 j, .string t], .bool true]) ∧ Below w.heap.size w w' := by
  have hlen : s.data.toList.length ≤ 1000000 := by rw [len_toList]; exact hs
  rw [hS] at hlen
  simp only [List.length_append, List.length_cons] at hlen
  have i1 : ∀ n : Int, 1 ≤ n → n ≤ 16001 → ∀ x ∈ Lib.itoa n, x ≠ 58 := fun n h1 h2 => by
    rw [itoa_nat n (by omega)]
    exact wi_ne (dec_wi n.toNat n.toNat (Nat.le_refl _)) 58 (Or.inr (by decide))
  have k1 := cut_at f.data.toList (Lib.itoa l ++ 58 :: (Lib.itoa c ++ 58 :: 32 :: (wordsL.getD j [] ++ tailL t))) hf
  have k2 := cut_at (Lib.itoa l) (Lib.itoa c ++ 58 :: 32 :: (wordsL.getD j [] ++ tailL t)) (i1 l l1 (by omega))
  have k3 := cut_at (Lib.itoa c) (32 :: (wordsL.getD j [] ++ tailL t)) (i1 c c1 c2)
  have hw := words_no32 ⟨j, j2⟩
  obtain ⟨T, b4, k4, hT2⟩ : ∃ (T : List UInt8) (b4 : Bool), Lib.cut (wordsL.getD j [] ++ tailL t) [32] = (wordsL.getD j [], t.data.toList, b4) ∧ ((¬ t.toList = [] ∧ t.toList.isEmpty = false) ∨ (t.toList = [] ∧ t.toList.isEmpty = true ∧ b4 = false)) := by
    unfold tailL
    cases ht : t.toList.isEmpty
    · have h1 : ¬ t.toList = [] := by simpa using ht
      exact ⟨[], true, by simp only [Bool.false_eq_true, if_false]; exact cut_at _ _ hw, Or.inl ⟨h1, rfl⟩⟩
    · have h1 : t.toList = [] := by simpa using ht
      refine ⟨[], false, ?_, Or.inr ⟨h1, rfl, rfl⟩⟩
      simp only [if_true, List.append_nil]
      rw [cut_no _ hw, ← Lib.toList_data, h1]
  have z1 : (⟨(Lib.itoa l ++ 58 :: (Lib.itoa c ++ 58 :: 32 :: (wordsL.getD j [] ++ tailL t))).toArray⟩ : ByteArray).size ≤ 1000000 := by rw [ba_size]; simp only [List.length_append, List.length_cons]; omega
  have z2 : (⟨(Lib.itoa c ++ 58 :: 32 :: (wordsL.getD j [] ++ tailL t)).toArray⟩ : ByteArray).size ≤ 1000000 := by rw [ba_size]; simp only [List.length_append, List.length_cons]; omega
  have z4 : (⟨(wordsL.getD j [] ++ tailL t).toArray⟩ : ByteArray).size ≤ 1000000 := by rw [ba_size]; simp only [List.length_append]; omega
  exact takeApart_ok s ⟨(Lib.itoa l ++ 58 :: (Lib.itoa c ++ 58 :: 32 :: (wordsL.getD j [] ++ tailL t))).toArray⟩ ⟨(Lib.itoa c ++ 58 :: 32 :: (wordsL.getD j [] ++ tailL t)).toArray⟩ ⟨(32 :: (wordsL.getD j [] ++ tailL t)).toArray⟩ ⟨(wordsL.getD j [] ++ tailL t).toArray⟩ f ⟨(Lib.itoa l).toArray⟩ ⟨(Lib.itoa c).toArray⟩ (wordB j) t b4 l c j hs z1 z2 z4
    (Lib.hid (by rw [hS, ba_list]; exact k1)) (Lib.hid (by rw [ba_list, ba_list, ba_list]; exact k2)) (Lib.hid (by rw [ba_list, ba_list, ba_list]; exact k3))
    (Lib.hid (by rw [ba_list, ba_list]; rfl)) (Lib.hid (by rw [ba_list]; rfl)) (Lib.hid (by rw [ba_list]; exact k4))
    (Lib.hid (number_itoa l l1 (by omega))) (Lib.hid (number_itoa c c1 c2)) (Lib.hid (by rw [code_of j1 j2])) (by omega) (by omega) (by omega) hT2 w hG hM
end Go.Proofs.YtmeofhjnckgcpaaDoor
