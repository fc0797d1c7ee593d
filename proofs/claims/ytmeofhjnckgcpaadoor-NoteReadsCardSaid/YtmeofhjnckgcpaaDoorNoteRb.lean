/- Package note: Read of any text, whole. -/
import Derived.Test.YtmeofhjnckgcpaaDoorNoteRa
namespace Go.Proofs.YtmeofhjnckgcpaaDoor
open Go Go.RowKit
set_option linter.unusedVariables false
set_option linter.unusedSimpArgs false
set_option maxRecDepth 100000 in
set_option maxHeartbeats 1000000 in
theorem read_fault (s f t : ByteArray) (l c e : Int) (hf : f.size ≤ 9223372036854775807) (ht : t.size ≤ 9223372036854775807) (r : Int) (hk : Hid (noteChk f.data.toList l c e t.data.toList = r)) (r0 : (r == 0) = false) (r1 : (r != 0) = true)
    (hT : Hid (∀ (B : Nat) (w : World), NGlob B w → Mx w → Calls Tryd.prog 40 #[.string s] w fun e' w' => e' = .returned (.tuple #[.agg #[.string f, .int .i64 l, .int .i64 c, .int .i64 e, .string t], .bool true]) ∧ Below w.heap.size w w'))
    {B : Nat} (w : World) (hG : NGlob B w) (hM : Mx w) :
    Calls Tryd.prog 19 #[.string s] w fun e' w' => e' = .returned (.tuple #[.agg #[.string ⟨#[]⟩, .int .i64 0, .int .i64 0, .int .i64 0, .string ⟨#[]⟩], .int .i64 r]) ∧ Below w.heap.size w w' := by
  have HG := Lib.hid hG
  have HM := Lib.hid hM
  clear hG hM
  go_enter Tryd.func19, Tryd.ntmps19
  go_wp2_with fail
  refine (hT.out _ _ (HG.out.here ((Below.refl _ _).alloc (Nat.le_refl _) _)) (HM.out.here ((Below.refl _ _).alloc (Nat.le_refl _) _))).mono ?_
  rintro e' w1 ⟨rfl, hb1⟩
  obtain ⟨hc1, hf1⟩ := bcell hb1
  have z1 : w.heap.size < w1.heap.size := bsize hb1 (by first | omega | (simp <;> omega))
  have G1 := (HG.out.here ((Below.refl _ _).alloc (Nat.le_refl _) _)).here hb1
  have b1 : Below w.heap.size w w1 := ((Below.refl _ _).alloc (Nat.le_refl _) _).trans (hb1.mono (by simp))
  have x0 : w1.cell? ⟨w.heap.size, 0, none⟩ = some (.string ⟨#[]⟩) := by rw [hc1 _ _ (by simp)]; go_simp
  have x1 : w1.cell? ⟨w.heap.size, 1, none⟩ = some (.int .i64 0) := by rw [hc1 _ _ (by simp)]; go_simp
  have x2 : w1.cell? ⟨w.heap.size, 2, none⟩ = some (.int .i64 0) := by rw [hc1 _ _ (by simp)]; go_simp
  have x3 : w1.cell? ⟨w.heap.size, 3, none⟩ = some (.int .i64 0) := by rw [hc1 _ _ (by simp)]; go_simp
  have x4 : w1.cell? ⟨w.heap.size, 4, none⟩ = some (.string ⟨#[]⟩) := by rw [hc1 _ _ (by simp)]; go_simp
  have xf : ∀ o, w1.frozen? ⟨w.heap.size, o, none⟩ = false := fun o => by rw [hf1 _ _ (by simp)]; go_simp
  have HG1 := Lib.hid G1
  have HB1 := Lib.hid b1
  clear hc1 hf1 hb1 G1 b1
  go_wp2_with fail
  refine (chk_any f t l c e hf ht _ (HG1.out.here ((Below.refl _ _).alloc (Nat.le_refl _) _))).mono ?_
  rintro e' w2 ⟨rfl, hb2⟩
  rw [hk.out]
  have X : MsgAt (w1.alloc (Obj.cells #[Value.string f, Value.int IntKind.i64 l, Value.int IntKind.i64 c, Value.int IntKind.i64 e, Value.string t] 24)) w1.heap.size f l c e t := ⟨by go_simp, by go_simp, by go_simp, by go_simp, by go_simp, fun o => by go_simp⟩
  have Y : MsgAt (w1.alloc (Obj.cells #[Value.string f, Value.int IntKind.i64 l, Value.int IntKind.i64 c, Value.int IntKind.i64 e, Value.string t] 24)) w.heap.size ⟨#[]⟩ 0 0 0 ⟨#[]⟩ := ⟨by go_simp, by go_simp, by go_simp, by go_simp, by go_simp, fun o => by go_simp⟩
  have hz0 : w.heap.size < (w1.alloc (Obj.cells #[Value.string f, Value.int IntKind.i64 l, Value.int IntKind.i64 c, Value.int IntKind.i64 e, Value.string t] 24)).heap.size := by simp; omega
  have hz1 : w1.heap.size < (w1.alloc (Obj.cells #[Value.string f, Value.int IntKind.i64 l, Value.int IntKind.i64 c, Value.int IntKind.i64 e, Value.string t] 24)).heap.size := by simp
  have b2 : Below w.heap.size w w2 := (HB1.out.alloc HB1.out.size _).trans (hb2.mono (by simp; omega))
  obtain ⟨hc2, hf2⟩ := bcell hb2
  have p0 := (hc2 _ 0 hz1).trans X.c0
  have p1 := (hc2 _ 1 hz1).trans X.c1
  have p2 := (hc2 _ 2 hz1).trans X.c2
  have p3 := (hc2 _ 3 hz1).trans X.c3
  have p4 := (hc2 _ 4 hz1).trans X.c4
  have r0 := (hc2 _ 0 hz0).trans Y.c0
  have r1 := (hc2 _ 1 hz0).trans Y.c1
  have r2 := (hc2 _ 2 hz0).trans Y.c2
  have r3 := (hc2 _ 3 hz0).trans Y.c3
  have r4 := (hc2 _ 4 hz0).trans Y.c4
  have rf : ∀ o, w2.frozen? ⟨w.heap.size, o, none⟩ = false := fun o => (hf2 _ o hz0).trans (Y.fz o)
  have hz2 : w.heap.size < w2.heap.size := World.block_lt_of_cell? w2 _ r0
  have hne : w.heap.size ≠ w1.heap.size := by omega
  clear hc2 hf2 X Y hz0 hz1 x0 x1 x2 x3 x4 xf hb2 HB1 HG1
  generalize w1.heap.size = g1 at p0 p1 p2 p3 p4 hne ⊢
  go_wp2_with fail
  exact bodyPost_ret (v := .tuple #[.agg #[.string ⟨#[]⟩, .int .i64 0, .int .i64 0, .int .i64 0, .string ⟨#[]⟩], .int .i64 r]) (by simp [results, Tryd.results19, go_sem, r0, r1, r2, r3, r4]) rfl ⟨rfl, by (repeat (first | (with_reducible exact b2) | (with_reducible exact Nat.le_refl _) | (with_reducible refine Below.setCell ?_ ?_ _) | (with_reducible refine Below.alloc ?_ ?_ _) | (with_reducible refine below_drewN ?_ _) | (with_reducible refine Below.drew ?_))) <;> (first | omega | (simp <;> omega))⟩
set_option maxRecDepth 100000 in
set_option maxHeartbeats 1000000 in
theorem read_no (s f t : ByteArray) (l c e : Int) (hf : f.size ≤ 9223372036854775807) (ht : t.size ≤ 9223372036854775807) 
    (hT : Hid (∀ (B : Nat) (w : World), NGlob B w → Mx w → Calls Tryd.prog 40 #[.string s] w fun e' w' => e' = .returned (.tuple #[.agg #[.string f, .int .i64 l, .int .i64 c, .int .i64 e, .string t], .bool false]) ∧ Below w.heap.size w w'))
    {B : Nat} (w : World) (hG : NGlob B w) (hM : Mx w) :
    Calls Tryd.prog 19 #[.string s] w fun e' w' => e' = .returned (.tuple #[.agg #[.string ⟨#[]⟩, .int .i64 0, .int .i64 0, .int .i64 0, .string ⟨#[]⟩], .int .i64 10]) ∧ Below w.heap.size w w' := by
  have HG := Lib.hid hG
  have HM := Lib.hid hM
  clear hG hM
  go_enter Tryd.func19, Tryd.ntmps19
  go_wp2_with fail
  refine (hT.out _ _ (HG.out.here ((Below.refl _ _).alloc (Nat.le_refl _) _)) (HM.out.here ((Below.refl _ _).alloc (Nat.le_refl _) _))).mono ?_
  rintro e' w1 ⟨rfl, hb1⟩
  obtain ⟨hc1, hf1⟩ := bcell hb1
  have z1 : w.heap.size < w1.heap.size := bsize hb1 (by first | omega | (simp <;> omega))
  have G1 := (HG.out.here ((Below.refl _ _).alloc (Nat.le_refl _) _)).here hb1
  have b1 : Below w.heap.size w w1 := ((Below.refl _ _).alloc (Nat.le_refl _) _).trans (hb1.mono (by simp))
  have x0 : w1.cell? ⟨w.heap.size, 0, none⟩ = some (.string ⟨#[]⟩) := by rw [hc1 _ _ (by simp)]; go_simp
  have x1 : w1.cell? ⟨w.heap.size, 1, none⟩ = some (.int .i64 0) := by rw [hc1 _ _ (by simp)]; go_simp
  have x2 : w1.cell? ⟨w.heap.size, 2, none⟩ = some (.int .i64 0) := by rw [hc1 _ _ (by simp)]; go_simp
  have x3 : w1.cell? ⟨w.heap.size, 3, none⟩ = some (.int .i64 0) := by rw [hc1 _ _ (by simp)]; go_simp
  have x4 : w1.cell? ⟨w.heap.size, 4, none⟩ = some (.string ⟨#[]⟩) := by rw [hc1 _ _ (by simp)]; go_simp
  have xf : ∀ o, w1.frozen? ⟨w.heap.size, o, none⟩ = false := fun o => by rw [hf1 _ _ (by simp)]; go_simp
  have HG1 := Lib.hid G1
  have HB1 := Lib.hid b1
  clear hc1 hf1 hb1 G1 b1
  go_wp2_with fail
  exact bodyPost_ret (v := .tuple #[.agg #[.string ⟨#[]⟩, .int .i64 0, .int .i64 0, .int .i64 0, .string ⟨#[]⟩], .int .i64 10]) (by simp [results, Tryd.results19, go_sem, x0, x1, x2, x3, x4, xf, z1]) rfl ⟨rfl, by (repeat (first | (with_reducible exact HB1.out) | (with_reducible exact Nat.le_refl _) | (with_reducible refine Below.setCell ?_ ?_ _) | (with_reducible refine Below.alloc ?_ ?_ _) | (with_reducible refine below_drewN ?_ _) | (with_reducible refine Below.drew ?_))) <;> (first | omega | (simp <;> omega))⟩
theorem read_any (s : ByteArray) (hs : s.size ≤ 1000) {B : Nat} (w : World) (hG : NGlob B w) (hM : Mx w) :
    Calls Tryd.prog 19 #[.string s] w fun e' w' => e' = .returned (.tuple #[rdVal s.data.toList, .int .i64 (rdErr s.data.toList)]) ∧ Below w.heap.size w w' := by
  have hl := len_toList s
  have k1 := cut_len s.data.toList [58]
  have k2 := cut_len (nR s.data.toList) [58]
  have k3 := cut_len (nR (nR s.data.toList)) [58]
  have k4 := trim_len (pRs s.data.toList) [32]
  have k5 := cut_len (pTl s.data.toList) [32]
  have zf : (⟨(nF s.data.toList).toArray⟩ : ByteArray).size ≤ 9223372036854775807 := by rw [ba_size]; unfold nF; omega
  have z3 : (pRs s.data.toList).length ≤ 1000 := by unfold pRs; unfold nR at *; omega
  have z4 : (pTl s.data.toList).length ≤ 1000 := by unfold pTl; omega
  have zt : (⟨(pT s.data.toList).toArray⟩ : ByteArray).size ≤ 9223372036854775807 := by rw [ba_size]; unfold pT; omega
  have hT : Hid (∀ (B : Nat) (w : World), NGlob B w → Mx w → Calls Tryd.prog 40 #[.string s] w fun e w' => e = .returned (.tuple #[.agg #[.string ⟨(nF s.data.toList).toArray⟩, .int .i64 (pL s.data.toList), .int .i64 (pC s.data.toList), .int .i64 (codeF (pW s.data.toList)), .string ⟨(pT s.data.toList).toArray⟩], .bool (okL s.data.toList)]) ∧ Below w.heap.size w w') := fun B w hG hM => takeApart_any s hs w hG hM
  cases ho : okL s.data.toList
  · rw [ho] at hT
    obtain ⟨e1, e2⟩ := rd_bad ho
    rw [e1, e2]
    exact read_no s _ _ _ _ _ zf zt hT w hG hM
  · rw [ho] at hT
    by_cases hr : noteChk (nF s.data.toList) (pL s.data.toList) (pC s.data.toList) (codeF (pW s.data.toList)) (pT s.data.toList) = 0
    · obtain ⟨e1, e2⟩ := rd_good ho hr
      rw [e1, e2]
      exact read_ok s _ _ _ _ _ zf zt (Lib.hid (by rw [ba_list, ba_list]; exact hr)) hT w hG hM
    · obtain ⟨e1, e2⟩ := rd_fault ho hr
      rw [e1, e2]
      exact read_fault s _ _ _ _ _ zf zt _ (Lib.hid (by rw [ba_list, ba_list])) (by simpa using hr) (by simpa using hr) hT w hG hM
end Go.Proofs.YtmeofhjnckgcpaaDoor
