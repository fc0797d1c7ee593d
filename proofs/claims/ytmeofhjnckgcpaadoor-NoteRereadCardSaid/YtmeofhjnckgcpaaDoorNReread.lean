/- The law NoteReread: its walk. -/
import Derived.Test.YtmeofhjnckgcpaaDoorNMsg
namespace Go.Proofs.YtmeofhjnckgcpaaDoor
open Go Go.RowKit
set_option linter.unusedVariables false
theorem msg_chk {f t : ByteArray} {l c : Int} {j : Nat} (h : msgOk f t l c j) : noteChk f.data.toList l c j t.data.toList = 0 := by
  obtain ⟨h1, h2, h3, h4, h5, h6, h7, h8, h9, h10⟩ := h
  unfold noteChk
  rw [if_pos h2, if_pos (by omega), if_pos ⟨by rw [len_toList]; omega, h10⟩]
theorem msg_text {f t : ByteArray} {l c : Int} {j : Nat} (h : msgOk f t l c j) : ∃ S : ByteArray, S.size ≤ 1000000 ∧
    (∀ (B : Nat) (w : World), NGlob B w → Calls Tryd.prog 11 #[.agg #[.string f, .int .i64 l, .int .i64 c, .int .i64 j, .string t]] w fun e' w' => e' = .returned (.tuple #[.string S, .int .i64 0]) ∧ Below w.heap.size w w') ∧
    S.data.toList = f.data.toList ++ 58 :: (Lib.itoa l ++ 58 :: (Lib.itoa c ++ 58 :: 32 :: (wordsL.getD j [] ++ tailL t))) := by
  have hk := msg_chk h
  obtain ⟨h1, h2, h3, h4, h5, h6, h7, h8, h9, h10⟩ := h
  have q1 := itoa_size l (by omega) (by omega)
  have q2 := itoa_size c (by omega) (by omega)
  have hw := wordsL_le j
  have fl := len_toList f
  have tl := len_toList t
  rw [ba_size] at q1 q2
  by_cases hz : t.toList = []
  · have hz2 : t.toList.isEmpty = true := by rw [hz]; rfl
    have hS : (noteH f ⟨(Lib.itoa l).toArray⟩ ⟨(Lib.itoa c).toArray⟩ (wordB j)).data.toList = f.data.toList ++ 58 :: (Lib.itoa l ++ 58 :: (Lib.itoa c ++ 58 :: 32 :: (wordsL.getD j [] ++ tailL t))) := by
      unfold tailL noteH wordB
      rw [hz2]; simp
    refine ⟨_, ?_, fun B w hG => text_no f t _ _ l c j (by omega) (by omega) h3 (by omega) h5 (by omega) (by omega) (Lib.hid rfl) (Lib.hid rfl) (by rw [ba_size]; exact q1) (by rw [ba_size]; exact q2) hk w hG hz hz2, hS⟩
    rw [← len_toList, hS]
    unfold tailL
    rw [hz2]
    simp only [List.length_append, List.length_cons, if_true, List.length_nil]; omega
  · have hz2 : t.toList.isEmpty = false := by simpa using hz
    have hS : (noteH f ⟨(Lib.itoa l).toArray⟩ ⟨(Lib.itoa c).toArray⟩ (wordB j) ++ (⟨#[32]⟩ ++ t)).data.toList = f.data.toList ++ 58 :: (Lib.itoa l ++ 58 :: (Lib.itoa c ++ 58 :: 32 :: (wordsL.getD j [] ++ tailL t))) := by
      unfold tailL noteH wordB
      rw [hz2]; simp
    refine ⟨_, ?_, fun B w hG => text_yes f t _ _ l c j (by omega) (by omega) h3 (by omega) h5 (by omega) (by omega) (Lib.hid rfl) (Lib.hid rfl) (by rw [ba_size]; exact q1) (by rw [ba_size]; exact q2) hk w hG hz hz2, hS⟩
    rw [← len_toList, hS]
    unfold tailL
    rw [hz2]
    simp only [List.length_append, List.length_cons, Bool.false_eq_true, if_false]; omega
theorem msg_read {f t S : ByteArray} {l c : Int} {j : Nat} (h : msgOk f t l c j) (hs : S.size ≤ 1000000) (hS : S.data.toList = f.data.toList ++ 58 :: (Lib.itoa l ++ 58 :: (Lib.itoa c ++ 58 :: 32 :: (wordsL.getD j [] ++ tailL t)))) (B : Nat) (w : World) (hG : NGlob B w) (hM : Mx w) :
    Calls Tryd.prog 19 #[.string S] w fun e' w' => e' = .returned (.tuple #[.agg #[.string f, .int .i64 l, .int .i64 c, .int .i64 j, .string t], .int .i64 0]) ∧ Below w.heap.size w w' := by
  have hk := msg_chk h
  obtain ⟨h1, h2, h3, h4, h5, h6, h7, h8, h9, h10⟩ := h
  have hno : ∀ x ∈ f.data.toList, x ≠ 58 := by
    rw [file_eq] at h2
    unfold fileR wib at h2
    simp only [Bool.and_eq_true, decide_eq_true_eq, List.all_eq_true] at h2
    intro x hx e
    have := (h2.2 x hx).2
    rw [e] at this
    simp at this
  exact read_ok S f t l c j (by omega) (by omega) hk (Lib.hid fun B w hG hM => take_it S f t l c j hs hno h3 (by omega) h5 (by omega) h7 (by omega) hS B w hG hM) w hG hM
set_option maxRecDepth 100000 in
set_option maxHeartbeats 2000000 in
theorem noteReread_any (a : Option Addr) (len cap : Nat) (w : World) (hSl : Sl a len w) {B : Nat} (hG : NGlob B w) (hM : Mx w) :
    Calls Tryd.prog 7 #[.slice a len cap] w fun e w' => e = .returned (.bool true) ∧ Below w.heap.size w w' := by
  have S0 := hSl.str cap _ rfl
  have hml := hM.lt
  have HM := Lib.hid hM
  have HG := Lib.hid hG
  clear hM hG hSl
  go_enter Tryd.func7, Tryd.ntmps7
  go_wp2_with fail
  refine (message_any w.heap.size len cap a 0 (by omega) _ S0 (HM.out.here ((Below.refl _ _).alloc (Nat.le_refl _) _)) (by omega)).mono ?_
  rintro e w1 ⟨f, t, l, c, j, hok, rfl, A1⟩
  have b1 := adv_low A1 ((Below.refl _ _).alloc (Nat.le_refl _) _)
  obtain ⟨S, hs, hT, hS⟩ := msg_text hok
  have HT := Lib.hid hT
  have HS := Lib.hid hS
  have HOK := Lib.hid hok
  have hs2 := Lib.hid hs
  have HB1 := Lib.hid b1
  clear hT hS hok hs A1 S0 b1
  go_wp2_with fail
  refine (HT.out _ _ ((HG.out.here HB1.out).here ((Below.refl _ _).alloc (Nat.le_refl _) _))).mono ?_
  rintro e w2 ⟨rfl, hb2⟩
  have X : MsgAt (w1.alloc (Obj.cells #[Value.string f, Value.int IntKind.i64 l, Value.int IntKind.i64 c, Value.int IntKind.i64 (j : Int), Value.string t] 24)) w1.heap.size f l c j t := ⟨by go_simp, by go_simp, by go_simp, by go_simp, by go_simp, fun o => by go_simp⟩
  have X2 := X.below hb2
  have b2 : Below w.heap.size w w2 := (HB1.out.alloc HB1.out.size _).trans (hb2.mono (by have := HB1.out.size; simp; omega))
  generalize w1.heap.size = g1 at X X2 ⊢
  have HB2 := Lib.hid b2
  clear X hb2 b2 HT HB1
  go_wp2_with fail
  refine (msg_read HOK.out hs2.out HS.out _ _ (HG.out.here HB2.out) (HM.out.here HB2.out)).mono ?_
  rintro e w3 ⟨rfl, hb3⟩
  have X3 := X2.below hb3
  have b3 : Below w.heap.size w w3 := HB2.out.trans (hb3.mono HB2.out.size)
  have HB3 := Lib.hid b3
  clear X2 hb3 b3 HB2
  go_wp2_with fail
  refine (placed_ok _).mono ?_
  rintro e w' ⟨rfl, rfl⟩
  have Y : MsgAt (w3.alloc (Obj.cells #[Value.string f, Value.int IntKind.i64 l, Value.int IntKind.i64 c, Value.int IntKind.i64 (j : Int), Value.string t] 24)) w3.heap.size f l c j t := ⟨by go_simp, by go_simp, by go_simp, by go_simp, by go_simp, fun o => by go_simp⟩
  have X4 := X3.below ((Below.refl _ _).alloc (Nat.le_refl _) (Obj.cells #[Value.string f, Value.int IntKind.i64 l, Value.int IntKind.i64 c, Value.int IntKind.i64 (j : Int), Value.string t] 24))
  have b4 : Below w.heap.size w (w3.alloc (Obj.cells #[Value.string f, Value.int IntKind.i64 l, Value.int IntKind.i64 c, Value.int IntKind.i64 (j : Int), Value.string t] 24)) := HB3.out.alloc HB3.out.size _
  generalize (w3.alloc (Obj.cells #[Value.string f, Value.int IntKind.i64 l, Value.int IntKind.i64 c, Value.int IntKind.i64 (j : Int), Value.string t] 24)) = w4 at Y X4 b4 ⊢
  generalize w3.heap.size = g2 at Y ⊢
  have HB4 := Lib.hid b4
  clear X3 HB3 b4
  obtain ⟨x0, x1, x2, x3, x4, xf⟩ := X4
  obtain ⟨y0, y1, y2, y3, y4, yf⟩ := Y
  go_wp2_with fail
  have hf9 : f.size ≤ 9223372036854775807 := by have := HOK.out.1; omega
  have ht8 : t.size ≤ 9223372036854775807 := by have := HOK.out.2.2.2.2.2.2.2.2.1; omega
  refine (chk_any f t l c j hf9 ht8 _ (HG.out.here HB4.out)).mono ?_
  rintro e w5 ⟨rfl, hb5⟩
  rw [msg_chk HOK.out]
  go_wp2_with fail
  go_ret
  exact ⟨rfl, HB4.out.trans (hb5.mono HB4.out.size)⟩
end Go.Proofs.YtmeofhjnckgcpaaDoor
