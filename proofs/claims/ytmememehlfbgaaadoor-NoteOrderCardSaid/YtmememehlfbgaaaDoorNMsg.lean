/- The makers' messages, and the law NoteReread. -/
import Derived.Test.YtmememehlfbgaaaDoorNRep
import Derived.Test.YtmememehlfbgaaaDoorNPlaced
namespace Go.Proofs.YtmememehlfbgaaaDoor
open Go Go.RowKit
set_option linter.unusedVariables false
/-- a message of the makers -/
def msgOk (f t : ByteArray) (l c : Int) (j : Nat) : Prop := f.size ≤ 9 ∧ fileB f.data.toList = true ∧ 1 ≤ l ∧ l ≤ 300 ∧ 1 ≤ c ∧ c ≤ 90 ∧ 1 ≤ j ∧ j ≤ 22 ∧ t.size ≤ 8 ∧ wi 32 126 t.data.toList = true
def SomeMsg (R : World → Prop) (e' : Ending) (w' : World) : Prop := ∃ (f t : ByteArray) (l c : Int) (j : Nat), msgOk f t l c j ∧ e' = .returned (.agg #[.string f, .int .i64 l, .int .i64 c, .int .i64 j, .string t]) ∧ R w'
theorem word_file (q : ByteArray) (h : wordOk q) : ((⟨#[102]⟩ : ByteArray) ++ q).size ≤ 9 ∧ fileB ((⟨#[102]⟩ : ByteArray) ++ q).data.toList = true := by
  obtain ⟨h1, h2, h3⟩ := h
  have e : ((⟨#[102]⟩ : ByteArray) ++ q).data.toList = 102 :: q.data.toList := by simp
  have hl : q.data.toList.length = q.size := len_toList q
  refine ⟨by rw [ByteArray.size_append]; show 1 + q.size ≤ 9; omega, ?_⟩
  rw [file_eq, e]
  unfold fileR
  have h4 : wib 33 126 [58, 34] (102 :: q.data.toList) = true := by
    unfold wib at h3 ⊢
    rw [List.all_cons, h3]; rfl
  rw [h4]
  simp only [List.length_cons, hl, Bool.and_true, Bool.and_eq_true, decide_eq_true_eq]
  omega
theorem wi_wider {l : List UInt8} (h : wib 33 126 [58, 34] l = true) : wi 32 126 l = true := by
  unfold wib at h
  unfold wi
  rw [List.all_eq_true] at h ⊢
  intro x hx
  have := h x hx
  simp only [Bool.and_eq_true, decide_eq_true_eq] at this ⊢
  omega
theorem grown_frozen {w w' : World} {b g o : Nat} (hg : w.grownBy w' (some b)) (hlt : g < w.heap.size) (hne : g ≠ b) : w'.frozen? ⟨g, o, none⟩ = w.frozen? ⟨g, o, none⟩ := by
  have h := hg.block g hlt (by simpa using hne)
  unfold World.frozen?
  simp only [h]
theorem MsgAt.grown {w w' : World} {b g : Nat} {f t : ByteArray} {l c e : Int} (h : MsgAt w g f l c e t) (hg : w.grownBy w' (some b)) (hne : g ≠ b) : MsgAt w' g f l c e t :=
  ⟨hg.cell h.c0 (by simpa using hne), hg.cell h.c1 (by simpa using hne), hg.cell h.c2 (by simpa using hne), hg.cell h.c3 (by simpa using hne), hg.cell h.c4 (by simpa using hne), fun o => (grown_frozen hg (World.block_lt_of_cell? w _ h.c0) hne).trans (h.fz o)⟩
theorem MsgAt.lt {w : World} {g : Nat} {f t : ByteArray} {l c e : Int} (h : MsgAt w g f l c e t) : g < w.heap.size := World.block_lt_of_cell? w _ h.c0
theorem MsgAt.below {w w' : World} {g : Nat} {f t : ByteArray} {l c e : Int} (h : MsgAt w g f l c e t) (hb : Below w.heap.size w w') : MsgAt w' g f l c e t :=
  ⟨(hb.cell (p := ⟨g, 0, none⟩) h.lt).trans h.c0, (hb.cell (p := ⟨g, 1, none⟩) h.lt).trans h.c1, (hb.cell (p := ⟨g, 2, none⟩) h.lt).trans h.c2, (hb.cell (p := ⟨g, 3, none⟩) h.lt).trans h.c3, (hb.cell (p := ⟨g, 4, none⟩) h.lt).trans h.c4, fun o => (hb.frozen (p := ⟨g, o, none⟩) h.lt).trans (h.fz o)⟩
theorem adv_setNew {b : Nat} {a : Option Addr} {len cap k c p o : Nat} {w w' : World} (hS : Rd b a len w) (hbl : b < w.heap.size) (A : Adv b a len cap k c w w') (hp : w.heap.size ≤ p) (u : Value) : Adv b a len cap k c w (w'.setCell ⟨p, o, none⟩ u) := by
  obtain ⟨⟨k', hk, s⟩, g⟩ := A
  have hb : Below w.heap.size w' (w'.setCell ⟨p, o, none⟩ u) := (Below.refl _ _).setCell hp u
  have g2 : w.grownBy (w'.setCell ⟨p, o, none⟩ u) (some b) := ⟨hb.os.trans g.os, hb.tape.trans g.tape, hb.output.trans g.output, Nat.le_trans g.size hb.size, fun i hi hr => (hb.block i hi).trans (g.block i hi hr)⟩
  exact ⟨⟨k', hk, ⟨(hb.cell (p := ⟨b, 0, none⟩) hbl).trans s.c0, (hb.cell (p := ⟨b, 1, none⟩) hbl).trans s.c1, (hb.frozen (p := ⟨b, 1, none⟩) hbl).trans s.fz, hS.kept g2⟩⟩, g2⟩
theorem Mx.grown {b : Nat} {w w' : World} (h : Mx w) (hg : w.grownBy w' (some b)) (hbm : b ≠ 0) : Mx w' := by
  obtain ⟨m, hm⟩ := h
  exact ⟨m, hg.cell hm (by simpa using fun e => hbm e.symm)⟩
set_option maxRecDepth 100000 in
set_option maxHeartbeats 2000000 in
theorem message_any (b len cap : Nat) (a : Option Addr) (k : Nat) (hk : k ≤ 700000) (w : World) (hS : Str b a len cap k w) (hM : Mx w) (hbm : b ≠ 0) :
    Calls Tryd.prog 19 #[.pointer (some ⟨b, 0, none⟩)] w (SomeMsg (Adv b a len cap k 30 w)) := by
  have HM := Lib.hid hM
  have HRD := Lib.hid hS.rd
  have hbl : b < w.heap.size := World.block_lt_of_cell? w _ hS.c0
  have hRb : w.heap.size ≠ b := by omega
  clear hM
  go_enter Tryd.func19, Tryd.ntmps19
  go_wp2_with fail
  have X : MsgAt (w.alloc (Obj.cells #[Value.string ⟨#[]⟩, Value.int IntKind.i64 0, Value.int IntKind.i64 0, Value.int IntKind.i64 0, Value.string ⟨#[]⟩] 35)) w.heap.size ⟨#[]⟩ 0 0 0 ⟨#[]⟩ := ⟨by go_simp, by go_simp, by go_simp, by go_simp, by go_simp, fun o => by go_simp⟩
  have A0 : Adv b a len cap k 0 w (w.alloc (Obj.cells #[Value.string ⟨#[]⟩, Value.int IntKind.i64 0, Value.int IntKind.i64 0, Value.int IntKind.i64 0, Value.string ⟨#[]⟩] 35)) := adv_below (adv_refl hS 0) ((Below.refl _ _).alloc (Nat.le_refl _) _)
  have M0 : Mx (w.alloc (Obj.cells #[Value.string ⟨#[]⟩, Value.int IntKind.i64 0, Value.int IntKind.i64 0, Value.int IntKind.i64 0, Value.string ⟨#[]⟩] 35)) := HM.out.here ((Below.refl _ _).alloc (Nat.le_refl _) _)
  have hZ := X.lt
  generalize hW0 : (w.alloc (Obj.cells #[Value.string ⟨#[]⟩, Value.int IntKind.i64 0, Value.int IntKind.i64 0, Value.int IntKind.i64 0, Value.string ⟨#[]⟩] 35)) = w0 at X A0 M0 hZ ⊢
  generalize hR : w.heap.size = R at X hRb hZ ⊢
  have HR := Lib.hid hR
  have HBL := Lib.hid hbl
  clear hW0 hR hbl hS
  obtain ⟨k0, hk0, S0⟩ := A0.st
  refine (word_any b len cap a k0 (by omega) _ S0 M0 hbm).mono ?_
  rintro e w1 ⟨q, hq, rfl, B1⟩
  have X1 := X.grown B1.gr hRb
  have A1 := adv_trans A0 hk0 B1 (Nat.le_refl _)
  have M1 := M0.grown B1.gr hbm
  obtain ⟨k1, hk1, S1⟩ := A1.st
  obtain ⟨hf9, hfile⟩ := word_file q hq
  have hq8 := hq.2.1
  have hsum : ¬ 9223372036854775807 < 1 + q.size := by omega
  have HQ := Lib.hid hq
  have HF := Lib.hid hfile
  clear B1 X A0 M0 S0 hk0 hq hfile hZ
  go_wp2_with fail
  refine (range_any b len cap a k1 1 300 (by omega) (by omega) (by omega) _ S1).mono ?_
  rintro e w2 ⟨l, ⟨l1, l2⟩, rfl, B2⟩
  have X2 := X1.grown B2.gr hRb
  have A2 := adv_trans A1 hk1 B2 (Nat.le_refl _)
  have M2 := M1.grown B2.gr hbm
  obtain ⟨k2, hk2, S2⟩ := A2.st
  clear B2 X1 A1 M1 S1 hk1
  go_wp2_with fail
  refine (range_any b len cap a k2 1 90 (by omega) (by omega) (by omega) _ S2).mono ?_
  rintro e w3 ⟨c, ⟨c1, c2⟩, rfl, B3⟩
  have X3 := X2.grown B3.gr hRb
  have A3 := adv_trans A2 hk2 B3 (Nat.le_refl _)
  have M3 := M2.grown B3.gr hbm
  obtain ⟨k3, hk3, S3⟩ := A3.st
  clear B3 X2 A2 M2 S2 hk2
  go_wp2_with fail
  refine (range_any b len cap a k3 1 22 (by omega) (by omega) (by omega) _ S3).mono ?_
  rintro e w4 ⟨j, ⟨j1, j2⟩, rfl, B4⟩
  have X4 := X3.grown B4.gr hRb
  have A4 := adv_trans A3 hk3 B4 (Nat.le_refl _)
  have M4 := M3.grown B4.gr hbm
  obtain ⟨k4, hk4, S4⟩ := A4.st
  clear B4 X3 A3 M3 S3 hk3
  go_wp2_with fail
  have Y5 : MsgAt (w4.alloc (Obj.cells #[Value.string ((⟨#[102]⟩ : ByteArray) ++ q), Value.int IntKind.i64 (l : Int), Value.int IntKind.i64 (c : Int), Value.int IntKind.i64 (j : Int), Value.string ⟨#[]⟩] 35)) w4.heap.size ((⟨#[102]⟩ : ByteArray) ++ q) l c j ⟨#[]⟩ := ⟨by go_simp, by go_simp, by go_simp, by go_simp, by go_simp, fun o => by go_simp⟩
  have X5 : MsgAt (w4.alloc (Obj.cells #[Value.string ((⟨#[102]⟩ : ByteArray) ++ q), Value.int IntKind.i64 (l : Int), Value.int IntKind.i64 (c : Int), Value.int IntKind.i64 (j : Int), Value.string ⟨#[]⟩] 35)) R ⟨#[]⟩ 0 0 0 ⟨#[]⟩ := X4.below ((Below.refl _ _).alloc (Nat.le_refl _) _)
  have A5 : Adv b a len cap k ((((0 + 9) + 1) + 1) + 1) w (w4.alloc (Obj.cells #[Value.string ((⟨#[102]⟩ : ByteArray) ++ q), Value.int IntKind.i64 (l : Int), Value.int IntKind.i64 (c : Int), Value.int IntKind.i64 (j : Int), Value.string ⟨#[]⟩] 35)) := adv_below A4 ((Below.refl _ _).alloc (Nat.le_refl _) _)
  have M5 : Mx (w4.alloc (Obj.cells #[Value.string ((⟨#[102]⟩ : ByteArray) ++ q), Value.int IntKind.i64 (l : Int), Value.int IntKind.i64 (c : Int), Value.int IntKind.i64 (j : Int), Value.string ⟨#[]⟩] 35)) := M4.here ((Below.refl _ _).alloc (Nat.le_refl _) _)
  have h9 : b < w4.heap.size := World.block_lt_of_cell? w4 _ S4.c0
  have hg2b : w4.heap.size ≠ b := by omega
  clear h9
  have hg2R : w4.heap.size ≠ R := by have := X4.lt; omega
  have hwg : w.heap.size ≤ w4.heap.size := A4.gr.size
  generalize (w4.alloc (Obj.cells #[Value.string ((⟨#[102]⟩ : ByteArray) ++ q), Value.int IntKind.i64 (l : Int), Value.int IntKind.i64 (c : Int), Value.int IntKind.i64 (j : Int), Value.string ⟨#[]⟩] 35)) = w5 at Y5 X5 A5 M5 ⊢
  generalize w4.heap.size = g at Y5 hg2b hg2R hwg ⊢
  clear X4 A4 M4 S4 hk4
  generalize ((⟨#[102]⟩ : ByteArray) ++ q) = F at hf9 HF Y5 ⊢
  obtain ⟨k5, hk5, S5⟩ := A5.st
  refine (flip_any b len cap a k5 (by omega) 3 (by omega) (by omega) _ S5).mono ?_
  rintro e w6 ⟨tb, rfl, B6⟩
  have X6 := X5.grown B6.gr hRb
  have Y6 := Y5.grown B6.gr hg2b
  have A6 := adv_trans A5 hk5 B6 (Nat.le_refl _)
  have M6 := M5.grown B6.gr hbm
  clear B6 X5 Y5 A5 M5 S5 hk5
  cases tb
  · go_wp2_with fail
    obtain ⟨k6, hk6, S6⟩ := A6.st
    refine (word_any b len cap a k6 (by omega) _ S6 M6 hbm).mono ?_
    rintro e w7 ⟨q2, hq2, rfl, B7⟩
    have X7 := X6.grown B7.gr hRb
    have Y7 := Y6.grown B7.gr hg2b
    have A7 := adv_trans A6 hk6 B7 (Nat.le_refl _)
    have hq28 := hq2.2.1
    have hqw := wi_wider hq2.2.2
    have HOK := And.intro hq28 hqw
    have HQ2 := Lib.hid HOK
    clear B7 X6 Y6 A6 M6 S6 hk6 hq2 hqw HOK
    obtain ⟨r0, r1, r2, r3, r4, rf⟩ := X7
    obtain ⟨y0, y1, y2, y3, y4, yf⟩ := Y7
    have hRl := World.block_lt_of_cell? w7 _ r0
    have hgl := World.block_lt_of_cell? w7 _ y0
    go_wp2_with fail
    have A9 : Adv b a len cap k 30 w w7 := adv_mono A7 (by omega)
    refine bodyPost_ret (v := .agg #[.string F, .int .i64 l, .int .i64 c, .int .i64 j, .string q2]) (by simp [results, Tryd.results19, go_sem, r0, r1, r2, r3, r4]) rfl ⟨F, q2, l, c, j, ⟨hf9, HF.out, by omega, by omega, by omega, by omega, j1, j2, HQ2.out.1, HQ2.out.2⟩, rfl, ?_⟩
    have hRw : w.heap.size ≤ R := by rw [HR.out]; exact Nat.le_refl _
    repeat (first | (with_reducible exact A9) | (with_reducible refine adv_setNew HRD.out HBL.out ?_ hRw _) | (with_reducible refine adv_setNew HRD.out HBL.out ?_ hwg _))
  · obtain ⟨r0, r1, r2, r3, r4, rf⟩ := X6
    obtain ⟨y0, y1, y2, y3, y4, yf⟩ := Y6
    have hRl := World.block_lt_of_cell? w6 _ r0
    have hgl := World.block_lt_of_cell? w6 _ y0
    have A9 : Adv b a len cap k 30 w w6 := adv_mono A6 (by omega)
    go_wp2_with fail
    refine bodyPost_ret (v := .agg #[.string F, .int .i64 l, .int .i64 c, .int .i64 j, .string ⟨#[]⟩]) (by simp [results, Tryd.results19, go_sem, r0, r1, r2, r3, r4]) rfl ⟨F, ⟨#[]⟩, l, c, j, ⟨hf9, HF.out, by omega, by omega, by omega, by omega, j1, j2, by decide, rfl⟩, rfl, ?_⟩
    have hRw : w.heap.size ≤ R := by rw [HR.out]; exact Nat.le_refl _
    repeat (first | (with_reducible exact A9) | (with_reducible refine adv_setNew HRD.out HBL.out ?_ hRw _) | (with_reducible refine adv_setNew HRD.out HBL.out ?_ hwg _))
end Go.Proofs.YtmememehlfbgaaaDoor
