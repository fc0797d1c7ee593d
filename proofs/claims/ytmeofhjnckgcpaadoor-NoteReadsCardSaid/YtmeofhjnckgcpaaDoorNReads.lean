/- The law NoteReads: its walk. -/
import Derived.Test.YtmeofhjnckgcpaaDoorNoteRr
namespace Go.Proofs.YtmeofhjnckgcpaaDoor
open Go Go.RowKit
set_option linter.unusedVariables false
theorem rd_form (s : List UInt8) : ∃ (f t : ByteArray) (l c e : Int), rdVal s = .agg #[.string f, .int .i64 l, .int .i64 c, .int .i64 e, .string t] := by
  unfold rdVal; split
  · exact ⟨_, _, _, _, _, rfl⟩
  · exact ⟨_, _, _, _, _, rfl⟩
set_option maxRecDepth 100000 in
set_option maxHeartbeats 1000000 in
theorem reads_long (s : ByteArray) (hs : s.size ≤ 9223372036854775807) (hl : 1000 < s.size) {B : Nat} (w : World) (hG : NGlob B w) :
    Calls Tryd.prog 4 #[.string s] w fun e w' => e = .returned (.bool true) ∧ Below w.heap.size w w' := by
  have HG := Lib.hid hG
  clear hG
  go_enter Tryd.func4, Tryd.ntmps4
  go_wp2_with fail
  refine (told_ok _ HG.out).mono ?_
  rintro e w1 ⟨rfl, hb1⟩
  have HG1 := Lib.hid (HG.out.here hb1)
  have HB1 := Lib.hid hb1
  clear hb1
  go_wp2_with fail
  refine (told_ok _ HG1.out).mono ?_
  rintro e w2 ⟨rfl, hb2⟩
  go_wp2_with fail
  go_ret
  exact ⟨rfl, HB1.out.trans (hb2.mono HB1.out.size)⟩
set_option maxRecDepth 100000 in
set_option maxHeartbeats 1000000 in
theorem reads_short (s : ByteArray) (hs : s.size ≤ 1000) {B : Nat} (w : World) (hG : NGlob B w) (hM : Mx w) :
    Calls Tryd.prog 4 #[.string s] w fun e w' => e = .returned (.bool true) ∧ Below w.heap.size w w' := by
  have c1 := Lib.hid fun (B : Nat) (w : World) (hG : NGlob B w) (hM : Mx w) => read_any s hs w hG hM
  have c2 := Lib.hid fun (w : World) => refRead_any s hs w
  obtain ⟨f, t, l, c, e, hv⟩ := rd_form s.data.toList
  rw [hv] at c1 c2
  generalize rdErr s.data.toList = r at c1 c2
  clear hv
  have HG := Lib.hid hG
  have HM := Lib.hid hM
  clear hG hM
  go_enter Tryd.func4, Tryd.ntmps4
  go_wp2_with fail
  refine (told_ok _ HG.out).mono ?_
  rintro e' w1 ⟨rfl, hb1⟩
  have HG1 := Lib.hid (HG.out.here hb1)
  have HM1 := Lib.hid (HM.out.here hb1)
  have HB1 := Lib.hid hb1
  clear hb1
  go_wp2_with fail
  refine (c1.out _ _ HG1.out HM1.out).mono ?_
  rintro e' w2 ⟨rfl, hb2⟩
  have HB2 := Lib.hid (HB1.out.trans (hb2.mono HB1.out.size))
  clear hb2
  go_wp2_with fail
  refine (c2.out _).mono ?_
  rintro e' w3 ⟨rfl, hb3⟩
  have X : MsgAt (w2.alloc (Obj.cells #[Value.string f, Value.int IntKind.i64 l, Value.int IntKind.i64 c, Value.int IntKind.i64 e, Value.string t] 24)) w2.heap.size f l c e t := ⟨by go_simp, by go_simp, by go_simp, by go_simp, by go_simp, fun o => by go_simp⟩
  have X3 := X.below2 hb3
  have HB3 := Lib.hid ((HB2.out.alloc HB2.out.size _).trans (hb3.mono (by have := HB2.out.size; simp; omega)))
  obtain ⟨y0, y1, y2, y3, y4, yf⟩ := X3
  have yl := World.block_lt_of_cell? w3 _ y0
  clear X hb3
  generalize w2.heap.size = g at y0 y1 y2 y3 y4 yf yl ⊢
  go_wp2_with fail
  go_ret
  exact ⟨rfl, HB3.out.alloc HB3.out.size _⟩
theorem noteReads_any (s : ByteArray) (hs : s.size ≤ 9223372036854775807) {B : Nat} (w : World) (hG : NGlob B w) (hM : Mx w) :
    Calls Tryd.prog 4 #[.string s] w fun e w' => e = .returned (.bool true) ∧ Below w.heap.size w w' := by
  by_cases h : s.size ≤ 1000
  · exact reads_short s h w hG hM
  · exact reads_long s hs (by omega) w hG
end Go.Proofs.YtmeofhjnckgcpaaDoor
