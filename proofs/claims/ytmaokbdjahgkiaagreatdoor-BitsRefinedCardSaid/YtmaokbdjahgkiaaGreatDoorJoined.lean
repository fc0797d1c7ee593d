/- The fact 'joined': two texts are read, joined by And and Or, and written. -/
import Derived.Test.YtmaokbdjahgkiaaGreatDoorReadAll
import Derived.Test.YtmaokbdjahgkiaaGreatDoorText2
namespace Go.Proofs.YtmaokbdjahgkiaaGreatDoor
open Go Go.RowKit
set_option linter.unusedVariables false
theorem spelt1 : Spelt ⟨#[51, 39, 98, 48, 120, 49]⟩ ⟨#[51]⟩ ⟨#[98, 48, 120, 49]⟩ 3 :=
  { r0 := ⟨⟨#[98, 48, 120, 49]⟩, by decide +kernel, by decide +kernel⟩, hs := by decide, w1 := by decide, w2 := by decide, w3 := by decide +kernel, hr := by decide, hwl := by decide, hrl := by decide, b100 := by decide,
    z1 := by decide, z2 := by decide, hd := by decide +kernel, hn := by decide +kernel, h1 := by decide, h2 := by decide, hE := by decide +kernel }
theorem spelt2 : Spelt ⟨#[51, 39, 98, 120, 49, 122]⟩ ⟨#[51]⟩ ⟨#[98, 120, 49, 122]⟩ 3 :=
  { r0 := ⟨⟨#[98, 120, 49, 122]⟩, by decide +kernel, by decide +kernel⟩, hs := by decide, w1 := by decide, w2 := by decide, w3 := by decide +kernel, hr := by decide, hwl := by decide, hrl := by decide, b100 := by decide,
    z1 := by decide, z2 := by decide, hd := by decide +kernel, hn := by decide +kernel, h1 := by decide, h2 := by decide, hE := by decide +kernel }
def ja : Vx := ⟨3#64, 2#64⟩
def jb : Vx := ⟨6#64, 5#64⟩
theorem ja_ok : ja.ok 3 := ⟨by decide, by decide, by decide, by decide⟩
theorem jb_ok : jb.ok 3 := ⟨by decide, by decide, by decide, by decide⟩
theorem ret_vec2 {n e : Int} {v x v' x' : BitVec 64} (h : v = v') (k : x = x') : Ending.returned (.tuple #[.agg #[.int .i64 n, .int .u64 (U v), .int .u64 (U x)], .int .i64 e]) = .returned (.tuple #[.agg #[.int .i64 n, .int .u64 (U v'), .int .u64 (U x')], .int .i64 e]) := by rw [h, k]
theorem read_j1 {B : Nat} (w : World) (hG : Glob B w) : Calls Tryz.prog 38 #[.string ⟨#[51, 39, 98, 48, 120, 49]⟩] w fun e w' => e = .returned (.tuple #[.agg #[.int .i64 (3 : Nat), .int .u64 (U ja.v), .int .u64 (U ja.x)], .int .i64 0]) ∧ Below w.heap.size w w' :=
  (read_ok spelt1 w hG).mono fun _ _ ⟨he, hb⟩ => ⟨he.trans (ret_vec2 (by decide +kernel) (by decide +kernel)), hb⟩
theorem read_j2 {B : Nat} (w : World) (hG : Glob B w) : Calls Tryz.prog 38 #[.string ⟨#[51, 39, 98, 120, 49, 122]⟩] w fun e w' => e = .returned (.tuple #[.agg #[.int .i64 (3 : Nat), .int .u64 (U jb.v), .int .u64 (U jb.x)], .int .i64 0]) ∧ Below w.heap.size w w' :=
  (read_ok spelt2 w hG).mono fun _ _ ⟨he, hb⟩ => ⟨he.trans (ret_vec2 (by decide +kernel) (by decide +kernel)), hb⟩
theorem jt1 : (⟨(txt 3 (vand 3 ja jb) 3).toArray⟩ : ByteArray) = ⟨#[51, 39, 98, 48, 120, 120]⟩ := by
  have : txt 3 (vand 3 ja jb) 3 = [51, 39, 98, 48, 120, 120] := by decide +kernel
  rw [this]
theorem jt2 : (⟨(txt 3 (vor 3 ja jb) 3).toArray⟩ : ByteArray) = ⟨#[51, 39, 98, 120, 49, 49]⟩ := by
  have : txt 3 (vor 3 ja jb) 3 = [51, 39, 98, 120, 49, 49] := by decide +kernel
  rw [this]
set_option maxRecDepth 100000 in
set_option maxHeartbeats 1000000 in
theorem joined_ok {B : Nat} (w : World) (hG : Glob B w) : Calls Tryz.prog 11 #[] w fun e w' => e = .returned (.bool true) ∧ Below w.heap.size w w' := by
  have HG := Lib.hid hG
  clear hG
  go_enter Tryz.func11, Tryz.ntmps11
  go_wp2_with fail
  refine (read_j1 _ HG.out).mono ?_
  rintro e w1 ⟨rfl, hb1⟩
  obtain ⟨hc1, hf1⟩ := bcell hb1
  have bw1 : Below w.heap.size w w1 := hb1
  have sz1 := bw1.size
  clear hf1
  go_wp2_with fail
  refine (read_j2 _ ((HG.out.here bw1).here ((Below.refl _ _).alloc (Nat.le_refl _) _))).mono ?_
  rintro e w2 ⟨rfl, hb2⟩
  obtain ⟨hc2, hf2⟩ := bcell hb2
  have z2_w1 : w1.heap.size < w2.heap.size := bsize hb2 (by first | omega | (simp <;> omega))
  have bw2 : Below w.heap.size w w2 := (bw1.trans (((Below.refl _ _).alloc (Nat.le_refl _) _).mono sz1)).trans (hb2.mono (by first | omega | (simp <;> omega)))
  have sz2 := bw2.size
  clear hf2
  go_wp2_with fail
  refine (and_ok 3 ja jb _ ja_ok jb_ok).mono ?_
  rintro e w3 ⟨rfl, hb3⟩
  obtain ⟨hc3, hf3⟩ := bcell hb3
  have z3_w1 : w1.heap.size < w3.heap.size := bsize hb3 (by first | omega | (simp <;> omega))
  have z3_w2 : w2.heap.size < w3.heap.size := bsize hb3 (by first | omega | (simp <;> omega))
  have bw3 : Below w.heap.size w w3 := (bw2.trans (((Below.refl _ _).alloc (Nat.le_refl _) _).mono sz2)).trans (hb3.mono (by first | omega | (simp <;> omega)))
  have sz3 := bw3.size
  clear hf3
  go_wp2_with fail
  refine (text_ok 3 (vand 3 ja jb) (vand_ok ja_ok) (by decide +kernel) _ (HG.out.here bw3)).mono ?_
  rintro e w4 ⟨rfl, hb4⟩
  obtain ⟨hc4, hf4⟩ := bcell hb4
  have z4_w1 : w1.heap.size < w4.heap.size := bsize hb4 (by first | omega | (simp <;> omega))
  have z4_w2 : w2.heap.size < w4.heap.size := bsize hb4 (by first | omega | (simp <;> omega))
  have bw4 : Below w.heap.size w w4 := bw3.trans (hb4.mono sz3)
  have sz4 := bw4.size
  clear hf4
  rw [jt1]
  go_wp2_with fail
  refine (or_ok 3 ja jb _ ja_ok jb_ok).mono ?_
  rintro e w5 ⟨rfl, hb5⟩
  obtain ⟨hc5, hf5⟩ := bcell hb5
  have z5_w1 : w1.heap.size < w5.heap.size := bsize hb5 (by first | omega | (simp <;> omega))
  have z5_w2 : w2.heap.size < w5.heap.size := bsize hb5 (by first | omega | (simp <;> omega))
  have bw5 : Below w.heap.size w w5 := bw4.trans (hb5.mono sz4)
  have sz5 := bw5.size
  clear hf5
  go_wp2_with fail
  refine (text_ok 3 (vor 3 ja jb) (vor_ok ja_ok jb_ok) (by decide +kernel) _ (HG.out.here bw5)).mono ?_
  rintro e w6 ⟨rfl, hb6⟩
  obtain ⟨hc6, hf6⟩ := bcell hb6
  have z6_w1 : w1.heap.size < w6.heap.size := bsize hb6 (by first | omega | (simp <;> omega))
  have z6_w2 : w2.heap.size < w6.heap.size := bsize hb6 (by first | omega | (simp <;> omega))
  have bw6 : Below w.heap.size w w6 := bw5.trans (hb6.mono sz5)
  have sz6 := bw6.size
  clear hf6
  rw [jt2]
  go_wp2_with fail
  go_ret
  exact ⟨rfl, bw6⟩
end Go.Proofs.YtmaokbdjahgkiaaGreatDoor
