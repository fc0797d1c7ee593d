/- The fact 'vectors': the examples of chapter 1. -/
import Derived.Test.YtgmgmkhcadimjaaDoorReadAll
import Derived.Test.YtgmgmkhcadimjaaDoorTextA
import Derived.Test.YtgmgmkhcadimjaaDoorOps4
import Derived.Test.YtgmgmkhcadimjaaDoorDecAA
namespace Go.Proofs.YtgmgmkhcadimjaaDoor
open Go Go.RowKit
set_option linter.unusedVariables false
theorem spelt_h : Spelt ⟨#[54, 39, 104, 122, 102]⟩ ⟨#[54]⟩ ⟨#[104, 122, 102]⟩ 6 :=
  { r0 := ⟨⟨#[104, 122, 102]⟩, by decide +kernel, by decide +kernel⟩, hs := by decide, w1 := by decide, w2 := by decide, w3 := by decide +kernel, hr := by decide, hwl := by decide, hrl := by decide, b100 := by decide,
    z1 := by decide, z2 := by decide, hd := by decide +kernel, hn := by decide +kernel, h1 := by decide, h2 := by decide, hE := by decide +kernel }
def vh : Vx := ⟨15#64, 48#64⟩
theorem vh_ok : vh.ok 6 := ⟨by decide, by decide, by decide, by decide⟩
theorem ret_vec3 {n e : Int} {v x v' x' : BitVec 64} (h : v = v') (k : x = x') : Ending.returned (.tuple #[.agg #[.int .i64 n, .int .u64 (U v), .int .u64 (U x)], .int .i64 e]) = .returned (.tuple #[.agg #[.int .i64 n, .int .u64 (U v'), .int .u64 (U x')], .int .i64 e]) := by rw [h, k]
theorem read_h {B : Nat} (w : World) (hG : Glob B w) : Calls Tryd.prog 5 #[.string ⟨#[54, 39, 104, 122, 102]⟩] w fun e w' => e = .returned (.tuple #[.agg #[.int .i64 (6 : Nat), .int .u64 (U vh.v), .int .u64 (U vh.x)], .int .i64 0]) ∧ Below w.heap.size w w' :=
  (read_ok spelt_h w hG).mono fun _ _ ⟨he, hb⟩ => ⟨he.trans (ret_vec3 (by decide +kernel) (by decide +kernel)), hb⟩
theorem vt1 : (⟨(txt 6 vh 6).toArray⟩ : ByteArray) = ⟨#[54, 39, 98, 122, 122, 49, 49, 49, 49]⟩ := by
  have : txt 6 vh 6 = [54, 39, 98, 122, 122, 49, 49, 49, 49] := by decide +kernel
  rw [this]
set_option maxHeartbeats 400000 in
theorem int_yes (n : Nat) (a : Vx) (w : World) (ha : a.ok n) (hx : (a.x == 0#64) = true) : Calls Tryd.prog 10 #[.agg #[.int .i64 n, .int .u64 (U a.v), .int .u64 (U a.x)]] w fun e w' => e = .returned (.tuple #[.int .i64 (S (ext n a.v)), .bool true]) ∧ Below w.heap.size w w' := by
  have h1 := ha.lo
  have h2 := ha.hi
  go_enter Tryd.func10, Tryd.ntmps10
  go_wp2_with fail
  refine (known_yes n a _ ha hx).mono ?_
  rintro e w1 ⟨rfl, hb1⟩
  obtain ⟨hc1, hf1⟩ := bcell hb1
  have z1_0 : w.heap.size < w1.heap.size := bsize hb1 (by first | omega | (simp <;> omega))
  go_wp2_with fail
  refine (extend_q n a.v _ h1 h2).mono ?_
  rintro e w' ⟨rfl, rfl⟩
  go_wp2_with fail
  go_ret2
  exact ⟨rfl, ((Below.refl _ _).alloc (Nat.le_refl _) _).trans (hb1.mono (by simp))⟩
def vc : Vx := kv 8 200#64
theorem vc_ok : vc.ok 8 := kv_ok (by decide) (by decide) _
theorem vx_eq {a : Vx} {v x : BitVec 64} (h : a.v = v) (k : a.x = x) : a = ⟨v, x⟩ := by cases a; simp_all
theorem vc_sum : vop 8 (· + ·) vc vc = ⟨144#64, 0#64⟩ := vx_eq (by decide +kernel) (by decide +kernel)
theorem vc_int : S (ext 8 vc.v) = -56 := by decide +kernel
set_option maxRecDepth 100000 in
set_option maxHeartbeats 1000000 in
theorem vectors_ok {B : Nat} (w : World) (hG : Glob B w) : Calls Tryd.prog 4 #[] w fun e w' => e = .returned (.bool true) ∧ Below w.heap.size w w' := by
  have hi := vc_int
  have hs := vc_sum
  have u1 : U 144#64 = 144 := by decide
  have u0 : U 0#64 = 0 := by decide
  have HG := Lib.hid hG
  have HI := Lib.hid hi
  have HS := Lib.hid hs
  clear hG hi hs
  go_enter Tryd.func4, Tryd.ntmps4
  go_wp2_with fail
  refine (read_h _ HG.out).mono ?_
  rintro e w1 ⟨rfl, hb1⟩
  have bw1 : Below w.heap.size w w1 := hb1
  have sz1 := bw1.size
  clear hb1
  go_wp2_with fail
  refine (read_d _ ((HG.out.here bw1).here ((Below.refl _ _).alloc (Nat.le_refl _) _))).mono ?_
  rintro e w2 ⟨rfl, hb2⟩
  obtain ⟨hc2, hf2⟩ := bcell hb2
  have z2_w1 : w1.heap.size < w2.heap.size := bsize hb2 (by first | omega | (simp <;> omega))
  have bw2 : Below w.heap.size w w2 := (bw1.trans (((Below.refl _ _).alloc (Nat.le_refl _) _).mono sz1)).trans (hb2.mono (by first | omega | (simp <;> omega)))
  have sz2 := bw2.size
  clear hf2
  go_wp2_with fail
  refine (int_yes 8 vc _ vc_ok (by decide +kernel)).mono ?_
  rintro e w3 ⟨rfl, hb3⟩
  rw [HI.out]
  obtain ⟨hc3, hf3⟩ := bcell hb3
  have z3_w1 : w1.heap.size < w3.heap.size := bsize hb3 (by first | omega | (simp <;> omega))
  have z3_w2 : w2.heap.size < w3.heap.size := bsize hb3 (by first | omega | (simp <;> omega))
  have bw3 : Below w.heap.size w w3 := (bw2.trans (((Below.refl _ _).alloc (Nat.le_refl _) _).mono sz2)).trans (hb3.mono (by first | omega | (simp <;> omega)))
  have sz3 := bw3.size
  clear hf3
  go_wp2_with fail
  refine (text_ok 6 vh vh_ok (by decide +kernel) _ (HG.out.here bw3)).mono ?_
  rintro e w4 ⟨rfl, hb4⟩
  rw [vt1]
  obtain ⟨hc4, hf4⟩ := bcell hb4
  have z4_w1 : w1.heap.size < w4.heap.size := bsize hb4 (by first | omega | (simp <;> omega))
  have z4_w2 : w2.heap.size < w4.heap.size := bsize hb4 (by first | omega | (simp <;> omega))
  have bw4 : Below w.heap.size w w4 := bw3.trans (hb4.mono sz3)
  have sz4 := bw4.size
  clear hf4
  go_wp2_with fail
  refine (add_ok 8 vc vc _ vc_ok vc_ok).mono ?_
  rintro e w5 ⟨rfl, hb5⟩
  rw [HS.out]
  go_wp2_with fail
  go_ret
  exact ⟨rfl, bw4.trans (hb5.mono sz4)⟩
end Go.Proofs.YtgmgmkhcadimjaaDoor
