/- The example of the chapter on tokens. -/
import Derived.Test.YtogmipbdnffegaaGreatDoorLxEq
namespace Go.Proofs.YtogmipbdnffegaaGreatDoor
open Go Go.RowKit
set_option linter.unusedVariables false
def exT : ByteArray := ⟨#[97, 60, 61, 56, 39, 115, 100, 53, 59]⟩
theorem hop0 : hop (rst exT 0) = none := by kernel_rfl
theorem hop1 : hop (rst exT 1) = none := by kernel_rfl
theorem hop3 : hop (rst exT 3) = none := by kernel_rfl
theorem hop8 : hop (rst exT 8) = none := by kernel_rfl
theorem rt0 : Rt (rst exT 0) (.ok 1 ⟨#[97]⟩ false 0 0 0 false 1) := by
  have h := Rt.name (r := rst exT 0) (by kernel_rfl) (of_decide_eq_true (by kernel_rfl))
  have e : (Res.ok (if isKey ((rst exT 0).extract 0 (span inW (rst exT 0))).data.toList then 2 else 1) ((rst exT 0).extract 0 (span inW (rst exT 0))) false 0 0 0 false (span inW (rst exT 0))) = Res.ok 1 ⟨#[97]⟩ false 0 0 0 false 1 := by kernel_rfl
  rw [e] at h
  exact h
theorem rt1 : Rt (rst exT 1) (.ok 5 ⟨#[60, 61]⟩ false 0 0 0 false 2) := by
  have h := Rt.sign (r := rst exT 1) (by kernel_rfl) (by kernel_rfl) (of_decide_eq_true (by kernel_rfl)) (of_decide_eq_true (by kernel_rfl)) (i := 8) (by kernel_rfl)
  have e : Res.ok 5 (signB 8) false 0 0 0 false (signB 8).size = Res.ok 5 ⟨#[60, 61]⟩ false 0 0 0 false 2 := by kernel_rfl
  rw [e] at h
  exact h
theorem rt8 : Rt (rst exT 8) (.ok 5 ⟨#[59]⟩ false 0 0 0 false 1) := by
  have h := Rt.sign (r := rst exT 8) (by kernel_rfl) (by kernel_rfl) (of_decide_eq_true (by kernel_rfl)) (of_decide_eq_true (by kernel_rfl)) (i := 27) (by kernel_rfl)
  have e : Res.ok 5 (signB 27) false 0 0 0 false (signB 27).size = Res.ok 5 ⟨#[59]⟩ false 0 0 0 false 1 := by kernel_rfl
  rw [e] at h
  exact h
theorem cut3 : Cutt ⟨#[56, 39, 115, 100, 53]⟩ ⟨#[56]⟩ ⟨#[115, 100, 53]⟩ ⟨#[100, 53]⟩ :=
  ⟨by decide, by decide, by kernel_rfl, fun i h hi => by
    have hi' : i < 1 := hi
    have : i = 0 := by omega
    subst this
    exact (show 48 ≤ 56 ∧ 56 ≤ 57 by omega), fun _ => (show (56 : Nat) ≠ 48 by decide), fun _ => by kernel_rfl, by kernel_rfl, .inl ⟨by decide, by kernel_rfl, by kernel_rfl⟩⟩
theorem rdg3 : Rdg ⟨#[56, 39, 115, 100, 53]⟩ (.tuple #[.agg #[.int .i64 8, .int .u64 5, .int .u64 0], .int .i64 0]) := by
  have h := Rdg.decOk cut3 (by decide) (by decide) (by decide) (by decide) (by kernel_rfl) (by decide) (of_decide_eq_true (by kernel_rfl))
  have e : good (wid ⟨#[56]⟩) (kv (wid ⟨#[56]⟩) (BitVec.ofNat 64 (dval 0 ((ByteArray.mk #[100, 53]).extract 1 (ByteArray.mk #[100, 53]).size).data.toList))) = .tuple #[.agg #[.int .i64 8, .int .u64 5, .int .u64 0], .int .i64 0] := by kernel_rfl
  rw [e] at h
  exact h
theorem rt3 : Rt (rst exT 3) (.ok 3 ⟨#[]⟩ false 8 5 0 true 5) := by
  have hq : quoT (rst exT 3) (span isD (rst exT 3)) = ⟨#[56, 39, 115, 100, 53]⟩ := by kernel_rfl
  have h := Rt.nq (r := rst exT 3) (by kernel_rfl) (of_decide_eq_true (by kernel_rfl)) (by kernel_rfl) (a := 8) (b := 5) (c := 0) (by rw [hq]; exact rdg3)
  have e : Res.ok 3 ⟨#[]⟩ false 8 5 0 (decide (gb (rst exT 3) (span isD (rst exT 3) + 1) = 115)) (span isD (rst exT 3) + 1 + span inW ((rst exT 3).extract (span isD (rst exT 3) + 1) (rst exT 3).size)) = Res.ok 3 ⟨#[]⟩ false 8 5 0 true 5 := by kernel_rfl
  rw [e] at h
  exact h
def exL : List Tk := [⟨1, 1, 1, ⟨#[97]⟩, false, 0, 0, 0, false⟩, ⟨5, 1, 2, ⟨#[60, 61]⟩, false, 0, 0, 0, false⟩, ⟨3, 1, 4, ⟨#[]⟩, false, 8, 5, 0, true⟩, ⟨5, 1, 9, ⟨#[59]⟩, false, 0, 0, 0, false⟩, ⟨0, 1, 10, ⟨#[]⟩, false, 0, 0, 0, false⟩]
theorem lx_ex : Lx exT 0 [] (.done exL) := by
  have h : Lx exT 9 [tkAt exT 0 1 ⟨#[97]⟩ false 0 0 0 false, tkAt exT 1 5 ⟨#[60, 61]⟩ false 0 0 0 false, tkAt exT 3 3 ⟨#[]⟩ false 8 5 0 true, tkAt exT 8 5 ⟨#[59]⟩ false 0 0 0 false] (.done exL) := by
    have h := Lx.fin (s := exT) (acc := [tkAt exT 0 1 ⟨#[97]⟩ false 0 0 0 false, tkAt exT 1 5 ⟨#[60, 61]⟩ false 0 0 0 false, tkAt exT 3 3 ⟨#[]⟩ false 8 5 0 true, tkAt exT 8 5 ⟨#[59]⟩ false 0 0 0 false])
    have e : [tkAt exT 0 1 ⟨#[97]⟩ false 0 0 0 false, tkAt exT 1 5 ⟨#[60, 61]⟩ false 0 0 0 false, tkAt exT 3 3 ⟨#[]⟩ false 8 5 0 true, tkAt exT 8 5 ⟨#[59]⟩ false 0 0 0 false] ++ [tkAt exT exT.size 0 ⟨#[]⟩ false 0 0 0 false] = exL := by kernel_rfl
    rw [e] at h
    exact h
  exact .tok (by decide) hop0 rt0 (.tok (by decide) hop1 rt1 (.tok (by decide) hop3 rt3 (.tok (by decide) hop8 rt8 h)))
set_option maxRecDepth 100000 in
set_option maxHeartbeats 4000000 in
theorem scanned_ok (w : World) (hG : PG w) : Calls Tryz.prog 6 #[] w fun e w' => e = .returned (.bool true) ∧ Below w.heap.size w w' := by
  have hP := prog_tokens exT (by decide) _ lx_ex w hG
  have hP2 : Calls Tryz.prog 21 #[.string ⟨#[97, 60, 61, 56, 39, 115, 100, 53, 59]⟩] w fun e w' => ∃ g cap, e = .returned (.tuple #[.slice (some ⟨g, 0, none⟩) 5 cap, .int .i64 0, .int .i64 0, .int .i64 0]) ∧ 5 ≤ cap ∧ (∀ j (hj : j < exL.length) c, c < 9 → w'.cell? ⟨g, j * 9 + c, none⟩ = (encT exL[j])[c]?) ∧ Below w.heap.size w w' := by
    refine hP.mono ?_
    rintro e w' ⟨⟨v, rfl, ho⟩, hb⟩
    obtain ⟨g, cap, rfl, hc, ha⟩ := ho.at (by decide)
    exact ⟨g, cap, rfl, hc, ha, hb⟩
  have HP := Lib.hid hP2
  clear hP hP2 hG
  go_enter Tryz.func6, Tryz.ntmps6
  go_upto_region 2 with (go_at_call 21; refine HP.out.mono ?_; rintro e w1 ⟨g, cap, rfl, hc, ha, hb⟩)
  have a03 : w1.cell? ⟨g, 3, none⟩ = some (.string ⟨#[97]⟩) := ha 0 (by decide) 3 (by decide)
  have a13 : w1.cell? ⟨g, 12, none⟩ = some (.string ⟨#[60, 61]⟩) := ha 1 (by decide) 3 (by decide)
  have a20 : w1.cell? ⟨g, 18, none⟩ = some (.int .i64 3) := ha 2 (by decide) 0 (by decide)
  have a21 : w1.cell? ⟨g, 19, none⟩ = some (.int .i64 1) := ha 2 (by decide) 1 (by decide)
  have a22 : w1.cell? ⟨g, 20, none⟩ = some (.int .i64 4) := ha 2 (by decide) 2 (by decide)
  have a23 : w1.cell? ⟨g, 21, none⟩ = some (.string ⟨#[]⟩) := ha 2 (by decide) 3 (by decide)
  have a24 : w1.cell? ⟨g, 22, none⟩ = some (.bool false) := ha 2 (by decide) 4 (by decide)
  have a25 : w1.cell? ⟨g, 23, none⟩ = some (.int .i64 8) := ha 2 (by decide) 5 (by decide)
  have a26 : w1.cell? ⟨g, 24, none⟩ = some (.int .u64 5) := ha 2 (by decide) 6 (by decide)
  have a27 : w1.cell? ⟨g, 25, none⟩ = some (.int .u64 0) := ha 2 (by decide) 7 (by decide)
  have a28 : w1.cell? ⟨g, 26, none⟩ = some (.bool true) := ha 2 (by decide) 8 (by decide)
  have a40 : w1.cell? ⟨g, 36, none⟩ = some (.int .i64 0) := ha 4 (by decide) 0 (by decide)
  clear ha HP
  go_wp2_with fail
  go_ret
  exact ⟨rfl, hb⟩
end Go.Proofs.YtogmipbdnffegaaGreatDoor
