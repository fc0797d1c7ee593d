/- The makers' small graphs, and rows of cycles. Conditions: few ands, cycles and bits; the stream has handed out few numbers. -/
import Derived.Test.YtcpifmhcebfglaaGsGr
import Derived.Test.YtcpifmhcebfglaaGrPl
namespace Go.Proofs.Ytcpifmhcebfglaa
open Go Go.RowKit Go.Sort
set_option linter.unusedVariables false
theorem GS.put5 {B : Nat} {g : Gr} {v : Value} {w : World} (h : GS B g v w) (q : Nat) (u0 u1 u2 u3 u4 : Value) (hq : q < B) : GS B g v (put5 w q u0 u1 u2 u3 u4) :=
  ((((h.kept (grown_put w ⟨q, 0, none⟩ u0) hq).kept (grown_put _ ⟨q, 1, none⟩ u1) hq).kept (grown_put _ ⟨q, 2, none⟩ u2) hq).kept (grown_put _ ⟨q, 3, none⟩ u3) hq).kept (grown_put _ ⟨q, 4, none⟩ u4) hq
/-- what a small graph of the makers is -/
structure SmG (ands : Nat) (g : Gr) : Prop where
  md : MdG g
  ins : g.ins.length < 5
  regs : g.regs.length < 4
  ands : g.ands.length ≤ ands
  outs : 1 ≤ g.outs.length ∧ g.outs.length ≤ 4
set_option maxRecDepth 100000 in
set_option maxHeartbeats 4000000 in
theorem small_made (b len cap : Nat) (a : Option Addr) (k ands : Nat) (h3 : ands ≤ 900) (hk : k ≤ 300000) (w : World) (hS : Str b a len cap k w) :
    Calls Try.prog 15 #[.pointer (some ⟨b, 0, none⟩), .int .i64 (ands : Int)] w fun e w' => ∃ u, e = .returned u ∧ (∃ g, SmG ands g ∧ GS w.heap.size g u w') ∧ Adv b a len cap k (80 * ands + 700) w w' := by
  have hbl := World.block_lt_of_cell? w _ hS.c0
  have HHS := Lib.hid hS
  obtain ⟨K, hK⟩ : ∃ K : Nat, K = ands + 1 := ⟨_, rfl⟩
  have fa : (ands : Int) + 1 = (K : Int) := by omega
  have hK1 : 1 ≤ K ∧ K ≤ 901 := by omega
  have HK := Lib.hid hK
  clear hK
  go_enter Try.func15, Try.ntmps15
  go_upto_region 1 with fail
  have bA := (Below.refl w.heap.size w).alloc (Nat.le_refl _) (.cells #[.slice none 0 0, .slice none 0 0, .slice none 0 0, .slice none 0 0, .slice none 0 0] 31)
  have S0 := hS.below bA
  have P0 := allocZ w
  have hs0 : w.heap.size < (w.alloc (.cells #[.slice none 0 0, .slice none 0 0, .slice none 0 0, .slice none 0 0, .slice none 0 0] 31)).heap.size := by simp
  generalize w.alloc (.cells #[.slice none 0 0, .slice none 0 0, .slice none 0 0, .slice none 0 0, .slice none 0 0] 31) = W0 at bA S0 hs0 P0 ⊢
  generalize hp : w.heap.size = p at hs0 P0 bA hbl ⊢
  have HP := Lib.hid hp
  have HBA := Lib.hid bA
  have HP0 := Lib.hid P0
  clear hS bA hp P0
  go_wp2_with (first
    | (go_at_call 40; refine (next_any b len cap a k 5 (by omega) (by omega) (by omega) W0 S0).mono ?_; rintro e w1 ⟨r1, hr1, rfl, A1⟩; obtain ⟨⟨k1, hk1, S1⟩, G1⟩ := id A1; have HA1 := Lib.hid A1; clear S0 A1)
    | (go_at_call 40; refine (next_any b len cap a k1 4 (by omega) (by omega) (by omega) w1 S1).mono ?_; rintro e w2 ⟨r2, hr2, rfl, A2⟩; obtain ⟨⟨k2, hk2, S2⟩, G2⟩ := id A2; have HA2 := Lib.hid A2; clear S1 A2 G1)
    | (go_at_call 40; refine (next_any b len cap a k2 (K : Int) (by omega) (by omega) (by omega) w2 S2).mono ?_; rintro e w3 ⟨r3, hr3, rfl, A3⟩; obtain ⟨⟨k3, hk3, S3⟩, G3⟩ := id A3; have HA3 := Lib.hid A3; clear S2 A3 G2)
    | (go_at_call 41; refine (range_any b len cap a k3 1 4 (by omega) (by omega) (by omega) w3 S3).mono ?_; rintro e w4 ⟨r4, hr4, rfl, A4⟩; obtain ⟨⟨k4, hk4, S4⟩, G4⟩ := id A4; have HA4 := Lib.hid A4; clear S3 A4 G3)
    | (go_at_call 70; refine (graph_made b len cap a k4 r1 r2 r3 r4 (by omega) (by omega) (by omega) (by omega) (by omega) w4 S4).mono ?_; rintro e w5 ⟨u, rfl, ⟨g, hmd, hgs, hl1, hl2, hl3, hl4⟩, A5⟩
       have hK9 := HK.out
       have A45 := adv_trans (c := 80 * ands + 700) (adv_trans (c := 4) (adv_trans (c := 3) (adv_trans (c := 2) HA1.out hk1 HA2.out (by omega)) (by omega) HA3.out (by omega)) (by omega) HA4.out (by omega)) (by omega) A5 (by omega)
       have G45 := A45.gr
       have P5 := Arr.gS HP0.out G45 (by intro e; cases e; omega)
       have hB : W0.heap.size ≤ w4.heap.size := (adv_trans (c := 4) (adv_trans (c := 3) (adv_trans (c := 2) HA1.out hk1 HA2.out (by omega)) (by omega) HA3.out (by omega)) (by omega) HA4.out (by omega)).gr.size
       obtain ⟨a0, a1, a2, a3, a4, c0, c1, c2, c3, c4, hv, hC, -⟩ := id hgs.all
       subst hv
       have GF := hgs.put5 p (.slice a0 g.ins.length c0) (.slice a1 g.outN.length c1) (.slice a2 g.regs.length c2) (.slice a3 g.ands.length c3) (.slice a4 g.outs.length c4) (by omega)
       have hp4 : p ≤ w4.heap.size := by omega
       have PF := BG.all P5 (.slice a0 g.ins.length c0) (.slice a1 g.outN.length c1) (.slice a2 g.regs.length c2) (.slice a3 g.ands.length c3) (.slice a4 g.outs.length c4)
       have bP := put5_below (Below.refl p w5) (.slice a0 g.ins.length c0) (.slice a1 g.outN.length c1) (.slice a2 g.regs.length c2) (.slice a3 g.ands.length c3) (.slice a4 g.outs.length c4)
       have AF := adv_app HHS.out (adv_trans (c := 80 * ands + 700) (adv_below (adv_refl HHS.out 0) (by rw [HP.out]; exact HBA.out)) (Nat.le_add_right _ _) A45 (by omega)) (show Below w.heap.size w5 _ by rw [HP.out]; exact bP)
       have hKK := HK.out
       have HGM := Lib.hid (show SmG ands g from ⟨hmd, by omega, by omega, by omega, by omega⟩)
       have HGF := Lib.hid (GF.mono hp4)
       have HAF := Lib.hid AF
       have HPF := Lib.hid PF
       obtain ⟨y0, y1, y2, y3, y4⟩ := id (BG.gx P5)
       have q0 := Arr.free P5 0
       have q1 := Arr.free P5 1
       have q2 := Arr.free P5 2
       have q3 := Arr.free P5 3
       have q4 := Arr.free P5 4
       have lp := Arr.lt P5
       clear hK9 hKK GF AF PF bP P5 hgs hmd hC G45 A45 A5 hl1 hl2 hl3 hl4 S4 G4))
  have GF := HGF.out
  have AF := HAF.out
  have PF := HPF.out
  unfold put5 at GF AF PF
  clear y0 y1 y2 y3 y4 q0 q1 q2 q3 q4 HGF HAF HPF
  generalize ((((w5.setCell ⟨p, 0, none⟩ (.slice a0 g.ins.length c0)).setCell ⟨p, 1, none⟩ (.slice a1 g.outN.length c1)).setCell ⟨p, 2, none⟩ (.slice a2 g.regs.length c2)).setCell ⟨p, 3, none⟩ (.slice a3 g.ands.length c3)).setCell ⟨p, 4, none⟩ (.slice a4 g.outs.length c4) = WF at GF AF PF ⊢
  obtain ⟨z0, z1, z2, z3, z4⟩ := BG.gx PF
  exact bodyPost_ret (v := .agg #[.slice a0 g.ins.length c0, .slice a1 g.outN.length c1, .slice a2 g.regs.length c2, .slice a3 g.ands.length c3, .slice a4 g.outs.length c4]) (by simp [results, Try.results15, go_sem, z0, z1, z2, z3, z4]) rfl ⟨_, rfl, ⟨g, HGM.out, by rw [HP.out]; exact GF⟩, AF⟩
end Go.Proofs.Ytcpifmhcebfglaa
