/- The law on names. -/
import Derived.Test.YtogmipbdnffegaaGreatDoorLxEx
import Derived.Test.YtogmipbdnffegaaGreatDoorLnP
import Derived.Test.YtogmipbdnffegaaGreatDoorLnR
import Derived.Test.YtogmipbdnffegaaGreatDoorLnStr
import Derived.Test.YtogmipbdnffegaaGreatDoorLnW
import Derived.Test.YtogmipbdnffegaaGreatDoorLnSp
namespace Go.Proofs.YtogmipbdnffegaaGreatDoor
open Go Go.RowKit
set_option linter.unusedVariables false
set_option maxRecDepth 100000 in
set_option maxHeartbeats 4000000 in
theorem names_big (s : ByteArray) (h1 : 1000 < s.size) (w : World) (hG : PG w) :
    Calls Tryz.prog 3 #[.string s] w fun e w' => e = .returned (.bool true) ∧ Below w.heap.size w w' := by
  have k1 : (1000 : Int) < (s.size : Int) := by omega
  have HS := Lib.hid (fun (W : World) (hb : Below w.heap.size w W) => scanned_ok W (hG.below hb))
  go_enter Tryz.func3, Tryz.ntmps3
  go_upto_region 2 with (go_at_call 6; refine (HS.out _ (Below.refl _ _)).mono ?_; rintro e w1 ⟨rfl, hb1⟩)
  go_wp2_with (go_at_call 6; refine (HS.out _ hb1).mono ?_; rintro e w2 ⟨rfl, hb2⟩)
  go_ret
  exact ⟨rfl, hb1.trans (hb2.mono hb1.size)⟩
set_option maxRecDepth 100000 in
set_option maxHeartbeats 4000000 in
theorem names_small (s : ByteArray) (h1 : s.size ≤ 1000) (w : World) (hG : PG w) :
    Calls Tryz.prog 3 #[.string s] w fun e w' => e = .returned (.bool true) ∧ Below w.heap.size w w' := by
  have k1 : (s.size : Int) ≤ 1000 := by omega
  have HS := Lib.hid (fun (W : World) (hb : Below w.heap.size w W) => scanned_ok W (hG.below hb))
  have HW := Lib.hid (fun (W : World) (hb : Below w.heap.size w W) => words_any W (hG.lg.below hb))
  have HN := Lib.hid (fun (W : World) (hb : Below w.heap.size w W) => signs_any W (hG.lg.below hb))
  have hp := fun (W : World) (hb : Below w.heap.size w W) => plain_any s W (hG.lg.below hb)
  have hr := fun W => rplain_any s W
  have hq := fun W => quoted_any s W
  have hu := fun W => rquoted_any s W
  have ht := fun W => quote_any s h1 W
  have hv := fun W => rstring_any s h1 W
  generalize plN s = P at *
  generalize quN s = Q at *
  generalize qbs (quoL s.data.toList) = X at *
  have HP := Lib.hid hp
  have HR := Lib.hid hr
  have HQ := Lib.hid hq
  have HU := Lib.hid hu
  have HT := Lib.hid ht
  have HV := Lib.hid hv
  clear hp hr hq hu ht hv
  go_enter Tryz.func3, Tryz.ntmps3
  go_upto_region 3 with (go_at_call 6; refine (HS.out _ (Below.refl _ _)).mono ?_; rintro e w1 ⟨rfl, hb⟩)
  go_wp2_with (first
    | (go_at_call 8; refine (HW.out _ hb).mono ?_; rintro e w2 ⟨g1, c1, rfl, k1, T1, hb2⟩; replace hb := hb.trans (hb2.mono hb.size))
    | (go_at_call 9; refine (lexWords_any _).mono ?_; rintro e w2 ⟨v, rfl, ho, hb2⟩; obtain ⟨g2, c2, rfl, k2, T2⟩ := OS.row (n := 54) (f := wordB) ho (by decide); replace T1 := T1.below hb2; replace hb := hb.trans (hb2.mono hb.size))
    | (go_at_call 7; with_reducible refine (equal_str g1 c1 g2 c2 54 wordB (by decide) k1 k2 _ T1 T2).mono ?_; rintro e w2 ⟨rfl, hb2⟩; replace hb := hb.trans (hb2.mono hb.size))
    | (go_at_call 10; refine (HN.out _ hb).mono ?_; rintro e w2 ⟨g3, c3, rfl, k3, T3, hb2⟩; replace hb := hb.trans (hb2.mono hb.size))
    | (go_at_call 11; refine (lexSigns_any _).mono ?_; rintro e w2 ⟨v, rfl, ho, hb2⟩; obtain ⟨g4, c4, rfl, k4, T4⟩ := OS.row (n := 39) (f := signB) ho (by decide); replace T3 := T3.below hb2; replace hb := hb.trans (hb2.mono hb.size))
    | (go_at_call 7; with_reducible refine (equal_str g3 c3 g4 c4 39 signB (by decide) k3 k4 _ T3 T4).mono ?_; rintro e w2 ⟨rfl, hb2⟩; replace hb := hb.trans (hb2.mono hb.size))
    | (go_at_call 12; refine (HP.out _ hb).mono ?_; rintro e w2 ⟨rfl, hb2⟩; replace hb := hb.trans (hb2.mono hb.size))
    | (go_at_call 13; refine (HR.out _).mono ?_; rintro e w2 ⟨rfl, hb2⟩; replace hb := hb.trans (hb2.mono hb.size))
    | (go_at_call 14; refine (HQ.out _).mono ?_; rintro e w2 ⟨rfl, hb2⟩; replace hb := hb.trans (hb2.mono hb.size))
    | (go_at_call 15; refine (HU.out _).mono ?_; rintro e w2 ⟨rfl, hb2⟩; replace hb := hb.trans (hb2.mono hb.size))
    | (go_at_call 16; refine (HT.out _).mono ?_; rintro e w2 ⟨rfl, hb2⟩; replace hb := hb.trans (hb2.mono hb.size))
    | (go_at_call 17; refine (HV.out _).mono ?_; rintro e w2 ⟨rfl, rfl⟩))
  go_ret
  exact ⟨rfl, hb⟩
theorem names_any (s : ByteArray) (w : World) (hG : PG w) :
    Calls Tryz.prog 3 #[.string s] w fun e w' => e = .returned (.bool true) ∧ Below w.heap.size w w' := by
  by_cases h : s.size ≤ 1000
  · exact names_small s h w hG
  · exact names_big s (by omega) w hG
end Go.Proofs.YtogmipbdnffegaaGreatDoor
