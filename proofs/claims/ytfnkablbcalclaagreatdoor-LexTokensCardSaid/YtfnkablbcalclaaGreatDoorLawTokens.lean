/- The law on tokens. -/
import Derived.Test.YtfnkablbcalclaaGreatDoorMgToks
import Derived.Test.YtfnkablbcalclaaGreatDoorLrToks
namespace Go.Proofs.YtfnkablbcalclaaGreatDoor
open Go Go.RowKit
set_option linter.unusedVariables false
theorem lx_done {s : ByteArray} (hs : s.size ≤ 2000) {p : Nat} {acc : List Tk} {F : Fin} (h : Lx s p acc F) : ∀ L, F = .done L → acc.length ≤ p → 1 ≤ L.length ∧ L.length ≤ s.size + 1 := by
  induction h with
  | fin =>
    intro L e ha
    injection e with e
    subst e
    simp
    omega
  | hop h hn r ih => intro L e ha; exact ih L e (by omega)
  | short h hn => intro L e; cases e
  | @tok p acc F k t q n v x sg z h hn hR r ih =>
    intro L e ha
    have hp := scan_rt (rst s p) (by rw [rst_size]; omega) (by rw [rst_size]; omega) _ hR
    obtain ⟨_, _, h3, _, _⟩ := hp
    exact ih L e (by simp; omega)
  | bad h hn hR => intro L e; cases e
set_option maxRecDepth 100000 in
set_option maxHeartbeats 4000000 in
theorem tokens_mid (s : ByteArray) (h1 : 2000 < s.size) (h2 : s.size ≤ 16000) (w : World) (hG : PG w) :
    Calls Tryz.prog 3 #[.string s] w fun e w' => e = .returned (.bool true) ∧ Below w.heap.size w w' := by
  have k1 : (2000 : Int) < (s.size : Int) := by omega
  have k2 : (s.size : Int) ≤ 16000 := by omega
  have HS := Lib.hid (fun (W : World) (hb : Below w.heap.size w W) => scanned_ok W (hG.below hb))
  go_enter Tryz.func3, Tryz.ntmps3
  go_upto_region 2 with (go_at_call 4; refine (HS.out _ (Below.refl _ _)).mono ?_; rintro e w1 ⟨rfl, hb1⟩)
  go_wp2_with (go_at_call 4; refine (HS.out _ hb1).mono ?_; rintro e w2 ⟨rfl, hb2⟩)
  go_ret
  exact ⟨rfl, hb1.trans (hb2.mono hb1.size)⟩
set_option maxRecDepth 100000 in
set_option maxHeartbeats 4000000 in
theorem tokens_big (s : ByteArray) (h1 : 16000 < s.size) (h2 : s.size ≤ 9223372036854775807) (w : World) (hG : PG w) :
    Calls Tryz.prog 3 #[.string s] w fun e w' => e = .returned (.bool true) ∧ Below w.heap.size w w' := by
  have k1 : (2000 : Int) < (s.size : Int) := by omega
  have k2 : ¬ (s.size : Int) ≤ 16000 := by omega
  have HS := Lib.hid (fun (W : World) (hb : Below w.heap.size w W) => scanned_ok W (hG.below hb))
  have HP := Lib.hid (prog_big s h1 h2)
  have HR := Lib.hid (ref_big s h1 h2)
  clear h1 h2
  go_enter Tryz.func3, Tryz.ntmps3
  go_upto_region 3 with (go_at_call 4; refine (HS.out _ (Below.refl _ _)).mono ?_; rintro e w1 ⟨rfl, hb1⟩)
  go_upto_region 4 with (go_at_call 5; refine (HP.out _).mono ?_; rintro e w2 ⟨rfl, hb2⟩)
  go_upto_region 5 with (go_at_call 6; refine (HR.out _).mono ?_; rintro e w3 ⟨rfl, hb3⟩)
  go_wp2_with (go_at_call 7; refine (equal_nil _).mono ?_; rintro e w4 ⟨rfl, hb4⟩)
  go_ret
  have b2 := hb1.trans (hb2.mono hb1.size)
  have b3 := b2.trans (hb3.mono b2.size)
  exact ⟨rfl, b3.trans (hb4.mono b3.size)⟩
set_option maxRecDepth 100000 in
set_option maxHeartbeats 4000000 in
theorem tokens_small (s : ByteArray) (hs : s.size ≤ 2000) (w : World) (hG : PG w) :
    Calls Tryz.prog 3 #[.string s] w fun e w' => e = .returned (.bool true) ∧ Below w.heap.size w w' := by
  have k1 : ¬ (2000 : Int) < (s.size : Int) := by omega
  obtain ⟨F, hF⟩ := lx_total s hs s.size 0 [] (Nat.zero_le _) (by omega)
  have HS := Lib.hid (fun (W : World) (hb : Below w.heap.size w W) => scanned_ok W (hG.below hb))
  have HP := Lib.hid (fun (W : World) (hb : Below w.heap.size w W) => prog_tokens s hs F hF W (hG.below hb))
  have HR := Lib.hid (ref_tokens s hs F hF)
  cases F with
  | done L =>
    obtain ⟨l1, l2⟩ := lx_done hs hF L rfl (Nat.le_refl _)
    clear hF hG
    go_enter Tryz.func3, Tryz.ntmps3
    go_upto_region 3 with (go_at_call 4; refine (HS.out _ (Below.refl _ _)).mono ?_; rintro e w1 ⟨rfl, hb1⟩)
    go_upto_region 4 with (go_at_call 5; refine (HP.out _ hb1).mono ?_; rintro e w2 ⟨⟨v2, rfl, o2⟩, hb2⟩)
    go_upto_region 5 with (go_at_call 6; refine (HR.out _).mono ?_; rintro e w3 ⟨⟨v3, rfl, o3⟩, hb3⟩)
    obtain ⟨b2, c2, rfl, n2, a2⟩ := o2.at l1
    obtain ⟨b3, c3, rfl, n3, a3⟩ := o3.at l1
    have HE := Lib.hid (equal_tok b2 c2 b3 c3 L (by omega) n2 n3 w3 (fun j hj c hc => by
      have h := a2 j hj c hc
      obtain ⟨u, hu⟩ : ∃ u, (encT L[j])[c]? = some u := ⟨_, List.getElem?_eq_getElem (l := encT L[j]) (i := c) (show c < 9 from hc)⟩
      rw [hu] at h ⊢
      exact (hb3.cell (p := ⟨b2, j * 9 + c, none⟩) (World.block_lt_of_cell? w2 _ h)).trans h) a3)
    clear a2 a3 o2 o3
    go_wp2_with (go_at_call 7; refine HE.out.mono ?_; rintro e w4 ⟨rfl, hb4⟩)
    go_ret
    have b2 := hb1.trans (hb2.mono hb1.size)
    have b3 := b2.trans (hb3.mono b2.size)
    exact ⟨rfl, b3.trans (hb4.mono b3.size)⟩
  | bad y x c =>
    clear hF hG
    go_enter Tryz.func3, Tryz.ntmps3
    go_upto_region 3 with (go_at_call 4; refine (HS.out _ (Below.refl _ _)).mono ?_; rintro e w1 ⟨rfl, hb1⟩)
    go_upto_region 4 with (go_at_call 5; refine (HP.out _ hb1).mono ?_; rintro e w2 ⟨rfl, hb2⟩)
    go_upto_region 5 with (go_at_call 6; refine (HR.out _).mono ?_; rintro e w3 ⟨rfl, hb3⟩)
    go_wp2_with (go_at_call 7; refine (equal_nil _).mono ?_; rintro e w4 ⟨rfl, hb4⟩)
    go_ret
    have b2 := hb1.trans (hb2.mono hb1.size)
    have b3 := b2.trans (hb3.mono b2.size)
    exact ⟨rfl, b3.trans (hb4.mono b3.size)⟩
theorem tokens_any (s : ByteArray) (hs : s.size ≤ 9223372036854775807) (w : World) (hG : PG w) :
    Calls Tryz.prog 3 #[.string s] w fun e w' => e = .returned (.bool true) ∧ Below w.heap.size w w' := by
  by_cases h1 : s.size ≤ 2000
  · exact tokens_small s h1 w hG
  · by_cases h2 : s.size ≤ 16000
    · exact tokens_mid s (by omega) h2 w hG
    · exact tokens_big s (by omega) hs w hG
end Go.Proofs.YtfnkablbcalclaaGreatDoor
