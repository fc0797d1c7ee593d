/- The law on places. -/
import Derived.Test.YtplbnjpojjcnlabGreatDoorWh
namespace Go.Proofs.YtplbnjpojjcnlabGreatDoor
open Go Go.RowKit
set_option linter.unusedVariables false
set_option maxRecDepth 100000 in
set_option maxHeartbeats 1000000 in
theorem law_low (t : ByteArray) (a : Option Addr) (len cap : Nat) (line col : Int) (hn : len ≤ 5000000000000) (h : line < 1) (w : World) : Calls Tryz.prog 3 #[.agg #[.string t, .slice a len cap], .int .i64 line, .int .i64 col] w fun e w' => e = .returned (.bool true) ∧ Below w.heap.size w w' := by
  go_enter Tryz.func3, Tryz.ntmps3
  go_wp2_with fail
  have bel := (Below.refl w.heap.size w).alloc (Nat.le_refl _) (.cells #[.string t, .slice a len cap] 24)
  have S := SB.new w t a len cap
  generalize w.alloc (.cells #[.string t, .slice a len cap] 24) = W0 at bel S ⊢
  refine (where_low t a len cap line col hn h W0).mono ?_
  rintro e w1 ⟨rfl, hb⟩
  replace bel := bel.trans (hb.mono bel.size)
  replace S := S.below hb
  clear hb
  have hlt := S.lt
  obtain ⟨s0, s1⟩ := id S
  go_wp2_with fail
  refine (prepared_ok w1).mono ?_
  rintro e w1 ⟨rfl, hb⟩
  replace bel := bel.trans (hb.mono bel.size)
  replace S := S.below hb
  clear hb
  have hlt := S.lt
  obtain ⟨s0, s1⟩ := id S
  go_wp2_with fail
  go_ret
  exact ⟨rfl, bel⟩
set_option maxRecDepth 100000 in
set_option maxHeartbeats 1000000 in
theorem law_high (t : ByteArray) (a : Option Addr) (len cap : Nat) (line col : Int) (hn : len ≤ 5000000000000) (h : (len : Int) + 1 < line) (w : World) : Calls Tryz.prog 3 #[.agg #[.string t, .slice a len cap], .int .i64 line, .int .i64 col] w fun e w' => e = .returned (.bool true) ∧ Below w.heap.size w w' := by
  have h1 : ¬ (line < 1) := by omega
  go_enter Tryz.func3, Tryz.ntmps3
  go_wp2_with fail
  have bel := (Below.refl w.heap.size w).alloc (Nat.le_refl _) (.cells #[.string t, .slice a len cap] 24)
  have S := SB.new w t a len cap
  generalize w.alloc (.cells #[.string t, .slice a len cap] 24) = W0 at bel S ⊢
  refine (where_high t a len cap line col hn h W0).mono ?_
  rintro e w1 ⟨rfl, hb⟩
  replace bel := bel.trans (hb.mono bel.size)
  replace S := S.below hb
  clear hb
  have hlt := S.lt
  obtain ⟨s0, s1⟩ := id S
  go_wp2_with fail
  refine (prepared_ok w1).mono ?_
  rintro e w1 ⟨rfl, hb⟩
  replace bel := bel.trans (hb.mono bel.size)
  replace S := S.below hb
  clear hb
  have hlt := S.lt
  obtain ⟨s0, s1⟩ := id S
  go_wp2_with fail
  go_ret
  exact ⟨rfl, bel⟩
set_option maxRecDepth 100000 in
set_option maxHeartbeats 1000000 in
theorem law_zero (t : ByteArray) (a : Option Addr) (cap : Nat) (line col : Int) (w : World) : Calls Tryz.prog 3 #[.agg #[.string t, .slice a 0 cap], .int .i64 line, .int .i64 col] w fun e w' => e = .returned (.bool true) ∧ Below w.heap.size w w' := by
  by_cases h1 : line < 1
  · exact law_low t a 0 cap line col (by omega) h1 w
  · by_cases h2 : (1 : Int) < line
    · exact law_high t a 0 cap line col (by omega) (by omega) w
    · obtain rfl : line = 1 := by omega
      go_enter Tryz.func3, Tryz.ntmps3
      go_wp2_with fail
      have bel := (Below.refl w.heap.size w).alloc (Nat.le_refl _) (.cells #[.string t, .slice a 0 cap] 24)
      have S := SB.new w t a 0 cap
      generalize w.alloc (.cells #[.string t, .slice a 0 cap] 24) = W0 at bel S ⊢
      refine (where_zero t a cap 1 col W0).mono ?_
      rintro e w1 ⟨rfl, hb⟩
      replace bel := bel.trans (hb.mono bel.size)
      replace S := S.below hb
      clear hb
      have hlt := S.lt
      obtain ⟨s0, s1⟩ := id S
      go_wp2_with fail
      refine (prepared_ok w1).mono ?_
      rintro e w1 ⟨rfl, hb⟩
      replace bel := bel.trans (hb.mono bel.size)
      replace S := S.below hb
      clear hb
      have hlt := S.lt
      obtain ⟨s0, s1⟩ := id S
      go_wp2_with fail
      go_ret
      exact ⟨rfl, bel⟩
set_option maxRecDepth 100000 in
set_option maxHeartbeats 1000000 in
theorem law_mid (t : ByteArray) (b off cap k : Nat) (col : Int) (L : List Og) (w : World) (hk : k < L.length) (hn : L.length ≤ 5000000000000) (hR : ∀ j, j < L.length → OC w b (off + j * 3) L[j]!) : Calls Tryz.prog 3 #[.agg #[.string t, .slice (some ⟨b, off, none⟩) L.length cap], .int .i64 ((k : Int) + 1), .int .i64 col] w fun e w' => e = .returned (.bool true) ∧ Below w.heap.size w w' := by
  go_enter Tryz.func3, Tryz.ntmps3
  go_wp2_with fail
  have bel := (Below.refl w.heap.size w).alloc (Nat.le_refl _) (.cells #[.string t, .slice (some ⟨b, off, none⟩) L.length cap] 24)
  have S := SB.new w t (some ⟨b, off, none⟩) L.length cap
  generalize w.alloc (.cells #[.string t, .slice (some ⟨b, off, none⟩) L.length cap] 24) = W0 at bel S ⊢
  have R : ∀ j, j < L.length → OC W0 b (off + j * 3) L[j]! := fun j hj => (hR j hj).mono bel
  have C := R k (by omega)
  refine (where_mid t b off cap W0 k col L hk hn R).mono ?_
  rintro e w1 ⟨rfl, hb⟩
  replace bel := bel.trans (hb.mono bel.size)
  replace S := S.below hb
  replace C := C.below hb
  clear hb
  clear hR R
  generalize L[k]! = og at C ⊢
  generalize L.length = len at hk hn S ⊢
  obtain ⟨f, l, z⟩ := og
  have hlc := C.lt
  obtain ⟨c0, c1, c2⟩ := id C
  have hlt := S.lt
  obtain ⟨s0, s1⟩ := id S
  have h1 : (k : Int) + 1 ≤ (len : Int) := by omega
  have h3 : min ((k : Int) + 1) (len : Int) = (k : Int) + 1 := by omega
  have h4 : ¬ ((k : Int) + 1 < 1) := by omega
  have h5 : ¬ ((len : Int) = 0) := by omega
  have h6 : ((len : Int) == 0) = false := by simpa using h5
  have h7 : ¬ (len < k) := by omega
  cases z
  · go_wp2_with fail
    have N := OC.new w1 f l false
    replace bel := bel.alloc bel.size (.cells #[.string f, .int .i64 l, .bool false] 29)
    have P : w1.heap.size < (w1.alloc (.cells #[.string f, .int .i64 l, .bool false] 29)).heap.size := N.lt
    generalize w1.heap.size = p1 at N P ⊢
    generalize w1.alloc (.cells #[.string f, .int .i64 l, .bool false] 29) = W1 at N P bel ⊢
    refine (prepared_ok W1).mono ?_
    rintro e w2 ⟨rfl, hb⟩
    replace bel := bel.trans (hb.mono bel.size)
    replace N := N.below hb
    obtain ⟨n0, n1, n2⟩ := id N
    have hln := N.lt
    go_wp2_with fail
    go_ret
    exact ⟨rfl, bel⟩
  · go_wp2_with fail
    have N := OC.new w1 f l true
    replace bel := bel.alloc bel.size (.cells #[.string f, .int .i64 l, .bool true] 29)
    have P : w1.heap.size < (w1.alloc (.cells #[.string f, .int .i64 l, .bool true] 29)).heap.size := N.lt
    generalize w1.heap.size = p1 at N P ⊢
    generalize w1.alloc (.cells #[.string f, .int .i64 l, .bool true] 29) = W1 at N P bel ⊢
    refine (prepared_ok W1).mono ?_
    rintro e w2 ⟨rfl, hb⟩
    replace bel := bel.trans (hb.mono bel.size)
    replace N := N.below hb
    obtain ⟨n0, n1, n2⟩ := id N
    have hln := N.lt
    go_wp2_with fail
    go_ret
    exact ⟨rfl, bel⟩
set_option maxRecDepth 100000 in
set_option maxHeartbeats 1000000 in
theorem law_last (t : ByteArray) (b off cap k : Nat) (col : Int) (L : List Og) (w : World) (hk : L.length = k + 1) (hn : L.length ≤ 5000000000000) (hR : ∀ j, j < L.length → OC w b (off + j * 3) L[j]!) : Calls Tryz.prog 3 #[.agg #[.string t, .slice (some ⟨b, off, none⟩) (k + 1) cap], .int .i64 ((k : Int) + 2), .int .i64 col] w fun e w' => e = .returned (.bool true) ∧ Below w.heap.size w w' := by
  go_enter Tryz.func3, Tryz.ntmps3
  go_wp2_with fail
  have bel := (Below.refl w.heap.size w).alloc (Nat.le_refl _) (.cells #[.string t, .slice (some ⟨b, off, none⟩) (k + 1) cap] 24)
  have S := SB.new w t (some ⟨b, off, none⟩) (k + 1) cap
  generalize w.alloc (.cells #[.string t, .slice (some ⟨b, off, none⟩) (k + 1) cap] 24) = W0 at bel S ⊢
  have R : ∀ j, j < L.length → OC W0 b (off + j * 3) L[j]! := fun j hj => (hR j hj).mono bel
  have C := R k (by omega)
  refine (where_last t b off cap W0 k col L hk hn R).mono ?_
  rintro e w1 ⟨rfl, hb⟩
  replace bel := bel.trans (hb.mono bel.size)
  replace S := S.below hb
  replace C := C.below hb
  clear hb
  clear hR R
  generalize L[k]! = og at C ⊢
  rw [hk] at hn
  clear hk
  obtain ⟨f, l, z⟩ := og
  have hlc := C.lt
  obtain ⟨c0, c1, c2⟩ := id C
  have hlt := S.lt
  obtain ⟨s0, s1⟩ := id S
  have h1 : ¬ ((k : Int) + 2 ≤ ((k + 1 : Nat) : Int)) := by omega
  have h3 : min ((k : Int) + 2) ((k + 1 : Nat) : Int) = ((k + 1 : Nat) : Int) := by omega
  have h4 : ¬ ((k : Int) + 2 < 1) := by omega
  have h5 : ¬ (((k + 1 : Nat) : Int) = 0) := by omega
  have h6 : ¬ ((k : Int) + 1 = 0) := by omega
  have h7 : ((k : Int) + 1 == 0) = false := by simpa using h6
  have h8 : ¬ ((k : Int) + 2 ≤ (k : Int) + 1) := by omega
  have h9 : min ((k : Int) + 2) ((k : Int) + 1) = (k : Int) + 1 := by omega
  clear h1 h3 h5
  cases z
  · go_wp2_with fail
    have N := OC.new w1 f l false
    replace bel := bel.alloc bel.size (.cells #[.string f, .int .i64 l, .bool false] 29)
    have P : w1.heap.size < (w1.alloc (.cells #[.string f, .int .i64 l, .bool false] 29)).heap.size := N.lt
    generalize w1.heap.size = p1 at N P ⊢
    generalize w1.alloc (.cells #[.string f, .int .i64 l, .bool false] 29) = W1 at N P bel ⊢
    refine (prepared_ok W1).mono ?_
    rintro e w2 ⟨rfl, hb⟩
    replace bel := bel.trans (hb.mono bel.size)
    replace N := N.below hb
    obtain ⟨n0, n1, n2⟩ := id N
    have hln := N.lt
    go_wp2_with fail
    go_ret
    exact ⟨rfl, bel⟩
  · go_wp2_with fail
    have N := OC.new w1 f l true
    replace bel := bel.alloc bel.size (.cells #[.string f, .int .i64 l, .bool true] 29)
    have P : w1.heap.size < (w1.alloc (.cells #[.string f, .int .i64 l, .bool true] 29)).heap.size := N.lt
    generalize w1.heap.size = p1 at N P ⊢
    generalize w1.alloc (.cells #[.string f, .int .i64 l, .bool true] 29) = W1 at N P bel ⊢
    refine (prepared_ok W1).mono ?_
    rintro e w2 ⟨rfl, hb⟩
    replace bel := bel.trans (hb.mono bel.size)
    replace N := N.below hb
    obtain ⟨n0, n1, n2⟩ := id N
    have hln := N.lt
    go_wp2_with fail
    go_ret
    exact ⟨rfl, bel⟩
end Go.Proofs.YtplbnjpojjcnlabGreatDoor
