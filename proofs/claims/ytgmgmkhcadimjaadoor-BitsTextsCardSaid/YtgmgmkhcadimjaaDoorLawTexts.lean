/- The law BitsTexts: its walk. -/
import Derived.Test.YtgmgmkhcadimjaaDoorRdAll
import Derived.Test.YtgmgmkhcadimjaaDoorRfRdA
import Derived.Test.YtgmgmkhcadimjaaDoorVectors
import Derived.Test.YtgmgmkhcadimjaaDoorShwA
namespace Go.Proofs.YtgmgmkhcadimjaaDoor
open Go Go.RowKit
set_option linter.unusedVariables false
theorem rdg_form {s : ByteArray} {v : Value} (h : Rdg s v) : ∃ a b c e : Int, v = .tuple #[.agg #[.int .i64 a, .int .u64 b, .int .u64 c], .int .i64 e] := by
  cases h <;> exact ⟨_, _, _, _, rfl⟩
set_option maxRecDepth 100000 in
set_option maxHeartbeats 1000000 in
theorem text_no (r : Rb) (h : r.okB = false) (w : World) :
    Calls Tryd.prog 9 #[.agg #[.int .i64 r.W, .int .u64 (U r.v), .int .u64 (U r.x)]] w fun e w' => e = .returned (.string ⟨#[]⟩) ∧ Below w.heap.size w w' := by
  have hv := valid_any r
  rw [h] at hv
  have HV := Lib.hid hv
  clear hv h
  go_enter Tryd.func9, Tryd.ntmps9
  go_wp2_with fail
  refine (HV.out _).mono ?_
  rintro e w1 ⟨rfl, hb1⟩
  obtain ⟨hc1, hf1⟩ := bcell hb1
  have b1 : Below w.heap.size w w1 := ((Below.refl _ _).alloc (Nat.le_refl _) _).trans (hb1.mono (by first | omega | (simp <;> omega)))
  go_wp2_with fail
  go_ret
  exact ⟨rfl, b1⟩
/-- the text of any vector, for both sides -/
theorem text_any (r : Rb) {B : Nat} : ∃ t : ByteArray, (∀ w, Glob B w → Calls Tryd.prog 9 #[.agg #[.int .i64 r.W, .int .u64 (U r.v), .int .u64 (U r.x)]] w fun e w' => e = .returned (.string t) ∧ Below w.heap.size w w') ∧ (r.okB = false → t = ⟨#[]⟩) ∧ (r.okB = true → ∀ w, Calls Tryd.prog 8 #[.agg #[.int .i64 r.W, .int .u64 (U r.v), .int .u64 (U r.x)]] w fun e w' => e = .returned (.string t) ∧ Below w.heap.size w w') := by
  cases h : r.okB
  · exact ⟨⟨#[]⟩, fun w _ => text_no r h w, fun _ => rfl, fun h => absurd h (by decide)⟩
  · obtain ⟨n, hn, hok⟩ := Rb.ok_of h
    have ha : (⟨r.v, r.x⟩ : Vx).ok n := hok
    have hl20 : (Lib.itoa n).length ≤ 20 := by
      have : ∀ k : Fin 65, (Lib.itoa ((k.1 : Nat) : Int)).length ≤ 20 := by decide +kernel
      exact this ⟨n, by have := ha.hi; omega⟩
    refine ⟨⟨(txt n ⟨r.v, r.x⟩ n).toArray⟩, fun w hG => ?_, fun h => absurd h (by decide), fun _ w => ?_⟩
    · rw [hn]; exact text_ok n ⟨r.v, r.x⟩ ha hl20 w hG
    · rw [hn]; exact shown_ok n ⟨r.v, r.x⟩ ha w
set_option maxRecDepth 100000 in
set_option maxHeartbeats 2000000 in
theorem bitsTexts_any (r : Rb) (s : ByteArray) (w : World) {B : Nat} (hG : Glob B w) (hsm : s.size ≤ 9223372036854775807) (ev : Value) (hv : w.cell? ⟨2, 0, none⟩ = some ev) (hev : ev = .nilIface ∨ ∃ te pe, ev = .iface te pe) :
    Calls Tryd.prog 3 #[.agg #[.int .i64 r.W, .int .u64 (U r.v), .int .u64 (U r.x)], .string s] w fun e w' => e = .returned (.bool true) ∧ Below w.heap.size w w' := by
  have HG := Lib.hid hG
  have HE := Lib.hid hev
  clear hG hev
  obtain ⟨t, hT, hT0, hT1⟩ := text_any r (B := B)
  have HT := Lib.hid hT
  have HT0 := Lib.hid hT0
  have HT1 := Lib.hid hT1
  clear hT hT0 hT1
  go_enter Tryd.func3, Tryd.ntmps3
  go_upto_region 1 with fail
  obtain ⟨W1, hW1⟩ : ∃ W, W = w.alloc (Obj.cells #[Value.int IntKind.i64 r.W, Value.int IntKind.u64 (U r.v), Value.int IntKind.u64 (U r.x)] 24) := ⟨_, rfl⟩
  have X : Box W1 w.heap.size r.W (U r.v) (U r.x) ∧ W1.heap.size = w.heap.size + 1 ∧ Below w.heap.size w W1 := by
    rw [hW1]
    exact ⟨Box.new _ _ _ _, by simp, (Below.refl _ _).alloc (Nat.le_refl _) _⟩
  rw [← hW1]
  clear hW1
  obtain ⟨BX, hsz1, b1⟩ := X
  have HBX := Lib.hid BX
  have G1 := Lib.hid (HG.out.here b1)
  have HS1 := Lib.hid hsz1
  clear BX hsz1
  by_cases hl : 100 < s.size
  · have hli : (100 : Int) < (s.size : Int) := by omega
    go_wp2_with fail
    refine (vectors_ok _ G1.out).mono ?_
    rintro e w2 ⟨rfl, hb2⟩
    have b2 := b1.trans (hb2.mono b1.size)
    go_wp2_with fail
    refine (vectors_ok _ (G1.out.here hb2)).mono ?_
    rintro e w3 ⟨rfl, hb3⟩
    go_wp2_with fail
    go_ret
    exact ⟨rfl, b2.trans (hb3.mono b2.size)⟩
  have hli : ¬ ((100 : Int) < (s.size : Int)) := by omega
  obtain ⟨v, hR⟩ := rdg_total s
  obtain ⟨a, b, c, e, hvf⟩ := rdg_form hR
  obtain ⟨m, hm⟩ := HG.out.mx
  have HM := Lib.hid hm
  have HVR := Lib.hid hv
  have cP := Lib.hid fun w1 (hb : Below w.heap.size w w1) => prog_read s v (by omega) hR m ev w1 (kcell0 hb HM.out) (kcell0 hb HVR.out) HE.out
  have cR := Lib.hid fun w1 => rfRd s v (by omega) hR w1
  rw [hvf] at cP cR
  clear hm hv hR hvf hl
  go_wp2_with fail
  refine (vectors_ok _ G1.out).mono ?_
  rintro e w2 ⟨rfl, hb2⟩
  have b2 := b1.trans (hb2.mono b1.size)
  have BX2 := HBX.out.below hb2
  have s2 := b2.size
  go_wp2_with fail
  refine (cP.out _ b2).mono ?_
  rintro e w3 ⟨rfl, hb3⟩
  have b3 := b2.trans (hb3.mono b2.size)
  have BX3 := BX2.below hb3
  have s3 := b3.size
  clear hb2 hb3 BX2
  go_wp2_with fail
  refine (cR.out _).mono ?_
  rintro e w4 ⟨rfl, hb4⟩
  have b3a : Below w.heap.size w (w3.alloc (Obj.cells #[Value.int IntKind.i64 a, Value.int IntKind.u64 b, Value.int IntKind.u64 c] 24)) := b3.alloc b3.size _
  have b4 := b3a.trans (hb4.mono b3a.size)
  have BX4 := (BX3.below ((Below.refl w3.heap.size w3).alloc (Nat.le_refl _) (Obj.cells #[Value.int IntKind.i64 a, Value.int IntKind.u64 b, Value.int IntKind.u64 c] 24))).below hb4
  have BA4 := (Box.new w3 a b c).below hb4
  clear BX3 hb4 b3a
  have b4a : Below w.heap.size w (w4.alloc (Obj.cells #[Value.int IntKind.i64 a, Value.int IntKind.u64 b, Value.int IntKind.u64 c] 24)) := b4.alloc b4.size _
  have h4 := (Below.refl w4.heap.size w4).alloc (Nat.le_refl _) (Obj.cells #[Value.int IntKind.i64 a, Value.int IntKind.u64 b, Value.int IntKind.u64 c] 24)
  have BX5 := BX4.below h4
  have BA5 := BA4.below h4
  have BB5 := Box.new w4 a b c
  clear BX4 BA4 h4
  go_upto_region 6 with fail
  generalize w4.heap.size = q4 at BB5 ⊢
  generalize w3.heap.size = q3 at BA5 ⊢
  generalize w4.alloc (Obj.cells #[Value.int IntKind.i64 a, Value.int IntKind.u64 b, Value.int IntKind.u64 c] 24) = w5 at BX5 BA5 BB5 b4a ⊢
  obtain ⟨x0, x1, x2, -⟩ := id BX5
  go_wp2_with fail
  refine (refValid_any r _).mono ?_
  rintro e w6 ⟨rfl, hb6⟩
  have b6 := b4a.trans (hb6.mono b4a.size)
  have BX6 := BX5.below hb6
  have BA6 := BA5.below hb6
  have BB6 := BB5.below hb6
  clear BX5 BA5 BB5 hb6 x0 x1 x2
  obtain ⟨x0, x1, x2, -⟩ := id BX6
  cases hok : r.okB
  · have HT00 := Lib.hid (HT0.out hok)
    have htt : (⟨#[]⟩ : ByteArray) = t := HT00.out.symm
    clear hok
    have HTT := Lib.hid htt
    clear htt
    go_upto_region 8 with fail
    rw [HTT.out]
    go_wp2_with fail
    refine (HT.out _ (HG.out.here b6)).mono ?_
    rintro e w7 ⟨rfl, hb7⟩
    have b7 := b6.trans (hb7.mono b6.size)
    obtain ⟨y0, y1, y2, -⟩ := id (BA6.below hb7)
    obtain ⟨z0, z1, z2, -⟩ := id (BB6.below hb7)
    clear x0 x1 x2
    go_wp2_with fail
    go_ret
    exact ⟨rfl, b7⟩
  · have cS := Lib.hid (HT1.out hok)
    clear hok
    go_wp2_with fail
    refine (cS.out _).mono ?_
    rintro e w8 ⟨rfl, hb8⟩
    have b8 := b6.trans (hb8.mono b6.size)
    have BX8 := BX6.below hb8
    have BA8 := BA6.below hb8
    have BB8 := BB6.below hb8
    clear BX6 BA6 BB6 hb8 x0 x1 x2
    obtain ⟨x0, x1, x2, -⟩ := id BX8
    go_wp2_with fail
    refine (HT.out _ (HG.out.here b8)).mono ?_
    rintro e w7 ⟨rfl, hb7⟩
    have b7 := b8.trans (hb7.mono b8.size)
    obtain ⟨y0, y1, y2, -⟩ := id (BA8.below hb7)
    obtain ⟨z0, z1, z2, -⟩ := id (BB8.below hb7)
    clear x0 x1 x2
    go_wp2_with fail
    go_ret
    exact ⟨rfl, b7⟩
end Go.Proofs.YtgmgmkhcadimjaaDoor
