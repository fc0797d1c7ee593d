/- The reference's fieldFault: the fields of a node. -/
import Derived.Test.YtpjnjcljaoaceaaSyChk
import Derived.Test.YtpjnjcljaoaceaaMgLr
import Derived.Test.YtpjnjcljaoaceaaMgRun
import Derived.Test.YtpjnjcljaoaceaaRefValid
import Derived.Deep.DeepCutAuto
namespace Go.Proofs.Ytpjnjcljaoaceaa
open Go Go.RowKit Go.Sort
set_option linter.unusedVariables false
theorem contains1 (F : List UInt8) (c : UInt8) (hF : F.length ≤ 1000000) (w : World) : Calls Try.prog 16 #[.string (bs F), .string (bs [c])] w fun e w' => e = .returned (.bool (F.contains c)) ∧ w = w' := by
  have h := contains_any (bs F) (bs [c]) (by show F.toArray.size ≤ _; simpa using hF) (by show [c].toArray.size ≤ _; simp) (by show 1 ≤ [c].toArray.size; simp) w
  rw [bs_list, bs_list, Lib.index_one, ← Lib.contains_iff_indexByte] at h
  exact h
set_option maxRecDepth 100000 in
set_option maxHeartbeats 1000000 in
theorem rquoted_any (s : ByteArray) (w : World) : Calls Try.prog 29 #[.string s] w fun e w' => e = .returned (.bool (quo s)) ∧ Below w.heap.size w w' := by
  unfold quo
  by_cases h0 : 0 < s.size
  · have hn : (1 : Int) ≤ (s.size : Int) := by omega
    rw [decide_eq_true h0]
    by_cases h1 : s.size ≤ 40
    · rw [decide_eq_true h1]
      have hi : (s.size : Int) ≤ 40 := by omega
      have hS := fun W => run_Q s (by omega) W
      generalize span inQ s = n at *
      have HS := Lib.hid hS
      clear hS
      by_cases hq : n = s.size
      · have hqi : ((n : Int) == (s.size : Int)) = true := by rw [hq]; exact beq_self_eq_true _
        have hqb : (n == s.size) = true := beq_iff_eq.2 hq
        rw [hqb]
        clear hqb hq
        go_enter Try.func29, Try.ntmps29
        go_wp2_with (refine (HS.out _).mono ?_; rintro e w3 ⟨rfl, hb3⟩)
        go_ret
        exact ⟨rfl, hb3⟩
      · have hqi : ((n : Int) == (s.size : Int)) = false := beq_eq_false_iff_ne.2 (by omega)
        have hqb : (n == s.size) = false := beq_eq_false_iff_ne.2 hq
        rw [hqb]
        clear hqb
        go_enter Try.func29, Try.ntmps29
        go_wp2_with (refine (HS.out _).mono ?_; rintro e w3 ⟨rfl, hb3⟩)
        go_ret
        exact ⟨rfl, hb3⟩
    · have hi : ¬ (s.size : Int) ≤ 40 := by omega
      rw [decide_eq_false h1]
      go_enter Try.func29, Try.ntmps29
      go_wp2_with fail
      go_ret
      exact ⟨by first | rfl | simp, Below.refl _ _⟩
  · have hi : ¬ (1 : Int) ≤ (s.size : Int) := by omega
    rw [decide_eq_false h0]
    go_enter Try.func29, Try.ntmps29
    go_wp2_with fail
    go_ret
    exact ⟨by first | rfl | simp, Below.refl _ _⟩
theorem prt_wib (s : ByteArray) : wib 32 126 [] s.data.toList = prt s := by
  unfold wib prt
  simp
/-- the node of a look at its fields -/
structure FN (w : World) (h : Nat) (nm tx : ByteArray) (n v x : Int) (s : Bool) : Prop where
  c3 : w.cell? ⟨h, 3, none⟩ = some (.string nm)
  c4 : w.cell? ⟨h, 4, none⟩ = some (.string tx)
  c5 : w.cell? ⟨h, 5, none⟩ = some (.int .i64 n)
  c6 : w.cell? ⟨h, 6, none⟩ = some (.int .u64 v)
  c7 : w.cell? ⟨h, 7, none⟩ = some (.int .u64 x)
  c8 : w.cell? ⟨h, 8, none⟩ = some (.bool s)
theorem FN.below {w w' : World} {h : Nat} {nm tx : ByteArray} {n v x : Int} {s : Bool} (f : FN w h nm tx n v x s) (hb : Below w.heap.size w w') : FN w' h nm tx n v x s := by
  have q : h < w.heap.size := World.block_lt_of_cell? w _ f.c3
  have K : ∀ i, w'.cell? ⟨h, i, none⟩ = w.cell? ⟨h, i, none⟩ := fun i => hb.cell (p := ⟨h, i, none⟩) q
  exact ⟨(K _).trans f.c3, (K _).trans f.c4, (K _).trans f.c5, (K _).trans f.c6, (K _).trans f.c7, (K _).trans f.c8⟩
/-- the ways of a look, one by one -/
theorem fldE_ways (N V S X : Bool) (nm tx : ByteArray) (r : Rb) (s : Bool) {R : Int} (hR : fldE N V S X nm tx r s = R) :
    ((N != !nm.toList.isEmpty) = true → R = 4) ∧
    ((N != !nm.toList.isEmpty) = false → (!nm.toList.isEmpty && !quo nm) = true → R = 9) ∧
    ((N != !nm.toList.isEmpty) = false → (!nm.toList.isEmpty && !quo nm) = false → ((V && !r.okB) || (!V && !(r.W == 0 && (U r.v == 0 && U r.x == 0)))) = true → R = 4) ∧
    ((N != !nm.toList.isEmpty) = false → (!nm.toList.isEmpty && !quo nm) = false → ((V && !r.okB) || (!V && !(r.W == 0 && (U r.v == 0 && U r.x == 0)))) = false → (s && (!V && !S)) = true → R = 4) ∧
    ((N != !nm.toList.isEmpty) = false → (!nm.toList.isEmpty && !quo nm) = false → ((V && !r.okB) || (!V && !(r.W == 0 && (U r.v == 0 && U r.x == 0)))) = false → (s && (!V && !S)) = false → (!tx.toList.isEmpty && !X) = true → R = 4) ∧
    ((N != !nm.toList.isEmpty) = false → (!nm.toList.isEmpty && !quo nm) = false → ((V && !r.okB) || (!V && !(r.W == 0 && (U r.v == 0 && U r.x == 0)))) = false → (s && (!V && !S)) = false → (!tx.toList.isEmpty && !X) = false → 200 < tx.size → R = 3) ∧
    ((N != !nm.toList.isEmpty) = false → (!nm.toList.isEmpty && !quo nm) = false → ((V && !r.okB) || (!V && !(r.W == 0 && (U r.v == 0 && U r.x == 0)))) = false → (s && (!V && !S)) = false → (!tx.toList.isEmpty && !X) = false → ¬ 200 < tx.size → R = if prt tx = true then 0 else 4) := by
  subst hR
  have hk := Rb.chk_ok r
  unfold fldE
  rw [hk]
  generalize nm.toList.isEmpty = M
  generalize quo nm = Q
  generalize (r.W == 0 && (U r.v == 0 && U r.x == 0)) = Z
  generalize r.okB = O
  generalize (!tx.toList.isEmpty && !X) = T
  generalize prt tx = P
  cases N <;> cases M
  · simp
  · cases V
    · cases Z
      · simp
      · cases s <;> cases S <;> cases T <;> cases P <;> simp
    · cases O
      · simp
      · cases s <;> cases S <;> cases T <;> cases P <;> simp
  · cases Q
    · simp
    · cases V
      · cases Z
        · simp
        · cases s <;> cases S <;> cases T <;> cases P <;> simp
      · cases O
        · simp
        · cases s <;> cases S <;> cases T <;> cases P <;> simp
  · simp
set_option maxRecDepth 100000 in
set_option maxHeartbeats 4000000 in
theorem rfields_any (k l c : Int) (nm tx : ByteArray) (r : Rb) (s : Bool) (a : Option Addr) (len cap : Nat) (F : List UInt8) (hF : F.length ≤ 1000000) (w : World) : Calls Try.prog 17 #[.string (bs F), .agg #[.int .i64 k, .int .i64 l, .int .i64 c, .string nm, .string tx, .int .i64 r.W, .int .u64 (U r.v), .int .u64 (U r.x), .bool s, .slice a len cap]] w fun e w' => e = .returned (.int .i64 (fldE (F.contains 78) (F.contains 86) (F.contains 83) (F.contains 88) nm tx r s)) ∧ Below w.heap.size w w' := by
  obtain ⟨W1, hW1⟩ : ∃ W, W = w.alloc (.cells #[.int .i64 k, .int .i64 l, .int .i64 c, .string nm, .string tx, .int .i64 r.W, .int .u64 (U r.v), .int .u64 (U r.x), .bool s, .slice a len cap] 34) := ⟨_, rfl⟩
  have b0 : Below w.heap.size w W1 := by rw [hW1]; exact (Below.refl _ _).alloc (Nat.le_refl _) _
  have FX : FN W1 w.heap.size nm tx r.W (U r.v) (U r.x) s := by rw [hW1]; exact ⟨by go_simp, by go_simp, by go_simp, by go_simp, by go_simp, by go_simp⟩
  have hN := fun W => contains1 F 78 hF W
  have hV := fun W => contains1 F 86 hF W
  have hS := fun W => contains1 F 83 hF W
  have hX := fun W => contains1 F 88 hF W
  have hQ := fun W => rquoted_any nm W
  have hC := fun W => refValid_any r W
  simp only [show bs [78] = ⟨#[78]⟩ from rfl, show bs [86] = ⟨#[86]⟩ from rfl, show bs [83] = ⟨#[83]⟩ from rfl, show bs [88] = ⟨#[88]⟩ from rfl] at hN hV hS hX
  have HN := Lib.hid hN
  have HV := Lib.hid hV
  have HS := Lib.hid hS
  have HX := Lib.hid hX
  have HQ := Lib.hid hQ
  have HC := Lib.hid hC
  clear hN hV hS hX hQ hC
  generalize F.contains 78 = bN at *
  generalize F.contains 86 = bV at *
  generalize F.contains 83 = bS at *
  generalize F.contains 88 = bX at *
  generalize bs F = FB at *
  obtain ⟨R, hR⟩ : ∃ R, fldE bN bV bS bX nm tx r s = R := ⟨_, rfl⟩
  rw [hR]
  have HW := Lib.hid (fldE_ways bN bV bS bX nm tx r s hR)
  clear hR
  go_enter Try.func17, Try.ntmps17
  go_upto_region 1 with fail
  rw [← hW1]
  clear hW1
  go_cut [5] (fun sv wx => sv = .bool bV ∧ W1 = wx)
  case first =>
    go_wp2_with (refine (HV.out _).mono ?_; rintro e w3 ⟨rfl, rfl⟩)
    go_meet
    exact ⟨rfl, rfl⟩
  case rest =>
  obtain ⟨rfl, rfl⟩ := hcut
  go_upto_region 2 with fail
  go_cut [8] (fun sv wx => sv = .bool (bN != !nm.toList.isEmpty) ∧ RowKit.Below W1.heap.size W1 wx)
  case first =>
    have x3 := FX.c3
    have cN : ∀ dd os, Calls Try.prog 16 #[_, _] (grow (redrawn W1 dd) os) fun e w'' => e = .returned (.bool bN) ∧ ∃ p : Regrown, w'' = grow (redrawn W1 p.d) p.os := fun dd os => Calls.regrown_of ((HN.out _).mono fun _ _ ⟨a, b⟩ => ⟨a, b ▸ Below.refl _ _⟩)
    have y3 := cell_regrown x3
    refine wp_region_quiet_below (by kernel_rfl) (by kernel_rfl) ?_
    repeat (quiet_step (first | (with_reducible exact cN _ _)))
    refine wpQuiet_nil ?_
    intro _ hw'
    obtain ⟨⟨dq, osq⟩, hw''⟩ := hw'
    subst hw''
    have bq := below_regrown W1 dq osq
    generalize grow (redrawn W1 dq) osq = W2 at *
    go_wp2_with fail
    go_meet
    exact ⟨rfl, bq⟩
  case rest =>
  obtain ⟨rfl, hb2⟩ := hcut
  rename World => W2
  have BX := b0.trans (hb2.mono b0.size)
  replace FX := FX.below hb2
  clear b0 hb2
  generalize e7 : (bN != !nm.toList.isEmpty) = E7 at *
  cases E7
  case true =>
    have HR2 := Lib.hid (HW.out.1 rfl)
    clear HW
    go_wp2_with fail
    go_ret
    exact ⟨by rw [HR2.out]; rfl, BX⟩
  case false =>
  go_upto_region 4 with fail
  go_cut [15] (fun sv wx => sv = .bool (!nm.toList.isEmpty && !quo nm) ∧ RowKit.Below W2.heap.size W2 wx)
  case first =>
    obtain ⟨x3, x4, x5, x6, x7, x8⟩ := id FX
    clear e7
    cases hne : nm.toList.isEmpty
    · go_wp2_with (refine (HQ.out _).mono ?_; rintro e w4 ⟨rfl, hb4⟩)
      go_meet
      exact ⟨by first | (simp; done) | simp [hne], hb4⟩
    · go_wp2_with fail
      go_meet
      exact ⟨by first | (simp; done) | simp [hne], Below.refl _ _⟩
  case rest =>
  obtain ⟨rfl, hb3⟩ := hcut
  rename World => W3
  replace BX := BX.trans (hb3.mono BX.size)
  replace FX := FX.below hb3
  clear hb3
  generalize e15 : (!nm.toList.isEmpty && !quo nm) = E15 at *
  cases E15
  case true =>
    have HR2 := Lib.hid (HW.out.2.1 rfl rfl)
    clear HW
    go_wp2_with fail
    go_ret
    exact ⟨by rw [HR2.out]; rfl, BX⟩
  case false =>
  go_upto_region 6 with fail
  go_cut [25] (fun sv wx => sv = .bool ((bV && !r.okB) || (!bV && !(r.W == 0 && (U r.v == 0 && U r.x == 0)))) ∧ RowKit.Below W3.heap.size W3 wx)
  case first =>
    obtain ⟨x3, x4, x5, x6, x7, x8⟩ := id FX
    clear e7 e15
    cases bV
    · cases hW : (r.W == 0)
      all_goals cases hv : (U r.v == 0)
      all_goals cases hx : (U r.x == 0)
      all_goals
        go_wp2_with fail
        go_meet
        exact ⟨by first | rfl | (simp only [hW, hv, hx]; rfl), Below.refl _ _⟩
    · generalize hok : r.okB = OK at HC
      cases OK
      all_goals
        go_wp2_with (refine (HC.out _).mono ?_; rintro e w4 ⟨rfl, hb4⟩)
        go_meet
        exact ⟨by first | rfl | (simp only [hok]; rfl) | simp [hok], hb4⟩
  case rest =>
  obtain ⟨rfl, hb3⟩ := hcut
  rename World => W4
  replace BX := BX.trans (hb3.mono BX.size)
  replace FX := FX.below hb3
  clear hb3
  generalize e25 : ((bV && !r.okB) || (!bV && !(r.W == 0 && (U r.v == 0 && U r.x == 0)))) = E25 at *
  cases E25
  case true =>
    have HR2 := Lib.hid (HW.out.2.2.1 rfl rfl rfl)
    clear HW
    go_wp2_with fail
    go_ret
    exact ⟨by rw [HR2.out]; rfl, BX⟩
  case false =>
  go_upto_region 8 with fail
  go_cut [43] (fun sv wx => sv = .bool (s && (!bV && !bS)) ∧ W4 = wx)
  case first =>
    obtain ⟨x3, x4, x5, x6, x7, x8⟩ := id FX
    clear e7 e15 e25 HW
    cases s
    all_goals cases bV
    all_goals cases bS
    all_goals
      go_wp2_with (refine (HS.out _).mono ?_; rintro e w4 ⟨rfl, rfl⟩)
      go_meet
      exact ⟨by first | rfl | simp, rfl⟩
  case rest =>
  obtain ⟨rfl, rfl⟩ := hcut
  generalize e43 : (s && (!bV && !bS)) = E43 at *
  cases E43
  case true =>
    have HR2 := Lib.hid (HW.out.2.2.2.1 rfl rfl rfl rfl)
    clear HW
    go_wp2_with fail
    go_ret
    exact ⟨by rw [HR2.out]; rfl, BX⟩
  case false =>
  go_upto_region 10 with fail
  go_cut [55] (fun sv wx => sv = .bool (!tx.toList.isEmpty && !bX) ∧ W4 = wx)
  case first =>
    obtain ⟨x3, x4, x5, x6, x7, x8⟩ := id FX
    clear e7 e15 e25 e43 HW
    cases ht : tx.toList.isEmpty
    all_goals cases bX
    all_goals
      go_wp2_with (refine (HX.out _).mono ?_; rintro e w4 ⟨rfl, rfl⟩)
      go_meet
      exact ⟨by first | rfl | (simp only [ht]; rfl) | simp, rfl⟩
  case rest =>
  obtain ⟨rfl, rfl⟩ := hcut
  generalize e55 : (!tx.toList.isEmpty && !bX) = E55 at *
  cases E55
  case true =>
    have HR2 := Lib.hid (HW.out.2.2.2.2.1 rfl rfl rfl rfl rfl)
    clear HW
    go_wp2_with fail
    go_ret
    exact ⟨by rw [HR2.out]; rfl, BX⟩
  case false =>
  by_cases h200 : 200 < tx.size
  · have HR2 := Lib.hid (HW.out.2.2.2.2.2.1 rfl rfl rfl rfl rfl h200)
    have h2i : (200 : Int) < (tx.size : Int) := by omega
    obtain ⟨x3, x4, x5, x6, x7, x8⟩ := id FX
    clear HW
    go_wp2_with fail
    go_ret
    exact ⟨by rw [HR2.out]; rfl, BX⟩
  have HR2 := Lib.hid (HW.out.2.2.2.2.2.2 rfl rfl rfl rfl rfl h200)
  have h2i : ¬ (200 : Int) < (tx.size : Int) := by omega
  have hP := fun W => rwithin_any tx ⟨#[]⟩ 32 126 (by omega) (by decide) W
  rw [show (⟨#[]⟩ : ByteArray).data.toList = [] from rfl, prt_wib] at hP
  have HP := Lib.hid hP
  clear hP HW
  obtain ⟨x3, x4, x5, x6, x7, x8⟩ := id FX
  generalize prt tx = E69 at *
  cases E69
  all_goals
    go_wp2_with (refine (HP.out _).mono ?_; rintro e w5 ⟨rfl, hb5⟩)
    go_ret
    exact ⟨by rw [HR2.out]; rfl, BX.trans (hb5.mono BX.size)⟩
end Go.Proofs.Ytpjnjcljaoaceaa
