/- The makers' names of bits. Condition: the stream has handed out few numbers.
   The makers' names of bits are names, all different. No program.
   A graph with such names and such literals is valid. No program. -/
import Derived.Test.YtcpifmhcebfglaaMgGsA
import Derived.Laws.BytesString
import Derived.Test.YtcpifmhcebfglaaGrNf
import Derived.Test.YtcpifmhcebfglaaGrFa
import Derived.Test.YtcpifmhcebfglaaGrAr
namespace Go.Proofs.Ytcpifmhcebfglaa
open Go Go.RowKit Go.Sort
set_option linter.unusedVariables false
def wB (r i : Nat) : ByteArray := ⟨#[UInt8.ofNat (97 + r), UInt8.ofNat (97 + i % 26), UInt8.ofNat (97 + i / 26 % 26)]⟩
def wD (d : Nat) : ByteArray := ⟨#[UInt8.ofNat (48 + d)]⟩
/-- the shapes of the name with number i -/
def isWd (i : Nat) (x : ByteArray) : Prop := ∃ r, r < 26 ∧ (x = wB r i ∨ (∃ d, d < 10 ∧ x = wB r i ++ ((⟨#[91]⟩ ++ wD d) ++ ⟨#[93]⟩)) ∨ x = ⟨#[109, 46]⟩ ++ wB r i)
def allW (l : List ByteArray) (n : Nat) : Prop := ∀ j, j < n → isWd j l[j]!
theorem allW_app {l : List ByteArray} {j : Nat} {y : ByteArray} (h : allW l j) (hl : l.length = j) (hy : isWd j y) : allW (l ++ [y]) (j + 1) := fun q hq => by
  by_cases e : q < j
  · rw [getElem!_pos _ q (by simp; omega), List.getElem_append_left (by omega), ← getElem!_pos l q (by omega)]
    exact h q e
  · have hq2 : q = j := by omega
    subst hq2
    rw [getElem!_pos _ q (by simp; omega), List.getElem_append_right (by omega)]
    simpa [hl] using hy
theorem u8w (Y : Nat) (h : Y < 256) : IntKind.u8.wrap (Y : Int) = (Y : Int) := by
  have e : IntKind.u8.wrap (Y : Int) = (Y : Int) % 256 := by rfl
  omega
theorem cv3 (W : World) (x y z : Nat) (hx : x < 256) (hy : y < 256) (hz : z < 256) : (convert 152 9 (.slice (some ⟨W.heap.size, 0, none⟩) 3 3)).run Try.prog (W.alloc (.cells #[.int .u8 (x : Int), .int .u8 (y : Int), .int .u8 (z : Int)] 5)) = .ok (.string ⟨#[UInt8.ofNat x, UInt8.ofNat y, UInt8.ofNat z]⟩) (W.alloc (.cells #[.int .u8 (x : Int), .int .u8 (y : Int), .int .u8 (z : Int)] 5)) := by
  rw [run_convert_bytes_string _ _ _ _ _ _ _ Try.underlying152 Try.underlying5 Try.underlying9]
  rw [run_bytesToString _ _ _ _ [(x : Int), (y : Int), (z : Int)] (by go_simp)]
  simp
  try rfl
theorem cv1 (W : World) (x : Nat) (hx : x < 256) : (convert 152 9 (.slice (some ⟨W.heap.size, 0, none⟩) 1 1)).run Try.prog (W.alloc (.cells #[.int .u8 (x : Int)] 5)) = .ok (.string ⟨#[UInt8.ofNat x]⟩) (W.alloc (.cells #[.int .u8 (x : Int)] 5)) := by
  rw [run_convert_bytes_string _ _ _ _ _ _ _ Try.underlying152 Try.underlying5 Try.underlying9]
  rw [run_bytesToString _ _ _ _ [(x : Int)] (by go_simp)]
  simp
  try rfl
theorem infoST : (Try.prog.info? 9).map (fun i => (i.zero, i.size, i.bytes)) = some (some (.string ⟨#[]⟩), 1, 16) := by kernel_rfl
theorem infoST_parts : ∃ i, Try.prog.info? 9 = some i ∧ i.zero = some (.string ⟨#[]⟩) ∧ i.size = 1 ∧ i.bytes = 16 := by
  have h := infoST
  cases hi : Try.prog.info? 9 with
  | none => rw [hi] at h; cases h
  | some i =>
    rw [hi] at h
    simp only [Option.map_some, Option.some.injEq, Prod.mk.injEq] at h
    exact ⟨i, rfl, h.1, h.2.1, h.2.2⟩
set_option maxRecDepth 100000 in
set_option maxHeartbeats 4000000 in
theorem words_made (b len cap : Nat) (a : Option Addr) (k n : Nat) (h2 : n ≤ 600) (hk : k ≤ 500000) (w : World) (hS : Str b a len cap k w) :
    Calls Try.prog 34 #[.pointer (some ⟨b, 0, none⟩), .int .i64 (n : Int)] w fun e w' => ∃ u, e = .returned u ∧ (∃ l : List ByteArray, l.length = n ∧ allW l n ∧ OwnK w.heap.size 9 1 encT w' u l) ∧ Adv b a len cap k (3 * n) w w' := by
  have hbl := World.block_lt_of_cell? w _ hS.c0
  obtain ⟨i0, ihi, ihz, ihs, ihb⟩ := infoST_parts
  have HS := Lib.hid hS
  have A0 := adv_refl hS 0
  have O0 : OwnK w.heap.size 9 1 encT w (.slice none 0 0) [] := OwnK.nil _ _ _ _ _
  clear hS
  go_enter Try.func34, Try.ntmps34
  go_upto_block 0 with fail
  go_wp2_with fail
  go_loopw [5, 9] (fun u i wr => ∃ j : Nat, j ≤ n ∧ i = .int .i64 (j : Int) ∧ Hid (∃ l : List ByteArray, l.length = j ∧ allW l j ∧ OwnK w.heap.size 9 1 encT wr u l) ∧ Hid (Adv b a len cap k (3 * j) w wr)) (fun _ i _ => n - (intOf i).toNat)
  case atStart => exact ⟨0, Nat.zero_le _, rfl, Lib.hid ⟨[], rfl, fun q hq => by omega, O0⟩, Lib.hid A0⟩
  case round =>
    clear O0 A0
    obtain ⟨j, hj, rfl, hO, hA⟩ := hrel
    rename World => WR
    have hj0 : (0 : Int) ≤ (j : Int) := by omega
    by_cases hlt : j < n
    · have hji : (j : Int) < (n : Int) := by omega
      obtain ⟨l, hl, hW, O1⟩ := hO.out
      have A1 := hA.out
      obtain ⟨⟨k1, hk1, S1⟩, G1⟩ := id A1
      have HS1 := Lib.hid S1
      obtain ⟨ad, cp, hv⟩ := O1.slice
      subst hv
      have hsz := G1.size
      have HL : l.length ≤ 8000000000 := by omega
      have HLE := Lib.hid hl
      have HWW := Lib.hid hW
      have e1 : (j : Int).tmod 26 = ((j % 26 : Nat) : Int) := by rw [Int.tmod_eq_emod_of_nonneg hj0]; omega
      have e2 : (j : Int).tdiv 26 = ((j / 26 : Nat) : Int) := by rw [Int.tdiv_eq_ediv_of_nonneg hj0]; omega
      have e3 : ((j / 26 : Nat) : Int).tmod 26 = ((j / 26 % 26 : Nat) : Int) := by rw [Int.tmod_eq_emod_of_nonneg (by omega)]; omega
      have y1 : j % 26 < 26 := Nat.mod_lt _ (by omega)
      have y2 : j / 26 % 26 < 26 := Nat.mod_lt _ (by omega)
      have y3 : j / 26 ≤ 600 := by omega
      have HE : Hid (∀ r : Nat, wB r j = ⟨#[UInt8.ofNat (97 + r), UInt8.ofNat (97 + j % 26), UInt8.ofNat (97 + j / 26 % 26)]⟩) := Lib.hid (fun r => rfl)
      clear hO hA S1 hl hW
      generalize j / 26 % 26 = zz at e3 y2 HE
      generalize j / 26 = qq at e2 e3 y3
      generalize j % 26 = yy at e1 y1 HE
      obtain ⟨Y, hY⟩ : ∃ Y : Nat, Y = 97 + yy := ⟨_, rfl⟩
      obtain ⟨Z, hZ⟩ : ∃ Z : Nat, Z = 97 + zz := ⟨_, rfl⟩
      have f1 : (97 : Int) + (yy : Int) = (Y : Int) := by omega
      have f2 : (97 : Int) + (zz : Int) = (Z : Int) := by omega
      have hY2 : Y < 256 := by omega
      have hZ2 : Z < 256 := by omega
      have u1 : IntKind.u8.wrap (Y : Int) = (Y : Int) := u8w _ (by omega)
      have u2 : IntKind.u8.wrap (Z : Int) = (Z : Int) := u8w _ (by omega)
      rw [← hY, ← hZ] at HE
      clear hY hZ
      go_wp2_with fail
      refine (next_any b len cap a k1 _ (by omega) (by omega) (by omega) _ HS1.out).mono ?_
      rintro ee w2 ⟨r1, hr1, rfl, A2⟩
      obtain ⟨X, hX⟩ : ∃ X : Nat, X = 97 + r1 := ⟨_, rfl⟩
      have f3 : (97 : Int) + (r1 : Int) = (X : Int) := by omega
      have hX2 : X < 256 := by omega
      have u3 : IntKind.u8.wrap (X : Int) = (X : Int) := u8w _ (by omega)
      have hcv := cv3 w2 X Y Z hX2 hY2 hZ2
      have HX := Lib.hid hX
      clear hX
      go_upto_region 6 with fail
      have bC := (Below.refl w2.heap.size w2).alloc (Nat.le_refl _) (.cells #[.int .u8 (X : Int), .int .u8 (Y : Int), .int .u8 (Z : Int)] 5)
      have hX0 : (⟨#[UInt8.ofNat X, UInt8.ofNat Y, UInt8.ofNat Z]⟩ : ByteArray) = wB r1 j := by rw [HE.out, HX.out]
      rw [hX0]
      have hsw : (wB r1 j).size = 3 := rfl
      have hr26 : r1 < 26 := by omega
      have HR := Lib.hid hr26
      generalize hx : wB r1 j = x at hsw ⊢
      have HXX := Lib.hid hx
      obtain ⟨⟨k2, hk2, S2⟩, G2⟩ := id (adv_below A2 bC)
      have HS2 := Lib.hid S2
      have A3 := adv_below (adv_trans (c := 3 * j + 1) A1 hk1 A2 (by omega)) bC
      have O3 := (O1.aparts A2.gr hbl).below bC
      have hsz3 := Nat.le_trans hsz G2.size
      clear hx hX0 HE hcv S2 A2 G2 A1 O1 G1 bC
      generalize w2.alloc (.cells #[.int .u8 (X : Int), .int .u8 (Y : Int), .int .u8 (Z : Int)] 5) = W3 at HS2 A3 O3 hsz3 ⊢
      go_wp2_with fail
      refine (next_any b len cap a k2 _ (by omega) (by omega) (by omega) _ HS2.out).mono ?_
      rintro ee w4 ⟨r2, hr2, rfl, A4⟩
      -- CASES
      obtain ⟨⟨k4, hk4, S4⟩, G4⟩ := id A4
      have HS4 := Lib.hid S4
      have O4 := O3.aparts A4.gr hbl
      have A6 := adv_trans (c := 3 * j + 2) A3 (by omega) A4 (by omega)
      have hszV := Nat.le_trans hsz3 G4.size
      clear S4 A4 O3 A3 G4
      by_cases h0 : r2 = 0
      · subst h0
        go_wp2_with fail
        refine (next_any b len cap a k4 _ (by omega) (by omega) (by omega) _ HS4.out).mono ?_
        rintro ee w7 ⟨r3, hr3, rfl, A7⟩
        obtain ⟨D, hD⟩ : ∃ D : Nat, D = 48 + r3 := ⟨_, rfl⟩
        have g3 : (48 : Int) + (r3 : Int) = (D : Int) := by omega
        have hD2 : D < 256 := by omega
        have v3 : IntKind.u8.wrap (D : Int) = (D : Int) := u8w _ (by omega)
        have hcv := cv1 w7 D hD2
        have hd0 : (⟨#[UInt8.ofNat D]⟩ : ByteArray) = wD r3 := by rw [hD]; rfl
        rw [hd0] at hcv
        have hr10 : r3 < 10 := by omega
        have HR3 := Lib.hid hr10
        have hsd : (wD r3).size = 1 := rfl
        generalize hdd : wD r3 = d at hcv hsd
        have HDD := Lib.hid hdd
        clear hD hd0 hdd
        have c1 : ¬ (9223372036854775807 : Int) < (1 : Int) + (d.size : Int) := by omega
        have hs1 : ((⟨#[91]⟩ : ByteArray) ++ d).size = 2 := by rw [ByteArray.size_append, hsd]; rfl
        have hs2 : (((⟨#[91]⟩ : ByteArray) ++ d) ++ ⟨#[93]⟩).size = 3 := by rw [ByteArray.size_append, hs1]; rfl
        have O7 := O4.aparts A7.gr hbl
        have A8 := adv_trans (c := 3 * j + 3) A6 (by omega) A7 (by omega)
        have hsz7 := Nat.le_trans hszV A7.gr.size
        have bC := (Below.refl w7.heap.size w7).alloc (Nat.le_refl _) (.cells #[.int .u8 (D : Int)] 5)
        replace O7 := O7.below bC
        replace A8 := adv_below A8 bC
        replace hszV := Nat.le_trans hsz7 bC.size
        clear A7 O4 A6 bC hsz7
        go_upto_region 11 with fail
        generalize w7.alloc (.cells #[.int .u8 (D : Int)] 5) = W8 at O7 A8 hszV ⊢
        have bL := (Below.refl W8.heap.size W8).alloc (Nat.le_refl _) (.cells #[.string (x ++ ((⟨#[91]⟩ ++ d) ++ ⟨#[93]⟩))] 9)
        have O5 := O7.below bL
        have A5 := adv_below A8 bL
        have hy := hyS W8 (.string (x ++ ((⟨#[91]⟩ ++ d) ++ ⟨#[93]⟩))) 9
        have hszL : w.heap.size ≤ (W8.alloc (.cells #[.string (x ++ ((⟨#[91]⟩ ++ d) ++ ⟨#[93]⟩))] 9)).heap.size := Nat.le_trans hszV bL.size
        go_wp2_with (at_builtin; refine wpList_append_one (enc := encT) (k := 1) (fun _ => rfl) (by decide) (fun x u hu => by simp at hu; rcases hu with rfl; rfl) rfl _ _ 26 rfl (w.heap.size) 9 i0 (.string ⟨#[]⟩) 16 Try.underlying26 ihi ihz ihs ihb (by decide) _ l rfl O5 W8.heap.size 1 (x ++ ((⟨#[91]⟩ ++ d) ++ ⟨#[93]⟩)) rfl hy (show l.length + 1 ≤ maxLen by unfold maxLen; omega) (show (l.length + 1) * 16 ≤ 140737488355328 by omega) hszL ?_)
        intro v5 w5 O6 hb5 hg5
        have HO5 := Lib.hid (⟨_, by rw [List.length_append, HLE.out]; rfl, allW_app HWW.out HLE.out ⟨r1, HR.out, .inr (.inl ⟨r3, HR3.out, by rw [HXX.out, HDD.out]⟩)⟩, O6⟩ : ∃ l : List ByteArray, l.length = j + 1 ∧ allW l (j + 1) ∧ OwnK w.heap.size 9 1 encT w5 v5 l)
        have HA5 := Lib.hid (adv_mono (c' := 3 * (j + 1)) (adv_app HS.out A5 hb5) (by omega))
        clear O6 hb5 hg5 O5 A5 hy O7 A8 bL hszL
        go_wp2_with fail
        go_roundw
        case rel => exact ⟨j + 1, by omega, by go_num, HO5, HA5⟩
        all_goals first | done | (simp [intOf]; done) | (simp [intOf]; omega)
      · have h0b : ((r2 : Int) == 0) = false := by rw [beq_eq_false_iff_ne]; omega
        by_cases h1 : r2 = 1
        · subst h1
          go_upto_region 11 with fail
          have bL := (Below.refl w4.heap.size w4).alloc (Nat.le_refl _) (.cells #[.string (⟨#[109, 46]⟩ ++ x)] 9)
          have O5 := O4.below bL
          have A5 := adv_below A6 bL
          have hy := hyS w4 (.string (⟨#[109, 46]⟩ ++ x)) 9
          have hszL : w.heap.size ≤ (w4.alloc (.cells #[.string (⟨#[109, 46]⟩ ++ x)] 9)).heap.size := Nat.le_trans hszV bL.size
          go_wp2_with (at_builtin; refine wpList_append_one (enc := encT) (k := 1) (fun _ => rfl) (by decide) (fun x u hu => by simp at hu; rcases hu with rfl; rfl) rfl _ _ 26 rfl (w.heap.size) 9 i0 (.string ⟨#[]⟩) 16 Try.underlying26 ihi ihz ihs ihb (by decide) _ l rfl O5 w4.heap.size 1 (⟨#[109, 46]⟩ ++ x) rfl hy (show l.length + 1 ≤ maxLen by unfold maxLen; omega) (show (l.length + 1) * 16 ≤ 140737488355328 by omega) hszL ?_)
          intro v5 w5 O6 hb5 hg5
          have HO5 := Lib.hid (⟨_, by rw [List.length_append, HLE.out]; rfl, allW_app HWW.out HLE.out ⟨r1, HR.out, .inr (.inr (by rw [HXX.out]))⟩, O6⟩ : ∃ l : List ByteArray, l.length = j + 1 ∧ allW l (j + 1) ∧ OwnK w.heap.size 9 1 encT w5 v5 l)
          have HA5 := Lib.hid (adv_mono (c' := 3 * (j + 1)) (adv_app HS.out A5 hb5) (by omega))
          clear O6 hb5 hg5 O5 A5 hy O4 A6 bL hszL
          go_wp2_with fail
          go_roundw
          case rel => exact ⟨j + 1, by omega, by go_num, HO5, HA5⟩
          all_goals first | done | (simp [intOf]; done) | (simp [intOf]; omega)
        · have h1b : ((r2 : Int) == 1) = false := by rw [beq_eq_false_iff_ne]; omega
          clear h0 h1
          go_upto_region 11 with fail
          have bL := (Below.refl w4.heap.size w4).alloc (Nat.le_refl _) (.cells #[.string x] 9)
          have O5 := O4.below bL
          have A5 := adv_below A6 bL
          have hy := hyS w4 (.string x) 9
          have hszL : w.heap.size ≤ (w4.alloc (.cells #[.string x] 9)).heap.size := Nat.le_trans hszV bL.size
          go_wp2_with (at_builtin; refine wpList_append_one (enc := encT) (k := 1) (fun _ => rfl) (by decide) (fun x u hu => by simp at hu; rcases hu with rfl; rfl) rfl _ _ 26 rfl (w.heap.size) 9 i0 (.string ⟨#[]⟩) 16 Try.underlying26 ihi ihz ihs ihb (by decide) _ l rfl O5 w4.heap.size 1 x rfl hy (show l.length + 1 ≤ maxLen by unfold maxLen; omega) (show (l.length + 1) * 16 ≤ 140737488355328 by omega) hszL ?_)
          intro v5 w5 O6 hb5 hg5
          have HO5 := Lib.hid (⟨_, by rw [List.length_append, HLE.out]; rfl, allW_app HWW.out HLE.out ⟨r1, HR.out, .inl (by rw [HXX.out])⟩, O6⟩ : ∃ l : List ByteArray, l.length = j + 1 ∧ allW l (j + 1) ∧ OwnK w.heap.size 9 1 encT w5 v5 l)
          have HA5 := Lib.hid (adv_mono (c' := 3 * (j + 1)) (adv_app HS.out A5 hb5) (by omega))
          clear O6 hb5 hg5 O5 A5 hy O4 A6 bL hszL
          go_wp2_with fail
          go_roundw
          case rel => exact ⟨j + 1, by omega, by go_num, HO5, HA5⟩
          all_goals first | done | (simp [intOf]; done) | (simp [intOf]; omega)
    · have hji : ¬ (j : Int) < (n : Int) := by omega
      have hjn : j = n := by omega
      subst hjn
      have HO := Lib.hid hO.out
      have HA := Lib.hid hA.out
      clear hO hA
      go_wp2_with fail
      go_ret
      exact ⟨_, rfl, HO.out, HA.out⟩
end Go.Proofs.Ytcpifmhcebfglaa
namespace Go.Proofs.Ytcpifmhcebfglaa
open Go Go.RowKit Go.Sort
set_option linter.unusedVariables false
theorem u8n (X : Nat) (h : X < 256) : (UInt8.ofNat X).toNat = X := by
  rw [UInt8.toNat_ofNat']; omega
theorem u8inj {X Y : Nat} (hX : X < 256) (hY : Y < 256) (h : UInt8.ofNat X = UInt8.ofNat Y) : X = Y := by
  have := congrArg UInt8.toNat h
  rwa [u8n X hX, u8n Y hY] at this
theorem isWd_tl {i : Nat} {x : ByteArray} (h : isWd i x) : ∃ r, r < 26 ∧ (x.data.toList = [UInt8.ofNat (97 + r), UInt8.ofNat (97 + i % 26), UInt8.ofNat (97 + i / 26 % 26)] ∨ (∃ d, d < 10 ∧ x.data.toList = [UInt8.ofNat (97 + r), UInt8.ofNat (97 + i % 26), UInt8.ofNat (97 + i / 26 % 26), 91, UInt8.ofNat (48 + d), 93]) ∨ x.data.toList = [109, 46, UInt8.ofNat (97 + r), UInt8.ofNat (97 + i % 26), UInt8.ofNat (97 + i / 26 % 26)]) := by
  obtain ⟨r, hr, rfl | ⟨d, hd, rfl⟩ | rfl⟩ := h
  · exact ⟨r, hr, .inl rfl⟩
  · exact ⟨r, hr, .inr (.inl ⟨d, hd, by simp [wB, wD, ByteArray.data_append]⟩)⟩
  · exact ⟨r, hr, .inr (.inr (by simp [wB, ByteArray.data_append]))⟩
theorem isWd_nm {i : Nat} {x : ByteArray} (h : isWd i x) : nmB x = true := by
  have hl := len_data x
  have m1 : i % 26 < 26 := Nat.mod_lt _ (by decide)
  have m2 : i / 26 % 26 < 26 := Nat.mod_lt _ (by decide)
  obtain ⟨r, hr, h | ⟨d, hd, h⟩ | h⟩ := isWd_tl h
  · have hs : x.size = 3 := by rw [← hl, h]; rfl
    unfold nmB
    rw [h, hs]
    simp only [List.all_cons, List.all_nil, u8n (97 + r) (by omega), u8n (97 + i % 26) (by omega), u8n (97 + i / 26 % 26) (by omega)]
    simp; omega
  · have hs : x.size = 6 := by rw [← hl, h]; rfl
    unfold nmB
    rw [h, hs]
    simp only [List.all_cons, List.all_nil, u8n (97 + r) (by omega), u8n (97 + i % 26) (by omega), u8n (97 + i / 26 % 26) (by omega), u8n (48 + d) (by omega)]
    simp; omega
  · have hs : x.size = 5 := by rw [← hl, h]; rfl
    unfold nmB
    rw [h, hs]
    simp only [List.all_cons, List.all_nil, u8n (97 + r) (by omega), u8n (97 + i % 26) (by omega), u8n (97 + i / 26 % 26) (by omega)]
    simp; omega
theorem isWd_inj {i j : Nat} {x : ByteArray} (h : isWd i x) (h2 : isWd j x) (hi : i < 676) (hj : j < 676) : i = j := by
  have m1 : i % 26 < 26 := Nat.mod_lt _ (by decide)
  have m2 : i / 26 % 26 < 26 := Nat.mod_lt _ (by decide)
  have n1 : j % 26 < 26 := Nat.mod_lt _ (by decide)
  have n2 : j / 26 % 26 < 26 := Nat.mod_lt _ (by decide)
  have key : UInt8.ofNat (97 + i % 26) = UInt8.ofNat (97 + j % 26) → UInt8.ofNat (97 + i / 26 % 26) = UInt8.ofNat (97 + j / 26 % 26) → i = j := fun e1 e2 => by
    have := u8inj (by omega) (by omega) e1
    have := u8inj (by omega) (by omega) e2
    omega
  obtain ⟨r, hr, h | ⟨d, hd, h⟩ | h⟩ := isWd_tl h <;> obtain ⟨r2, hr2, h2 | ⟨d2, hd2, h2⟩ | h2⟩ := isWd_tl h2 <;> rw [h] at h2 <;> simp only [List.cons.injEq, reduceCtorEq, and_false, false_and] at h2
  · exact key h2.2.1 h2.2.2.1
  · exact key h2.2.1 h2.2.2.1
  · exact key h2.2.2.2.1 h2.2.2.2.2.1
theorem nf_made : ∀ (l before : List ByteArray) (i : Nat), (∀ q, q < l.length → isWd (i + q) l[q]!) → (∀ s ∈ before, ∃ q, q < i ∧ isWd q s) → i + l.length ≤ 600 → nfL before l = 0
  | [], _, _, _, _, _ => rfl
  | s :: l, before, i, h, hb, hn => by
    have hs : isWd i s := by simpa using h 0 (by simp)
    unfold nfL
    rw [if_neg (by rw [isWd_nm hs]; simp), if_neg (by
      intro hm
      obtain ⟨q, hq, hw⟩ := hb s (inT_iff.1 hm)
      have := isWd_inj hw hs (by simp at hn; omega) (by simp at hn; omega)
      omega)]
    refine nf_made l (before ++ [s]) (i + 1) (fun q hq => ?_) (fun t ht => ?_) (by simp at hn ⊢; omega)
    · have := h (q + 1) (by simp; omega)
      rw [show i + (q + 1) = i + 1 + q by omega] at this
      simpa using this
    · rcases List.mem_append.1 ht with ht | ht
      · obtain ⟨q, hq, hw⟩ := hb t ht
        exact ⟨q, by omega, hw⟩
      · rw [List.mem_singleton] at ht
        subst ht
        exact ⟨i, by omega, hs⟩
theorem names_allW {l : List ByteArray} (h : allW l l.length) (hn : l.length ≤ 600) : namesF l = 0 :=
  nf_made l [] 0 (fun q hq => by rw [Nat.zero_add]; exact h q hq) (by simp) (by omega)
end Go.Proofs.Ytcpifmhcebfglaa
namespace Go.Proofs.Ytcpifmhcebfglaa
open Go Go.RowKit Go.Sort
set_option linter.unusedVariables false
theorem bad_ok {n l : Int} (h : 0 ≤ l ∧ l < n) : badL n l = false := by
  unfold badL
  rw [decide_eq_false (by omega), decide_eq_false (by omega)]; rfl
theorem ands_ok : ∀ {l : List (Int × Int)} {n : Int}, (∀ j, j < l.length → (0 ≤ l[j]!.1 ∧ l[j]!.1 < n + 2 * (j : Int)) ∧ (0 ≤ l[j]!.2 ∧ l[j]!.2 < n + 2 * (j : Int))) → andsF n l = false
  | [], _, _ => rfl
  | p :: l, n, h => by
    have h0 := h 0 (by simp)
    simp at h0
    unfold andsF
    rw [bad_ok h0.1, bad_ok h0.2, ands_ok (n := n + 2) (fun j hj => by
      have := h (j + 1) (by simp; omega)
      simp only [List.getElem!_cons_succ] at this
      omega)]
    rfl
/-- what makes a graph valid -/
structure MdG (g : Gr) : Prop where
  ins : g.ins.length ≤ 128
  outN : g.outN.length ≤ 128
  regs : g.regs.length ≤ 288
  ands : g.ands.length ≤ 4000
  same : g.outs.length = g.outN.length
  nms : allW (regNamesL g) (regNamesL g).length
  outs : allW g.outN g.outN.length
  lits : ∀ j, j < g.ands.length → (0 ≤ g.ands[j]!.1 ∧ g.ands[j]!.1 < baseL g + 2 * (j : Int)) ∧ (0 ≤ g.ands[j]!.2 ∧ g.ands[j]!.2 < baseL g + 2 * (j : Int))
  next : ∀ r ∈ g.regs, 0 ≤ r.nx ∧ r.nx < allL g
  out : ∀ l ∈ g.outs, 0 ≤ l ∧ l < allL g
theorem MdG.ok {g : Gr} (h : MdG g) : faultG g = 0 := by
  have e1 : (regNamesL g).length = g.ins.length + g.regs.length := by simp [regNamesL]
  have hb := h.ins
  have hc := h.outN
  have hd := h.regs
  have he := h.ands
  have n1 : namesF (regNamesL g) = 0 := names_allW h.nms (by omega)
  have n2 : namesF g.outN = 0 := names_allW h.outs (by omega)
  have ne : namesE g = 0 := by unfold namesE; rw [n1, n2]; rfl
  have a1 : andsF (baseL g) g.ands = false := ands_ok h.lits
  have a2 : (g.regs.any fun r => badL (allL g) r.nx) = false := by
    rw [List.any_eq_false]
    intro r hr
    rw [bad_ok (h.next r hr)]; simp
  have a3 : anyB (allL g) g.outs = false := by
    unfold anyB
    rw [List.any_eq_false]
    intro l hl
    rw [bad_ok (h.out l hl)]; simp
  unfold faultG
  rw [if_neg (by omega), if_neg (fun hn => hn h.same), if_neg (fun hn => hn ne), a1, a2, a3, if_neg (by simp)]
end Go.Proofs.Ytcpifmhcebfglaa
