/- A string's bytes as they stand in quotes. No program here.
   The library's replacer of single bytes, made for a string's token: any text. -/
import Derived.Test.YtogmipbdnffegaaGreatDoorBase
import Derived.Test.YtogmipbdnffegaaGreatDoorMgScan
import Derived.Test.YtogmipbdnffegaaGreatDoorShelf
import Derived.LoopTactic
import Derived.IntWalk
import Derived.Laws.CopyOwn
import Derived.Laws.MakeOwn
import Derived.Deep.RegionLaw
import Derived.Laws.OwnMore
import Derived.Deep.CutBlock
import Derived.Deep.DeepCutAuto
import Derived.Lib.BufferRead
import Derived.Lib.QuietBelow
namespace Go.Proofs.YtogmipbdnffegaaGreatDoor
set_option linter.unusedVariables false
def escC (c : UInt8) : List UInt8 := if c = 92 then [92, 92] else if c = 34 then [92, 34] else [c]
def escL (l : List UInt8) : List UInt8 := l.flatMap escC
theorem escL_append (a b : List UInt8) : escL (a ++ b) = escL a ++ escL b := by unfold escL; simp
theorem escL_take (l : List UInt8) (i : Nat) (h : i < l.length) : escL (l.take (i + 1)) = escL (l.take i) ++ escC l[i] := by
  rw [List.take_succ_eq_append_getElem h, escL_append]
  unfold escL
  simp
theorem escC_len (c : UInt8) : (escC c).length = 1 + (if c = 92 then 1 else 0) + (if c = 34 then 1 else 0) := by
  unfold escC
  by_cases h : c = 92
  · subst h; decide
  · by_cases h2 : c = 34
    · subst h2; decide
    · rw [if_neg h, if_neg h2, if_neg h, if_neg h2]; rfl
/-- how many bytes of a text are one byte -/
def cntB (c : UInt8) (l : List UInt8) : Nat := l.countP (· == c)
theorem escL_len : ∀ l : List UInt8, (escL l).length = l.length + cntB 92 l + cntB 34 l
  | [] => rfl
  | c :: r => by
    have ih := escL_len r
    have h : escL (c :: r) = escC c ++ escL r := by unfold escL; simp
    rw [h, List.length_append, ih, escC_len]
    unfold cntB
    rw [List.countP_cons, List.countP_cons]
    by_cases h1 : c = 92 <;> by_cases h2 : c = 34 <;> simp [h1, h2] <;> omega
theorem escL_same : ∀ l : List UInt8, cntB 92 l = 0 → cntB 34 l = 0 → escL l = l
  | [], _, _ => rfl
  | c :: r, h1, h2 => by
    unfold cntB at h1 h2
    rw [List.countP_cons] at h1 h2
    have n1 : ¬ c = 92 := by rintro rfl; simp at h1
    have n2 : ¬ c = 34 := by rintro rfl; simp at h2
    have ih := escL_same r (by unfold cntB; omega) (by unfold cntB; omega)
    have h : escL (c :: r) = escC c ++ escL r := by unfold escL; simp
    rw [h, ih]
    unfold escC
    rw [if_neg n1, if_neg n2]
    rfl
theorem cnt_take (c : UInt8) (l : List UInt8) (i : Nat) (h : i < l.length) : cntB c (l.take (i + 1)) = cntB c (l.take i) + (if l[i] = c then 1 else 0) := by
  unfold cntB
  rw [List.take_succ_eq_append_getElem h, List.countP_append]
  simp [List.countP_cons]
end Go.Proofs.YtogmipbdnffegaaGreatDoor
namespace Go.Proofs.YtogmipbdnffegaaGreatDoor
open Go Go.RowKit Go.Sort
set_option linter.unusedVariables false
def qbs (l : List UInt8) : ByteArray := ⟨l.toArray⟩
/-- the replacer in memory: what stands for a byte (none: itself), and the bytes that are replaced -/
structure BR (w : World) (b p q r : Nat) (cp cq cr : Nat) : Prop where
  no : ∀ i, i < 256 → i ≠ 92 → i ≠ 34 → w.cell? ⟨b, i, none⟩ = some (.slice none 0 0)
  r92 : w.cell? ⟨b, 92, none⟩ = some (.slice (some ⟨p, 0, none⟩) 2 cp)
  r34 : w.cell? ⟨b, 34, none⟩ = some (.slice (some ⟨q, 0, none⟩) 2 cq)
  rr : w.cell? ⟨b, 256, none⟩ = some (.slice (some ⟨r, 0, none⟩) 2 cr)
  p0 : w.cell? ⟨p, 0, none⟩ = some (.int .u8 92)
  p1 : w.cell? ⟨p, 1, none⟩ = some (.int .u8 92)
  q0 : w.cell? ⟨q, 0, none⟩ = some (.int .u8 92)
  q1 : w.cell? ⟨q, 1, none⟩ = some (.int .u8 34)
  t0 : w.cell? ⟨r, 0, none⟩ = some (.string ⟨#[34]⟩)
  t1 : w.cell? ⟨r, 1, none⟩ = some (.string ⟨#[92]⟩)
  hp : 2 ≤ cp
  hq : 2 ≤ cq
  hr : 2 ≤ cr
theorem BR.below {w w' : World} {b p q r cp cq cr : Nat} (h : BR w b p q r cp cq cr) (hb : Below w.heap.size w w') : BR w' b p q r cp cq cr := by
  have K : ∀ {g i : Nat} {v : Value}, w.cell? ⟨g, i, none⟩ = some v → w'.cell? ⟨g, i, none⟩ = some v := fun {g i v} hc => (hb.cell (p := ⟨g, i, none⟩) (World.block_lt_of_cell? w _ hc)).trans hc
  exact ⟨fun i h1 h2 h3 => K (h.no i h1 h2 h3), K h.r92, K h.r34, K h.rr, K h.p0, K h.p1, K h.q0, K h.q1, K h.t0, K h.t1, h.hp, h.hq, h.hr⟩
theorem qinfoB : (Tryz.prog.info? 5).map (fun i => (i.zero, i.size, i.bytes)) = some (some (.int .u8 0), 1, 1) := by kernel_rfl
theorem qinfoB_parts : ∃ i, Tryz.prog.info? 5 = some i ∧ i.zero = some (.int .u8 0) ∧ i.size = 1 ∧ i.bytes = 1 := by
  have h := qinfoB
  cases hi : Tryz.prog.info? 5 with
  | none => rw [hi] at h; cases h
  | some i =>
    rw [hi] at h
    simp only [Option.map_some, Option.some.injEq, Prod.mk.injEq] at h
    exact ⟨i, rfl, h.1, h.2.1, h.2.2⟩
theorem two_cells {w : World} {p : Nat} {a b : Value} (h0 : w.cell? ⟨p, 0, none⟩ = some a) (h1 : w.cell? ⟨p, 1, none⟩ = some b) : ∀ j v, [a, b][j]? = some v → w.cell? ((⟨p, 0, none⟩ : Addr).add j) = some v := by
  intro j v hj
  rw [Addr.add_lit, Nat.zero_add]
  match j, hj with
  | 0, hj => injection hj with hj; subst hj; exact h0
  | 1, hj => injection hj with hj; subst hj; exact h1
theorem two_one (a b : Int) : ∀ v ∈ [Value.int .u8 a, Value.int .u8 b], v.oneCell' = true := by
  intro v hv
  simp only [List.mem_cons, List.mem_nil_iff, or_false] at hv
  rcases hv with rfl | rfl <;> rfl
theorem w64 (n : Int) (h : -9223372036854775808 ≤ n ∧ n ≤ 9223372036854775807) : IntKind.i64.wrap n = n := by
  rw [IntKind.wrap_i64]
  omega
theorem cnt_lib (l : List UInt8) (c : UInt8) : Lib.countByte l c = cntB c l := rfl
theorem count_b (s : ByteArray) (c : UInt8) (w : World) : Calls Tryz.prog 39 #[.string s, .string (qbs [c])] w fun e w' => e = .returned (.int .i64 (cntB c s.data.toList : Nat)) ∧ w = w' := by
  refine (Tryz.strings_Count_one s c w).mono ?_
  rintro e w' ⟨rfl, rfl⟩
  exact ⟨by rw [cnt_lib], rfl⟩
set_option maxRecDepth 100000 in
set_option maxHeartbeats 4000000 in
theorem bsr_any (s : ByteArray) (hs : s.size ≤ 1000) (b p q r cp cq cr : Nat) (w : World) (hR : BR w b p q r cp cq cr) : Calls Tryz.prog 185 #[.pointer (some ⟨b, 0, none⟩), .string s] w fun e w' => e = .returned (.string (qbs (escL s.data.toList))) ∧ Below w.heap.size w w' := by
  have hc34 := fun W => count_b s 34 W
  have hc92 := fun W => count_b s 92 W
  rw [show qbs [34] = ⟨#[34]⟩ from rfl] at hc34
  rw [show qbs [92] = ⟨#[92]⟩ from rfl] at hc92
  have hll : s.data.toList.length = s.size := Array.length_toList
  have hel := escL_len s.data.toList
  have hes := escL_same s.data.toList
  have h34l : cntB 34 s.data.toList ≤ s.size := by unfold cntB; rw [← hll]; exact List.countP_le_length
  have h92l : cntB 92 s.data.toList ≤ s.size := by unfold cntB; rw [← hll]; exact List.countP_le_length
  generalize hA : cntB 34 s.data.toList = A at *
  generalize hB : cntB 92 s.data.toList = C at *
  have HA := Lib.hid hA
  have HB := Lib.hid hB
  have HE := Lib.hid hel
  have HS := Lib.hid hes
  have HLL := Lib.hid hll
  have H34 := Lib.hid hc34
  have H92 := Lib.hid hc92
  clear hA hB hel hes hll hc34 hc92
  go_enter Tryz.func185, Tryz.ntmps185
  go_upto_region 3 with fail
  go_cut [26] (fun sv wx => sv = .bool (decide (16 ≤ s.size)) ∧ w = wx)
  case first =>
    have rr := hR.rr
    by_cases h16 : 16 ≤ s.size
    · have h16i : (16 : Int) ≤ (s.size : Int) := by omega
      go_wp2_with fail
      go_meet
      exact ⟨by simp [h16], rfl⟩
    · have h16i : ¬ (16 : Int) ≤ (s.size : Int) := by omega
      go_wp2_with fail
      go_meet
      exact ⟨by simp [h16], rfl⟩
  case rest =>
  obtain ⟨rfl, rfl⟩ := hcut
  go_upto_if 26 with fail
  go_cut [5, 6] (fun x y wx => x = .int .i64 ((s.size + A + C : Nat) : Int) ∧ y = .bool (decide (A + C ≠ 0)) ∧ RowKit.Below w.heap.size w wx)
  case first =>
    by_cases h16 : 16 ≤ s.size
    · rw [decide_eq_true h16]
      have rr := hR.rr
      go_wp2_with fail
      go_loopw [5, 6, 32] (fun x y i wr => ∃ j : Nat, j ≤ 2 ∧ i = .int .i64 (j : Int) ∧ x = .int .i64 ((s.size + (if 1 ≤ j then A else 0) + (if 2 ≤ j then C else 0) : Nat) : Int) ∧ y = .bool (decide ((if 1 ≤ j then A else 0) + (if 2 ≤ j then C else 0) ≠ 0)) ∧ Below w.heap.size w wr) (fun _ _ i _ => 2 - (intOf i).toNat)
      case atStart => exact ⟨0, by decide, rfl, by simp, by simp, Below.refl _ _⟩
      case round =>
        obtain ⟨j, hj, rfl, rfl, rfl, hlo⟩ := hrel
        rename World => WR
        have RJ := hR.below hlo
        clear rr
        rcases (show j = 0 ∨ j = 1 ∨ j = 2 by omega) with rfl | rfl | rfl
        · have t0 := RJ.t0
          have rw9 := RJ.r34
          simp only [show ¬ 1 ≤ 0 by decide, show ¬ 2 ≤ 0 by decide, if_false, Nat.add_zero]
          generalize hY : decide (0 ≠ 0) = YB
          have HY := Lib.hid hY
          clear hY
          go_upto_region 7 with fail
          go_cut [9] (fun v wx => v = .int .i64 (A : Int) ∧ WR = wx)
          case first =>
            go_wp2_with (refine (H34.out _).mono ?_; rintro e w3 ⟨rfl, rfl⟩)
            go_meet
            exact ⟨rfl, rfl⟩
          case rest =>
          obtain ⟨rfl, rfl⟩ := hcut
          cases hz : ((A : Int) != 0)
          · have hA0 := Lib.hid (show A = 0 by simp at hz; omega)
            go_wp2_with fail
            go_roundw
            case rel => exact ⟨1, by decide, by go_num, by simp [hA0.out], by rw [← HY.out]; simp [hA0.out], hlo⟩
            case measure => simp [intOf] <;> omega
          · have hA0 := Lib.hid (show ¬ A = 0 by simp at hz; omega)
            go_upto_region 9 with fail
            go_cut [5] (fun v wx => v = .int .i64 (((s.size + A : Nat) : Int) : Int) ∧ RowKit.Below WR.heap.size WR wx)
            case first =>
              have e34 : ((⟨#[34]⟩ : ByteArray)[0]'(by decide)).toNat = 34 := rfl
              have e92 : ((⟨#[92]⟩ : ByteArray)[0]'(by decide)).toNat = 92 := rfl
              go_region_with fail
              all_goals (go_wp2_with fail; go_meet; exact ⟨by first | rfl | (rw [show IntKind.i64.wrap 1 = 1 from by decide, Int.mul_one, w64 (A : Int) (by omega), w64 _ (by omega)]; rfl) | (rw [show IntKind.i64.wrap 1 = 1 from by decide, Int.mul_one, w64 (C : Int) (by omega), w64 _ (by omega)]; rfl), (Below.refl _ _).drew⟩)
            case rest =>
            obtain ⟨rfl, bq⟩ := hcut
            rename World => W10
            go_wp2_with fail
            go_roundw
            case rel => exact ⟨1, by decide, by go_num, by simp <;> omega, by simp [hA0.out] <;> omega, hlo.trans (bq.mono hlo.size)⟩
            case measure => simp [intOf] <;> omega
        · have t0 := RJ.t1
          have rw9 := RJ.r92
          simp only [show 1 ≤ 1 by decide, show ¬ 2 ≤ 1 by decide, if_true, if_false, Nat.add_zero]
          generalize hY : decide (A ≠ 0) = YB
          have HY := Lib.hid hY
          clear hY
          go_upto_region 7 with fail
          go_cut [9] (fun v wx => v = .int .i64 (C : Int) ∧ WR = wx)
          case first =>
            go_wp2_with (refine (H92.out _).mono ?_; rintro e w3 ⟨rfl, rfl⟩)
            go_meet
            exact ⟨rfl, rfl⟩
          case rest =>
          obtain ⟨rfl, rfl⟩ := hcut
          cases hz : ((C : Int) != 0)
          · have hA0 := Lib.hid (show C = 0 by simp at hz; omega)
            go_wp2_with fail
            go_roundw
            case rel => exact ⟨2, by decide, by go_num, by simp [hA0.out], by rw [← HY.out]; simp [hA0.out], hlo⟩
            case measure => simp [intOf] <;> omega
          · have hA0 := Lib.hid (show ¬ C = 0 by simp at hz; omega)
            go_upto_region 9 with fail
            go_cut [5] (fun v wx => v = .int .i64 (((s.size + A + C : Nat) : Int) : Int) ∧ RowKit.Below WR.heap.size WR wx)
            case first =>
              have e34 : ((⟨#[34]⟩ : ByteArray)[0]'(by decide)).toNat = 34 := rfl
              have e92 : ((⟨#[92]⟩ : ByteArray)[0]'(by decide)).toNat = 92 := rfl
              go_region_with fail
              all_goals (go_wp2_with fail; go_meet; exact ⟨by first | rfl | (rw [show IntKind.i64.wrap 1 = 1 from by decide, Int.mul_one, w64 (A : Int) (by omega), w64 _ (by omega)]; rfl) | (rw [show IntKind.i64.wrap 1 = 1 from by decide, Int.mul_one, w64 (C : Int) (by omega), w64 _ (by omega)]; rfl), (Below.refl _ _).drew⟩)
            case rest =>
            obtain ⟨rfl, bq⟩ := hcut
            rename World => W10
            go_wp2_with fail
            go_roundw
            case rel => exact ⟨2, by decide, by go_num, by simp <;> omega, by simp [hA0.out] <;> omega, hlo.trans (bq.mono hlo.size)⟩
            case measure => simp [intOf] <;> omega
        · simp only [show 1 ≤ 2 by decide, show 2 ≤ 2 by decide, if_true]
          go_wp2_with fail
          go_meet
          exact ⟨by first | rfl | simp, by first | rfl | simp, hlo⟩
    · rw [decide_eq_false h16]
      go_wp2_with fail
      go_loopw [5, 6, 10] (fun x y i wr => ∃ j N : Nat, j ≤ s.size ∧ i = .int .i64 (j : Int) ∧ N ≤ 1000 + 2 * j ∧ Hid (s.size + cntB 34 (s.data.toList.take j) + cntB 92 (s.data.toList.take j) = N) ∧ x = .int .i64 (N : Int) ∧ (∃ Y, y = .bool Y ∧ Hid (decide (cntB 34 (s.data.toList.take j) + cntB 92 (s.data.toList.take j) ≠ 0) = Y)) ∧ Below w.heap.size w wr) (fun _ _ i _ => s.size - (intOf i).toNat)
      case atStart => exact ⟨0, s.size, Nat.zero_le _, rfl, by omega, Lib.hid (by simp [cntB]), rfl, ⟨false, rfl, Lib.hid (by simp [cntB])⟩, Below.refl _ _⟩
      case round =>
        obtain ⟨j, N, hj, rfl, hN, HN, rfl, ⟨Y, rfl, HY⟩, hlo⟩ := hrel
        rename World => WR
        have RJ := hR.below hlo
        have hj0 : (0 : Int) ≤ (j : Int) := by omega
        by_cases hlt : j < s.size
        · have hji : (j : Int) < (s.size : Int) := by omega
          have hjl : j < s.data.toList.length := by have := HLL.out; omega
          have h1 := cnt_take 34 s.data.toList j hjl
          have h2 := cnt_take 92 s.data.toList j hjl
          have hat : s.data.toList[j] = s[j] := by simp [ByteArray.getElem_eq_getElem_data]
          rw [hat] at h1 h2
          have hb256 : s[j].toNat < 256 := s[j].toNat_lt
          by_cases e92 : s[j] = 92
          · have hb : s[j].toNat = 92 := by rw [e92]; rfl
            rw [if_neg (by rw [e92]; decide)] at h1
            rw [if_pos e92] at h2
            have HN2 : Hid (s.size + cntB 34 (s.data.toList.take (j + 1)) + cntB 92 (s.data.toList.take (j + 1)) = N + 1) := Lib.hid (by have := HN.out; omega)
            have HY2 : Hid (decide (cntB 34 (s.data.toList.take (j + 1)) + cntB 92 (s.data.toList.take (j + 1)) ≠ 0) = true) := Lib.hid (by rw [h2]; simp)
            have c := RJ.r92
            clear h1 h2 hat e92 hb256
            go_wp2_with fail
            go_roundw
            case rel => exact ⟨j + 1, N + 1, by omega, by go_num, by omega, HN2, by go_num, ⟨true, rfl, HY2⟩, hlo⟩
            case measure => simp [intOf] <;> omega
          · by_cases e34 : s[j] = 34
            · have hb : s[j].toNat = 34 := by rw [e34]; rfl
              rw [if_pos e34] at h1
              rw [if_neg e92] at h2
              have HN2 : Hid (s.size + cntB 34 (s.data.toList.take (j + 1)) + cntB 92 (s.data.toList.take (j + 1)) = N + 1) := Lib.hid (by have := HN.out; omega)
              have HY2 : Hid (decide (cntB 34 (s.data.toList.take (j + 1)) + cntB 92 (s.data.toList.take (j + 1)) ≠ 0) = true) := Lib.hid (by rw [h1]; simp)
              have c := RJ.r34
              clear h1 h2 hat e92 e34 hb256
              go_wp2_with fail
              go_roundw
              case rel => exact ⟨j + 1, N + 1, by omega, by go_num, by omega, HN2, by go_num, ⟨true, rfl, HY2⟩, hlo⟩
              case measure => simp [intOf] <;> omega
            · rw [if_neg e34] at h1
              rw [if_neg e92] at h2
              have HN2 : Hid (s.size + cntB 34 (s.data.toList.take (j + 1)) + cntB 92 (s.data.toList.take (j + 1)) = N) := Lib.hid (by have := HN.out; omega)
              have HY2 : Hid (decide (cntB 34 (s.data.toList.take (j + 1)) + cntB 92 (s.data.toList.take (j + 1)) ≠ 0) = Y) := Lib.hid (by rw [h1, h2]; exact HY.out)
              have c := RJ.no s[j].toNat hb256 (fun h => e92 (UInt8.toNat_inj.1 h)) (fun h => e34 (UInt8.toNat_inj.1 h))
              have hbi : ((s[j].toNat : Nat) : Int) < 256 := by omega
              clear h1 h2 hat e92 e34
              go_wp2_with fail
              go_roundw
              case rel => exact ⟨j + 1, N, by omega, by go_num, by omega, HN2, rfl, ⟨Y, rfl, HY2⟩, hlo⟩
              case measure => simp [intOf] <;> omega
        · obtain rfl : j = s.size := by omega
          have hN2 : s.size + A + C = N := by
            have h := HN.out
            rw [show s.data.toList.take s.size = s.data.toList from List.take_of_length_le (by have := HLL.out; omega), HA.out, HB.out] at h
            exact h
          have hY2 : decide (A + C ≠ 0) = Y := by
            have h := HY.out
            rw [show s.data.toList.take s.size = s.data.toList from List.take_of_length_le (by have := HLL.out; omega), HA.out, HB.out] at h
            exact h
          have HN2 := Lib.hid hN2
          have HY2 := Lib.hid hY2
          clear HN HY hN2 hY2
          go_wp2_with fail
          go_meet
          exact ⟨by rw [HN2.out], by rw [HY2.out], hlo⟩
  case rest =>
  obtain ⟨rfl, rfl, hb1⟩ := hcut
  rename World => W1
  by_cases hz : A + C = 0
  · have HL := Lib.hid (HS.out (by omega) (by omega))
    have hd : decide (A + C ≠ 0) = false := by rw [hz]; rfl
    rw [hd]
    clear hd hz
    go_wp2_with fail
    go_ret
    exact ⟨by rw [HL.out]; rfl, hb1⟩
  · have hd : decide (A + C ≠ 0) = true := decide_eq_true hz
    rw [hd]
    clear hd hz
    obtain ⟨N, hN⟩ : ∃ N, s.size + A + C = N := ⟨_, rfl⟩
    rw [hN]
    have hNl : N ≤ 3000 := by omega
    have HN := Lib.hid hN
    clear hN
    obtain ⟨i0, hi0, hz0, hsz0, hby0⟩ := qinfoB_parts
    have hmk : (Instr.makeSlice 63 (.int .i64 (N : Int)) (.int .i64 (N : Int))).run Tryz.prog W1 = .ok (.slice (some ⟨W1.heap.size, 0, none⟩) N N) (W1.alloc (.cells (madeCells #[.int .u8 0] N) 5)) := by
      have := run_makeSlice (P := Tryz.prog) W1 63 5 i0 _ Tryz.underlying63 hi0 hz0 .i64 .i64 (N : Int) (N : Int) (by omega) (by omega) (by rw [hsz0]; omega) (by rw [hby0]; omega) (by omega)
      rw [hsz0, show (Value.int .u8 0).cells = #[.int .u8 0] from by kernel_rfl] at this
      simpa using this
    go_wp2_with fail
    have hrow : (W1.alloc (.cells (madeCells #[.int .u8 0] N) 5)).heap[W1.heap.size]? = some (.cells (madeCells #[.int .u8 0] N).toList.toArray 5 (0, 0)) := by rw [Array.toArray_toList]; exact heap_alloc_new _ _
    have hrl : (madeCells #[.int .u8 0] N).toList.length = N := by rw [Array.length_toList, size_madeCells]
    have b2 : RowKit.Below W1.heap.size W1 (W1.alloc (.cells (madeCells #[.int .u8 0] N) 5)) := (Below.refl _ _).alloc (Nat.le_refl _) _
    generalize (madeCells #[.int .u8 0] N).toList = cur0 at hrow hrl
    generalize (W1.alloc (.cells (madeCells #[.int .u8 0] N) 5)) = W2 at hrow b2 ⊢
    have HR0 := Lib.hid hrow
    have HL0 := Lib.hid hrl
    obtain ⟨G, hG⟩ : ∃ G, W1.heap.size = G := ⟨_, rfl⟩
    rw [hG] at HR0 b2
    rw [hG]
    have HEN : Hid ((escL s.data.toList).length = N) := Lib.hid (by have h1 := HE.out; have h2 := HN.out; have h3 := HLL.out; omega)
    have HGz := Lib.hid hG
    clear hmk hi0 hz0 hsz0 hby0 hrow hrl hG HE HS
    have hz1 : (Tryz.prog.info? 5).map (·.size) = some 1 := by kernel_rfl
    have HZ1 := Lib.hid hz1
    clear hz1
    go_loopw [13, 14] (fun x i wr => ∃ (k J : Nat) (cur : List Value), k ≤ s.size ∧ i = .int .i64 (k : Int) ∧ x = .int .i64 (J : Int) ∧ J ≤ N ∧ Hid ((escL (s.data.toList.take k)).length = J) ∧ Hid (wr.heap[G]? = some (.cells cur.toArray 5 (0, 0))) ∧ Hid (cur.length = N ∧ cur.take J = Lib.byteCells (escL (s.data.toList.take k))) ∧ Below G W1 wr) (fun _ i _ => s.size - (intOf i).toNat)
    case atStart => exact ⟨0, 0, cur0, Nat.zero_le _, rfl, rfl, Nat.zero_le _, Lib.hid (by simp [escL]), HR0, Lib.hid ⟨HL0.out, by simp [escL, Lib.byteCells]⟩, b2⟩
    case round =>
      obtain ⟨k, J, cur, hk, rfl, rfl, hJ, HJ, HC, HV, hlo⟩ := hrel
      clear HR0 HL0 b2
      rename World => WR
      have hk0 : (0 : Int) ≤ (k : Int) := by omega
      have hJ0 : (0 : Int) ≤ (J : Int) := by omega
      have RJ := (hR.below hb1).below (by rw [HGz.out]; exact hlo)
      by_cases hlt : k < s.size
      · have hki : (k : Int) < (s.size : Int) := by omega
        have hkl : k < s.data.toList.length := by have := HLL.out; omega
        have ht := escL_take s.data.toList k hkl
        have hat : s.data.toList[k] = s[k] := by simp [ByteArray.getElem_eq_getElem_data]
        rw [hat] at ht
        have hfit : (escL (s.data.toList.take (k + 1))).length ≤ N := by
          have h1 := escL_append (s.data.toList.take (k + 1)) (s.data.toList.drop (k + 1))
          rw [List.take_append_drop] at h1
          have h2 := HEN.out
          rw [h1, List.length_append] at h2
          omega
        have hb256 : s[k].toNat < 256 := s[k].toNat_lt
        by_cases e92 : s[k] = 92
        · have hb : s[k].toNat = 92 := by rw [e92]; rfl
          have hc2 : escC s[k] = [92, 92] := by rw [e92]; rfl
          rw [hc2] at ht
          have hlen : J + 2 ≤ N := by rw [ht, List.length_append, HJ.out] at hfit; exact hfit
          have HT := Lib.hid ht
          have c := RJ.r92
          have v0 := RJ.p0
          have v1 := RJ.p1
          have hcap := RJ.hp
          have hJN : (J : Int) < (N : Int) := by omega
          have hJle : (J : Int) ≤ (N : Int) := by omega
          have HV2 : Hid ((splice cur J [.int .u8 92, .int .u8 92]).length = N ∧ (splice cur J [.int .u8 92, .int .u8 92]).take (J + 2) = Lib.byteCells (escL (s.data.toList.take (k + 1)))) := Lib.hid ⟨by rw [length_splice _ _ _ (by have := HV.out.1; show J + 2 ≤ _; omega)]; exact HV.out.1, by
            rw [HT.out]
            have hJc : (cur.take J).length = J := by rw [List.length_take]; have := HV.out.1; omega
            unfold splice
            rw [← List.append_assoc, List.take_append_of_le_length (by rw [List.length_append, hJc]; show J + 2 ≤ J + 2; omega), List.take_of_length_le (by rw [List.length_append, hJc]; show J + 2 ≤ J + 2; omega), HV.out.2]
            unfold Lib.byteCells
            simp⟩
          have HJ2 : Hid ((escL (s.data.toList.take (k + 1))).length = J + 2) := Lib.hid (by rw [HT.out, List.length_append, HJ.out]; rfl)
          have HCL : Hid (cur.length = N) := Lib.hid HV.out.1
          have HLO := Lib.hid hlo
          have HP := Lib.hid (And.intro v0 v1)
          clear ht hat hfit hc2 v0 v1
          go_upto_region 28 with fail
          go_region_law (refine step_copy_splice rfl (Operand.tmp 105) (Operand.tmp 111) _ _ rfl 5 Tryz.underlying63 HZ1.out (some ⟨G, J, none⟩) (some ⟨p, 0, none⟩) (N - J) (N - J) 2 cp (by first | rfl | (simp [Act.eval, Act.put]; done) | (simp [Act.eval, Act.put]; omega)) (by first | rfl | (simp [Act.eval, Act.put]; done) | (simp [Act.eval, Act.put]; omega)) G J cur 5 HC.out [.int .u8 92, .int .u8 92] (by show 2 = min 2 (N - J); omega) (fun _ => ⟨rfl, _, rfl, two_cells HP.out.1 HP.out.2⟩) (by have := HCL.out; show J + 2 ≤ _; omega) (two_one _ _) G W1 (by first | exact HLO.out.drew | exact HLO.out) (Nat.le_refl _) ?_; intro w4 hg4 hb4)
          go_wp2_with fail
          go_roundw
          case rel => exact ⟨k + 1, J + 2, splice cur J [.int .u8 92, .int .u8 92], by omega, by go_num, by first | rfl | (rw [w64 _ (by simp; omega)]; simp) | go_num, by omega, HJ2, hg4, HV2, hb4⟩
          case measure => simp [intOf] <;> omega
        · by_cases e34 : s[k] = 34
          · have hb : s[k].toNat = 34 := by rw [e34]; rfl
            have hc2 : escC s[k] = [92, 34] := by rw [e34]; rfl
            rw [hc2] at ht
            have hlen : J + 2 ≤ N := by rw [ht, List.length_append, HJ.out] at hfit; exact hfit
            have HT := Lib.hid ht
            have c := RJ.r34
            have v0 := RJ.q0
            have v1 := RJ.q1
            have hcap := RJ.hq
            have hJN : (J : Int) < (N : Int) := by omega
            have hJle : (J : Int) ≤ (N : Int) := by omega
            have HV2 : Hid ((splice cur J [.int .u8 92, .int .u8 34]).length = N ∧ (splice cur J [.int .u8 92, .int .u8 34]).take (J + 2) = Lib.byteCells (escL (s.data.toList.take (k + 1)))) := Lib.hid ⟨by rw [length_splice _ _ _ (by have := HV.out.1; show J + 2 ≤ _; omega)]; exact HV.out.1, by
              rw [HT.out]
              have hJc : (cur.take J).length = J := by rw [List.length_take]; have := HV.out.1; omega
              unfold splice
              rw [← List.append_assoc, List.take_append_of_le_length (by rw [List.length_append, hJc]; show J + 2 ≤ J + 2; omega), List.take_of_length_le (by rw [List.length_append, hJc]; show J + 2 ≤ J + 2; omega), HV.out.2]
              unfold Lib.byteCells
              simp⟩
            have HJ2 : Hid ((escL (s.data.toList.take (k + 1))).length = J + 2) := Lib.hid (by rw [HT.out, List.length_append, HJ.out]; rfl)
            have HCL : Hid (cur.length = N) := Lib.hid HV.out.1
            have HLO := Lib.hid hlo
            have HP := Lib.hid (And.intro v0 v1)
            clear ht hat hfit hc2 v0 v1
            go_upto_region 28 with fail
            go_region_law (refine step_copy_splice rfl (Operand.tmp 105) (Operand.tmp 111) _ _ rfl 5 Tryz.underlying63 HZ1.out (some ⟨G, J, none⟩) (some ⟨q, 0, none⟩) (N - J) (N - J) 2 cq (by first | rfl | (simp [Act.eval, Act.put]; done) | (simp [Act.eval, Act.put]; omega)) (by first | rfl | (simp [Act.eval, Act.put]; done) | (simp [Act.eval, Act.put]; omega)) G J cur 5 HC.out [.int .u8 92, .int .u8 34] (by show 2 = min 2 (N - J); omega) (fun _ => ⟨rfl, _, rfl, two_cells HP.out.1 HP.out.2⟩) (by have := HCL.out; show J + 2 ≤ _; omega) (two_one _ _) G W1 (by first | exact HLO.out.drew | exact HLO.out) (Nat.le_refl _) ?_; intro w4 hg4 hb4)
            go_wp2_with fail
            go_roundw
            case rel => exact ⟨k + 1, J + 2, splice cur J [.int .u8 92, .int .u8 34], by omega, by go_num, by first | rfl | (rw [w64 _ (by simp; omega)]; simp) | go_num, by omega, HJ2, hg4, HV2, hb4⟩
            case measure => simp [intOf] <;> omega
          · have hc1 : escC s[k] = [s[k]] := by unfold escC; rw [if_neg e92, if_neg e34]
            rw [hc1] at ht
            have hlen : J + 1 ≤ N := by rw [ht, List.length_append, HJ.out] at hfit; exact hfit
            have HT := Lib.hid ht
            have c := RJ.no s[k].toNat hb256 (fun h => e92 (UInt8.toNat_inj.1 h)) (fun h => e34 (UInt8.toNat_inj.1 h))
            have hbi : ((s[k].toNat : Nat) : Int) < 256 := by omega
            have hJN : (J : Int) < (N : Int) := by omega
            have cJ : WR.cell? ⟨G, J, none⟩ = some (cur[J]'(by have := HV.out.1; omega)) := by
              rw [cell_of_row WR G J cur.toArray _ _ HC.out]
              rw [List.getElem?_toArray, List.getElem?_eq_getElem]
            have fJ := frozen_of_row WR G J cur.toArray _ HC.out
            generalize cur[J]'(by have := HV.out.1; omega) = cv at cJ
            have HS2 := Lib.hid (heap_setCell_same WR G J cur.toArray 5 (.int .u8 (s[k].toNat : Int)) HC.out)
            have HV2 : Hid ((cur.set J (.int .u8 (s[k].toNat : Int))).length = N ∧ (cur.set J (.int .u8 (s[k].toNat : Int))).take (J + 1) = Lib.byteCells (escL (s.data.toList.take (k + 1)))) := Lib.hid ⟨by rw [List.length_set]; exact HV.out.1, by
              rw [HT.out]
              have hJc : J < cur.length := by have := HV.out.1; omega
              rw [List.take_succ_eq_append_getElem (by rw [List.length_set]; exact hJc), List.getElem_set_self, List.take_set_of_le (Nat.le_refl _), HV.out.2]
              unfold Lib.byteCells
              simp⟩
            have HJ2 : Hid ((escL (s.data.toList.take (k + 1))).length = J + 1) := Lib.hid (by rw [HT.out, List.length_append, HJ.out]; rfl)
            clear ht hat hfit hc1 e92 e34
            go_wp2_with fail
            go_roundw
            case rel => exact ⟨k + 1, J + 1, cur.set J (.int .u8 (s[k].toNat : Int)), by omega, by go_num, by go_num, by omega, HJ2, Lib.hid (by have h := HS2.out; simpa using h), HV2, hlo.setCell (Nat.le_refl _) _⟩
            case measure => simp [intOf] <;> omega
      · obtain rfl : k = s.size := by omega
        have hta : s.data.toList.take s.size = s.data.toList := List.take_of_length_le (by have := HLL.out; omega)
        have hJN : J = N := by have h1 := HJ.out; rw [hta] at h1; rw [← h1]; exact HEN.out
        subst hJN
        have hcell : ∀ i (h : i < (escL s.data.toList).length), WR.cell? ((⟨G, 0, none⟩ : Addr).add i) = some (.int .u8 ((escL s.data.toList)[i].toNat : Int)) := by
          intro i h
          rw [Addr.add_lit, Nat.zero_add, cell_of_row WR G i cur.toArray _ _ HC.out, List.getElem?_toArray]
          have h1 := HV.out.2
          rw [hta] at h1
          have h2 : (cur.take J)[i]? = cur[i]? := by rw [List.getElem?_take, if_pos (by have := HEN.out; omega)]
          rw [← h2, h1]
          unfold Lib.byteCells
          simp [h]
        have hconv := run_convert_bytes_back (P := Tryz.prog) WR 63 9 5 ⟨G, 0, none⟩ J (escL s.data.toList) Tryz.underlying63 Tryz.underlying5 Tryz.underlying9 hcell
        rw [HEN.out] at hconv
        have HQ : Hid (∀ X, X = (⟨(escL s.data.toList).toArray⟩ : ByteArray) → X = qbs (escL s.data.toList)) := Lib.hid (fun X h => h)
        clear hta hcell
        go_wp2_with fail
        go_ret
        exact ⟨by rfl, hb1.trans (hlo.mono (by rw [← HGz.out]; exact hb1.size))⟩
end Go.Proofs.YtogmipbdnffegaaGreatDoor
