/- The reference's decimal, without the texts of the messages.
   The reference's Shown, by what V hands back.
   Shown of a vector that is well-formed is its text. -/
import Derived.Test.YtgmgmkhcadimjaaDoorTextA
import Derived.Deep.DeepCutAuto
import Derived.Lib.AppendStr
import Derived.Laws.IdiomStrings
import Derived.Deep.CutBlock
import Derived.LoopTactic
import Derived.Test.YtgmgmkhcadimjaaDoorRefV
namespace Go.Proofs.YtgmgmkhcadimjaaDoor
open Go Go.RowKit
set_option linter.unusedVariables false
theorem ret_str_ {a b : ByteArray} (h : a = b) : Ending.returned (.string a) = .returned (.string b) := by rw [h]
theorem dec_small_ (n : Nat) (h : n < 10) : Lib.decDigits n = [UInt8.ofNat (48 + n)] := by rw [Lib.decDigits, dif_pos h]
theorem dec_big_ (n : Nat) (h : ¬ n < 10) : Lib.decDigits n = Lib.decDigits (n / 10) ++ [UInt8.ofNat (48 + n % 10)] := by rw [Lib.decDigits, dif_neg h]
theorem dec_len_ (k : Nat) : ∀ n : Nat, n ≤ k → (Lib.decDigits n).length ≤ k + 1 := by
  induction k with
  | zero => intro n h; rw [dec_small_ n (by omega)]; simp
  | succ k ih =>
    intro n h
    by_cases h10 : n < 10
    · rw [dec_small_ n h10]; simp
    · rw [dec_big_ n h10]
      have := ih (n / 10) (by omega)
      simp; omega
theorem digit_byte_ (n : Nat) : ((UInt8.ofNat (48 + n % 10)).toNat : Int) = 48 + (n : Int) % 10 := by
  simp; omega
theorem conv_digit_ (n : Nat) (w : World) : (convert 45 9 (.slice (some ⟨w.heap.size, 0, none⟩) 1 1)).run Tryd.prog (w.alloc (.cells #[.int .u8 (48 + (n : Int) % 10)] 5)) = .ok (.string ⟨#[UInt8.ofNat (48 + n % 10)]⟩) (w.alloc (.cells #[.int .u8 (48 + (n : Int) % 10)] 5)) := by
  refine run_convert_bytes_back (P := Tryd.prog) (w.alloc (.cells #[.int .u8 (48 + (n : Int) % 10)] 5)) 45 9 5 ⟨w.heap.size, 0, none⟩ 1 [UInt8.ofNat (48 + n % 10)] Tryd.underlying45 Tryd.underlying5 Tryd.underlying9 ?_
  intro q hq
  match q, hq with
  | 0, _ =>
    have e := digit_byte_ n
    show World.cell? _ ⟨w.heap.size, 0, none⟩ = some (.int .u8 ((UInt8.ofNat (48 + n % 10)).toNat : Int))
    rw [e]; go_simp
set_option maxRecDepth 100000 in
set_option maxHeartbeats 800000 in
theorem decimal_small_ (n : Nat) (h : n < 10) (w : World) :
    Calls Tryd.prog 19 #[.int .i64 n] w fun e w' => e = .returned (.string ⟨(Lib.decDigits n).toArray⟩) ∧ Below w.heap.size w w' := by
  have h0 : (0 : Int) ≤ (n : Int) := by omega
  have h1 : (n : Int) < 10 := by omega
  have hconv := conv_digit_ n w
  have HD : Hid ((⟨#[UInt8.ofNat (48 + n % 10)]⟩ : ByteArray) = ⟨(Lib.decDigits n).toArray⟩) := by
    show _ = _
    rw [dec_small_ n h, Nat.mod_eq_of_lt h]
  generalize UInt8.ofNat (48 + n % 10) = c at hconv HD
  go_enter Tryd.func19, Tryd.ntmps19
  go_wp2_with fail
  go_ret
  exact ⟨ret_str_ HD.out, (Below.refl _ _).alloc (Nat.le_refl _) _⟩
set_option maxRecDepth 100000 in
set_option maxHeartbeats 800000 in
theorem decimal_any_ (k : Nat) : ∀ (n : Nat) (w : World), n ≤ k → k ≤ 100000 →
    Calls Tryd.prog 19 #[.int .i64 n] w fun e w' => e = .returned (.string ⟨(Lib.decDigits n).toArray⟩) ∧ Below w.heap.size w w' := by
  induction k with
  | zero => intro n w hn _; exact decimal_small_ n (by omega) w
  | succ k ih =>
    intro n w hn hk
    by_cases h10 : n < 10
    · exact decimal_small_ n h10 w
    · have h0 : (0 : Int) ≤ (n : Int) := by omega
      have h1 : ¬ (n : Int) < 10 := by omega
      have hconv := conv_digit_ n w
      have hl := dec_len_ k (n / 10) (by omega)
      have hq : (n : Int) / 10 = ((n / 10 : Nat) : Int) := by omega
      have HQ := Lib.hid hq
      have IH := Lib.hid ih
      have hz : (⟨(Lib.decDigits (n / 10)).toArray⟩ : ByteArray).size = (Lib.decDigits (n / 10)).length := by
        show (Lib.decDigits (n / 10)).toArray.size = _
        simp
      have hsum : ¬ 9223372036854775807 < (⟨(Lib.decDigits (n / 10)).toArray⟩ : ByteArray).size + 1 := by rw [hz]; omega
      have HD : Hid ((⟨(Lib.decDigits (n / 10)).toArray⟩ : ByteArray) ++ ⟨#[UInt8.ofNat (48 + n % 10)]⟩ = ⟨(Lib.decDigits n).toArray⟩) := by
        show _ = _
        rw [dec_big_ n h10]
        apply ByteArray.ext
        simp
      generalize UInt8.ofNat (48 + n % 10) = c at hconv HD
      generalize hT : (⟨(Lib.decDigits (n / 10)).toArray⟩ : ByteArray) = T at hsum HD
      have HT := Lib.hid hT
      clear hT hz ih hq hl
      go_enter Tryd.func19, Tryd.ntmps19
      go_wp2_with fail
      rw [HQ.out]
      refine (IH.out (n / 10) _ (by omega) (by omega)).mono ?_
      rintro e w1 ⟨rfl, hb1⟩
      rw [HT.out]
      go_wp2_with fail
      go_ret
      exact ⟨ret_str_ HD.out, ((Below.refl _ _).alloc (Nat.le_refl _) _).trans (hb1.mono (by simp))⟩
theorem conv_byte_ (r : Nat) (hr : r ≤ 255) (w : World) : (convert 45 9 (.slice (some ⟨w.heap.size, 0, none⟩) 1 1)).run Tryd.prog (w.alloc (.cells #[.int .u8 (r : Int)] 5)) = .ok (.string ⟨#[UInt8.ofNat r]⟩) (w.alloc (.cells #[.int .u8 (r : Int)] 5)) := by
  refine run_convert_bytes_back (P := Tryd.prog) (w.alloc (.cells #[.int .u8 (r : Int)] 5)) 45 9 5 ⟨w.heap.size, 0, none⟩ 1 [UInt8.ofNat r] Tryd.underlying45 Tryd.underlying5 Tryd.underlying9 ?_
  intro q hq
  match q, hq with
  | 0, _ =>
    have e : ((UInt8.ofNat r).toNat : Int) = r := by simp; omega
    show World.cell? _ ⟨w.heap.size, 0, none⟩ = some (.int .u8 ((UInt8.ofNat r).toNat : Int))
    rw [e]; go_simp
end Go.Proofs.YtgmgmkhcadimjaaDoor
namespace Go.Proofs.YtgmgmkhcadimjaaDoor
open Go Go.RowKit
set_option linter.unusedVariables false
/-- a slice of bytes that reads as the list -/
def Reads8 (w : World) (v : Value) (l : List UInt8) : Prop := ∃ bl off cp, v = .slice (some ⟨bl, off, none⟩) l.length cp ∧ ∀ j, j < l.length → w.cell? ⟨bl, off + j, none⟩ = some (.int .u8 ((l.getD j 0).toNat : Int))
theorem Reads8.below {w w' : World} {v : Value} {l : List UInt8} (h : Reads8 w v l) (hb : Below w.heap.size w w') : Reads8 w' v l := by
  obtain ⟨bl, off, cp, e, hc⟩ := h
  exact ⟨bl, off, cp, e, fun j hj => (hb.cell (p := ⟨bl, off + j, none⟩) (World.block_lt_of_cell? w _ (hc j hj))).trans (hc j hj)⟩
theorem rev_snoc (l : List UInt8) (j : Nat) (h : j < l.length) : l.reverse.take (j + 1) = l.reverse.take j ++ [l.getD (l.length - 1 - j) 0] := by
  rw [List.take_add_one]
  congr 1
  rw [List.getElem?_eq_getElem (by simpa using h), List.getElem_reverse, List.getD_eq_getElem?_getD, List.getElem?_eq_getElem (by omega)]
  rfl
set_option maxRecDepth 100000 in
set_option maxHeartbeats 2000000 in
theorem shown_of (n : Nat) (hn : n ≤ 64) (bv bx : Int) (l : List UInt8) (h1 : 1 ≤ l.length) (hl : l.length ≤ 64)
    (hV : ∀ w, Calls Tryd.prog 18 #[.agg #[.int .i64 n, .int .u64 bv, .int .u64 bx]] w fun e w' => ∃ v, e = .returned v ∧ Reads8 w' v l ∧ Below w.heap.size w w') (w : World) :
    Calls Tryd.prog 8 #[.agg #[.int .i64 n, .int .u64 bv, .int .u64 bx]] w fun e w' => e = .returned (.string ⟨(Lib.decDigits n ++ [39, 98] ++ l.reverse).toArray⟩) ∧ Below w.heap.size w w' := by
  have HV := Lib.hid hV
  clear hV
  go_enter Tryd.func8, Tryd.ntmps8
  go_wp2_with fail
  refine (HV.out _).mono ?_
  rintro e w1 ⟨v, rfl, hR, hb1⟩
  have x0 : w1.cell? ⟨w.heap.size, 0, none⟩ = some (.int .i64 n) := (hb1.cell (p := ⟨w.heap.size, 0, none⟩) (by simp)).trans (by go_simp)
  have hlo : Below w.heap.size w w1 := ((Below.refl _ _).alloc (Nat.le_refl _) _).trans (hb1.mono (by simp))
  clear hb1
  go_wp2_with fail
  refine (decimal_any_ 64 n _ hn (by omega)).mono ?_
  rintro e w2 ⟨rfl, hb2⟩
  replace hR := hR.below hb2
  replace hlo := hlo.trans (hb2.mono hlo.size)
  obtain ⟨bl, off, cp, rfl, hc⟩ := hR
  clear hb2 x0
  have HC := Lib.hid hc
  clear hc
  have hD20 : (Lib.decDigits n).length ≤ 20 := (by decide +kernel : ∀ m, m < 65 → (Lib.decDigits m).length ≤ 20) n (by omega)
  obtain ⟨D, hD⟩ : ∃ D, Lib.decDigits n = D := ⟨_, rfl⟩
  rw [hD] at hD20 ⊢
  have HDD := Lib.hid hD
  clear hD
  obtain ⟨P0, hP0⟩ : ∃ P0 : ByteArray, (⟨D.toArray⟩ : ByteArray) = P0 := ⟨_, rfl⟩
  have hP1 : P0.size = D.length := by rw [← hP0]; simp [ByteArray.size]
  have HP0 := Lib.hid hP0
  rw [hP0]
  clear hP0
  have hsum : ¬ 9223372036854775807 < P0.size + 2 := by omega
  have HP1 := Lib.hid hP1
  clear hP1
  have HLo := Lib.hid hlo
  clear hlo
  go_wp2_with fail
  go_loopw [4, 5] (fun s4 s5 wr => ∃ (j : Nat) (s : ByteArray), j ≤ l.length ∧ s5 = .int .i64 ((l.length : Int) - 1 - j) ∧ s4 = .string s ∧ Hid (s.data.toList = D ++ [39, 98] ++ l.reverse.take j) ∧ s.size ≤ 40 + j ∧ Below w2.heap.size w2 wr) (fun _ s5 _ => (intOf s5 + 1).toNat)
  case atStart =>
    refine ⟨0, P0 ++ ⟨#[39, 98]⟩, Nat.zero_le _, by first | rfl | go_num, rfl, ?_, ?_, Below.refl _ _⟩
    · rw [← HP0.out]; exact Lib.hid (by simp)
    · rw [ByteArray.size_append]; have := HP1.out; show P0.size + 2 ≤ 40 + 0; omega
  case round =>
    obtain ⟨j, s, hj, rfl, rfl, hs, hsz, hlo⟩ := hrel
    by_cases hjl : j < l.length
    · obtain ⟨q, hq⟩ : ∃ q, l.length - 1 - j = q := ⟨_, rfl⟩
      have e : (l.length : Int) - 1 - j = (q : Int) := by omega
      have hql : q < l.length := by omega
      have hcell := HC.out q hql
      have c0 := (hlo.cell (p := ⟨bl, off + q, none⟩) (World.block_lt_of_cell? w2 _ hcell)).trans hcell
      clear hcell
      obtain ⟨c, hc⟩ : ∃ c, l.getD q 0 = c := ⟨_, rfl⟩
      rw [hc] at c0
      have hconv := conv_byte_ c.toNat (by have := c.toNat_lt; omega) wr
      rw [show UInt8.ofNat c.toNat = c by simp] at hconv
      have hrs : Hid ((s ++ ⟨#[c]⟩ : ByteArray).data.toList = D ++ [39, 98] ++ l.reverse.take (j + 1)) := by
        rw [rev_snoc l j hjl, hq, hc, ← List.append_assoc, ← hs.out]; exact Lib.hid (by simp)
      have hss : (s ++ ⟨#[c]⟩ : ByteArray).size = s.size + 1 := by rw [ByteArray.size_append]; rfl
      have HSS := Lib.hid hss
      have hn2 : ¬ 9223372036854775807 < s.size + 1 := by omega
      have hwr : IntKind.i64.wrap ((q : Int) - 1) = (q : Int) - 1 := by
        unfold IntKind.wrap
        simp [IntKind.bits, IntKind.signed]
        omega
      have HE := Lib.hid e
      have hlo2 : Below w2.heap.size w2 (wr.alloc (Obj.cells #[.int .u8 (c.toNat : Int)] 5)) := hlo.alloc hlo.size _
      rw [e]
      have HQ := Lib.hid hq
      have HSz := Lib.hid hsz
      clear hc hs hss hlo hq e hsz
      go_wp2_with fail
      refine ⟨⟨j + 1, s ++ ⟨#[c]⟩, by omega, ?_, rfl, hrs, by rw [HSS.out]; have := HSz.out; omega, hlo2⟩, ?_⟩
      · have h1 := HE.out
        have h2 := HQ.out
        exact congrArg (Value.int IntKind.i64) (by omega)
      · simp [intOf]
    · obtain rfl : j = l.length := by omega
      have e : (l.length : Int) - 1 - l.length = -1 := by omega
      rw [e]
      have HF : Hid (s = ⟨(D ++ [39, 98] ++ l.reverse).toArray⟩) := by
        have := hs.out
        rw [List.take_of_length_le (by simp)] at this
        cases s with
        | mk d =>
          have e2 : d = (D ++ [39, 98] ++ l.reverse).toArray := by rw [← this]
          exact Lib.hid (by rw [e2])
      clear hs e
      go_wp2_with fail
      go_ret
      exact ⟨by rw [HF.out, HDD.out]; rfl, HLo.out.trans (hlo.mono HLo.out.size)⟩
end Go.Proofs.YtgmgmkhcadimjaaDoor
namespace Go.Proofs.YtgmgmkhcadimjaaDoor
open Go Go.RowKit
set_option linter.unusedVariables false
theorem reads_own {w : World} {B n : Nat} {v : Value} {l : List UInt8} {ty : TypeId} (h : w.ownsRow B ty 1 v n (Lib.byteCells l)) (h1 : 1 ≤ n) : Reads8 w v l := by
  have hl : l.length = n := by have := h.1; simp [Lib.byteCells] at this; exact this
  obtain ⟨hlen, ⟨_, h0⟩ | ⟨g, cap, cur, rfl, _⟩⟩ := id h
  · omega
  · refine ⟨g, 0, cap, by rw [hl], fun j hj => ?_⟩
    rw [Nat.zero_add, World.ownsRow.cellAt h j (by omega)]
    unfold Lib.byteCells
    rw [List.getElem?_map, List.getElem?_eq_getElem hj, List.getD_eq_getElem?_getD, List.getElem?_eq_getElem hj]
    rfl
theorem vl_rev (n : Nat) (a : Vx) : (vl a n).reverse = hib n a n := by
  apply List.ext_getElem?
  intro i
  by_cases hi : i < n
  · have e1 : (vl a n).length = n := vl_len a n
    rw [List.getElem?_reverse (by omega), e1]
    unfold vl hib
    rw [List.getElem?_map, List.getElem?_map, List.getElem?_range (by omega), List.getElem?_range hi]
    rfl
  · rw [List.getElem?_eq_none (by rw [List.length_reverse, vl_len]; omega), List.getElem?_eq_none (by rw [hib_len]; omega)]
theorem itoa_dec (n : Nat) : Lib.itoa (n : Int) = Lib.decDigits n := by unfold Lib.itoa; rw [if_neg (by omega)]; rfl
theorem shown_ok (n : Nat) (a : Vx) (ha : a.ok n) (w : World) :
    Calls Tryd.prog 8 #[.agg #[.int .i64 n, .int .u64 (U a.v), .int .u64 (U a.x)]] w fun e w' => e = .returned (.string ⟨(txt n a n).toArray⟩) ∧ Below w.heap.size w w' := by
  have h := shown_of n ha.hi (U a.v) (U a.x) (vl a n) (by rw [vl_len]; exact ha.lo) (by rw [vl_len]; exact ha.hi)
    (fun w => (refV_ok n a w ha).mono fun e w' ⟨v, e1, hr, hb⟩ => ⟨v, e1, reads_own hr ha.lo, hb⟩) w
  unfold txt
  rw [itoa_dec, ← vl_rev]
  exact h
end Go.Proofs.YtgmgmkhcadimjaaDoor
