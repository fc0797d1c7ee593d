/- A sign: the program's scanSign.
   How a token is read: all ways. No program here.
   A world that has changed in some blocks alone, and grown. -/
import Derived.Test.YtogmipbdnffegaaGreatDoorMgScan
import Derived.Deep.MidRow
import Derived.Test.YtogmipbdnffegaaGreatDoorMgRd
import Derived.Test.YtogmipbdnffegaaGreatDoorMgRefs
import Derived.Test.YtogmipbdnffegaaGreatDoorRfRd
import Derived.Test.YtogmipbdnffegaaGreatDoorMgStr
import Derived.Test.YtogmipbdnffegaaGreatDoorMgTok
namespace Go.Proofs.YtogmipbdnffegaaGreatDoor
open Go Go.RowKit
set_option linter.unusedVariables false
def signV : Value := Value.agg #[Value.string (signB 0), Value.string (signB 1), Value.string (signB 2), Value.string (signB 3), Value.string (signB 4), Value.string (signB 5), Value.string (signB 6), Value.string (signB 7), Value.string (signB 8), Value.string (signB 9), Value.string (signB 10), Value.string (signB 11), Value.string (signB 12), Value.string (signB 13), Value.string (signB 14), Value.string (signB 15), Value.string (signB 16), Value.string (signB 17), Value.string (signB 18), Value.string (signB 19), Value.string (signB 20), Value.string (signB 21), Value.string (signB 22), Value.string (signB 23), Value.string (signB 24), Value.string (signB 25), Value.string (signB 26), Value.string (signB 27), Value.string (signB 28), Value.string (signB 29), Value.string (signB 30), Value.string (signB 31), Value.string (signB 32), Value.string (signB 33), Value.string (signB 34), Value.string (signB 35), Value.string (signB 36), Value.string (signB 37), Value.string (signB 38)]
theorem sg_at0 (w : World) : (Instr.index 48 signV (.int .i64 0)).run Tryz.prog w = .ok (.string (signB 0)) w := by kernel_rfl
theorem sg_at1 (w : World) : (Instr.index 48 signV (.int .i64 1)).run Tryz.prog w = .ok (.string (signB 1)) w := by kernel_rfl
theorem sg_at2 (w : World) : (Instr.index 48 signV (.int .i64 2)).run Tryz.prog w = .ok (.string (signB 2)) w := by kernel_rfl
theorem sg_at3 (w : World) : (Instr.index 48 signV (.int .i64 3)).run Tryz.prog w = .ok (.string (signB 3)) w := by kernel_rfl
theorem sg_at4 (w : World) : (Instr.index 48 signV (.int .i64 4)).run Tryz.prog w = .ok (.string (signB 4)) w := by kernel_rfl
theorem sg_at5 (w : World) : (Instr.index 48 signV (.int .i64 5)).run Tryz.prog w = .ok (.string (signB 5)) w := by kernel_rfl
theorem sg_at6 (w : World) : (Instr.index 48 signV (.int .i64 6)).run Tryz.prog w = .ok (.string (signB 6)) w := by kernel_rfl
theorem sg_at7 (w : World) : (Instr.index 48 signV (.int .i64 7)).run Tryz.prog w = .ok (.string (signB 7)) w := by kernel_rfl
theorem sg_at8 (w : World) : (Instr.index 48 signV (.int .i64 8)).run Tryz.prog w = .ok (.string (signB 8)) w := by kernel_rfl
theorem sg_at9 (w : World) : (Instr.index 48 signV (.int .i64 9)).run Tryz.prog w = .ok (.string (signB 9)) w := by kernel_rfl
theorem sg_at10 (w : World) : (Instr.index 48 signV (.int .i64 10)).run Tryz.prog w = .ok (.string (signB 10)) w := by kernel_rfl
theorem sg_at11 (w : World) : (Instr.index 48 signV (.int .i64 11)).run Tryz.prog w = .ok (.string (signB 11)) w := by kernel_rfl
theorem sg_at12 (w : World) : (Instr.index 48 signV (.int .i64 12)).run Tryz.prog w = .ok (.string (signB 12)) w := by kernel_rfl
theorem sg_at13 (w : World) : (Instr.index 48 signV (.int .i64 13)).run Tryz.prog w = .ok (.string (signB 13)) w := by kernel_rfl
theorem sg_at14 (w : World) : (Instr.index 48 signV (.int .i64 14)).run Tryz.prog w = .ok (.string (signB 14)) w := by kernel_rfl
theorem sg_at15 (w : World) : (Instr.index 48 signV (.int .i64 15)).run Tryz.prog w = .ok (.string (signB 15)) w := by kernel_rfl
theorem sg_at16 (w : World) : (Instr.index 48 signV (.int .i64 16)).run Tryz.prog w = .ok (.string (signB 16)) w := by kernel_rfl
theorem sg_at17 (w : World) : (Instr.index 48 signV (.int .i64 17)).run Tryz.prog w = .ok (.string (signB 17)) w := by kernel_rfl
theorem sg_at18 (w : World) : (Instr.index 48 signV (.int .i64 18)).run Tryz.prog w = .ok (.string (signB 18)) w := by kernel_rfl
theorem sg_at19 (w : World) : (Instr.index 48 signV (.int .i64 19)).run Tryz.prog w = .ok (.string (signB 19)) w := by kernel_rfl
theorem sg_at20 (w : World) : (Instr.index 48 signV (.int .i64 20)).run Tryz.prog w = .ok (.string (signB 20)) w := by kernel_rfl
theorem sg_at21 (w : World) : (Instr.index 48 signV (.int .i64 21)).run Tryz.prog w = .ok (.string (signB 21)) w := by kernel_rfl
theorem sg_at22 (w : World) : (Instr.index 48 signV (.int .i64 22)).run Tryz.prog w = .ok (.string (signB 22)) w := by kernel_rfl
theorem sg_at23 (w : World) : (Instr.index 48 signV (.int .i64 23)).run Tryz.prog w = .ok (.string (signB 23)) w := by kernel_rfl
theorem sg_at24 (w : World) : (Instr.index 48 signV (.int .i64 24)).run Tryz.prog w = .ok (.string (signB 24)) w := by kernel_rfl
theorem sg_at25 (w : World) : (Instr.index 48 signV (.int .i64 25)).run Tryz.prog w = .ok (.string (signB 25)) w := by kernel_rfl
theorem sg_at26 (w : World) : (Instr.index 48 signV (.int .i64 26)).run Tryz.prog w = .ok (.string (signB 26)) w := by kernel_rfl
theorem sg_at27 (w : World) : (Instr.index 48 signV (.int .i64 27)).run Tryz.prog w = .ok (.string (signB 27)) w := by kernel_rfl
theorem sg_at28 (w : World) : (Instr.index 48 signV (.int .i64 28)).run Tryz.prog w = .ok (.string (signB 28)) w := by kernel_rfl
theorem sg_at29 (w : World) : (Instr.index 48 signV (.int .i64 29)).run Tryz.prog w = .ok (.string (signB 29)) w := by kernel_rfl
theorem sg_at30 (w : World) : (Instr.index 48 signV (.int .i64 30)).run Tryz.prog w = .ok (.string (signB 30)) w := by kernel_rfl
theorem sg_at31 (w : World) : (Instr.index 48 signV (.int .i64 31)).run Tryz.prog w = .ok (.string (signB 31)) w := by kernel_rfl
theorem sg_at32 (w : World) : (Instr.index 48 signV (.int .i64 32)).run Tryz.prog w = .ok (.string (signB 32)) w := by kernel_rfl
theorem sg_at33 (w : World) : (Instr.index 48 signV (.int .i64 33)).run Tryz.prog w = .ok (.string (signB 33)) w := by kernel_rfl
theorem sg_at34 (w : World) : (Instr.index 48 signV (.int .i64 34)).run Tryz.prog w = .ok (.string (signB 34)) w := by kernel_rfl
theorem sg_at35 (w : World) : (Instr.index 48 signV (.int .i64 35)).run Tryz.prog w = .ok (.string (signB 35)) w := by kernel_rfl
theorem sg_at36 (w : World) : (Instr.index 48 signV (.int .i64 36)).run Tryz.prog w = .ok (.string (signB 36)) w := by kernel_rfl
theorem sg_at37 (w : World) : (Instr.index 48 signV (.int .i64 37)).run Tryz.prog w = .ok (.string (signB 37)) w := by kernel_rfl
theorem sg_at38 (w : World) : (Instr.index 48 signV (.int .i64 38)).run Tryz.prog w = .ok (.string (signB 38)) w := by kernel_rfl
theorem sign_index (i : Nat) (hi : i < 39) (w : World) : (Instr.index 48 signV (.int .i64 i)).run Tryz.prog w = .ok (.string (signB i)) w :=
  match i, hi with
  | 0, _ => sg_at0 w
  | 1, _ => sg_at1 w
  | 2, _ => sg_at2 w
  | 3, _ => sg_at3 w
  | 4, _ => sg_at4 w
  | 5, _ => sg_at5 w
  | 6, _ => sg_at6 w
  | 7, _ => sg_at7 w
  | 8, _ => sg_at8 w
  | 9, _ => sg_at9 w
  | 10, _ => sg_at10 w
  | 11, _ => sg_at11 w
  | 12, _ => sg_at12 w
  | 13, _ => sg_at13 w
  | 14, _ => sg_at14 w
  | 15, _ => sg_at15 w
  | 16, _ => sg_at16 w
  | 17, _ => sg_at17 w
  | 18, _ => sg_at18 w
  | 19, _ => sg_at19 w
  | 20, _ => sg_at20 w
  | 21, _ => sg_at21 w
  | 22, _ => sg_at22 w
  | 23, _ => sg_at23 w
  | 24, _ => sg_at24 w
  | 25, _ => sg_at25 w
  | 26, _ => sg_at26 w
  | 27, _ => sg_at27 w
  | 28, _ => sg_at28 w
  | 29, _ => sg_at29 w
  | 30, _ => sg_at30 w
  | 31, _ => sg_at31 w
  | 32, _ => sg_at32 w
  | 33, _ => sg_at33 w
  | 34, _ => sg_at34 w
  | 35, _ => sg_at35 w
  | 36, _ => sg_at36 w
  | 37, _ => sg_at37 w
  | 38, _ => sg_at38 w
  | n + 39, h => absurd h (by omega)
/-- the first sign that a text begins with -/
def sgF (l : List UInt8) : Nat → Option Nat
  | 0 => none
  | n + 1 => match sgF l n with
    | some i => some i
    | none => if Lib.hasPrefix l (signL.getD n []) then some n else none
def sgn (l : List UInt8) : Option Nat := sgF l 39
theorem sgF_stay (l : List UInt8) {n i : Nat} (h : sgF l n = some i) : ∀ m, n ≤ m → sgF l m = some i
  | 0, hm => by obtain rfl : n = 0 := by omega
                exact h
  | m + 1, hm => by
    by_cases e : n = m + 1
    · rw [← e]; exact h
    · have := sgF_stay l h m (by omega)
      show (match sgF l m with | some i => some i | none => _) = _
      rw [this]
theorem signB_list (i : Nat) : (signB i).data.toList = signL.getD i [] := rfl
def signVs : List Value := (List.range 39).map fun i => Value.string (signB i)
theorem signVs_get (j : Nat) (v : Value) (h : signVs[j]? = some v) : j < 39 ∧ v = .string (signB j) := by
  unfold signVs at h
  simp only [List.getElem?_map, List.getElem?_range', Option.map_eq_some_iff] at h
  obtain ⟨a, ha, rfl⟩ := h
  have hj : j < 39 := by
    by_cases hh : j < 39
    · exact hh
    · rw [List.getElem?_eq_none (by simp; omega)] at ha
      cases ha
  rw [List.getElem?_range hj] at ha
  cases ha
  exact ⟨hj, rfl⟩
theorem signVs_agg : Value.agg signVs.toArray = signV := by rfl
theorem sign_range (W : World) (hG : LG W) : W.rangeAt 1 0 signVs := by
  intro j v hj
  obtain ⟨hj', rfl⟩ := signVs_get j v hj
  rw [Nat.zero_add]
  exact hG.sg j hj'
end Go.Proofs.YtogmipbdnffegaaGreatDoor
namespace Go.Proofs.YtogmipbdnffegaaGreatDoor
open Go Go.RowKit
set_option linter.unusedVariables false
/-- what comes of a token: its parts and its size, or an error -/
inductive Res
  | ok (k : Int) (t : ByteArray) (q : Bool) (n v x : Int) (s : Bool) (z : Nat)
  | er (e : Int)
/-- the text of a number with a quotation mark at n -/
def quoT (r : ByteArray) (n : Nat) : ByteArray := r.extract 0 (n + 1 + span inW (r.extract (n + 1) r.size))
inductive Rt (r : ByteArray) : Res → Prop
  | name (hL : isL (gb r 0) = true) (h40 : span inW r ≤ 40) : Rt r (.ok (if isKey (r.extract 0 (span inW r)).data.toList then 2 else 1) (r.extract 0 (span inW r)) false 0 0 0 false (span inW r))
  | long (hL : isL (gb r 0) = true) (h40 : 40 < span inW r) : Rt r (.er 3)
  | qbad (h92 : gb r 0 = 92) (hb : span inQ (r.extract 1 r.size) = 0 ∨ (1 ≤ span inQ (r.extract 1 r.size) ∧ 1 + span inQ (r.extract 1 r.size) < r.size ∧ isB (gb r (1 + span inQ (r.extract 1 r.size))) = false)) : Rt r (.er 10)
  | qlong (h92 : gb r 0 = 92) (h1 : 1 ≤ span inQ (r.extract 1 r.size)) (he : 1 + span inQ (r.extract 1 r.size) = r.size ∨ (1 + span inQ (r.extract 1 r.size) < r.size ∧ isB (gb r (1 + span inQ (r.extract 1 r.size))) = true)) (h40 : 40 < span inQ (r.extract 1 r.size)) : Rt r (.er 3)
  | qok (h92 : gb r 0 = 92) (h1 : 1 ≤ span inQ (r.extract 1 r.size)) (he : 1 + span inQ (r.extract 1 r.size) = r.size ∨ (1 + span inQ (r.extract 1 r.size) < r.size ∧ isB (gb r (1 + span inQ (r.extract 1 r.size))) = true)) (h40 : span inQ (r.extract 1 r.size) ≤ 40) : Rt r (.ok 1 (r.extract 1 (1 + span inQ (r.extract 1 r.size))) true 0 0 0 false (1 + span inQ (r.extract 1 r.size)))
  | sok (h34 : gb r 0 = 34) {n : Nat} {l : List UInt8} (h : Ss r 1 [] (.ok n l)) (hl : l.length ≤ 200) : Rt r (.ok 4 ⟨l.toArray⟩ false 0 0 0 false (n + 1))
  | slong (h34 : gb r 0 = 34) {n : Nat} {l : List UInt8} (h : Ss r 1 [] (.ok n l)) (hl : 200 < l.length) : Rt r (.er 3)
  | sbad (h34 : gb r 0 = 34) {e : Int} (h : Ss r 1 [] (.er e)) : Rt r (.er e)
  | nq (hD : isD (gb r 0) = true) (hl : span isD r < r.size) (h39 : gb r (span isD r) = 39) {a b c : Int} (hR : Rdg (quoT r (span isD r)) (.tuple #[.agg #[.int .i64 a, .int .u64 b, .int .u64 c], .int .i64 0])) : Rt r (.ok 3 ⟨#[]⟩ false a b c (decide (gb r (span isD r + 1) = 115)) (span isD r + 1 + span inW (r.extract (span isD r + 1) r.size)))
  | nqbad (hD : isD (gb r 0) = true) (hl : span isD r < r.size) (h39 : gb r (span isD r) = 39) {a b c e : Int} (he : e ≠ 0) (hR : Rdg (quoT r (span isD r)) (.tuple #[.agg #[.int .i64 a, .int .u64 b, .int .u64 c], .int .i64 e])) : Rt r (.er e)
  | nbad (hD : isD (gb r 0) = true) (hn : ¬ (span isD r < r.size ∧ gb r (span isD r) = 39)) (hb : (span isD r < r.size ∧ isL (gb r (span isD r)) = true) ∨ (2 ≤ span isD r ∧ gb r 0 = 48)) : Rt r (.er 10)
  | nok (hD : isD (gb r 0) = true) (hn : ¬ (span isD r < r.size ∧ gb r (span isD r) = 39)) (hb : ¬ ((span isD r < r.size ∧ isL (gb r (span isD r)) = true) ∨ (2 ≤ span isD r ∧ gb r 0 = 48))) (hv : dgv r (span isD r) ≤ 2147483647) : Rt r (.ok 3 ⟨#[]⟩ false 32 (dgv r (span isD r) : Nat) 0 true (span isD r))
  | nbig (hD : isD (gb r 0) = true) (hn : ¬ (span isD r < r.size ∧ gb r (span isD r) = 39)) (hb : ¬ ((span isD r < r.size ∧ isL (gb r (span isD r)) = true) ∨ (2 ≤ span isD r ∧ gb r 0 = 48))) (hv : 2147483647 < dgv r (span isD r)) : Rt r (.er 3)
  | sign (hL : isL (gb r 0) = false) (hD : isD (gb r 0) = false) (n34 : gb r 0 ≠ 34) (n92 : gb r 0 ≠ 92) {i : Nat} (hi : sgn r.data.toList = some i) : Rt r (.ok 5 (signB i) false 0 0 0 false (signB i).size)
  | none (hL : isL (gb r 0) = false) (hD : isD (gb r 0) = false) (n34 : gb r 0 ≠ 34) (n92 : gb r 0 ≠ 92) (hi : sgn r.data.toList = Option.none) : Rt r (.er 10)
theorem isD_isL (c : Nat) (h : isD c = true) : isL c = false := by
  simp only [isD, Bool.and_eq_true, decide_eq_true_eq] at h
  unfold isL
  simp only [Bool.or_eq_false_iff, Bool.and_eq_false_iff, decide_eq_false_iff_not, beq_eq_false_iff_ne]
  omega
theorem isD_rng {c : Nat} (h : isD c = true) : 48 ≤ c ∧ c ≤ 57 := by
  simpa only [isD, Bool.and_eq_true, decide_eq_true_eq] using h
theorem span_first {f : Nat → Bool} {r : ByteArray} (h1 : 1 ≤ r.size) (h : f (gb r 0) = true) : 1 ≤ span f r := by
  apply Nat.le_of_not_lt
  intro hz
  have h0 : span f r = 0 := by omega
  have := span_no (f := f) (s := r) (by omega)
  simp only [h0] at this
  rw [gb_at r 0 (by omega), h] at this
  cases this
theorem span_none {f : Nat → Bool} {r : ByteArray} (h1 : 1 ≤ r.size) (h : f (gb r 0) = false) : span f r = 0 :=
  span_is (Nat.zero_le _) (fun q _ hq => absurd hq (Nat.not_lt_zero q)) (fun h0 => by rw [gb_at r 0 h0]; exact h)
theorem pre39 (s : ByteArray) (n : Nat) : Lib.hasPrefix (s.extract n s.size).data.toList (ByteArray.mk #[39]).data.toList = decide (n < s.size ∧ gb s n = 39) := by
  by_cases h : n < s.size
  · have hr0 : 0 < (s.extract n s.size).size := by simp; omega
    have hg := gb_at (s.extract n s.size) 0 hr0
    have ha := rest_at s n 0 (by omega)
    rw [Nat.add_zero] at ha
    have hL : (s.extract n s.size).data.toList ≠ [] := by intro e; have := len_list (s.extract n s.size); rw [e] at this; simp at this; omega
    obtain ⟨c, l, hcl⟩ := List.exists_cons_of_ne_nil hL
    have hc : c.toNat = gb s n := by
      rw [← ha, ← hg]
      have : (s.extract n s.size).data.toList[0]? = some (s.extract n s.size)[0] := by
        rw [List.getElem?_eq_getElem (by rw [len_list]; exact hr0)]
        rfl
      rw [hcl] at this
      simp at this
      rw [this]
    rw [hcl]
    show (ByteArray.mk #[39]).data.toList.isPrefixOf (c :: l) = _
    rw [← hc]
    by_cases h3 : c = 39
    · subst h3
      simp [List.isPrefixOf, h]
    · have h4 : ¬ c.toNat = 39 := fun e => h3 (UInt8.toNat_inj.1 e)
      have h5 : ¬ (39 : UInt8) = c := fun e => h3 e.symm
      simp [List.isPrefixOf, h4, h5]
  · have e : (s.extract n s.size).data.toList = [] := by
      apply List.eq_nil_of_length_eq_zero
      rw [len_list]
      simp
      omega
    rw [e]
    simp [Lib.hasPrefix, List.isPrefixOf, h]
/-- letters and digits behind the first digits -/
theorem span_letters (s : ByteArray) : span isD s ≤ span inW s ∧ (span isD s < span inW s ↔ span isD s < s.size ∧ isL (gb s (span isD s)) = true) := by
  have hle := span_le isD s
  have hlw := span_le inW s
  have hall : ∀ q (h : q < s.size), q < span isD s → inW s[q].toNat = true := fun q h hq => by
    have := span_yes (f := isD) h hq
    unfold inW
    rw [this, Bool.or_true]
  by_cases h : span isD s < s.size ∧ isL (gb s (span isD s)) = true
  · have hlt : span isD s < span inW s := by
      apply Nat.lt_of_not_le
      intro hc
      by_cases e : span inW s = span isD s
      · have h2 := span_no (f := inW) (s := s) (by omega)
        rw [gb_at s _ (by omega), e] at h2
        unfold inW at h2
        rw [h.2] at h2
        simp at h2
      · have h2 := span_no (f := inW) (s := s) (by omega)
        rw [hall _ (by omega) (by omega)] at h2
        cases h2
    exact ⟨by omega, ⟨fun _ => h, fun _ => hlt⟩⟩
  · have e : span inW s = span isD s := span_is hle hall (fun h0 => by
      have h2 := span_no (f := isD) (s := s) h0
      unfold inW
      rw [h2, gb_at s _ h0]
      cases hl : isL (gb s (span isD s))
      · rfl
      · exact absurd ⟨h0, hl⟩ h)
    exact ⟨by omega, ⟨fun hc => by omega, fun hc => absurd hc h⟩⟩
theorem rdg_form {s : ByteArray} {v : Value} (h : Rdg s v) : ∃ a b c e : Int, v = .tuple #[.agg #[.int .i64 a, .int .u64 b, .int .u64 c], .int .i64 e] := by
  by_cases hc : ∃ wd r0 rs, Cutt s wd r0 rs
  · obtain ⟨wd, r0, rs, C⟩ := hc
    rcases h.inv C with ⟨_, rfl⟩ | ⟨hr, ⟨_, _, rfl⟩ | ⟨_, hA⟩ | ⟨_, _, hA⟩⟩
    · exact ⟨0, 0, 0, 10, rfl⟩
    · exact ⟨0, 0, 0, 10, rfl⟩
    · exact deca_form hA
    · exact diga_form hA
  · rw [rdg_bad (fun wd r0 rs C => hc ⟨wd, r0, rs, C⟩) h]
    exact ⟨0, 0, 0, 10, rfl⟩
/-- a number that is read has two bytes behind its quotation mark -/
theorem rdg_two {r : ByteArray} {n : Nat} (hn : span isD r = n) (hl : n < r.size) (h39 : gb r n = 39) {a b c : Int} (h : Rdg (quoT r n) (.tuple #[.agg #[.int .i64 a, .int .u64 b, .int .u64 c], .int .i64 0])) : 2 ≤ span inW (r.extract (n + 1) r.size) ∧ n + 3 ≤ r.size := by
  have hw := span_le inW (r.extract (n + 1) r.size)
  have hw2 : span inW (r.extract (n + 1) r.size) ≤ r.size - (n + 1) := by simpa using hw
  generalize hR : span inW (r.extract (n + 1) r.size) = R at hw2
  have hq : quoT r n = r.extract 0 (n + 1 + R) := by unfold quoT; rw [hR]
  rw [hq] at h
  have hsz : (r.extract 0 (n + 1 + R)).size = n + 1 + R := by simp; omega
  have hg : ∀ i, i < n + 1 + R → gb (r.extract 0 (n + 1 + R)) i = gb r i := fun i hi => gb_part r _ i (by omega) hi
  have e0 : ∀ {v : Value}, v = bad 10 → Value.tuple #[.agg #[.int .i64 a, .int .u64 b, .int .u64 c], .int .i64 0] = v → False := by
    intro v h1 h2
    rw [h1] at h2
    unfold bad at h2
    injection h2 with h2
    have h3 := congrArg (fun x : Array Value => x[1]?) h2
    simp at h3
  by_cases hc : ∃ wd r0 rs, Cutt (r.extract 0 (n + 1 + R)) wd r0 rs
  · obtain ⟨wd, r0, rs, C⟩ := hc
    have hwd : wd.size = n := by
      rcases Nat.lt_trichotomy wd.size n with hlt | he | hgt
      · have h1 := C.q C.lt
        rw [gb_at _ _ C.lt, hg _ (by omega), ← gb_at r _ (by omega)] at h1
        have h2 := isD_rng (span_yes (f := isD) (s := r) (q := wd.size) (by omega) (by omega))
        omega
      · exact he
      · have h1 := C.dg n (by omega) hgt
        rw [gb_at _ _ (by omega), hg _ (by omega), h39] at h1
        omega
    rcases h.inv C with ⟨_, hv⟩ | ⟨hr, _⟩
    · exact (e0 hv rfl).elim
    · have h0 : r0.size = (r.extract 0 (n + 1 + R)).size - (wd.size + 1) := by
        have := congrArg ByteArray.size C.er
        rw [this]
        simp
      have h2 : rs.size ≤ r0.size := by
        rcases C.es with ⟨_, _, h3⟩ | ⟨_, h3⟩
        · rw [h3]; simp
        · rw [h3]; exact Nat.le_refl _
      omega
  · exact (e0 (rdg_bad (fun wd r0 rs C => hc ⟨wd, r0, rs, C⟩) h) rfl).elim
theorem ss_lt {s : ByteArray} {n0 : Nat} {l0 : List UInt8} {o : So} (h : Ss s n0 l0 o) : ∀ n l, o = .ok n l → n < s.size := by
  induction h with
  | nd h => intro n l e; cases e
  | nl h c => intro n l e; cases e
  | qt h c => intro n l e; injection e with e1 e2; omega
  | be h c h1 => intro n l e; cases e
  | bx h c h1 d e => intro n l e; cases e
  | bo h c h1 d r ih => exact ih
  | il h c d e f => intro n l e; cases e
  | go h d e f r ih => exact ih
theorem ss_er {s : ByteArray} {n0 : Nat} {l0 : List UInt8} {o : So} (h : Ss s n0 l0 o) : ∀ e, o = .er e → e = 10 ∨ e = 11 := by
  induction h with
  | nd h => intro e he; injection he with he; exact .inr he.symm
  | nl h c => intro e he; injection he with he; exact .inr he.symm
  | qt h c => intro e he; cases he
  | be h c h1 => intro e he; injection he with he; exact .inr he.symm
  | bx h c h1 d e => intro e he; injection he with he; exact .inl he.symm
  | bo h c h1 d r ih => exact ih
  | il h c d e f => intro e he; injection he with he; exact .inl he.symm
  | go h d e f r ih => exact ih
theorem rt_total (r : ByteArray) (h1 : 1 ≤ r.size) : ∃ R, Rt r R := by
  by_cases hL : isL (gb r 0) = true
  · by_cases h40 : span inW r ≤ 40
    · exact ⟨_, .name hL h40⟩
    · exact ⟨_, .long hL (by omega)⟩
  · have hL' : isL (gb r 0) = false := by simpa using hL
    by_cases hD : isD (gb r 0) = true
    · by_cases hn : span isD r < r.size ∧ gb r (span isD r) = 39
      · obtain ⟨v, hv⟩ := rdg_total (quoT r (span isD r))
        obtain ⟨a, b, c, e, rfl⟩ := rdg_form hv
        by_cases he : e = 0
        · subst he
          exact ⟨_, .nq hD hn.1 hn.2 hv⟩
        · exact ⟨_, .nqbad hD hn.1 hn.2 he hv⟩
      · by_cases hb : (span isD r < r.size ∧ isL (gb r (span isD r)) = true) ∨ (2 ≤ span isD r ∧ gb r 0 = 48)
        · exact ⟨_, .nbad hD hn hb⟩
        · by_cases hv : dgv r (span isD r) ≤ 2147483647
          · exact ⟨_, .nok hD hn hb hv⟩
          · exact ⟨_, .nbig hD hn hb (by omega)⟩
    · have hD' : isD (gb r 0) = false := by simpa using hD
      by_cases h34 : gb r 0 = 34
      · obtain ⟨o, ho⟩ := ss_total r r.size 1 [] (by omega)
        cases o with
        | ok n l =>
          by_cases hl : l.length ≤ 200
          · exact ⟨_, .sok h34 ho hl⟩
          · exact ⟨_, .slong h34 ho (by omega)⟩
        | er e => exact ⟨_, .sbad h34 ho⟩
      · by_cases h92 : gb r 0 = 92
        · have hw := span_le inQ (r.extract 1 r.size)
          have hw2 : span inQ (r.extract 1 r.size) ≤ r.size - 1 := by simpa using hw
          by_cases h0 : span inQ (r.extract 1 r.size) = 0
          · exact ⟨_, .qbad h92 (.inl h0)⟩
          · by_cases he : 1 + span inQ (r.extract 1 r.size) = r.size
            · by_cases h40 : span inQ (r.extract 1 r.size) ≤ 40
              · exact ⟨_, .qok h92 (by omega) (.inl he) h40⟩
              · exact ⟨_, .qlong h92 (by omega) (.inl he) (by omega)⟩
            · cases hB : isB (gb r (1 + span inQ (r.extract 1 r.size)))
              · exact ⟨_, .qbad h92 (.inr ⟨by omega, by omega, hB⟩)⟩
              · by_cases h40 : span inQ (r.extract 1 r.size) ≤ 40
                · exact ⟨_, .qok h92 (by omega) (.inr ⟨by omega, hB⟩) h40⟩
                · exact ⟨_, .qlong h92 (by omega) (.inr ⟨by omega, hB⟩) (by omega)⟩
        · cases hs : sgn r.data.toList with
          | none => exact ⟨_, .none hL' hD' h34 h92 hs⟩
          | some i => exact ⟨_, .sign hL' hD' h34 h92 hs⟩
end Go.Proofs.YtogmipbdnffegaaGreatDoor
namespace Go.Proofs.YtogmipbdnffegaaGreatDoor
open Go Go.RowKit
set_option linter.unusedVariables false
structure But (S : Nat → Prop) (B : Nat) (w w' : World) : Prop where
  os : w'.os = w.os
  tape : w'.tape = w.tape
  output : w'.output = w.output
  size : w.heap.size ≤ w'.heap.size
  block : ∀ k, k < B → ¬ S k → w'.heap[k]? = w.heap[k]?
theorem But.refl (S : Nat → Prop) (B : Nat) (w : World) : But S B w w := ⟨rfl, rfl, rfl, Nat.le_refl _, fun _ _ _ => rfl⟩
theorem But.trans {S : Nat → Prop} {B : Nat} {a b c : World} (h : But S B a b) (k : But S B b c) : But S B a c :=
  ⟨k.os.trans h.os, k.tape.trans h.tape, k.output.trans h.output, Nat.le_trans h.size k.size, fun i hi hs => (k.block i hi hs).trans (h.block i hi hs)⟩
theorem But.mono {S T : Nat → Prop} {B C : Nat} {w w' : World} (h : But S B w w') (hC : C ≤ B) (hT : ∀ k, S k → T k) : But T C w w' :=
  ⟨h.os, h.tape, h.output, h.size, fun k hk hs => h.block k (Nat.lt_of_lt_of_le hk hC) (fun x => hs (hT k x))⟩
theorem But.of_below {S : Nat → Prop} {B : Nat} {w w' : World} (h : Below B w w') : But S B w w' := ⟨h.os, h.tape, h.output, h.size, fun k hk _ => h.block k hk⟩
/-- what changes nothing that was there before -/
theorem But.below {S : Nat → Prop} {B : Nat} {w w' : World} (h : But S B w w') (hS : ∀ k, S k → B ≤ k) : Below B w w' :=
  ⟨h.os, h.tape, h.output, h.size, fun k hk => h.block k hk (fun x => by have := hS k x; omega)⟩
theorem But.setCell {S : Nat → Prop} {B : Nat} {a w : World} (h : But S B a w) {p : Addr} (hp : S p.block ∨ B ≤ p.block) (u : Value) : But S B a (w.setCell p u) :=
  h.trans ⟨rfl, rfl, rfl, by simp [World.setCell], fun k hk hs => Below.heap_setCell _ _ _ _ (by rintro rfl; exact hp.elim hs (fun x => absurd hk (by omega)))⟩
theorem But.drew {S : Nat → Prop} {B : Nat} {a w : World} (h : But S B a w) : But S B a w.drew := ⟨h.os, h.tape, h.output, h.size, h.block⟩
theorem But.drewN {S : Nat → Prop} {B : Nat} {a w : World} (h : But S B a w) (n : Nat) : But S B a (w.drewN n) := ⟨h.os, h.tape, h.output, h.size, h.block⟩
theorem But.cell {S : Nat → Prop} {B : Nat} {w w' : World} (h : But S B w w') {p : Addr} (hp : p.block < B) (hs : ¬ S p.block) : w'.cell? p = w.cell? p := World.cell?_of_block (w := w) (h.block p.block hp hs)
theorem But.frozen {S : Nat → Prop} {B : Nat} {w w' : World} (h : But S B w w') {p : Addr} (hp : p.block < B) (hs : ¬ S p.block) : w'.frozen? p = w.frozen? p := by
  have e := h.block p.block hp hs
  unfold World.frozen?
  rw [e]
theorem cell_set_at {w : World} {p q i j : Nat} {u : Value} (h : p ≠ q) : (w.setCell ⟨p, i, none⟩ u).cell? ⟨q, j, none⟩ = w.cell? ⟨q, j, none⟩ := by
  apply World.cell?_setCell_other
  simp <;> omega
theorem frozen_set_at {w : World} {p q i j : Nat} {u : Value} : (w.setCell ⟨p, i, none⟩ u).frozen? ⟨q, j, none⟩ = w.frozen? ⟨q, j, none⟩ := by
  go_simp
end Go.Proofs.YtogmipbdnffegaaGreatDoor
