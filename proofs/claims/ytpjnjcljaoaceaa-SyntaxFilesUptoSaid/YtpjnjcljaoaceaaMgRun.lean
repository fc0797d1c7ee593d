/- The reference's within.
   How many bytes of a class a text begins with: the reference's run. -/
import Derived.Test.YtpjnjcljaoaceaaMgCls
import Derived.Lib.IndexAny
import Derived.Lib.QuietBelow
import Derived.LoopTactic
import Derived.Lib.BufferRead
namespace Go.Proofs.Ytpjnjcljaoaceaa
open Go Go.RowKit Go.Sort
set_option linter.unusedVariables false
/-- every byte lies between two ones -/
def wi (lo hi : Nat) (l : List UInt8) : Bool := l.all fun c => decide (lo ≤ c.toNat) && decide (c.toNat ≤ hi)
/-- every byte lies between two ones and is none of some -/
def wib (lo hi : Nat) (but l : List UInt8) : Bool := l.all fun c => decide (lo ≤ c.toNat) && decide (c.toNat ≤ hi) && !but.contains c
theorem wib_out {lo hi : Nat} {but l : List UInt8} {k : Nat} (h : k < l.length) (hc : l[k].toNat < lo ∨ hi < l[k].toNat ∨ but.contains l[k] = true) : wib lo hi but l = false := by
  cases e : wib lo hi but l
  · rfl
  · unfold wib at e
    have := List.all_eq_true.1 e l[k] (List.getElem_mem h)
    simp only [Bool.and_eq_true, decide_eq_true_eq, Bool.not_eq_true'] at this
    rcases hc with h1 | h1 | h1
    · omega
    · omega
    · rw [h1] at this; simp at this
theorem wib_snoc (lo hi : Nat) (but l : List UInt8) (c : UInt8) : wib lo hi but (l ++ [c]) = (wib lo hi but l && (decide (lo ≤ c.toNat) && decide (c.toNat ≤ hi) && !but.contains c)) := by
  unfold wib; simp
theorem retW {a b : Bool} (h : a = b) : Ending.returned (.bool a) = .returned (.bool b) := by rw [h]
theorem tk_snoc (s : ByteArray) (k : Nat) (h : k < s.size) : s.data.toList.take (k + 1) = s.data.toList.take k ++ [s[k]] := by
  rw [List.take_succ_eq_append_getElem (by simpa using h)]; rfl
theorem tk_len (s : ByteArray) {k : Nat} (h : s.size ≤ k) : s.data.toList.take k = s.data.toList := List.take_of_length_le (by simpa using h)
theorem all_ne {l : List UInt8} {c : UInt8} {m : Nat} (h : m < l.length) (h1 : ∀ x ∈ l.take m, x ≠ c) (h2 : l[m] ≠ c) : ∀ x ∈ l.take (m + 1), x ≠ c := by
  intro x hx
  rw [List.take_succ_eq_append_getElem h] at hx
  rcases List.mem_append.1 hx with h3 | h3
  · exact h1 x h3
  · simp at h3; rw [h3]; exact h2
set_option maxRecDepth 100000 in
set_option maxHeartbeats 1600000 in
theorem rwithin_any (s but : ByteArray) (lo hi : Nat) (hs : s.size ≤ 9223372036854775807) (hb : but.size ≤ 9223372036854775807) (w : World) : Calls Try.prog 31 #[.string s, .int .u8 lo, .int .u8 hi, .string but] w fun e w' => e = .returned (.bool (wib lo hi but.data.toList s.data.toList)) ∧ Below w.heap.size w w' := by
  go_enter Try.func31, Try.ntmps31
  go_wp2_with fail
  go_loopw [13] (fun i wr => ∃ k : Nat, k ≤ s.size ∧ i = .int .i64 k ∧ Hid (wib lo hi but.data.toList (s.data.toList.take k) = true) ∧ Below w.heap.size w wr) (fun i _ => s.size - (intOf i).toNat)
  case atStart => exact ⟨0, Nat.zero_le _, rfl, rfl, Below.refl _ _⟩
  case round =>
    obtain ⟨k, hk, rfl, hz, hbel⟩ := hrel
    by_cases hlt : k < s.size
    · have hl : k < s.data.toList.length := by simpa using hlt
      by_cases h1 : s[k].toNat < lo
      · have HF := Lib.hid (wib_out (lo := lo) (hi := hi) (but := but.data.toList) hl (Or.inl h1))
        go_wp2_with fail
        go_ret
        exact ⟨retW HF.out.symm, hbel⟩
      · by_cases h2 : hi < s[k].toNat
        · have HF := Lib.hid (wib_out (lo := lo) (hi := hi) (but := but.data.toList) hl (Or.inr (Or.inl h2)))
          go_wp2_with fail
          go_ret
          exact ⟨retW HF.out.symm, hbel⟩
        · have HB := Lib.hid hbel
          clear hbel
          obtain ⟨wo, hwo⟩ : ∃ wo : World, wo = wr := ⟨_, rfl⟩
          subst hwo
          go_wp2_with fail
          go_loopw [30] (fun j wi => ∃ m : Nat, m ≤ but.size ∧ j = .int .i64 m ∧ Hid (∀ x ∈ but.data.toList.take m, x ≠ s[k]) ∧ Below w.heap.size w wi) (fun j _ => but.size - (intOf j).toNat)
          case atStart => exact ⟨0, Nat.zero_le _, rfl, (fun x hx => by simp at hx), HB.out⟩
          case round =>
            obtain ⟨m, hm, rfl, hy, hbel⟩ := hrel
            by_cases hlt2 : m < but.size
            · have hl2 : m < but.data.toList.length := by simpa using hlt2
              have hk0 : (0 : Int) ≤ (k : Int) := by omega
              have hk1 : (k : Int) < (s.size : Int) := by omega
              have hm0 : (0 : Int) ≤ (m : Int) := by omega
              have hm1 : (m : Int) < (but.size : Int) := by omega
              by_cases h3 : s[k] = but[m]
              · have ht : ((s[k].toNat : Int) == (but[m].toNat : Int)) = true := by rw [h3]; simp
                have HF : Hid (wib lo hi but.data.toList s.data.toList = false) := wib_out hl (Or.inr (Or.inr (by rw [List.contains_iff_mem]; show s[k] ∈ _; rw [h3]; exact List.getElem_mem hl2)))
                clear h3
                go_wp2_with fail
                go_quiet (fail)
                go_wp2_with fail
                go_ret
                exact ⟨retW HF.out.symm, below_drewN hbel _⟩
              · have ht : ((s[k].toNat : Int) == (but[m].toNat : Int)) = false := by
                  apply beq_eq_false_iff_ne.2; intro e; apply h3; apply UInt8.toNat_inj.1; omega
                have HS : Hid (∀ x ∈ but.data.toList.take (m + 1), x ≠ s[k]) := all_ne hl2 hy.out (fun e => h3 e.symm)
                clear h3
                go_wp2_with fail
                go_quiet (fail)
                go_wp2_with fail
                go_roundw
                case rel => exact ⟨m + 1, by omega, by go_num, HS, below_drewN hbel _⟩
                case measure => simp [intOf]; omega
            · have HS : Hid (wib lo hi but.data.toList (s.data.toList.take (k + 1)) = true) := by
                show wib lo hi but.data.toList (s.data.toList.take (k + 1)) = true
                have hy2 := hy.out
                rw [List.take_of_length_le (by simp; omega)] at hy2
                have hc : but.data.toList.contains s[k] = false := by
                  cases e : but.data.toList.contains s[k]
                  · rfl
                  · exact absurd rfl (hy2 _ (List.contains_iff_mem.1 e))
                rw [tk_snoc s k hlt, wib_snoc, hz.out, hc]; simp; omega
              go_wp2_with fail
              go_roundw
              case rel => exact ⟨k + 1, by omega, by go_num, HS, hbel⟩
              case measure => simp [intOf]; omega
    · have HF : Hid (wib lo hi but.data.toList s.data.toList = true) := by
        have := hz.out
        rw [tk_len s (by omega)] at this; exact this
      go_wp2_with fail
      go_ret
      exact ⟨retW HF.out.symm, hbel⟩
end Go.Proofs.Ytpjnjcljaoaceaa
namespace Go.Proofs.Ytpjnjcljaoaceaa
open Go Go.RowKit Go.Sort
set_option linter.unusedVariables false
theorem conv_one (r : Nat) (hr : r ≤ 255) (w : World) : (convert 58 9 (.slice (some ⟨w.heap.size, 0, none⟩) 1 1)).run Try.prog (w.alloc (.cells #[.int .u8 (r : Int)] 5)) = .ok (.string ⟨#[UInt8.ofNat r]⟩) (w.alloc (.cells #[.int .u8 (r : Int)] 5)) := by
  refine run_convert_bytes_back (P := Try.prog) (w.alloc (.cells #[.int .u8 (r : Int)] 5)) 58 9 5 ⟨w.heap.size, 0, none⟩ 1 [UInt8.ofNat r] Try.underlying58 Try.underlying5 Try.underlying9 ?_
  intro q hq
  obtain rfl : q = 0 := by simp at hq; omega
  have h8 : (UInt8.ofNat r).toNat = r := by simp <;> omega
  simp only [Addr.add_lit, List.getElem_cons_zero, h8]
  go_simp
theorem wib_one : ∀ c : Fin 256, wib 33 126 [46, 91, 93, 34, 92, 96] [UInt8.ofNat c.1] = inQ c.1 := by decide +kernel
set_option maxRecDepth 100000 in
set_option maxHeartbeats 800000 in
theorem inQ_r (c : Nat) (hc : c ≤ 255) (w : World) : Calls Try.prog 45 #[.int .u8 c] w fun e w' => e = .returned (.bool (inQ c)) ∧ Below w.heap.size w w' := by
  have hcv := conv_one c hc w
  have hw := fun w1 => rwithin_any ⟨#[UInt8.ofNat c]⟩ ⟨#[46, 91, 93, 34, 92, 96]⟩ 33 126 (by show 1 ≤ _; omega) (by show 6 ≤ _; omega) w1
  have e1 : wib 33 126 (ByteArray.mk #[46, 91, 93, 34, 92, 96]).data.toList (ByteArray.mk #[UInt8.ofNat c]).data.toList = inQ c := wib_one ⟨c, by omega⟩
  simp only [e1] at hw
  have HW := Lib.hid hw
  clear hw e1
  generalize inQ c = V at *
  go_enter Try.func45, Try.ntmps45
  go_wp2_with (go_at_call 31; refine (HW.out _).mono ?_; rintro e w1 ⟨rfl, hb⟩)
  go_ret
  exact ⟨rfl, ((Below.refl _ _).alloc (Nat.le_refl _) _).trans (hb.mono (by simp))⟩
set_option maxRecDepth 100000 in
set_option maxHeartbeats 800000 in
theorem run_Q (s : ByteArray) (hs : s.size ≤ 1000000) (w : World) :
    Calls Try.prog 44 #[.string s, .func (.func 45) #[] #[]] w fun e w' => e = .returned (.int .i64 (span inQ s : Nat)) ∧ Below w.heap.size w w' := by
  have hc := inQ_r
  have HC := Lib.hid hc
  clear hc
  go_enter Try.func44, Try.ntmps44
  go_wp2_with fail
  go_loopw [8] (fun u wr => ∃ n : Nat, n ≤ s.size ∧ u = .int .i64 n ∧ Hid (∀ q (h : q < s.size), q < n → inQ s[q].toNat = true) ∧ Below w.heap.size w wr) (fun u _ => s.size - (intOf u).toNat)
  case atStart => exact ⟨0, Nat.zero_le _, rfl, Lib.hid (fun q h hq => absurd hq (Nat.not_lt_zero q)), Below.refl _ _⟩
  case round =>
    rename World => wo
    obtain ⟨n, hn, rfl, hd, hlo⟩ := hrel
    have hn0 : (0 : Int) ≤ (n : Int) := by omega
    by_cases hlt : n < s.size
    · have hb : s[n].toNat ≤ 255 := by have := s[n].toNat_lt; omega
      have hk := HC.out s[n].toNat hb wo
      cases hv : inQ s[n].toNat
      · have HS : Hid (span inQ s = n) := Lib.hid (span_is hn hd.out (fun _ => hv))
        rw [hv] at hk
        have HK := Lib.hid hk
        clear hv hk
        go_wp2_with fail
        refine HK.out.mono ?_
        rintro e w1 ⟨rfl, hb1⟩
        go_wp2_with fail
        go_ret
        exact ⟨ret_int (by rw [HS.out]), hlo.trans (hb1.mono hlo.size)⟩
      · have HD : Hid (∀ q (h : q < s.size), q < n + 1 → inQ s[q].toNat = true) := Lib.hid (fun q h hq => by
          by_cases hqn : q < n
          · exact hd.out q h hqn
          · obtain rfl : q = n := by omega
            exact hv)
        rw [hv] at hk
        have HK := Lib.hid hk
        clear hv hk
        go_wp2_with fail
        refine HK.out.mono ?_
        rintro e w1 ⟨rfl, hb1⟩
        go_wp2_with fail
        go_roundw
        case rel => exact ⟨n + 1, by omega, by go_num, HD, hlo.trans (hb1.mono hlo.size)⟩
        case measure => simp [intOf] <;> omega
    · obtain rfl : n = s.size := by omega
      have HS : Hid (span inQ s = s.size) := Lib.hid (span_is hn hd.out (fun h => absurd h (Nat.lt_irrefl _)))
      go_wp2_with fail
      go_ret
      exact ⟨ret_int (by rw [HS.out]), hlo⟩
end Go.Proofs.Ytpjnjcljaoaceaa
