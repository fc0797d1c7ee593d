/- Lists of names: the reference. -/
import Derived.Test.YtcpifmhcebfglaaGrNm
namespace Go.Proofs.Ytcpifmhcebfglaa
open Go Go.RowKit
set_option linter.unusedVariables false
instance : DecidableEq ByteArray := fun a b => if h : a.data = b.data then isTrue (ByteArray.ext h) else isFalse (fun e => h (by rw [e]))
/-- s stands in the list -/
def inT (s : ByteArray) (l : List ByteArray) : Bool := l.any fun x => decide (x = s)
theorem inT_iff {s : ByteArray} {l : List ByteArray} : inT s l = true ↔ s ∈ l := by
  unfold inT
  rw [List.any_eq_true]
  constructor
  · rintro ⟨x, h1, h2⟩
    have := of_decide_eq_true h2
    rwa [← this]
  · intro h
    exact ⟨s, h, decide_eq_true rfl⟩
theorem inT_no {s : ByteArray} {l : List ByteArray} (h : s ∉ l) : inT s l = false := by
  cases hb : inT s l with
  | false => rfl
  | true => exact absurd (inT_iff.1 hb) h
/-- the error of a list of names: the first one that is no name, or that stands there before -/
def nfL : List ByteArray → List ByteArray → Int
  | _, [] => 0
  | before, s :: l => if nmB s = false then 9 else if inT s before = true then 6 else nfL (before ++ [s]) l
def namesF (l : List ByteArray) : Int := nfL [] l
theorem tl_eq {s t : ByteArray} : s = t ↔ s.toList = t.toList := by
  rw [ByteArray.toList_eq, ByteArray.toList_eq]
  constructor
  · intro h; rw [h]
  · intro h
    apply ByteArray.ext
    exact Array.toList_inj.1 h
set_option maxRecDepth 100000 in
set_option maxHeartbeats 1600000 in
theorem index_any (l : List ByteArray) (s : ByteArray) (ad : Option Addr) (cap : Nat) (hc : l.length ≤ cap) (hn : l.length ≤ 4000000000000) (w : World) (h : RowAt 1 encT l ad w) : Calls Try.prog 33 #[.slice ad l.length cap, .string s] w fun e w' => ∃ n : Int, e = .returned (.int .i64 n) ∧ (s ∈ l → ∃ k : Nat, n = k ∧ k < l.length ∧ l[k]! = s ∧ ∀ j, j < k → l[j]! ≠ s) ∧ (s ∉ l → n = -1) ∧ w' = w := by
  go_enter Try.func33, Try.ntmps33
  go_wp2_with fail
  go_loopw [8] (fun i wr => ∃ k : Nat, k ≤ l.length ∧ i = .int .i64 k ∧ Hid (∀ x ∈ l.take k, x ≠ s) ∧ wr = w) (fun i _ => l.length - (intOf i).toNat)
  case atStart => exact ⟨0, Nat.zero_le _, rfl, (by intro x hx; simp at hx), rfl⟩
  case round =>
    obtain ⟨k, hk, rfl, hz, rfl⟩ := hrel
    have hk0 : (0 : Int) ≤ (k : Int) := by omega
    by_cases hlt : k < l.length
    · have hki : (k : Int) < (l.length : Int) := by omega
      obtain ⟨b, o, rfl, hcell⟩ := h.pick (by omega)
      have c0 := hcell k hlt 0 _ rfl
      simp only [Nat.mul_one, Nat.add_zero] at c0
      have HT := Lib.hid (tk1 l hlt)
      have HM := Lib.hid (mem1 l hlt)
      have HH := Lib.hid hcell
      clear hcell
      by_cases he : l[k]! = s
      · have HR : Hid ((s ∈ l → ∃ k2 : Nat, (k : Int) = k2 ∧ k2 < l.length ∧ l[k2]! = s ∧ ∀ j, j < k2 → l[j]! ≠ s) ∧ (s ∉ l → (k : Int) = -1)) := Lib.hid ⟨fun _ => ⟨k, rfl, hlt, he, fun j hj e => hz.out l[j]! (by
            have hjl : j < l.length := by omega
            rw [getElem!_pos l j hjl, List.mem_take_iff_getElem]
            exact ⟨j, by omega, rfl⟩) e⟩, fun hn => absurd (he ▸ HM.out) hn⟩
        rw [he] at c0
        clear he
        go_wp2_with fail
        go_ret
        exact ⟨_, rfl, HR.out.1, HR.out.2, rfl⟩
      · have he2 : ¬ s.toList = l[k]!.toList := fun e => he (tl_eq.2 e.symm)
        have he3 : (s.toList == l[k]!.toList) = false := by simpa using he2
        have he4 : ¬ s = l[k]! := fun e => he e.symm
        have HS : Hid (∀ x ∈ l.take (k + 1), x ≠ s) := by
          show ∀ x ∈ l.take (k + 1), x ≠ s
          rw [HT.out]
          intro x hx
          rcases List.mem_append.1 hx with h1 | h1
          · exact hz.out x h1
          · rw [List.mem_singleton.1 h1]; exact he
        generalize l[k]! = x at c0 he2 he3 he4
        clear he
        go_wp2_with fail
        go_roundw
        case rel => exact ⟨k + 1, by omega, by go_num, HS, by first | rfl | trivial⟩
        case measure => first | done | (simp [intOf]; done) | (simp [intOf]; omega)
    · have hki : ¬ (k : Int) < (l.length : Int) := by omega
      have HR : Hid (s ∉ l) := by
        show s ∉ l
        intro hm
        have := hz.out s (by rw [List.take_of_length_le (by omega)]; exact hm)
        exact this rfl
      go_wp2_with fail
      go_ret
      exact ⟨-1, rfl, fun h => absurd h HR.out, fun _ => rfl, rfl⟩
set_option maxRecDepth 100000 in
theorem contains_any (l : List ByteArray) (s : ByteArray) (ad : Option Addr) (cap : Nat) (hc : l.length ≤ cap) (hn : l.length ≤ 4000000000000) (w : World) (h : RowAt 1 encT l ad w) : Calls Try.prog 96 #[.slice ad l.length cap, .string s] w fun e w' => e = .returned (.bool (inT s l)) ∧ w' = w := by
  have H := Lib.hid (index_any l s ad cap hc hn w h)
  clear h
  go_enter Try.func96, Try.ntmps96
  go_wp2_with fail
  refine H.out.mono ?_
  rintro e w' ⟨n, rfl, h1, h2, rfl⟩
  by_cases hm : s ∈ l
  · obtain ⟨k, rfl, _⟩ := h1 hm
    have h3 : (0 : Int) ≤ (k : Int) := by omega
    have HD : Hid (inT s l = true) := inT_iff.2 hm
    clear h1 h2 hm
    go_wp2_with fail
    go_ret
    exact ⟨ret_bool HD.out.symm, rfl⟩
  · obtain rfl := h2 hm
    have HD : Hid (inT s l = false) := inT_no hm
    clear h1 h2 hm
    go_wp2_with fail
    go_ret
    exact ⟨ret_bool HD.out.symm, rfl⟩
set_option maxRecDepth 100000 in
set_option maxHeartbeats 1600000 in
theorem rnames_any (l : List ByteArray) (ad : Option Addr) (cap : Nat) (hc : l.length ≤ cap) (hn : l.length ≤ 4000000000000) (hz : ∀ x ∈ l, x.size ≤ 9223372036854775000) (w : World) (h : RowAt 1 encT l ad w) : Calls Try.prog 131 #[.slice ad l.length cap] w fun e w' => e = .returned (.int .i64 (namesF l)) ∧ w' = w := by
  have HZ := Lib.hid hz
  clear hz
  go_enter Try.func131, Try.ntmps131
  go_wp2_with fail
  go_loopw [7] (fun i wr => ∃ k : Nat, k ≤ l.length ∧ i = .int .i64 k ∧ Hid (namesF l = nfL (l.take k) (l.drop k)) ∧ wr = w) (fun i _ => l.length - (intOf i).toNat)
  case atStart => exact ⟨0, Nat.zero_le _, rfl, rfl, rfl⟩
  case round =>
    obtain ⟨k, hk, rfl, hq, rfl⟩ := hrel
    have hk0 : (0 : Int) ≤ (k : Int) := by omega
    by_cases hlt : k < l.length
    · have hki : (k : Int) < (l.length : Int) := by omega
      have HT := Lib.hid (tk1 l hlt)
      have HM := Lib.hid (mem1 l hlt)
      have hd : l.drop k = l[k]! :: l.drop (k + 1) := by rw [getElem!_pos l k hlt]; exact List.drop_eq_getElem_cons hlt
      have HQ : Hid (namesF l = if nmB l[k]! = false then 9 else if inT l[k]! (l.take k) = true then 6 else nfL (l.take (k + 1)) (l.drop (k + 1))) := by
        show _ = _
        rw [hq.out, hd, HT.out]; rfl
      have hcon := contains_any (l.take k) l[k]! ad cap (by simp; omega) (by simp; omega) wr (h.take k hk)
      rw [show (l.take k).length = k by simp; omega] at hcon
      have HC := Lib.hid hcon
      have hnm := Lib.hid (rnamed_any l[k]! (HZ.out _ HM.out) wr)
      obtain ⟨b, o, rfl, hcell⟩ := h.pick (by omega)
      have c0 := hcell k hlt 0 _ rfl
      simp only [Nat.mul_one, Nat.add_zero] at c0
      clear hcell hd hq hcon
      generalize l[k]! = x at c0 HQ HC hnm HM HT
      cases hb : nmB x with
      | false =>
        rw [hb] at hnm
        have HR : Hid (namesF l = 9) := by show _ = _; rw [HQ.out, if_pos hb]
        clear hb
        go_wp2_with (first | (go_at_call 177; refine hnm.out.mono ?_; rintro e w3 ⟨rfl, rfl⟩))
        go_ret
        exact ⟨ret_num HR.out.symm, rfl⟩
      | true =>
        rw [hb] at hnm
        by_cases hm : x ∈ l.take k
        · have HR : Hid (namesF l = 6) := by show _ = _; rw [HQ.out, if_neg (by rw [hb]; simp), if_pos (inT_iff.2 hm)]
          rw [inT_iff.2 hm] at HC
          clear hb hm
          go_wp2_with (first | (go_at_call 177; refine hnm.out.mono ?_; rintro e w3 ⟨rfl, rfl⟩) | (go_at_call 96; refine HC.out.mono ?_; rintro e w3 ⟨rfl, rfl⟩))
          go_ret
          exact ⟨ret_num HR.out.symm, rfl⟩
        · have HR : Hid (namesF l = nfL (l.take (k + 1)) (l.drop (k + 1))) := by show _ = _; rw [HQ.out, if_neg (by rw [hb]; simp), if_neg (by rw [inT_no hm]; simp)]
          rw [inT_no hm] at HC
          clear hb hm
          go_wp2_with (first | (go_at_call 177; refine hnm.out.mono ?_; rintro e w3 ⟨rfl, rfl⟩) | (go_at_call 96; refine HC.out.mono ?_; rintro e w3 ⟨rfl, rfl⟩))
          go_roundw
          case rel => exact ⟨k + 1, by omega, by go_num, HR, by first | rfl | trivial⟩
          case measure => first | done | (simp [intOf]; done) | (simp [intOf]; omega)
    · have hki : ¬ (k : Int) < (l.length : Int) := by omega
      have HR : Hid (namesF l = 0) := by
        show _ = _
        rw [hq.out, List.drop_of_length_le (by omega)]; rfl
      go_wp2_with fail
      go_ret
      exact ⟨ret_num HR.out.symm, rfl⟩
end Go.Proofs.Ytcpifmhcebfglaa
