/- A text between two blanks in a row of words between blanks. No program here.
   Is a text within another one: the reference's contains.
   The reference's within.
   How many bytes of a class a text begins with: the reference's run. -/
import Derived.Test.YtogmipbdnffegaaGreatDoorLxWords
import Derived.Lib.IndexLaws
import Derived.LoopTactic
import Derived.Test.YtogmipbdnffegaaGreatDoorLxMath
import Derived.Lib.IndexAny
import Derived.Lib.QuietBelow
import Derived.Test.YtogmipbdnffegaaGreatDoorMgCls
import Derived.Lib.BufferRead
namespace Go.Proofs.YtogmipbdnffegaaGreatDoor
open Go Go.RowKit
set_option linter.unusedVariables false
/-- words, each with a blank behind it -/
def flatW : List (List UInt8) → List UInt8
  | [] => []
  | w :: ws => w ++ 32 :: flatW ws
theorem has_cons (b : UInt8) (l sub : List UInt8) : 0 ≤ Lib.index (b :: l) sub ↔ sub.isPrefixOf (b :: l) = true ∨ 0 ≤ Lib.index l sub := by
  have h := Lib.index_ge l sub
  cases hp : sub.isPrefixOf (b :: l)
  · by_cases h1 : Lib.index l sub = -1
    · simp [Lib.index, hp, h1]
    · have h2 : 0 ≤ Lib.index l sub := by omega
      simp [Lib.index, hp, h1, h2]
      omega
  · simp [Lib.index, hp]
theorem has_skip (t l : List UInt8) : ∀ w : List UInt8, (∀ c ∈ w, c ≠ 32) → (0 ≤ Lib.index (w ++ l) (32 :: t) ↔ 0 ≤ Lib.index l (32 :: t))
  | [], _ => Iff.rfl
  | c :: w, h => by
    have hc : ¬ (32 : UInt8) = c := fun e => h c (by simp) e.symm
    have ih := has_skip t l w (fun d hd => h d (by simp [hd]))
    rw [List.cons_append, has_cons, ih]
    simp [List.isPrefixOf, hc]
theorem pre_word (r : List UInt8) : ∀ n w : List UInt8, (∀ c ∈ n, c ≠ 32) → (∀ c ∈ w, c ≠ 32) → ((n ++ [32]).isPrefixOf (w ++ 32 :: r) = true ↔ n = w)
  | [], [], _, _ => by simp [List.isPrefixOf]
  | [], d :: w, _, h => by
    have hc : ¬ (32 : UInt8) = d := fun e => h d (by simp) e.symm
    simp [List.isPrefixOf, hc]
  | c :: n, [], h, _ => by
    have hc : ¬ c = (32 : UInt8) := h c (by simp)
    simp [List.isPrefixOf, hc]
  | c :: n, d :: w, h, h' => by
    have ih := pre_word r n w (fun x hx => h x (by simp [hx])) (fun x hx => h' x (by simp [hx]))
    simp only [List.cons_append, List.isPrefixOf, Bool.and_eq_true, beq_iff_eq, ih, List.cons.injEq]
theorem has_word (n : List UInt8) (hn : ∀ c ∈ n, c ≠ 32) : ∀ ws : List (List UInt8), (∀ w ∈ ws, ∀ c ∈ w, c ≠ 32) → (0 ≤ Lib.index (32 :: flatW ws) (32 :: (n ++ [32])) ↔ n ∈ ws)
  | [], _ => by
    rw [has_cons]
    have h1 : (32 :: (n ++ [32])).isPrefixOf (32 :: flatW []) = false := by
      cases n <;> simp [flatW, List.isPrefixOf]
    have h2 : Lib.index (flatW []) (32 :: (n ++ [32])) = -1 := by simp [flatW, Lib.index]
    rw [h1, h2]
    simp
  | w :: ws, h => by
    have ih := has_word n hn ws (fun v hv => h v (by simp [hv]))
    have hw := h w (by simp)
    rw [has_cons]
    show (32 :: (n ++ [32])).isPrefixOf (32 :: (w ++ 32 :: flatW ws)) = true ∨ 0 ≤ Lib.index (w ++ 32 :: flatW ws) (32 :: (n ++ [32])) ↔ _
    rw [has_skip _ _ w hw, ih, List.isPrefixOf]
    simp only [beq_self_eq_true, Bool.true_and, pre_word _ n w hn hw, List.mem_cons]
/-- the row of words -/
def wordsT : ByteArray := ⟨((([32, 97, 102, 116, 101, 114, 32, 97, 108, 119, 97, 121, 115, 32, 97, 110, 100, 32, 97, 115, 115, 105, 103, 110, 32, 99, 97, 115, 101, 32, 99, 97, 115, 101, 120, 32, 99, 97].append [115, 101, 122, 32, 99, 97, 116, 32, 99, 104, 101, 99, 107, 32, 99, 111, 109, 98, 32, 99, 111, 110, 115, 116, 32, 100, 101, 102, 97, 117, 108, 116, 32, 100, 101, 108, 97, 121]).append ([32, 100, 111, 119, 110, 116, 111, 32, 101, 108, 115, 101, 32, 101, 110, 117, 109, 32, 102, 97, 108, 108, 32, 102, 111, 114, 32, 102, 117, 110, 99, 116, 105, 111, 110, 32, 105, 102].append [32, 105, 110, 32, 105, 110, 105, 116, 105, 97, 108, 32, 105, 110, 115, 116, 32, 105, 110, 116, 101, 114, 102, 97, 99, 101, 32, 108, 105, 110, 107, 32, 108, 111, 103, 32, 109, 111])).append (([100, 117, 108, 101, 32, 109, 111, 110, 105, 116, 111, 114, 32, 110, 111, 119, 32, 111, 110, 32, 111, 114, 32, 111, 117, 116, 32, 112, 114, 111, 112, 101, 114, 116, 121, 32, 114, 101].append [112, 32, 114, 101, 112, 101, 97, 116, 32, 114, 105, 115, 101, 32, 115, 101, 113, 32, 115, 104, 111, 119, 32, 115, 105, 103, 110, 101, 100, 32, 115, 105, 122, 101, 32, 115, 116, 111]).append ([112, 32, 115, 116, 114, 111, 98, 101, 32, 115, 116, 114, 117, 99, 116, 32, 116, 104, 101, 110, 32, 116, 105, 109, 101, 115, 32, 116, 111, 32, 117, 110, 115, 105, 103, 110, 101, 100].append [32, 118, 97, 114, 32, 118, 105, 101, 119, 32, 119, 97, 105, 116, 32, 119, 104, 105, 108, 101, 32, 119, 105, 100, 116, 104, 32, 119, 105, 114, 101, 32, 119, 114, 105, 116, 101, 32]))).toArray⟩
theorem wordsT_flat : wordsT.data.toList = 32 :: flatW wordL := by decide +kernel
theorem wordL_plain : ∀ w ∈ wordL, ∀ c ∈ w, c ≠ 32 := by decide +kernel
theorem has_key (n : List UInt8) (hn : ∀ c ∈ n, c ≠ 32) : decide (0 ≤ Lib.index wordsT.data.toList (32 :: (n ++ [32]))) = isKey n := by
  have h := has_word n hn wordL wordL_plain
  rw [wordsT_flat]
  unfold isKey
  cases hc : wordL.contains n
  · rw [decide_eq_false_iff_not, h]
    intro hm
    rw [List.contains_iff_mem.2 hm] at hc
    cases hc
  · rw [decide_eq_true_iff, h]
    exact List.contains_iff_mem.1 hc
theorem beq_str (a b : ByteArray) : (a.toList == b.toList) = decide (a = b) := by
  rw [ByteArray.toList_eq, ByteArray.toList_eq]
  by_cases h : a = b
  · subst h; simp
  · rw [decide_eq_false h]
    apply beq_eq_false_iff_ne.2
    intro e
    apply h
    cases a; cases b
    simp only at e
    exact ByteArray.ext (Array.ext' e)
/-- does a piece of a text equal another text -/
theorem occ_piece (s t : ByteArray) (i : Nat) (h : i + t.size ≤ s.size) : Lib.occAt s.data.toList t.data.toList i = decide (s.extract i (i + t.size) = t) := by
  have hl := len_list s
  have ht := len_list t
  have e : (s.extract i (i + t.size)).data.toList = (s.data.toList.drop i).take t.data.toList.length := by
    have e3 : i + t.size - i = t.size := by omega
    rw [Lib.extract_eq, ht, e3]
  unfold Lib.occAt
  cases hp : t.data.toList.isPrefixOf (s.data.toList.drop i)
  · symm
    rw [decide_eq_false_iff_not]
    intro hq
    have : t.data.toList <+: s.data.toList.drop i := by
      rw [List.prefix_iff_eq_take, ← e, hq]
    rw [List.isPrefixOf_iff_prefix.2 this] at hp
    cases hp
  · symm
    rw [decide_eq_true_iff]
    have h2 := List.isPrefixOf_iff_prefix.1 hp
    rw [List.prefix_iff_eq_take, ← e] at h2
    cases s; cases t
    simp only at h2
    apply ByteArray.ext
    apply Array.ext'
    exact h2.symm
end Go.Proofs.YtogmipbdnffegaaGreatDoor
namespace Go.Proofs.YtogmipbdnffegaaGreatDoor
open Go Go.RowKit
set_option linter.unusedVariables false
theorem retC {a b : Bool} (h : a = b) : Ending.returned (.bool a) = .returned (.bool b) := by rw [h]
set_option maxRecDepth 100000 in
set_option maxHeartbeats 800000 in
theorem contains_any (s t : ByteArray) (hs : s.size ≤ 1000000) (ht : t.size ≤ 1000000) (h1 : 1 ≤ t.size) (w : World) :
    Calls Tryz.prog 31 #[.string s, .string t] w fun e w' => e = .returned (.bool (decide (0 ≤ Lib.index s.data.toList t.data.toList))) ∧ w = w' := by
  obtain ⟨V, HV⟩ : ∃ V, Hid (decide (0 ≤ Lib.index s.data.toList t.data.toList) = V) := ⟨_, Lib.hid rfl⟩
  rw [HV.out]
  go_enter Tryz.func31, Tryz.ntmps31
  go_wp2_with fail
  go_loop [5] (fun u => ∃ n : Nat, n ≤ s.size + 1 ∧ u = .int .i64 n ∧ Hid (Lib.NoOcc s.data.toList t.data.toList n)) (fun u => s.size + 1 - (intOf u).toNat)
  case atStart => exact ⟨0, Nat.zero_le _, rfl, Lib.hid (Lib.NoOcc.zero _ _)⟩
  case round =>
    obtain ⟨n, hn, rfl, hd⟩ := hrel
    by_cases hlt : n + t.size ≤ s.size
    · have k0 : (n : Int) + (t.size : Int) ≤ (s.size : Int) := by omega
      have k1 : (0 : Int) ≤ (n : Int) := by omega
      have k2 : (n : Int) ≤ (n : Int) + (t.size : Int) := by omega
      have ho := occ_piece s t n hlt
      have hl : n ≤ s.data.toList.length := by rw [len_list]; omega
      cases hv : Lib.occAt s.data.toList t.data.toList n
      · have HD := Lib.hid (hd.out.succ hv)
        rw [hv] at ho
        have hne : ((s.extract n (n + t.size)).toList == t.toList) = false := by rw [beq_str]; exact ho.symm
        clear hv ho hd
        go_wp2_with fail
        go_round
        case rel => exact ⟨n + 1, by omega, by go_num, HD⟩
        case measure => simp [intOf] <;> omega
      · have HS : Hid (V = true) := Lib.hid (by rw [← HV.out, Lib.index_hit hd.out hl hv]; simp)
        rw [hv] at ho
        have hne : ((s.extract n (n + t.size)).toList == t.toList) = true := by rw [beq_str]; exact ho.symm
        clear hv ho hd
        go_wp2_with fail
        go_ret
        exact ⟨retC HS.out.symm, rfl⟩
    · have HS : Hid (V = false) := Lib.hid (by
        rw [← HV.out, Lib.index_past (by intro e; have := len_list t; rw [e] at this; simp at this; omega) hd.out (by rw [len_list, len_list]; omega)]
        rfl)
      have k0 : ¬ (n : Int) + (t.size : Int) ≤ (s.size : Int) := by omega
      go_wp2_with fail
      go_ret
      exact ⟨retC HS.out.symm, rfl⟩
end Go.Proofs.YtogmipbdnffegaaGreatDoor
namespace Go.Proofs.YtogmipbdnffegaaGreatDoor
open Go Go.RowKit Go.Sort
set_option linter.unusedVariables false
/-- every byte lies between two ones -/
def wi (lo hi : Nat) (l : List UInt8) : Bool := l.all fun c => decide (lo ≤ c.toNat) && decide (c.toNat ≤ hi)
/-- every byte lies between two ones and is none of some -/
def wib (lo hi : Nat) (but l : List UInt8) : Bool := l.all fun c => decide (lo ≤ c.toNat) && decide (c.toNat ≤ hi) && !but.contains c
theorem wib_out {lo hi : Nat} {but l : List UInt8} {k : Nat} (h : k < l.length) (hc : l[k].toNat < lo ∨ hi < l[k].toNat ∨ but.contains l[k] = true) : wib lo hi but l = false := by
  cases e : wib lo hi but l
  · rfl
  · unfold wib at e
    have := List.all_eq_true.1 e l[k] (List.getElem_mem h)
    simp only [Bool.and_eq_true, decide_eq_true_eq, Bool.not_eq_true'] at this
    rcases hc with h1 | h1 | h1
    · omega
    · omega
    · rw [h1] at this; simp at this
theorem wib_snoc (lo hi : Nat) (but l : List UInt8) (c : UInt8) : wib lo hi but (l ++ [c]) = (wib lo hi but l && (decide (lo ≤ c.toNat) && decide (c.toNat ≤ hi) && !but.contains c)) := by
  unfold wib; simp
theorem retW {a b : Bool} (h : a = b) : Ending.returned (.bool a) = .returned (.bool b) := by rw [h]
theorem tk_snoc (s : ByteArray) (k : Nat) (h : k < s.size) : s.data.toList.take (k + 1) = s.data.toList.take k ++ [s[k]] := by
  rw [List.take_succ_eq_append_getElem (by simpa using h)]; rfl
theorem tk_len (s : ByteArray) {k : Nat} (h : s.size ≤ k) : s.data.toList.take k = s.data.toList := List.take_of_length_le (by simpa using h)
theorem all_ne {l : List UInt8} {c : UInt8} {m : Nat} (h : m < l.length) (h1 : ∀ x ∈ l.take m, x ≠ c) (h2 : l[m] ≠ c) : ∀ x ∈ l.take (m + 1), x ≠ c := by
  intro x hx
  rw [List.take_succ_eq_append_getElem h] at hx
  rcases List.mem_append.1 hx with h3 | h3
  · exact h1 x h3
  · simp at h3; rw [h3]; exact h2
set_option maxRecDepth 100000 in
set_option maxHeartbeats 1600000 in
theorem rwithin_any (s but : ByteArray) (lo hi : Nat) (hs : s.size ≤ 9223372036854775807) (hb : but.size ≤ 9223372036854775807) (w : World) : Calls Tryz.prog 45 #[.string s, .int .u8 lo, .int .u8 hi, .string but] w fun e w' => e = .returned (.bool (wib lo hi but.data.toList s.data.toList)) ∧ Below w.heap.size w w' := by
  go_enter Tryz.func45, Tryz.ntmps45
  go_wp2_with fail
  go_loopw [13] (fun i wr => ∃ k : Nat, k ≤ s.size ∧ i = .int .i64 k ∧ Hid (wib lo hi but.data.toList (s.data.toList.take k) = true) ∧ Below w.heap.size w wr) (fun i _ => s.size - (intOf i).toNat)
  case atStart => exact ⟨0, Nat.zero_le _, rfl, rfl, Below.refl _ _⟩
  case round =>
    obtain ⟨k, hk, rfl, hz, hbel⟩ := hrel
    by_cases hlt : k < s.size
    · have hl : k < s.data.toList.length := by simpa using hlt
      by_cases h1 : s[k].toNat < lo
      · have HF := Lib.hid (wib_out (lo := lo) (hi := hi) (but := but.data.toList) hl (Or.inl h1))
        go_wp2_with fail
        go_ret
        exact ⟨retW HF.out.symm, hbel⟩
      · by_cases h2 : hi < s[k].toNat
        · have HF := Lib.hid (wib_out (lo := lo) (hi := hi) (but := but.data.toList) hl (Or.inr (Or.inl h2)))
          go_wp2_with fail
          go_ret
          exact ⟨retW HF.out.symm, hbel⟩
        · have HB := Lib.hid hbel
          clear hbel
          obtain ⟨wo, hwo⟩ : ∃ wo : World, wo = wr := ⟨_, rfl⟩
          subst hwo
          go_wp2_with fail
          go_loopw [30] (fun j wi => ∃ m : Nat, m ≤ but.size ∧ j = .int .i64 m ∧ Hid (∀ x ∈ but.data.toList.take m, x ≠ s[k]) ∧ Below w.heap.size w wi) (fun j _ => but.size - (intOf j).toNat)
          case atStart => exact ⟨0, Nat.zero_le _, rfl, (fun x hx => by simp at hx), HB.out⟩
          case round =>
            obtain ⟨m, hm, rfl, hy, hbel⟩ := hrel
            by_cases hlt2 : m < but.size
            · have hl2 : m < but.data.toList.length := by simpa using hlt2
              have hk0 : (0 : Int) ≤ (k : Int) := by omega
              have hk1 : (k : Int) < (s.size : Int) := by omega
              have hm0 : (0 : Int) ≤ (m : Int) := by omega
              have hm1 : (m : Int) < (but.size : Int) := by omega
              by_cases h3 : s[k] = but[m]
              · have ht : ((s[k].toNat : Int) == (but[m].toNat : Int)) = true := by rw [h3]; simp
                have HF : Hid (wib lo hi but.data.toList s.data.toList = false) := wib_out hl (Or.inr (Or.inr (by rw [List.contains_iff_mem]; show s[k] ∈ _; rw [h3]; exact List.getElem_mem hl2)))
                clear h3
                go_wp2_with fail
                go_quiet (fail)
                go_wp2_with fail
                go_ret
                exact ⟨retW HF.out.symm, below_drewN hbel _⟩
              · have ht : ((s[k].toNat : Int) == (but[m].toNat : Int)) = false := by
                  apply beq_eq_false_iff_ne.2; intro e; apply h3; apply UInt8.toNat_inj.1; omega
                have HS : Hid (∀ x ∈ but.data.toList.take (m + 1), x ≠ s[k]) := all_ne hl2 hy.out (fun e => h3 e.symm)
                clear h3
                go_wp2_with fail
                go_quiet (fail)
                go_wp2_with fail
                go_roundw
                case rel => exact ⟨m + 1, by omega, by go_num, HS, below_drewN hbel _⟩
                case measure => simp [intOf]; omega
            · have HS : Hid (wib lo hi but.data.toList (s.data.toList.take (k + 1)) = true) := by
                show wib lo hi but.data.toList (s.data.toList.take (k + 1)) = true
                have hy2 := hy.out
                rw [List.take_of_length_le (by simp; omega)] at hy2
                have hc : but.data.toList.contains s[k] = false := by
                  cases e : but.data.toList.contains s[k]
                  · rfl
                  · exact absurd rfl (hy2 _ (List.contains_iff_mem.1 e))
                rw [tk_snoc s k hlt, wib_snoc, hz.out, hc]; simp; omega
              go_wp2_with fail
              go_roundw
              case rel => exact ⟨k + 1, by omega, by go_num, HS, hbel⟩
              case measure => simp [intOf]; omega
    · have HF : Hid (wib lo hi but.data.toList s.data.toList = true) := by
        have := hz.out
        rw [tk_len s (by omega)] at this; exact this
      go_wp2_with fail
      go_ret
      exact ⟨retW HF.out.symm, hbel⟩
end Go.Proofs.YtogmipbdnffegaaGreatDoor
namespace Go.Proofs.YtogmipbdnffegaaGreatDoor
open Go Go.RowKit Go.Sort
set_option linter.unusedVariables false
theorem conv_one (r : Nat) (hr : r ≤ 255) (w : World) : (convert 63 9 (.slice (some ⟨w.heap.size, 0, none⟩) 1 1)).run Tryz.prog (w.alloc (.cells #[.int .u8 (r : Int)] 5)) = .ok (.string ⟨#[UInt8.ofNat r]⟩) (w.alloc (.cells #[.int .u8 (r : Int)] 5)) := by
  refine run_convert_bytes_back (P := Tryz.prog) (w.alloc (.cells #[.int .u8 (r : Int)] 5)) 63 9 5 ⟨w.heap.size, 0, none⟩ 1 [UInt8.ofNat r] Tryz.underlying63 Tryz.underlying5 Tryz.underlying9 ?_
  intro q hq
  obtain rfl : q = 0 := by simp at hq; omega
  have h8 : (UInt8.ofNat r).toNat = r := by simp <;> omega
  simp only [Addr.add_lit, List.getElem_cons_zero, h8]
  go_simp
theorem wib_one : ∀ c : Fin 256, wib 33 126 [46, 91, 93, 34, 92, 96] [UInt8.ofNat c.1] = inQ c.1 := by decide +kernel
set_option maxRecDepth 100000 in
set_option maxHeartbeats 800000 in
theorem inQ_r (c : Nat) (hc : c ≤ 255) (w : World) : Calls Tryz.prog 33 #[.int .u8 c] w fun e w' => e = .returned (.bool (inQ c)) ∧ Below w.heap.size w w' := by
  have hcv := conv_one c hc w
  have hw := fun w1 => rwithin_any ⟨#[UInt8.ofNat c]⟩ ⟨#[46, 91, 93, 34, 92, 96]⟩ 33 126 (by show 1 ≤ _; omega) (by show 6 ≤ _; omega) w1
  have e1 : wib 33 126 (ByteArray.mk #[46, 91, 93, 34, 92, 96]).data.toList (ByteArray.mk #[UInt8.ofNat c]).data.toList = inQ c := wib_one ⟨c, by omega⟩
  simp only [e1] at hw
  have HW := Lib.hid hw
  clear hw e1
  generalize inQ c = V at *
  go_enter Tryz.func33, Tryz.ntmps33
  go_wp2_with (go_at_call 45; refine (HW.out _).mono ?_; rintro e w1 ⟨rfl, hb⟩)
  go_ret
  exact ⟨rfl, ((Below.refl _ _).alloc (Nat.le_refl _) _).trans (hb.mono (by simp))⟩
set_option maxRecDepth 100000 in
set_option maxHeartbeats 800000 in
theorem run_W (s : ByteArray) (hs : s.size ≤ 1000000) (w : World) :
    Calls Tryz.prog 29 #[.string s, .func (.func 30) #[] #[]] w fun e w' => e = .returned (.int .i64 (span inW s : Nat)) ∧ w = w' := by
  have hc := inW_r
  have HC := Lib.hid hc
  clear hc
  go_enter Tryz.func29, Tryz.ntmps29
  go_wp2_with fail
  go_loop [8] (fun u => ∃ n : Nat, n ≤ s.size ∧ u = .int .i64 n ∧ Hid (∀ q (h : q < s.size), q < n → inW s[q].toNat = true)) (fun u => s.size - (intOf u).toNat)
  case atStart => exact ⟨0, Nat.zero_le _, rfl, Lib.hid (fun q h hq => absurd hq (Nat.not_lt_zero q))⟩
  case round =>
    obtain ⟨n, hn, rfl, hd⟩ := hrel
    have hn0 : (0 : Int) ≤ (n : Int) := by omega
    by_cases hlt : n < s.size
    · have hb : s[n].toNat ≤ 255 := by have := s[n].toNat_lt; omega
      have hk := HC.out s[n].toNat hb w
      cases hv : inW s[n].toNat
      · have HS : Hid (span inW s = n) := Lib.hid (span_is hn hd.out (fun _ => hv))
        rw [hv] at hk
        have HK := Lib.hid hk
        clear hv hk
        go_wp2_with fail
        refine HK.out.mono ?_
        rintro e w1 ⟨rfl, rfl⟩
        go_wp2_with fail
        go_ret
        exact ⟨ret_int (by rw [HS.out]), rfl⟩
      · have HD : Hid (∀ q (h : q < s.size), q < n + 1 → inW s[q].toNat = true) := Lib.hid (fun q h hq => by
          by_cases hqn : q < n
          · exact hd.out q h hqn
          · obtain rfl : q = n := by omega
            exact hv)
        rw [hv] at hk
        have HK := Lib.hid hk
        clear hv hk
        go_wp2_with fail
        refine HK.out.mono ?_
        rintro e w1 ⟨rfl, rfl⟩
        go_wp2_with fail
        go_round
        case rel => exact ⟨n + 1, by omega, by go_num, HD⟩
        case measure => simp [intOf] <;> omega
    · obtain rfl : n = s.size := by omega
      have HS : Hid (span inW s = s.size) := Lib.hid (span_is hn hd.out (fun h => absurd h (Nat.lt_irrefl _)))
      go_wp2_with fail
      go_ret
      exact ⟨ret_int (by rw [HS.out]), rfl⟩
set_option maxRecDepth 100000 in
set_option maxHeartbeats 800000 in
theorem run_Q (s : ByteArray) (hs : s.size ≤ 1000000) (w : World) :
    Calls Tryz.prog 29 #[.string s, .func (.func 33) #[] #[]] w fun e w' => e = .returned (.int .i64 (span inQ s : Nat)) ∧ Below w.heap.size w w' := by
  have hc := inQ_r
  have HC := Lib.hid hc
  clear hc
  go_enter Tryz.func29, Tryz.ntmps29
  go_wp2_with fail
  go_loopw [8] (fun u wr => ∃ n : Nat, n ≤ s.size ∧ u = .int .i64 n ∧ Hid (∀ q (h : q < s.size), q < n → inQ s[q].toNat = true) ∧ Below w.heap.size w wr) (fun u _ => s.size - (intOf u).toNat)
  case atStart => exact ⟨0, Nat.zero_le _, rfl, Lib.hid (fun q h hq => absurd hq (Nat.not_lt_zero q)), Below.refl _ _⟩
  case round =>
    rename World => wo
    obtain ⟨n, hn, rfl, hd, hlo⟩ := hrel
    have hn0 : (0 : Int) ≤ (n : Int) := by omega
    by_cases hlt : n < s.size
    · have hb : s[n].toNat ≤ 255 := by have := s[n].toNat_lt; omega
      have hk := HC.out s[n].toNat hb wo
      cases hv : inQ s[n].toNat
      · have HS : Hid (span inQ s = n) := Lib.hid (span_is hn hd.out (fun _ => hv))
        rw [hv] at hk
        have HK := Lib.hid hk
        clear hv hk
        go_wp2_with fail
        refine HK.out.mono ?_
        rintro e w1 ⟨rfl, hb1⟩
        go_wp2_with fail
        go_ret
        exact ⟨ret_int (by rw [HS.out]), hlo.trans (hb1.mono hlo.size)⟩
      · have HD : Hid (∀ q (h : q < s.size), q < n + 1 → inQ s[q].toNat = true) := Lib.hid (fun q h hq => by
          by_cases hqn : q < n
          · exact hd.out q h hqn
          · obtain rfl : q = n := by omega
            exact hv)
        rw [hv] at hk
        have HK := Lib.hid hk
        clear hv hk
        go_wp2_with fail
        refine HK.out.mono ?_
        rintro e w1 ⟨rfl, hb1⟩
        go_wp2_with fail
        go_roundw
        case rel => exact ⟨n + 1, by omega, by go_num, HD, hlo.trans (hb1.mono hlo.size)⟩
        case measure => simp [intOf] <;> omega
    · obtain rfl : n = s.size := by omega
      have HS : Hid (span inQ s = s.size) := Lib.hid (span_is hn hd.out (fun h => absurd h (Nat.lt_irrefl _)))
      go_wp2_with fail
      go_ret
      exact ⟨ret_int (by rw [HS.out]), hlo⟩
end Go.Proofs.YtogmipbdnffegaaGreatDoor
