/- A sign: the program's scanSign.
   What skip passes over. No program here.
   What separates tokens is passed over: the program's skip.
   The reader of tokens: the closure that the program's reader gives. -/
import Derived.Test.YtogmipbdnffegaaGreatDoorMgRt
import Derived.Test.YtogmipbdnffegaaGreatDoorLxMath
import Derived.Lib.Strings
import Derived.Lib.IndexMore
import Derived.Test.YtogmipbdnffegaaGreatDoorMgFol
import Derived.Laws.EntriesVeiled
namespace Go.Proofs.YtogmipbdnffegaaGreatDoor
open Go Go.RowKit
set_option linter.unusedVariables false
set_option maxRecDepth 100000 in
set_option maxHeartbeats 3000000 in
theorem scanSign_any (s : ByteArray) (v : Value) (H1 : Hid (∀ i, sgn s.data.toList = some i → v = .tuple #[.agg #[.int .i64 5, .int .i64 0, .int .i64 0, .string (signB i), .bool false, .int .i64 0, .int .u64 0, .int .u64 0, .bool false], .int .i64 (signB i).size, .int .i64 0])) (H0 : Hid (sgn s.data.toList = none → v = .tuple #[.agg #[.int .i64 0, .int .i64 0, .int .i64 0, .string ⟨#[]⟩, .bool false, .int .i64 0, .int .u64 0, .int .u64 0, .bool false], .int .i64 0, .int .i64 10])) (w : World) (hG : LG w) :
    Calls Tryz.prog 68 #[.string s] w fun e w' => e = .returned v ∧ Below w.heap.size w w' := by
  have HG := Lib.hid hG
  clear hG
  go_enter Tryz.func68, Tryz.ntmps68
  go_upto_region 1 with fail
  obtain ⟨W1, hW1⟩ : ∃ W, W = w.alloc (Obj.cells #[Value.int IntKind.i64 0, Value.int IntKind.i64 0, Value.int IntKind.i64 0, Value.string { data := #[] }, Value.bool false, Value.int IntKind.i64 0, Value.int IntKind.u64 0, Value.int IntKind.u64 0, Value.bool false] 42) := ⟨_, rfl⟩
  have b0 : Below w.heap.size w W1 := by rw [hW1]; exact (Below.refl _ _).alloc (Nat.le_refl _) _
  have T0 : TB W1 w.heap.size 0 0 0 ⟨#[]⟩ false 0 0 0 false := by rw [hW1]; exact TB.new w 0 0 0 ⟨#[]⟩ false 0 0 0 false
  rw [← hW1]
  clear hW1
  have hlt := T0.lt
  have G1 := HG.out.below b0
  have hld := sign_range W1 G1
  have hidx := sign_index
  have HIX := Lib.hid hidx
  clear hidx G1
  have hln : signVs.length = 39 := rfl
  rw [← signVs_agg] at HIX
  obtain ⟨A, hA⟩ : ∃ A, signVs = A := ⟨_, rfl⟩
  rw [hA] at HIX hld hln
  clear hA
  refine wp_region_lit (wpList_load_mid rfl 48 _ rfl 1 0 rfl A (.array 39 9) hld (by kernel_rfl) rfl (by rw [hln]; kernel_rfl) ?_)
  clear hld hln
  go_wp2_with fail
  go_loop [8] (fun u => ∃ i : Nat, i ≤ 39 ∧ u = .int .i64 i ∧ Hid (sgF s.data.toList i = none)) (fun u => 39 - (intOf u).toNat)
  case atStart => exact ⟨0, by omega, rfl, rfl⟩
  case round =>
    obtain ⟨i, hi, rfl, hno⟩ := hrel
    by_cases hlt39 : i < 39
    · have hix := HIX.out i hlt39
      have hi0 : (0 : Int) ≤ (i : Int) := by omega
      have hi1 : (i : Int) < 39 := by omega
      obtain ⟨g, hg⟩ : ∃ g, signB i = g := ⟨_, rfl⟩
      cases hp : Lib.hasPrefix s.data.toList g.data.toList
      · have HN : Hid (sgF s.data.toList (i + 1) = none) := Lib.hid (by
          show (match sgF s.data.toList i with | some i => some i | none => _) = _
          rw [hno.out]
          show (if _ then _ else _) = _
          rw [← signB_list, hg, hp]; rfl)
        rw [hg] at hix
        have HP := Lib.hid hp
        clear hp hg
        go_wp2_with fail
        refine (Tryz.strings_HasPrefix _ _ _).mono ?_
        rintro e w1 ⟨rfl, rfl⟩
        rw [HP.out]
        go_wp2_with fail
        go_round
        case rel => exact ⟨i + 1, by omega, by go_num, HN⟩
        case measure => simp [intOf] <;> omega
      · have HV : Hid (v = .tuple #[.agg #[.int .i64 5, .int .i64 0, .int .i64 0, .string g, .bool false, .int .i64 0, .int .u64 0, .int .u64 0, .bool false], .int .i64 g.size, .int .i64 0]) := Lib.hid (by
          rw [← hg]
          refine H1.out i (sgF_stay _ (n := i + 1) ?_ 39 (by omega))
          show (match sgF s.data.toList i with | some i => some i | none => _) = _
          rw [hno.out]
          show (if _ then _ else _) = _
          rw [← signB_list, hg, hp]; rfl)
        rw [hg] at hix
        have HP := Lib.hid hp
        clear hp hg
        obtain ⟨u0, u1, u2, u3, u4, u5, u6, u7, u8, uf⟩ := id T0
        go_wp2_with fail
        refine (Tryz.strings_HasPrefix _ _ _).mono ?_
        rintro e w1 ⟨rfl, rfl⟩
        rw [HP.out]
        go_wp2_with fail
        obtain ⟨q0, q1, q2, q3, q4, q5, q6, q7, q8, -⟩ := T0.set 5 0 0 g false 0 0 0 false
        unfold setTk at q0 q1 q2 q3 q4 q5 q6 q7 q8
        exact bodyPost_ret (v := .tuple #[.agg #[.int .i64 5, .int .i64 0, .int .i64 0, .string g, .bool false, .int .i64 0, .int .u64 0, .int .u64 0, .bool false], .int .i64 g.size, .int .i64 0]) (by simp [results, Tryz.results68, go_sem, q0, q1, q2, q3, q4, q5, q6, q7, q8]) rfl ⟨by rw [HV.out], below_setTk b0 (Nat.le_refl _) _ _ _ _ _ _ _ _ _⟩
    · obtain rfl : i = 39 := by omega
      have HV : Hid (v = .tuple #[.agg #[.int .i64 0, .int .i64 0, .int .i64 0, .string ⟨#[]⟩, .bool false, .int .i64 0, .int .u64 0, .int .u64 0, .bool false], .int .i64 0, .int .i64 10]) := Lib.hid (H0.out hno.out)
      obtain ⟨u0, u1, u2, u3, u4, u5, u6, u7, u8, uf⟩ := id T0
      go_wp2_with fail
      obtain ⟨q0, q1, q2, q3, q4, q5, q6, q7, q8, -⟩ := T0.set 0 0 0 ⟨#[]⟩ false 0 0 0 false
      unfold setTk at q0 q1 q2 q3 q4 q5 q6 q7 q8
      exact bodyPost_ret (v := .tuple #[.agg #[.int .i64 0, .int .i64 0, .int .i64 0, .string ⟨#[]⟩, .bool false, .int .i64 0, .int .u64 0, .int .u64 0, .bool false], .int .i64 0, .int .i64 10]) (by simp [results, Tryz.results68, go_sem, q0, q1, q2, q3, q4, q5, q6, q7, q8]) rfl ⟨by rw [HV.out], below_setTk b0 (Nat.le_refl _) _ _ _ _ _ _ _ _ _⟩
end Go.Proofs.YtogmipbdnffegaaGreatDoor
namespace Go.Proofs.YtogmipbdnffegaaGreatDoor
open Go Go.RowKit
set_option linter.unusedVariables false
/-- the rest of a text -/
def rst (s : ByteArray) (at_ : Nat) : ByteArray := s.extract at_ s.size
theorem rst_size (s : ByteArray) (at_ : Nat) : (rst s at_).size = s.size - at_ := by unfold rst; simp
/-- where the text goes on behind place at: none where there is nothing to be passed over; some none where a comment has no end -/
def hop (r : ByteArray) : Option (Option Nat) :=
  if isB (r.data.toList.getD 0 0).toNat then some (some 1)
  else if Lib.hasPrefix r.data.toList [47, 47] then some (some (span noF r))
  else if Lib.hasPrefix r.data.toList [47, 42] then
    (if Lib.index (r.extract 2 r.size).data.toList [42, 47] < 0 then some none else some (some ((Lib.index (r.extract 2 r.size).data.toList [42, 47]).toNat + 4)))
  else none
/-- the way of skip from place at on: where it ends, and with what error -/
inductive Sk (s : ByteArray) : Nat → Nat → Int → Prop
  | fin : Sk s s.size s.size 0
  | stop {at_ : Nat} (h : at_ < s.size) (hn : hop (rst s at_) = none) : Sk s at_ at_ 0
  | short {at_ : Nat} (h : at_ < s.size) (hn : hop (rst s at_) = some none) : Sk s at_ at_ 11
  | go {at_ n b : Nat} {e : Int} (h : at_ < s.size) (hn : hop (rst s at_) = some (some n)) (hr : Sk s (at_ + n) b e) : Sk s at_ b e
theorem hop_pos {r : ByteArray} {n : Nat} (h0 : 0 < r.size) (h : hop r = some (some n)) : 1 ≤ n ∧ n ≤ r.size := by
  unfold hop at h
  split at h
  · injection h with h; injection h with h; omega
  · split at h
    · injection h with h; injection h with h
      subst h
      rename_i hp
      refine ⟨?_, span_le _ _⟩
      have hne : r.data.toList ≠ [] := by intro e; rw [← len_list, e] at h0; cases h0
      unfold span
      obtain ⟨c, l, hl⟩ : ∃ c l, r.data.toList = c :: l := by
        cases hl : r.data.toList with
        | nil => exact absurd hl hne
        | cons c l => exact ⟨c, l, rfl⟩
      rw [hl] at hp ⊢
      unfold Lib.hasPrefix at hp
      have hc : c = 47 := by
        simp at hp
        exact hp.1.symm
      unfold spn
      rw [hc, if_pos (by decide)]
      omega
    · split at h
      · split at h
        · injection h with h; cases h
        · injection h with h; injection h with h
          rename_i hp hi
          subst h
          have h1 := Lib.index_room (r.extract 2 r.size).data.toList [42, 47] (by omega)
          have h2 : (r.extract 2 r.size).data.toList.length = r.size - 2 := by rw [len_list]; simp
          rw [h2, show ([42, 47] : List UInt8).length = 2 from rfl] at h1
          have h3 : 2 ≤ r.size := by
            unfold Lib.hasPrefix at hp
            have := List.IsPrefix.length_le (List.isPrefixOf_iff_prefix.1 hp)
            rw [len_list] at this
            simpa using this
          omega
      · cases h
theorem sk_total (s : ByteArray) : ∀ (f at_ : Nat), at_ ≤ s.size → s.size - at_ ≤ f → ∃ b e, Sk s at_ b e := by
  intro f
  induction f with
  | zero => intro at_ h1 h2
            obtain rfl : at_ = s.size := by omega
            exact ⟨_, _, .fin⟩
  | succ f ih =>
    intro at_ h1 h2
    by_cases h : at_ < s.size
    · cases hn : hop (rst s at_) with
      | none => exact ⟨_, _, .stop h hn⟩
      | some o =>
        cases o with
        | none => exact ⟨_, _, .short h hn⟩
        | some n =>
          have hp := hop_pos (by rw [rst_size]; omega) hn
          rw [rst_size] at hp
          obtain ⟨b, e, hr⟩ := ih (at_ + n) (by omega) (by omega)
          exact ⟨b, e, .go h hn hr⟩
    · obtain rfl : at_ = s.size := by omega
      exact ⟨_, _, .fin⟩
end Go.Proofs.YtogmipbdnffegaaGreatDoor
namespace Go.Proofs.YtogmipbdnffegaaGreatDoor
open Go Go.RowKit
set_option linter.unusedVariables false
/-- the ways of a hop, one by one, in the words of the walk -/
theorem hop_ways (r : ByteArray) (h0 : 0 < r.size) :
    (isB r[0].toNat = true ∧ hop r = some (some 1))
    ∨ (isB r[0].toNat = false ∧ Lib.hasPrefix r.data.toList (ByteArray.mk #[47, 47]).data.toList = true ∧ hop r = some (some (span noF r)))
    ∨ (isB r[0].toNat = false ∧ Lib.hasPrefix r.data.toList (ByteArray.mk #[47, 47]).data.toList = false ∧ Lib.hasPrefix r.data.toList (ByteArray.mk #[47, 42]).data.toList = true
        ∧ Lib.index (r.extract 2 r.size).data.toList (ByteArray.mk #[42, 47]).data.toList < 0 ∧ hop r = some none)
    ∨ (isB r[0].toNat = false ∧ Lib.hasPrefix r.data.toList (ByteArray.mk #[47, 47]).data.toList = false ∧ Lib.hasPrefix r.data.toList (ByteArray.mk #[47, 42]).data.toList = true
        ∧ ∃ j : Nat, Lib.index (r.extract 2 r.size).data.toList (ByteArray.mk #[42, 47]).data.toList = (j : Int) ∧ hop r = some (some (j + 4)))
    ∨ (isB r[0].toNat = false ∧ Lib.hasPrefix r.data.toList (ByteArray.mk #[47, 47]).data.toList = false ∧ Lib.hasPrefix r.data.toList (ByteArray.mk #[47, 42]).data.toList = false ∧ hop r = none) := by
  have e0 : r.data.toList.getD 0 0 = r[0] := by
    have hl : 0 < r.data.toList.length := by rw [len_list]; exact h0
    rw [List.getD_eq_getElem?_getD, List.getElem?_eq_getElem hl]
    rfl
  show _ ∨ (_ ∧ Lib.hasPrefix r.data.toList [47, 47] = true ∧ _) ∨ (_ ∧ Lib.hasPrefix r.data.toList [47, 47] = false ∧ Lib.hasPrefix r.data.toList [47, 42] = true ∧ Lib.index (r.extract 2 r.size).data.toList [42, 47] < 0 ∧ _) ∨ (_ ∧ Lib.hasPrefix r.data.toList [47, 47] = false ∧ Lib.hasPrefix r.data.toList [47, 42] = true ∧ ∃ j : Nat, Lib.index (r.extract 2 r.size).data.toList [42, 47] = (j : Int) ∧ _) ∨ (_ ∧ Lib.hasPrefix r.data.toList [47, 47] = false ∧ Lib.hasPrefix r.data.toList [47, 42] = false ∧ _)
  unfold hop
  rw [e0]
  cases hb : isB r[0].toNat
  · cases h1 : Lib.hasPrefix r.data.toList [47, 47]
    · cases h2 : Lib.hasPrefix r.data.toList [47, 42]
      · right; right; right; right; exact ⟨rfl, rfl, rfl, rfl⟩
      · by_cases hi : Lib.index (r.extract 2 r.size).data.toList [42, 47] < 0
        · right; right; left; exact ⟨rfl, rfl, rfl, hi, by rw [if_pos hi]; rfl⟩
        · right; right; right; left; exact ⟨rfl, rfl, rfl, (Lib.index (r.extract 2 r.size).data.toList [42, 47]).toNat, by omega, by rw [if_neg hi]; rfl⟩
    · right; left; exact ⟨rfl, rfl, rfl⟩
  · left; exact ⟨rfl, rfl⟩
theorem pre2_size {r : ByteArray} (h : Lib.hasPrefix r.data.toList (ByteArray.mk #[47, 42]).data.toList = true) : 2 ≤ r.size := by
  unfold Lib.hasPrefix at h
  have := List.IsPrefix.length_le (List.isPrefixOf_iff_prefix.1 h)
  rw [len_list] at this
  exact this
set_option maxRecDepth 100000 in
set_option maxHeartbeats 2000000 in
theorem skip_any (s : ByteArray) (hs : s.size ≤ 1000000) (a b : Nat) (e : Int) (ha : a ≤ s.size) (hk : Sk s a b e) (w : World) (hG : LG w) :
    Calls Tryz.prog 50 #[.string s, .int .i64 a] w fun x w' => x = .returned (.tuple #[.int .i64 b, .int .i64 e]) ∧ w = w' := by
  obtain ⟨m, hm⟩ := hG.mx
  clear hG
  have HK := Lib.hid hk
  clear hk
  go_enter Tryz.func50, Tryz.ntmps50
  go_upto_block 0 with fail
  go_wp2_with fail
  go_loop [1] (fun u => ∃ k : Nat, k ≤ s.size ∧ u = .int .i64 k ∧ Hid (Sk s k b e)) (fun u => s.size - (intOf u).toNat)
  case atStart => exact ⟨a, ha, rfl, HK⟩
  case round =>
    obtain ⟨k, hk, rfl, hd⟩ := hrel
    clear HK
    have hk0 : (0 : Int) ≤ (k : Int) := by omega
    by_cases hlt : k < s.size
    · obtain ⟨r, hr⟩ : ∃ r, s.extract k s.size = r := ⟨_, rfl⟩
      have hrs0 : r.size = s.size - k := by rw [← hr]; simp
      have hr0 : 0 < r.size := by omega
      have hrm : r.size ≤ 1000000 := by omega
      have hrr : rst s k = r := hr
      have hki : (k : Int) < (s.size : Int) := by omega
      have hkl : (k : Int) ≤ (s.size : Int) := by omega
      have HR0 := Lib.hid hr
      clear hr
      go_upto_block 2 with fail
      rw [HR0.out]
      have hb255 : r[0].toNat ≤ 255 := by have := r[0].toNat_lt; omega
      have hr0i : (0 : Int) < (r.size : Int) := by omega
      have hpos : ∀ n, hop r = some (some n) → 1 ≤ n ∧ k + n ≤ s.size := fun n h => by have := hop_pos hr0 h; omega
      have hks : s.size - k ≤ r.size := by omega
      clear hrs0
      have HGO : Hid (∀ n, hop r = some (some n) → Sk s (k + n) b e) := Lib.hid (by
        intro n hn
        cases hd.out with
        | fin => exact absurd hlt (Nat.lt_irrefl _)
        | stop h h' => rw [hrr, hn] at h'; cases h'
        | short h h' => rw [hrr, hn] at h'; cases h'
        | go h h' hr' => rw [hrr, hn] at h'; cases h'; exact hr')
      have HST : Hid (hop r = none → b = k ∧ e = 0) := Lib.hid (by
        intro hn
        cases hd.out with
        | fin => exact absurd hlt (Nat.lt_irrefl _)
        | stop h h' => exact ⟨rfl, rfl⟩
        | short h h' => rw [hrr, hn] at h'; cases h'
        | go h h' hr' => rw [hrr, hn] at h'; cases h')
      have HSH : Hid (hop r = some none → b = k ∧ e = 11) := Lib.hid (by
        intro hn
        cases hd.out with
        | fin => exact absurd hlt (Nat.lt_irrefl _)
        | stop h h' => rw [hrr, hn] at h'; cases h'
        | short h h' => exact ⟨rfl, rfl⟩
        | go h h' hr' => rw [hrr, hn] at h'; cases h')
      have HW := hop_ways r hr0
      clear hd
      rcases HW with ⟨c1, c2⟩ | ⟨c1, c2, c3⟩ | ⟨c1, c2, c3, c4, c5⟩ | ⟨c1, c2, c3, j, c4, c5⟩ | ⟨c1, c2, c3, c4⟩
      · have HB := Lib.hid c1
        have HR := Lib.hid (HGO.out 1 c2)
        have hp := hpos 1 c2
        clear c1 c2 HGO HST HSH hpos
        go_wp2_with fail
        refine (isB_p _ hb255 _).mono ?_
        rintro e1 w1 ⟨rfl, rfl⟩
        rw [HB.out]
        go_wp2_with fail
        go_round
        case rel => exact ⟨k + 1, by omega, by go_num, HR⟩
        case measure => simp [intOf] <;> omega
      · have HB := Lib.hid c1
        have HP := Lib.hid c2
        have HR := Lib.hid (HGO.out _ c3)
        have hp := hpos _ c3
        clear c1 c2 c3 HGO HST HSH hpos
        have hsp := span_F r hrm
        generalize span noF r = n at hsp HR hp
        have HSP := Lib.hid hsp
        clear hsp
        go_wp2_with fail
        refine (isB_p _ hb255 _).mono ?_
        rintro e1 w1 ⟨rfl, rfl⟩
        rw [HB.out]
        go_wp2_with fail
        refine (Tryz.strings_HasPrefix _ _ _).mono ?_
        rintro e1 w1 ⟨rfl, rfl⟩
        rw [HP.out]
        go_wp2_with fail
        refine (HSP.out _).mono ?_
        rintro e1 w1 ⟨rfl, rfl⟩
        go_wp2_with fail
        go_round
        case rel => exact ⟨k + n, by omega, by go_num, HR⟩
        case measure => simp [intOf] <;> omega
      · have HB := Lib.hid c1
        have HP := Lib.hid c2
        have HP2 := Lib.hid c3
        have HE := Lib.hid (HSH.out c5)
        have hr2 : 2 ≤ r.size := pre2_size c3
        clear c1 c2 c3 c5 HGO HST HSH hpos
        go_wp2_with fail
        refine (isB_p _ hb255 _).mono ?_
        rintro e1 w1 ⟨rfl, rfl⟩
        rw [HB.out]
        go_wp2_with fail
        refine (Tryz.strings_HasPrefix _ _ _).mono ?_
        rintro e1 w1 ⟨rfl, rfl⟩
        rw [HP.out]
        go_wp2_with fail
        refine (Tryz.strings_HasPrefix _ _ _).mono ?_
        rintro e1 w1 ⟨rfl, rfl⟩
        rw [HP2.out]
        have hr2i : (2 : Int) ≤ (r.size : Int) := by omega
        go_wp2_with fail
        refine (Tryz.strings_Index _ _ m _ (by simp; omega) hm).mono ?_
        rintro e1 w1 ⟨rfl, rfl⟩
        generalize Lib.index (r.extract 2 r.size).data.toList (ByteArray.mk #[42, 47]).data.toList = i at c4 ⊢
        go_wp2_with fail
        go_ret2
        exact ⟨by rw [HE.out.1, HE.out.2]; rfl, rfl⟩
      · have HB := Lib.hid c1
        have HP := Lib.hid c2
        have HP2 := Lib.hid c3
        have HI := Lib.hid c4
        have HR := Lib.hid (HGO.out _ c5)
        have hp := hpos _ c5
        have hr2 : 2 ≤ r.size := pre2_size c3
        clear c1 c2 c3 c4 c5 HGO HST HSH hpos
        go_wp2_with fail
        refine (isB_p _ hb255 _).mono ?_
        rintro e1 w1 ⟨rfl, rfl⟩
        rw [HB.out]
        go_wp2_with fail
        refine (Tryz.strings_HasPrefix _ _ _).mono ?_
        rintro e1 w1 ⟨rfl, rfl⟩
        rw [HP.out]
        go_wp2_with fail
        refine (Tryz.strings_HasPrefix _ _ _).mono ?_
        rintro e1 w1 ⟨rfl, rfl⟩
        rw [HP2.out]
        have hr2i : (2 : Int) ≤ (r.size : Int) := by omega
        go_wp2_with fail
        refine (Tryz.strings_Index _ _ m _ (by simp; omega) hm).mono ?_
        rintro e1 w1 ⟨rfl, rfl⟩
        rw [HI.out]
        have hj0 : ¬ ((j : Int) < 0) := by omega
        go_wp2_with fail
        go_round
        case rel => exact ⟨k + (j + 4), by omega, by go_num, HR⟩
        case measure => simp [intOf] <;> omega
      · have HB := Lib.hid c1
        have HP := Lib.hid c2
        have HP2 := Lib.hid c3
        have HE := Lib.hid (HST.out c4)
        clear c1 c2 c3 c4 HGO HST HSH hpos
        go_wp2_with fail
        refine (isB_p _ hb255 _).mono ?_
        rintro e1 w1 ⟨rfl, rfl⟩
        rw [HB.out]
        go_wp2_with fail
        refine (Tryz.strings_HasPrefix _ _ _).mono ?_
        rintro e1 w1 ⟨rfl, rfl⟩
        rw [HP.out]
        go_wp2_with fail
        refine (Tryz.strings_HasPrefix _ _ _).mono ?_
        rintro e1 w1 ⟨rfl, rfl⟩
        rw [HP2.out]
        go_wp2_with fail
        go_ret2
        exact ⟨by rw [HE.out.1, HE.out.2]; rfl, rfl⟩
    · obtain rfl : k = s.size := by omega
      have HE : Hid (b = s.size ∧ e = 0) := Lib.hid (by
        cases hd.out with
        | fin => exact ⟨rfl, rfl⟩
        | stop h h' => exact absurd h (Nat.lt_irrefl _)
        | short h h' => exact absurd h (Nat.lt_irrefl _)
        | go h h' hr' => exact absurd h (Nat.lt_irrefl _))
      clear hd
      go_wp2_with fail
      go_ret2
      exact ⟨by rw [HE.out.1, HE.out.2]; rfl, rfl⟩
end Go.Proofs.YtogmipbdnffegaaGreatDoor
namespace Go.Proofs.YtogmipbdnffegaaGreatDoor
open Go Go.RowKit
set_option linter.unusedVariables false
/-- the closure's variables: the text at b, the closure of places at p (its own from f on), the place reached at a -/
structure RB (W : World) (b f p a : Nat) (s : ByteArray) (k n : Nat) : Prop where
  c0 : W.cell? ⟨b, 0, none⟩ = some (.string s)
  fb : FB W f s k
  cp : W.cell? ⟨p, 0, none⟩ = some (folV f)
  ca : W.cell? ⟨a, 0, none⟩ = some (.int .i64 n)
  fa : W.frozen? ⟨a, 0, none⟩ = false
  o1 : b < f
  o2 : f + 3 < p
  o3 : p < a
theorem RB.lt {W : World} {b f p a : Nat} {s : ByteArray} {k n : Nat} (h : RB W b f p a s k n) : a < W.heap.size := World.block_lt_of_cell? W _ h.ca
theorem RB.below {W W' : World} {b f p a : Nat} {s : ByteArray} {k n B : Nat} (h : RB W b f p a s k n) (hb : Below B W W') (hB : a < B) : RB W' b f p a s k n := by
  have h1 := h.o1
  have h2 := h.o2
  have h3 := h.o3
  exact ⟨(hb.cell (p := ⟨b, 0, none⟩) (show b < B by omega)).trans h.c0, h.fb.below hb (by omega), (hb.cell (p := ⟨p, 0, none⟩) (show p < B by omega)).trans h.cp, (hb.cell (p := ⟨a, 0, none⟩) hB).trans h.ca, (hb.frozen (p := ⟨a, 0, none⟩) hB).trans h.fa, h1, h2, h3⟩
/-- the closure's value -/
def rdV (b p a : Nat) : Value := .func (.func 49) #[] #[.pointer (some ⟨b, 0, none⟩), .pointer (some ⟨a, 0, none⟩), .pointer (some ⟨p, 0, none⟩)]
set_option maxRecDepth 100000 in
set_option maxHeartbeats 2000000 in
theorem reader_any (s : ByteArray) (w : World) :
    Calls Tryz.prog 38 #[.string s] w fun e w' => ∃ f p a, e = .returned (rdV w.heap.size p a) ∧ RB w' w.heap.size f p a s 0 0 ∧ Below w.heap.size w w' := by
  go_enter Tryz.func38, Tryz.ntmps38
  go_upto_region 1 with fail
  obtain ⟨W1, hW1⟩ : ∃ W, W = w.alloc (Obj.cells #[.string s] 9) := ⟨_, rfl⟩
  have b0 : Below w.heap.size w W1 := by rw [hW1]; exact (Below.refl _ _).alloc (Nat.le_refl _) _
  have c0 : W1.cell? ⟨w.heap.size, 0, none⟩ = some (.string s) := by rw [hW1]; exact cell_new_sl w _ _
  have sz : W1.heap.size = w.heap.size + 1 := by rw [hW1]; simp
  rw [← hW1]
  clear hW1
  have hlt : w.heap.size < W1.heap.size := by omega
  go_wp2_with fail
  refine (follow_any s W1).mono ?_
  rintro e w2 ⟨rfl, F2, hb2⟩
  have c2 := (hb2.cell (p := ⟨w.heap.size, 0, none⟩) hlt).trans c0
  have bb := b0.trans (hb2.mono (Nat.le_of_lt hlt))
  have hf := F2.lt
  obtain ⟨f, hff⟩ : ∃ f, W1.heap.size = f := ⟨_, rfl⟩
  rw [hff] at F2 hf hlt ⊢
  unfold folV
  go_wp2_with fail
  go_ret
  have hb3 : ∀ o1 o2, Below w2.heap.size w2 ((w2.alloc o1).alloc o2) := fun o1 o2 => ((Below.refl _ _).alloc (Nat.le_refl _) _).alloc (by simp) _
  refine ⟨f, w2.heap.size, w2.heap.size + 1, rfl, ⟨?_, ?_, ?_, ?_, ?_, hlt, hf, by omega⟩, ?_⟩
  · exact ((hb3 _ _).cell (p := ⟨w.heap.size, 0, none⟩) (show w.heap.size < w2.heap.size by omega)).trans c2
  · exact F2.below (hb3 _ _) hf
  · unfold folV; go_simp
  · go_simp
  · go_simp
  · exact bb.trans ((hb3 _ _).mono (by omega))
end Go.Proofs.YtogmipbdnffegaaGreatDoor
