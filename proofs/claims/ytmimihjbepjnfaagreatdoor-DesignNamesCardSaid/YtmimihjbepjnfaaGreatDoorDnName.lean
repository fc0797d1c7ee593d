/- The name of a signal: the program and the reference. -/
import Derived.Test.YtmimihjbepjnfaaGreatDoorDnP
namespace Go.Proofs.YtmimihjbepjnfaaGreatDoor
open Go Go.RowKit
set_option linter.unusedVariables false
def nameB (s : ByteArray) : Bool := nameL s.data.toList
abbrev Mxl (w : World) : Prop := ∃ m : Int, w.cell? ⟨0, 0, none⟩ = some (.int .i64 m)
theorem Mxl.lt {w : World} (h : Mxl w) : 0 < w.heap.size := by obtain ⟨m, hm⟩ := h; exact World.block_lt_of_cell? w _ hm
theorem Mxl.here {w w' : World} (h : Mxl w) (hb : Below w.heap.size w w') : Mxl w' := by
  have hl := h.lt
  obtain ⟨m, hm⟩ := h
  exact ⟨m, (hb.cell (p := ⟨0, 0, none⟩) hl).trans hm⟩
/-- texts in a row in memory -/
def TxtsAt (g : Nat) (P : List ByteArray) (w : World) : Prop := ∀ j x, P[j]? = some x → w.cell? ⟨g, j, none⟩ = some (.string x)
theorem TxtsAt.below {g : Nat} {P : List ByteArray} {w w' : World} (h : TxtsAt g P w) (hb : Below w.heap.size w w') : TxtsAt g P w' := fun j x hj =>
  (hb.cell (p := ⟨g, j, none⟩) (World.block_lt_of_cell? w _ (h j x hj))).trans (h j x hj)
theorem txts_new (w : World) (P : List ByteArray) (t : TypeId) : TxtsAt w.heap.size P (w.alloc (.cells (P.map Value.string).toArray t)) := fun j x hj => by
  have e : (w.alloc (.cells (P.map Value.string).toArray t)).heap[w.heap.size]? = some (.cells (P.map Value.string).toArray t (0, 0)) := by show (w.heap.push _)[w.heap.size]? = _; simp
  simp only [World.cell?, e]
  simp [hj]
set_option maxRecDepth 100000 in
set_option maxHeartbeats 1600000 in
theorem name_any (s : ByteArray) (w : World) (hM : Mxl w) : Calls Tryz.prog 8 #[.string s] w fun e w' => e = .returned (.bool (nameB s)) ∧ Below w.heap.size w w' := by
  have hl := len_data s
  by_cases h2 : s.size ≤ 120
  · have h2i : ¬ (120 : Int) < (s.size : Int) := by omega
    have hP := split_pcs _ s rfl
    have hlen := Lib.splitB_all dot (by decide) 0 (Lib.countB s dot) s rfl
    have hsp := fun m W hm => Tryz.strings_Split s dot m W (by omega) hm (by decide)
    have hc := Lib.countB_le dot (by decide) s.size s (Nat.le_refl _)
    generalize Lib.splitB dot 0 (Lib.countB s dot) s = P at hP hlen hsp
    generalize Lib.countB s dot = N at hlen hsp hc
    have HP : Hid (nameB s = P.all partB) := by
      show nameL _ = _
      unfold nameL
      rw [hl, decide_eq_true h2, Bool.true_and, ← hP, List.all_map]; rfl
    have HL : Hid (∀ x ∈ P, x.size ≤ s.size) := by
      show ∀ x ∈ P, x.size ≤ s.size
      intro x hx
      have := pcs_le s.data.toList x.data.toList (by rw [← hP]; exact List.mem_map_of_mem hx)
      rw [len_data, hl] at this; exact this
    have HSP := Lib.hid hsp
    have HM := Lib.hid hM
    clear hsp hM hP
    have hN : (N : Int) ≤ 120 := by omega
    go_enter Tryz.func8, Tryz.ntmps8
    go_wp2_with fail
    obtain ⟨m, hm⟩ := HM.out
    refine (HSP.out m _ hm).mono ?_
    rintro e w1 ⟨rfl, hw1⟩
    have T1 : TxtsAt w.heap.size P w1 := by rw [hw1]; exact txts_new _ _ _
    have b1 : Below w.heap.size w w1 := by rw [hw1]; exact (Below.refl _ _).alloc (Nat.le_refl _) _
    clear hm hw1
    go_wp2_with fail
    go_loopw [11] (fun i wr => ∃ k : Nat, k ≤ N + 1 ∧ i = .int .i64 k ∧ Hid ((P.take k).all partB = true) ∧ Hid (TxtsAt w.heap.size P wr) ∧ Hid (Below w.heap.size w wr)) (fun i _ => N + 1 - (intOf i).toNat)
    case atStart => exact ⟨0, Nat.zero_le _, rfl, rfl, Lib.hid T1, Lib.hid b1⟩
    case round =>
      obtain ⟨k, hk, rfl, hz, hT, hB⟩ := hrel
      have hk0 : (0 : Int) ≤ (k : Int) := by omega
      by_cases hlt : k < N + 1
      · have hki : (k : Int) < (N : Int) + 1 := by omega
        have hx := List.getElem?_eq_getElem (l := P) (i := k) (by omega)
        have hcell := hT.out k _ hx
        have hd : P.take (k + 1) = P.take k ++ [P[k]] := List.take_succ_eq_append_getElem _
        have hmem : P[k] ∈ P := List.getElem_mem _
        generalize P[k]'(by omega) = x at hcell hd hmem
        have hxs : x.size ≤ 9223372036854775807 := by have := HL.out x hmem; omega
        cases hp : partB x with
        | true =>
          have HS : Hid ((P.take (k + 1)).all partB = true) := by
            show (P.take (k + 1)).all partB = true
            rw [hd, List.all_append, hz.out]; simp [hp]
          clear hd hmem hx
          go_upto_region 6 with fail
          have hp1 := fun W => part_any x hxs W
          rw [hp] at hp1
          go_wp2_with (first | (with_reducible refine (hp1 _).mono ?_; rintro e w3 ⟨rfl, hb3⟩))
          go_roundw
          case rel => exact ⟨k + 1, by omega, by go_num, HS, Lib.hid (hT.out.below hb3), Lib.hid (hB.out.trans (hb3.mono hB.out.size))⟩
          case measure => simp [intOf]; omega
        | false =>
          have HF : Hid (nameB s = false) := by
            show nameB s = false
            rw [HP.out]
            cases e : P.all partB with
            | false => rfl
            | true => have := List.all_eq_true.1 e x hmem; rw [hp] at this; cases this
          clear hd hmem hx
          go_upto_region 6 with fail
          have hp1 := fun W => part_any x hxs W
          rw [hp] at hp1
          go_wp2_with (first | (with_reducible refine (hp1 _).mono ?_; rintro e w3 ⟨rfl, hb3⟩))
          go_ret
          exact ⟨ret_bool HF.out.symm, hB.out.trans (hb3.mono hB.out.size)⟩
      · have hki : ¬ (k : Int) < (N : Int) + 1 := by omega
        have HT : Hid (nameB s = true) := by
          show nameB s = true
          have := hz.out
          rw [List.take_of_length_le (by omega)] at this
          rw [HP.out]; exact this
        go_wp2_with fail
        go_ret
        exact ⟨ret_bool HT.out.symm, hB.out⟩
  · have h2i : (120 : Int) < (s.size : Int) := by omega
    have HP : Hid (nameB s = false) := by
      show nameL _ = _
      unfold nameL
      rw [hl, decide_eq_false h2]; simp
    go_enter Tryz.func8, Tryz.ntmps8
    go_wp2_with fail
    go_ret
    exact ⟨ret_bool HP.out.symm, Below.refl _ _⟩
theorem ext_data (s : ByteArray) (a b : Nat) : (s.extract a b).data.toList = (s.data.toList.drop a).take (b - a) := by
  simp only [ByteArray.data_extract, Array.toList_extract]
  try rfl
/-- a piece at the place a is read -/
theorem pcs_step (l : List UInt8) (a i : Nat) (hai : a ≤ i) (hi : i < l.length) (hd : l[i] = 46) (hno : ∀ x ∈ (l.drop a).take (i - a), x ≠ 46) : pcs (l.drop a) = ((l.drop a).take (i - a)) :: pcs (l.drop (i + 1)) := by
  have e : l.drop a = (l.drop a).take (i - a) ++ 46 :: l.drop (i + 1) := by
    have h1 : (l.drop a).drop (i - a) = l.drop i := by rw [List.drop_drop]; congr 1; omega
    have h2 : l.drop i = 46 :: l.drop (i + 1) := by rw [List.drop_eq_getElem_cons hi, hd]
    rw [← h2, ← h1, List.take_append_drop]
  conv => lhs; rw [e]
  exact pcs_at _ _ hno
theorem pcs_last (l : List UInt8) (a : Nat) (hno : ∀ x ∈ (l.drop a).take (l.length - a), x ≠ 46) : pcs (l.drop a) = [(l.drop a).take (l.length - a)] := by
  have e : (l.drop a).take (l.length - a) = l.drop a := List.take_of_length_le (by simp)
  rw [e] at hno ⊢
  exact pcs_no _ hno
theorem no_more {l : List UInt8} {a i : Nat} (hai : a ≤ i) (hi : i < l.length) (hc : l[i] ≠ 46) (hno : ∀ x ∈ (l.drop a).take (i - a), x ≠ 46) : ∀ x ∈ (l.drop a).take (i + 1 - a), x ≠ 46 := by
  intro x hx
  have hl : i - a < (l.drop a).length := by simp; omega
  rw [show i + 1 - a = i - a + 1 by omega, List.take_succ_eq_append_getElem hl] at hx
  rcases List.mem_append.1 hx with h1 | h1
  · exact hno x h1
  · simp only [List.mem_singleton, List.getElem_drop] at h1
    rw [h1]
    have : a + (i - a) = i := by omega
    simpa [this] using hc
/-- where the reference's loop stands -/
def PnI (l : List UInt8) (a i : Nat) : Prop := (i ≤ l.length ∧ a ≤ i ∧ (∀ x ∈ (l.drop a).take (i - a), x ≠ 46) ∧ (pcs l).all partL = (pcs (l.drop a)).all partL) ∨ (i = l.length + 1 ∧ (pcs l).all partL = true)
set_option maxRecDepth 100000 in
set_option maxHeartbeats 1600000 in
theorem rname_any (s : ByteArray) (hs : s.size ≤ 9223372036854775000) (w : World) : Calls Tryz.prog 9 #[.string s] w fun e w' => e = .returned (.bool (nameB s)) ∧ Below w.heap.size w w' := by
  have hl := len_data s
  by_cases h2 : s.size ≤ 120
  · have h2i : (s.size : Int) ≤ 120 := by omega
    have HP : Hid (nameB s = (pcs s.data.toList).all partL) := by
      show nameL _ = _
      unfold nameL
      rw [hl, decide_eq_true h2, Bool.true_and]
    go_enter Tryz.func9, Tryz.ntmps9
    go_wp2_with fail
    go_loopw [3, 4] (fun f i wr => ∃ a k : Nat, f = .int .i64 a ∧ i = .int .i64 k ∧ a ≤ s.size + 1 ∧ k ≤ s.size + 1 ∧ Hid (PnI s.data.toList a k) ∧ Hid (Below w.heap.size w wr)) (fun _ i _ => s.size + 1 - (intOf i).toNat)
    case atStart => exact ⟨0, 0, rfl, rfl, Nat.zero_le _, Nat.zero_le _, Lib.hid (.inl ⟨Nat.zero_le _, Nat.le_refl _, by simp, by simp⟩), Lib.hid (Below.refl _ _)⟩
    case round =>
      obtain ⟨a, k, rfl, rfl, ha, hk, hI, hB⟩ := hrel
      have hk0 : (0 : Int) ≤ (k : Int) := by omega
      have ha0 : (0 : Int) ≤ (a : Int) := by omega
      by_cases hle : k ≤ s.size
      · have hki : (k : Int) ≤ (s.size : Int) := by omega
        have hI2 : k ≤ s.data.toList.length ∧ a ≤ k ∧ (∀ x ∈ (s.data.toList.drop a).take (k - a), x ≠ 46) ∧ (pcs s.data.toList).all partL = (pcs (s.data.toList.drop a)).all partL := by
          rcases hI.out with h | h
          · exact h
          · rw [hl] at h; omega
        obtain ⟨_, hak, hno, hall⟩ := hI2
        have haki : (a : Int) ≤ (k : Int) := by omega
        have HEX := Lib.hid (ext_data s a k)
        have hxs : (s.extract a k).size ≤ 9223372036854775807 := by rw [ByteArray.size_extract]; omega
        have hp1 := fun W => rpart_any (s.extract a k) hxs W
        have HPX : Hid (partB (s.extract a k) = partL ((s.data.toList.drop a).take (k - a))) := by
          show partL _ = _
          rw [HEX.out]
        by_cases hlt : k < s.size
        · have hkl : k < s.data.toList.length := by omega
          have hki2 : (k : Int) < (s.size : Int) := by omega
          have heq : s.data.toList[k] = s[k] := rfl
          by_cases hc : s[k] = 46
          · have hci : ((s[k].toNat : Int) == 46) = true := by rw [hc]; rfl
            have hcn : ((s[k].toNat : Int) != 46) = false := by simp [bne, hci]
            have hst := pcs_step _ a k hak hkl (heq.trans hc) hno
            have hall2 := hall
            rw [hst, List.all_cons] at hall2
            cases hp : partB (s.extract a k) with
            | true =>
              have hpl : partL ((s.data.toList.drop a).take (k - a)) = true := by rw [← HPX.out]; exact hp
              rw [hpl, Bool.true_and] at hall2
              have HN : Hid (PnI s.data.toList (k + 1) (k + 1)) := Lib.hid (.inl ⟨by omega, Nat.le_refl _, by simp, hall2⟩)
              rw [hp] at hp1
              have H1 := Lib.hid hp1
              clear hp1 hp hc heq hno hall hall2 hst hpl
              go_wp2_with (first | (with_reducible refine (H1.out _).mono ?_; rintro e w3 ⟨rfl, hb3⟩))
              go_roundw
              case rel => exact ⟨k + 1, k + 1, by go_num, by go_num, by omega, by omega, HN, Lib.hid (hB.out.trans (hb3.mono hB.out.size))⟩
              case measure => simp [intOf]; omega
            | false =>
              have hpl : partL ((s.data.toList.drop a).take (k - a)) = false := by rw [← HPX.out]; exact hp
              have HF : Hid (nameB s = false) := by
                show nameB s = false
                rw [HP.out, hall2, hpl]; rfl
              rw [hp] at hp1
              have H1 := Lib.hid hp1
              clear hp1 hp hc heq hno hall hall2 hst hpl
              go_wp2_with (first | (with_reducible refine (H1.out _).mono ?_; rintro e w3 ⟨rfl, hb3⟩))
              go_ret
              exact ⟨ret_bool HF.out.symm, hB.out.trans (hb3.mono hB.out.size)⟩
          · have hci : ((s[k].toNat : Int) == 46) = false := by
              apply beq_eq_false_iff_ne.2; intro e; apply hc; apply UInt8.toNat_inj.1; show s[k].toNat = 46; omega
            have hcn : ((s[k].toNat : Int) != 46) = true := by simp [bne, hci]
            have HN : Hid (PnI s.data.toList a (k + 1)) := Lib.hid (.inl ⟨by omega, by omega, no_more hak hkl (by rw [heq]; exact hc) hno, hall⟩)
            clear hp1 hc heq hno hall
            go_wp2_with fail
            go_roundw
            case rel => exact ⟨a, k + 1, rfl, by go_num, by omega, by omega, HN, hB⟩
            case measure => simp [intOf]; omega
        · obtain rfl : k = s.size := by omega
          have hki2 : ¬ (s.size : Int) < (s.size : Int) := by omega
          rw [← hl] at hno
          have hst := pcs_last _ a hno
          rw [hst] at hall
          rw [hl] at hall
          simp only [List.all_cons, List.all_nil, Bool.and_true] at hall
          rw [← HPX.out] at hall
          cases hp : partB (s.extract a s.size) with
          | true =>
            have HN : Hid (PnI s.data.toList (s.size + 1) (s.size + 1)) := Lib.hid (.inr ⟨by omega, by first | exact hall.trans hp | rw [hall]⟩)
            rw [hp] at hp1
            have H1 := Lib.hid hp1
            clear hp1 hp hno hall hst
            go_wp2_with (first | (with_reducible refine (H1.out _).mono ?_; rintro e w3 ⟨rfl, hb3⟩))
            go_roundw
            case rel => exact ⟨s.size + 1, s.size + 1, by go_num, by go_num, by omega, by omega, HN, Lib.hid (hB.out.trans (hb3.mono hB.out.size))⟩
            case measure => first | done | (simp [intOf]; done) | (simp [intOf]; omega)
          | false =>
            have HF : Hid (nameB s = false) := by
              show nameB s = false
              exact HP.out.trans (hall.trans hp)
            rw [hp] at hp1
            have H1 := Lib.hid hp1
            clear hp1 hp hno hall hst
            go_wp2_with (first | (with_reducible refine (H1.out _).mono ?_; rintro e w3 ⟨rfl, hb3⟩))
            go_ret
            exact ⟨ret_bool HF.out.symm, hB.out.trans (hb3.mono hB.out.size)⟩
      · have hki : ¬ (k : Int) ≤ (s.size : Int) := by omega
        have HT : Hid (nameB s = true) := by
          show nameB s = true
          rcases hI.out with h | h
          · rw [hl] at h; omega
          · rw [HP.out, h.2]
        go_wp2_with fail
        go_ret
        exact ⟨ret_bool HT.out.symm, hB.out⟩
  · have h2i : ¬ (s.size : Int) ≤ 120 := by omega
    have HP : Hid (nameB s = false) := by
      show nameL _ = _
      unfold nameL
      rw [hl, decide_eq_false h2]; simp
    have hs0 : (0 : Int) ≤ (s.size : Int) := by omega
    go_enter Tryz.func9, Tryz.ntmps9
    go_wp2_with fail
    go_loopw [4] (fun i wr => i = .int .i64 0 ∧ wr = w) (fun _ _ => 0)
    case atStart => exact ⟨rfl, rfl⟩
    case round =>
      obtain ⟨rfl, rfl⟩ := hrel
      go_wp2_with fail
      go_ret
      exact ⟨ret_bool (by first | exact HP.out.symm | exact (decide_eq_false (by omega)).trans HP.out.symm), Below.refl _ _⟩
end Go.Proofs.YtmimihjbepjnfaaGreatDoor
