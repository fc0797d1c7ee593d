/- The program's match. -/
import Derived.Test.YtpjnjcljaoaceaaSyMtW
namespace Go.Proofs.Ytpjnjcljaoaceaa
open Go Go.RowKit
set_option linter.unusedVariables false
set_option maxRecDepth 100000 in
set_option maxHeartbeats 4000000 in
theorem match_some (P : List UInt8) (ks : List Nd) (b o : Nat) (cap : Nat) (hl : ks.length ≤ 1000000) (w : World) (hr : Row w (some ⟨b, o, none⟩) cap ks) : Calls Try.prog 24 #[.string (bs P), .slice (some ⟨b, o, none⟩) ks.length cap] w fun e w' => ∃ v, e = .returned (.tuple #[v, .bool (mt P ks).isSome]) ∧ (∀ l, mt P ks = some l → OB w.heap.size w' v l) ∧ Below w.heap.size w w' := by
  obtain ⟨i0, hi, hz0, hz1, hz2⟩ := infoB_parts
  have hrow := Lib.hid hr
  have hcap := hr.1
  clear hr
  go_enter Try.func24, Try.ntmps24
  go_wp2_with fail
  go_loopg [0, 6] P.length (fun g x v wr => ∃ (p l : List UInt8), x = .string (bs p) ∧ p.length ≤ g ∧ l.length ≤ ks.length ∧ Hid (OB w.heap.size wr v l) ∧ Below w.heap.size w wr ∧ Hid (mt P ks = (mt p (ks.drop l.length)).map (l ++ ·)))
  case atStart => exact ⟨P, [], rfl, Nat.le_refl _, Nat.zero_le _, Lib.hid (World.ownsRow_nil _ _ _ _), Below.refl _ _, Lib.hid (by simp)⟩
  case round =>
    rename World => WR
    obtain ⟨p, l, rfl, hg, hll, hown, hlo, HM⟩ := hrel
    obtain ⟨av, cv, rfl⟩ := hown.out.form
    cases p with
    | nil =>
      rw [show bs [] = ⟨#[]⟩ from rfl]
      by_cases he : l.length = ks.length
      · have hq : ((l.length : Int) == (ks.length : Int)) = true := by rw [he]; exact beq_self_eq_true _
        have hm : mt P ks = some l := by rw [HM.out, mt_nil, if_pos (by rw [he, List.drop_length])]; simp
        clear he HM
        go_wp2_with fail
        refine bodyPost_ret (v := .tuple #[.slice av l.length cv, .bool true]) (by simp [results, Try.results24, go_sem]) rfl ⟨_, by rw [hm]; rfl, fun l' h' => ?_, hlo⟩
        rw [hm] at h'; cases h'
        exact hown.out
      · have hq : ((l.length : Int) == (ks.length : Int)) = false := beq_eq_false_iff_ne.2 (by omega)
        have hm : mt P ks = none := by rw [HM.out, mt_nil, if_neg (by intro h; have := congrArg List.length h; simp at this; omega)]; rfl
        clear he HM
        go_wp2_with fail
        refine bodyPost_ret (v := .tuple #[.slice av l.length cv, .bool false]) (by simp [results, Try.results24, go_sem]) rfl ⟨_, by rw [hm]; rfl, fun l' h' => ?_, hlo⟩
        rw [hm] at h'; cases h'
    | cons c q =>
      have hB1 : (bs (c :: q)).extract 1 (bs (c :: q)).size = bs q := bs_tail c q
      have hB0 : 0 < (bs (c :: q)).size := by simp [bs, ByteArray.size]
      have hBc : (bs (c :: q))[0].toNat = c.toNat := rfl
      have hBn : (bs (c :: q)).toList.isEmpty = false := toL_ne hB0
      have hM := mt_cons c q (ks.drop l.length)
      rw [hM] at HM
      clear hM
      have hql : q.length < gk := by simp at hg; omega
      clear hg
      generalize bs (c :: q) = B at *
      cases q with
      | nil =>
        rw [show bs [] = ⟨#[]⟩ from rfl] at hB1
        rw [show markN [] = (0, []) from rfl] at HM
        go_upto_region 8 with fail
        obtain ⟨N, hN⟩ : ∃ N, takeN c (0 : UInt8) (ks.drop l.length) = N := ⟨_, rfl⟩
        have hNl : N ≤ ks.length - l.length := by rw [← hN]; have := takeN_le c (0 : UInt8) (ks.drop l.length); rwa [List.length_drop] at this
        have HT : Hid (∀ (A : Option Addr) (n C : Nat), n = ks.length - l.length → (n = 0 ∨ A = some ⟨b, o + l.length * 10, none⟩ ∧ C = cap - l.length) → Calls Try.prog 42 #[.int .u8 (c.toNat : Int), .int .u8 0, .slice A n C] WR fun e w' => e = .returned (.int .i64 (N : Nat)) ∧ Below WR.heap.size WR w') := Lib.hid (fun A n C hn hA => by
          have hT := taken_any c (0 : UInt8) (ks.drop l.length) A C (by simp; omega) WR (by
            rcases hA with h0 | ⟨rfl, rfl⟩
            · have hD : ks.drop l.length = [] := List.eq_nil_of_length_eq_zero (by rw [List.length_drop]; omega)
              rw [hD]
              exact ⟨Nat.zero_le _, fun h => absurd rfl h⟩
            · exact (hrow.out.drop l.length hll).below hlo)
          rw [hN, List.length_drop, ← hn] at hT
          exact hT)
        have HM2 : Hid (if N = 0 ∧ (0 : UInt8) ≠ 42 then mt P ks = none else mt P ks = (mt ([] : List UInt8) (ks.drop (l.length + N))).map ((l ++ List.replicate N c) ++ ·)) := Lib.hid (by
          have hm := HM.out
          rw [hN] at hm
          split
          · rename_i h; rw [if_pos h] at hm; rw [hm]; rfl
          · rename_i h
            rw [if_neg h, List.drop_drop] at hm
            rw [hm, Option.map_map]
            congr 1
            funext x
            simp)
        clear HM hN
        have hRL : (([] : List UInt8)).length < gk := by simp at hql ⊢; omega
        clear hql
        have HM3 := HM2.out
        clear HM2
        rcases (show ((cap = l.length) = True ∧ ks.length ≤ l.length) ∨ (¬ cap = l.length ∧ l.length ≤ ks.length) from by
          by_cases h : cap = l.length
          · exact Or.inl ⟨eq_true h, by omega⟩
          · exact Or.inr ⟨h, hll⟩) with ⟨hcq, hdd⟩ | ⟨hcq, hdd⟩
        all_goals
          have h42 : (0 : UInt8) ≠ 42 := by decide
          by_cases hN0 : N = 0
          · subst hN0
            rw [if_pos ⟨rfl, h42⟩] at HM3
            go_wp2_with (go_at_call 42; refine (HT.out _ _ _ ?_ ?_).mono ?_; (· omega); (· first | exact Or.inr ⟨rfl, rfl⟩ | (left; omega)); rintro e w5 ⟨rfl, hb5⟩)
            refine bodyPost_ret (v := .tuple #[.slice none 0 0, .bool false]) (by simp [results, Try.results24, go_sem]) rfl ⟨_, by rw [HM3]; rfl, fun l' h' => ?_, hlo.trans (hb5.mono hlo.size)⟩
            exact absurd (HM3.symm.trans h') (by simp)
          · have hNi : ((N : Int) == 0) = false := beq_eq_false_iff_ne.2 (by omega)
            rw [if_neg (fun h => hN0 h.1)] at HM3
            have HM4 := Lib.hid HM3
            clear HM3
            go_wp2_with (go_at_call 42; refine (HT.out _ _ _ ?_ ?_).mono ?_; (· omega); (· first | exact Or.inr ⟨rfl, rfl⟩ | (left; omega)); rintro e w5 ⟨rfl, hb5⟩)
            have hown5 := Lib.hid (hown.out.below hb5)
            have hlo5 := hlo.trans (hb5.mono hlo.size)
            clear hown HT
            go_loopw [6, 42] (fun v x w2 => ∃ j : Nat, j ≤ N ∧ x = .int .i64 (j : Int) ∧ Hid (OB w.heap.size w2 v (l ++ List.replicate j c)) ∧ Below w.heap.size w w2) (fun _ x _ => N - (intOf x).toNat)
            case atStart => exact ⟨0, Nat.zero_le _, rfl, Lib.hid (by simpa using hown5.out), hlo5⟩
            case round =>
              clear hown5 hlo5
              rename World => W2
              obtain ⟨j, hj, rfl, hownj, hlo2⟩ := hrel
              by_cases hjN : j < N
              · try (exfalso; omega)
                all_goals
                  have hji : (j : Int) < (N : Int) := by omega
                  obtain ⟨L, hL⟩ : ∃ L, l ++ List.replicate j c = L := ⟨_, rfl⟩
                  have hLl : L.length = l.length + j := by rw [← hL]; simp
                  have HS : Hid (Lib.byteCells (l ++ List.replicate (j + 1) c) = Lib.byteCells L ++ [Value.int .u8 (c.toNat : Int)] ∧ (l ++ List.replicate (j + 1) c).length = L.length + 1) := Lib.hid (by
                    have he : l ++ List.replicate (j + 1) c = L ++ [c] := by rw [← hL, List.replicate_succ', List.append_assoc]
                    rw [he]
                    constructor
                    · unfold Lib.byteCells; simp
                    · simp)
                  rw [hL] at hownj
                  clear hL
                  generalize hL2 : l ++ List.replicate (j + 1) c = L2 at HS
                  have HL2 := Lib.hid hL2
                  clear hL2
                  obtain ⟨av2, cv2, rfl⟩ := hownj.out.form
                  have HLl := Lib.hid hLl
                  clear hLl
                  go_wp2_with (at_builtin; refine wpList_append_own _ rfl _ _ 58 rfl w.heap.size 5 i0 (.int .u8 0) 1 1 Try.underlying58 hi hz0 hz1 hz2 rfl (by decide) _ _ _ rfl (World.ownsRow.alloc (show W2.ownsRow w.heap.size 5 1 _ L.length (Lib.byteCells L) from hownj.out) _) ⟨W2.heap.size, 0, none⟩ 1 1 [.int .u8 (c.toNat : Int)] rfl rfl ?_ ?_ ?_ ?_ ?_ ?_)
                  · intro q u hq
                    match q, hq with
                    | 0, hq => simp at hq; subst hq; simp [Addr.add]
                  · intro u hu; simp at hu; subst hu; rfl
                  · have := HLl.out; unfold maxLen; omega
                  · have := HLl.out; omega
                  · have := hlo2.size; first | (simp; done) | (simp; omega)
                  intro v5 w6 hown6 hgr6 _
                  have hown7 : OB w.heap.size w6 v5 L2 := by
                    unfold OB
                    rw [HS.out.1, HS.out.2]
                    exact hown6
                  have hlo7 : Below w.heap.size w w6 := (hlo2.alloc hlo2.size _).grown hgr6 (by have := hlo2.size; simp; omega) (fun q hq => ((show W2.ownsRow w.heap.size 5 1 _ L.length (Lib.byteCells L) from hownj.out).lt q hq).1)
                  clear hown6 hgr6 hownj
                  go_wp2_with fail
                  go_roundw
                  case rel => exact ⟨j + 1, by omega, by go_num, Lib.hid (by rw [HL2.out]; exact hown7), hlo7⟩
                  case measure => simp [intOf] <;> omega
              · obtain rfl : j = N := by omega
                go_wp2_with fail
                go_roundg ((([] : List UInt8)).length)
                case measure => omega
                case rel => exact ⟨([] : List UInt8), l ++ List.replicate j c, by first | rfl | (rw [HB2.out]), Nat.le_refl _, by simp; omega, hownj, hlo2, Lib.hid (by rw [HM4.out]; simp)⟩
      | cons m r =>
        have hC1 : (bs (m :: r)).extract 1 (bs (m :: r)).size = bs r := bs_tail m r
        have hC0 : 0 < (bs (m :: r)).size := by simp [bs, ByteArray.size]
        have hCc : (bs (m :: r))[0].toNat = m.toNat := rfl
        have hCn : (bs (m :: r)).toList.isEmpty = false := toL_ne hC0
        obtain ⟨n, hn⟩ : ∃ n, Lib.indexByte [42, 43, 63] m = n := ⟨_, rfl⟩
        have hmk := mark_ix ⟨m.toNat, m.toNat_lt⟩
        simp only [UInt8.ofNat_toNat] at hmk
        rw [hn] at hmk
        have hI := fun W => ib ⟨#[42, 43, 63]⟩ (m.toNat : Int) n (by simpa using hn) W
        generalize hB2 : bs (m :: r) = B2 at *
        have HB2 := Lib.hid hB2
        clear hB2
        cases hM : isMark m
        · have hn0 : ¬ (0 ≤ n) := by rw [hmk, hM]; decide
          rw [markN_no hM] at HM
          clear hmk hn hM
          have HI := Lib.hid hI
          clear hI
          go_upto_region 8 with (refine (HI.out _).mono ?_; rintro e w4 ⟨rfl, rfl⟩)
          obtain ⟨N, hN⟩ : ∃ N, takeN c (0 : UInt8) (ks.drop l.length) = N := ⟨_, rfl⟩
          have hNl : N ≤ ks.length - l.length := by rw [← hN]; have := takeN_le c (0 : UInt8) (ks.drop l.length); rwa [List.length_drop] at this
          have HT : Hid (∀ (A : Option Addr) (n C : Nat), n = ks.length - l.length → (n = 0 ∨ A = some ⟨b, o + l.length * 10, none⟩ ∧ C = cap - l.length) → Calls Try.prog 42 #[.int .u8 (c.toNat : Int), .int .u8 0, .slice A n C] WR fun e w' => e = .returned (.int .i64 (N : Nat)) ∧ Below WR.heap.size WR w') := Lib.hid (fun A n C hn hA => by
            have hT := taken_any c (0 : UInt8) (ks.drop l.length) A C (by simp; omega) WR (by
              rcases hA with h0 | ⟨rfl, rfl⟩
              · have hD : ks.drop l.length = [] := List.eq_nil_of_length_eq_zero (by rw [List.length_drop]; omega)
                rw [hD]
                exact ⟨Nat.zero_le _, fun h => absurd rfl h⟩
              · exact (hrow.out.drop l.length hll).below hlo)
            rw [hN, List.length_drop, ← hn] at hT
            exact hT)
          have HM2 : Hid (if N = 0 ∧ (0 : UInt8) ≠ 42 then mt P ks = none else mt P ks = (mt (m :: r) (ks.drop (l.length + N))).map ((l ++ List.replicate N c) ++ ·)) := Lib.hid (by
            have hm := HM.out
            rw [hN] at hm
            split
            · rename_i h; rw [if_pos h] at hm; rw [hm]; rfl
            · rename_i h
              rw [if_neg h, List.drop_drop] at hm
              rw [hm, Option.map_map]
              congr 1
              funext x
              simp)
          clear HM hN
          have hRL : ((m :: r)).length < gk := by exact hql
          clear hql
          have HM3 := HM2.out
          clear HM2
          rcases (show ((cap = l.length) = True ∧ ks.length ≤ l.length) ∨ (¬ cap = l.length ∧ l.length ≤ ks.length) from by
            by_cases h : cap = l.length
            · exact Or.inl ⟨eq_true h, by omega⟩
            · exact Or.inr ⟨h, hll⟩) with ⟨hcq, hdd⟩ | ⟨hcq, hdd⟩
          all_goals
            have h42 : (0 : UInt8) ≠ 42 := by decide
            by_cases hN0 : N = 0
            · subst hN0
              rw [if_pos ⟨rfl, h42⟩] at HM3
              go_wp2_with (go_at_call 42; refine (HT.out _ _ _ ?_ ?_).mono ?_; (· omega); (· first | exact Or.inr ⟨rfl, rfl⟩ | (left; omega)); rintro e w5 ⟨rfl, hb5⟩)
              refine bodyPost_ret (v := .tuple #[.slice none 0 0, .bool false]) (by simp [results, Try.results24, go_sem]) rfl ⟨_, by rw [HM3]; rfl, fun l' h' => ?_, hlo.trans (hb5.mono hlo.size)⟩
              exact absurd (HM3.symm.trans h') (by simp)
            · have hNi : ((N : Int) == 0) = false := beq_eq_false_iff_ne.2 (by omega)
              rw [if_neg (fun h => hN0 h.1)] at HM3
              have HM4 := Lib.hid HM3
              clear HM3
              go_wp2_with (go_at_call 42; refine (HT.out _ _ _ ?_ ?_).mono ?_; (· omega); (· first | exact Or.inr ⟨rfl, rfl⟩ | (left; omega)); rintro e w5 ⟨rfl, hb5⟩)
              have hown5 := Lib.hid (hown.out.below hb5)
              have hlo5 := hlo.trans (hb5.mono hlo.size)
              clear hown HT
              go_loopw [6, 42] (fun v x w2 => ∃ j : Nat, j ≤ N ∧ x = .int .i64 (j : Int) ∧ Hid (OB w.heap.size w2 v (l ++ List.replicate j c)) ∧ Below w.heap.size w w2) (fun _ x _ => N - (intOf x).toNat)
              case atStart => exact ⟨0, Nat.zero_le _, rfl, Lib.hid (by simpa using hown5.out), hlo5⟩
              case round =>
                clear hown5 hlo5
                rename World => W2
                obtain ⟨j, hj, rfl, hownj, hlo2⟩ := hrel
                by_cases hjN : j < N
                · try (exfalso; omega)
                  all_goals
                    have hji : (j : Int) < (N : Int) := by omega
                    obtain ⟨L, hL⟩ : ∃ L, l ++ List.replicate j c = L := ⟨_, rfl⟩
                    have hLl : L.length = l.length + j := by rw [← hL]; simp
                    have HS : Hid (Lib.byteCells (l ++ List.replicate (j + 1) c) = Lib.byteCells L ++ [Value.int .u8 (c.toNat : Int)] ∧ (l ++ List.replicate (j + 1) c).length = L.length + 1) := Lib.hid (by
                      have he : l ++ List.replicate (j + 1) c = L ++ [c] := by rw [← hL, List.replicate_succ', List.append_assoc]
                      rw [he]
                      constructor
                      · unfold Lib.byteCells; simp
                      · simp)
                    rw [hL] at hownj
                    clear hL
                    generalize hL2 : l ++ List.replicate (j + 1) c = L2 at HS
                    have HL2 := Lib.hid hL2
                    clear hL2
                    obtain ⟨av2, cv2, rfl⟩ := hownj.out.form
                    have HLl := Lib.hid hLl
                    clear hLl
                    go_wp2_with (at_builtin; refine wpList_append_own _ rfl _ _ 58 rfl w.heap.size 5 i0 (.int .u8 0) 1 1 Try.underlying58 hi hz0 hz1 hz2 rfl (by decide) _ _ _ rfl (World.ownsRow.alloc (show W2.ownsRow w.heap.size 5 1 _ L.length (Lib.byteCells L) from hownj.out) _) ⟨W2.heap.size, 0, none⟩ 1 1 [.int .u8 (c.toNat : Int)] rfl rfl ?_ ?_ ?_ ?_ ?_ ?_)
                    · intro q u hq
                      match q, hq with
                      | 0, hq => simp at hq; subst hq; simp [Addr.add]
                    · intro u hu; simp at hu; subst hu; rfl
                    · have := HLl.out; unfold maxLen; omega
                    · have := HLl.out; omega
                    · have := hlo2.size; first | (simp; done) | (simp; omega)
                    intro v5 w6 hown6 hgr6 _
                    have hown7 : OB w.heap.size w6 v5 L2 := by
                      unfold OB
                      rw [HS.out.1, HS.out.2]
                      exact hown6
                    have hlo7 : Below w.heap.size w w6 := (hlo2.alloc hlo2.size _).grown hgr6 (by have := hlo2.size; simp; omega) (fun q hq => ((show W2.ownsRow w.heap.size 5 1 _ L.length (Lib.byteCells L) from hownj.out).lt q hq).1)
                    clear hown6 hgr6 hownj
                    go_wp2_with fail
                    go_roundw
                    case rel => exact ⟨j + 1, by omega, by go_num, Lib.hid (by rw [HL2.out]; exact hown7), hlo7⟩
                    case measure => simp [intOf] <;> omega
                · obtain rfl : j = N := by omega
                  go_wp2_with fail
                  go_roundg (((m :: r)).length)
                  case measure => omega
                  case rel => exact ⟨(m :: r), l ++ List.replicate j c, by first | rfl | (rw [HB2.out]), Nat.le_refl _, by simp; omega, hownj, hlo2, Lib.hid (by rw [HM4.out]; simp)⟩
        · have hn0 : 0 ≤ n := by rw [hmk, hM]
          rw [markN_yes hM] at HM
          clear hmk hn hM
          have HI := Lib.hid hI
          clear hI
          go_upto_region 8 with (refine (HI.out _).mono ?_; rintro e w4 ⟨rfl, rfl⟩)
          obtain ⟨N, hN⟩ : ∃ N, takeN c m (ks.drop l.length) = N := ⟨_, rfl⟩
          have hNl : N ≤ ks.length - l.length := by rw [← hN]; have := takeN_le c m (ks.drop l.length); rwa [List.length_drop] at this
          have HT : Hid (∀ (A : Option Addr) (n C : Nat), n = ks.length - l.length → (n = 0 ∨ A = some ⟨b, o + l.length * 10, none⟩ ∧ C = cap - l.length) → Calls Try.prog 42 #[.int .u8 (c.toNat : Int), .int .u8 (m.toNat : Int), .slice A n C] WR fun e w' => e = .returned (.int .i64 (N : Nat)) ∧ Below WR.heap.size WR w') := Lib.hid (fun A n C hn hA => by
            have hT := taken_any c m (ks.drop l.length) A C (by simp; omega) WR (by
              rcases hA with h0 | ⟨rfl, rfl⟩
              · have hD : ks.drop l.length = [] := List.eq_nil_of_length_eq_zero (by rw [List.length_drop]; omega)
                rw [hD]
                exact ⟨Nat.zero_le _, fun h => absurd rfl h⟩
              · exact (hrow.out.drop l.length hll).below hlo)
            rw [hN, List.length_drop, ← hn] at hT
            exact hT)
          have HM2 : Hid (if N = 0 ∧ m ≠ 42 then mt P ks = none else mt P ks = (mt r (ks.drop (l.length + N))).map ((l ++ List.replicate N c) ++ ·)) := Lib.hid (by
            have hm := HM.out
            rw [hN] at hm
            split
            · rename_i h; rw [if_pos h] at hm; rw [hm]; rfl
            · rename_i h
              rw [if_neg h, List.drop_drop] at hm
              rw [hm, Option.map_map]
              congr 1
              funext x
              simp)
          clear HM hN
          have hRL : (r).length < gk := by simp at hql; omega
          clear hql
          have HM3 := HM2.out
          clear HM2
          rcases (show ((cap = l.length) = True ∧ ks.length ≤ l.length) ∨ (¬ cap = l.length ∧ l.length ≤ ks.length) from by
            by_cases h : cap = l.length
            · exact Or.inl ⟨eq_true h, by omega⟩
            · exact Or.inr ⟨h, hll⟩) with ⟨hcq, hdd⟩ | ⟨hcq, hdd⟩
          all_goals
            by_cases h42 : m = 42
            · subst h42
              rw [show ((UInt8.toNat 42 : Nat) : Int) = 42 from rfl] at *
              by_cases hN0 : N = 0
              · subst hN0
                rw [if_neg (fun h => h.2 rfl)] at HM3
                have HM4 := Lib.hid HM3
                clear HM3
                go_wp2_with (go_at_call 42; refine (HT.out _ _ _ ?_ ?_).mono ?_; (· omega); (· first | exact Or.inr ⟨rfl, rfl⟩ | (left; omega)); rintro e w5 ⟨rfl, hb5⟩)
                have hown5 := Lib.hid (hown.out.below hb5)
                have hlo5 := hlo.trans (hb5.mono hlo.size)
                clear hown HT
                go_loopw [6, 42] (fun v x w2 => ∃ j : Nat, j ≤ (0 : Nat) ∧ x = .int .i64 (j : Int) ∧ Hid (OB w.heap.size w2 v (l ++ List.replicate j c)) ∧ Below w.heap.size w w2) (fun _ x _ => (0 : Nat) - (intOf x).toNat)
                case atStart => exact ⟨0, Nat.zero_le _, rfl, Lib.hid (by simpa using hown5.out), hlo5⟩
                case round =>
                  clear hown5 hlo5
                  rename World => W2
                  obtain ⟨j, hj, rfl, hownj, hlo2⟩ := hrel
                  by_cases hjN : j < (0 : Nat)
                  · try (exfalso; omega)
                    all_goals
                      have hji : (j : Int) < ((0 : Nat) : Int) := by omega
                      obtain ⟨L, hL⟩ : ∃ L, l ++ List.replicate j c = L := ⟨_, rfl⟩
                      have hLl : L.length = l.length + j := by rw [← hL]; simp
                      have HS : Hid (Lib.byteCells (l ++ List.replicate (j + 1) c) = Lib.byteCells L ++ [Value.int .u8 (c.toNat : Int)] ∧ (l ++ List.replicate (j + 1) c).length = L.length + 1) := Lib.hid (by
                        have he : l ++ List.replicate (j + 1) c = L ++ [c] := by rw [← hL, List.replicate_succ', List.append_assoc]
                        rw [he]
                        constructor
                        · unfold Lib.byteCells; simp
                        · simp)
                      rw [hL] at hownj
                      clear hL
                      generalize hL2 : l ++ List.replicate (j + 1) c = L2 at HS
                      have HL2 := Lib.hid hL2
                      clear hL2
                      obtain ⟨av2, cv2, rfl⟩ := hownj.out.form
                      have HLl := Lib.hid hLl
                      clear hLl
                      go_wp2_with (at_builtin; refine wpList_append_own _ rfl _ _ 58 rfl w.heap.size 5 i0 (.int .u8 0) 1 1 Try.underlying58 hi hz0 hz1 hz2 rfl (by decide) _ _ _ rfl (World.ownsRow.alloc (show W2.ownsRow w.heap.size 5 1 _ L.length (Lib.byteCells L) from hownj.out) _) ⟨W2.heap.size, 0, none⟩ 1 1 [.int .u8 (c.toNat : Int)] rfl rfl ?_ ?_ ?_ ?_ ?_ ?_)
                      · intro q u hq
                        match q, hq with
                        | 0, hq => simp at hq; subst hq; simp [Addr.add]
                      · intro u hu; simp at hu; subst hu; rfl
                      · have := HLl.out; unfold maxLen; omega
                      · have := HLl.out; omega
                      · have := hlo2.size; first | (simp; done) | (simp; omega)
                      intro v5 w6 hown6 hgr6 _
                      have hown7 : OB w.heap.size w6 v5 L2 := by
                        unfold OB
                        rw [HS.out.1, HS.out.2]
                        exact hown6
                      have hlo7 : Below w.heap.size w w6 := (hlo2.alloc hlo2.size _).grown hgr6 (by have := hlo2.size; simp; omega) (fun q hq => ((show W2.ownsRow w.heap.size 5 1 _ L.length (Lib.byteCells L) from hownj.out).lt q hq).1)
                      clear hown6 hgr6 hownj
                      go_wp2_with fail
                      go_roundw
                      case rel => exact ⟨j + 1, by omega, by go_num, Lib.hid (by rw [HL2.out]; exact hown7), hlo7⟩
                      case measure => simp [intOf] <;> omega
                  · obtain rfl : j = (0 : Nat) := by omega
                    go_wp2_with fail
                    go_roundg ((r).length)
                    case measure => omega
                    case rel => exact ⟨r, l ++ List.replicate 0 c, by first | rfl | (rw [HB2.out]), Nat.le_refl _, by simp; omega, hownj, hlo2, Lib.hid (by rw [HM4.out]; simp)⟩
              · have hNi : ((N : Int) == 0) = false := beq_eq_false_iff_ne.2 (by omega)
                rw [if_neg (fun h => h.2 rfl)] at HM3
                have HM4 := Lib.hid HM3
                clear HM3
                go_wp2_with (go_at_call 42; refine (HT.out _ _ _ ?_ ?_).mono ?_; (· omega); (· first | exact Or.inr ⟨rfl, rfl⟩ | (left; omega)); rintro e w5 ⟨rfl, hb5⟩)
                have hown5 := Lib.hid (hown.out.below hb5)
                have hlo5 := hlo.trans (hb5.mono hlo.size)
                clear hown HT
                go_loopw [6, 42] (fun v x w2 => ∃ j : Nat, j ≤ N ∧ x = .int .i64 (j : Int) ∧ Hid (OB w.heap.size w2 v (l ++ List.replicate j c)) ∧ Below w.heap.size w w2) (fun _ x _ => N - (intOf x).toNat)
                case atStart => exact ⟨0, Nat.zero_le _, rfl, Lib.hid (by simpa using hown5.out), hlo5⟩
                case round =>
                  clear hown5 hlo5
                  rename World => W2
                  obtain ⟨j, hj, rfl, hownj, hlo2⟩ := hrel
                  by_cases hjN : j < N
                  · try (exfalso; omega)
                    all_goals
                      have hji : (j : Int) < (N : Int) := by omega
                      obtain ⟨L, hL⟩ : ∃ L, l ++ List.replicate j c = L := ⟨_, rfl⟩
                      have hLl : L.length = l.length + j := by rw [← hL]; simp
                      have HS : Hid (Lib.byteCells (l ++ List.replicate (j + 1) c) = Lib.byteCells L ++ [Value.int .u8 (c.toNat : Int)] ∧ (l ++ List.replicate (j + 1) c).length = L.length + 1) := Lib.hid (by
                        have he : l ++ List.replicate (j + 1) c = L ++ [c] := by rw [← hL, List.replicate_succ', List.append_assoc]
                        rw [he]
                        constructor
                        · unfold Lib.byteCells; simp
                        · simp)
                      rw [hL] at hownj
                      clear hL
                      generalize hL2 : l ++ List.replicate (j + 1) c = L2 at HS
                      have HL2 := Lib.hid hL2
                      clear hL2
                      obtain ⟨av2, cv2, rfl⟩ := hownj.out.form
                      have HLl := Lib.hid hLl
                      clear hLl
                      go_wp2_with (at_builtin; refine wpList_append_own _ rfl _ _ 58 rfl w.heap.size 5 i0 (.int .u8 0) 1 1 Try.underlying58 hi hz0 hz1 hz2 rfl (by decide) _ _ _ rfl (World.ownsRow.alloc (show W2.ownsRow w.heap.size 5 1 _ L.length (Lib.byteCells L) from hownj.out) _) ⟨W2.heap.size, 0, none⟩ 1 1 [.int .u8 (c.toNat : Int)] rfl rfl ?_ ?_ ?_ ?_ ?_ ?_)
                      · intro q u hq
                        match q, hq with
                        | 0, hq => simp at hq; subst hq; simp [Addr.add]
                      · intro u hu; simp at hu; subst hu; rfl
                      · have := HLl.out; unfold maxLen; omega
                      · have := HLl.out; omega
                      · have := hlo2.size; first | (simp; done) | (simp; omega)
                      intro v5 w6 hown6 hgr6 _
                      have hown7 : OB w.heap.size w6 v5 L2 := by
                        unfold OB
                        rw [HS.out.1, HS.out.2]
                        exact hown6
                      have hlo7 : Below w.heap.size w w6 := (hlo2.alloc hlo2.size _).grown hgr6 (by have := hlo2.size; simp; omega) (fun q hq => ((show W2.ownsRow w.heap.size 5 1 _ L.length (Lib.byteCells L) from hownj.out).lt q hq).1)
                      clear hown6 hgr6 hownj
                      go_wp2_with fail
                      go_roundw
                      case rel => exact ⟨j + 1, by omega, by go_num, Lib.hid (by rw [HL2.out]; exact hown7), hlo7⟩
                      case measure => simp [intOf] <;> omega
                  · obtain rfl : j = N := by omega
                    go_wp2_with fail
                    go_roundg ((r).length)
                    case measure => omega
                    case rel => exact ⟨r, l ++ List.replicate j c, by first | rfl | (rw [HB2.out]), Nat.le_refl _, by simp; omega, hownj, hlo2, Lib.hid (by rw [HM4.out]; simp)⟩
            · have h42i : ((m.toNat : Int) == 42) = false := beq_eq_false_iff_ne.2 (fun h => h42 (UInt8.toNat_inj.1 (by simpa using (by omega : m.toNat = 42))))
              by_cases hN0 : N = 0
              · subst hN0
                rw [if_pos ⟨rfl, h42⟩] at HM3
                go_wp2_with (go_at_call 42; refine (HT.out _ _ _ ?_ ?_).mono ?_; (· omega); (· first | exact Or.inr ⟨rfl, rfl⟩ | (left; omega)); rintro e w5 ⟨rfl, hb5⟩)
                refine bodyPost_ret (v := .tuple #[.slice none 0 0, .bool false]) (by simp [results, Try.results24, go_sem]) rfl ⟨_, by rw [HM3]; rfl, fun l' h' => ?_, hlo.trans (hb5.mono hlo.size)⟩
                exact absurd (HM3.symm.trans h') (by simp)
              · have hNi : ((N : Int) == 0) = false := beq_eq_false_iff_ne.2 (by omega)
                rw [if_neg (fun h => hN0 h.1)] at HM3
                have HM4 := Lib.hid HM3
                clear HM3
                go_wp2_with (go_at_call 42; refine (HT.out _ _ _ ?_ ?_).mono ?_; (· omega); (· first | exact Or.inr ⟨rfl, rfl⟩ | (left; omega)); rintro e w5 ⟨rfl, hb5⟩)
                have hown5 := Lib.hid (hown.out.below hb5)
                have hlo5 := hlo.trans (hb5.mono hlo.size)
                clear hown HT
                go_loopw [6, 42] (fun v x w2 => ∃ j : Nat, j ≤ N ∧ x = .int .i64 (j : Int) ∧ Hid (OB w.heap.size w2 v (l ++ List.replicate j c)) ∧ Below w.heap.size w w2) (fun _ x _ => N - (intOf x).toNat)
                case atStart => exact ⟨0, Nat.zero_le _, rfl, Lib.hid (by simpa using hown5.out), hlo5⟩
                case round =>
                  clear hown5 hlo5
                  rename World => W2
                  obtain ⟨j, hj, rfl, hownj, hlo2⟩ := hrel
                  by_cases hjN : j < N
                  · try (exfalso; omega)
                    all_goals
                      have hji : (j : Int) < (N : Int) := by omega
                      obtain ⟨L, hL⟩ : ∃ L, l ++ List.replicate j c = L := ⟨_, rfl⟩
                      have hLl : L.length = l.length + j := by rw [← hL]; simp
                      have HS : Hid (Lib.byteCells (l ++ List.replicate (j + 1) c) = Lib.byteCells L ++ [Value.int .u8 (c.toNat : Int)] ∧ (l ++ List.replicate (j + 1) c).length = L.length + 1) := Lib.hid (by
                        have he : l ++ List.replicate (j + 1) c = L ++ [c] := by rw [← hL, List.replicate_succ', List.append_assoc]
                        rw [he]
                        constructor
                        · unfold Lib.byteCells; simp
                        · simp)
                      rw [hL] at hownj
                      clear hL
                      generalize hL2 : l ++ List.replicate (j + 1) c = L2 at HS
                      have HL2 := Lib.hid hL2
                      clear hL2
                      obtain ⟨av2, cv2, rfl⟩ := hownj.out.form
                      have HLl := Lib.hid hLl
                      clear hLl
                      go_wp2_with (at_builtin; refine wpList_append_own _ rfl _ _ 58 rfl w.heap.size 5 i0 (.int .u8 0) 1 1 Try.underlying58 hi hz0 hz1 hz2 rfl (by decide) _ _ _ rfl (World.ownsRow.alloc (show W2.ownsRow w.heap.size 5 1 _ L.length (Lib.byteCells L) from hownj.out) _) ⟨W2.heap.size, 0, none⟩ 1 1 [.int .u8 (c.toNat : Int)] rfl rfl ?_ ?_ ?_ ?_ ?_ ?_)
                      · intro q u hq
                        match q, hq with
                        | 0, hq => simp at hq; subst hq; simp [Addr.add]
                      · intro u hu; simp at hu; subst hu; rfl
                      · have := HLl.out; unfold maxLen; omega
                      · have := HLl.out; omega
                      · have := hlo2.size; first | (simp; done) | (simp; omega)
                      intro v5 w6 hown6 hgr6 _
                      have hown7 : OB w.heap.size w6 v5 L2 := by
                        unfold OB
                        rw [HS.out.1, HS.out.2]
                        exact hown6
                      have hlo7 : Below w.heap.size w w6 := (hlo2.alloc hlo2.size _).grown hgr6 (by have := hlo2.size; simp; omega) (fun q hq => ((show W2.ownsRow w.heap.size 5 1 _ L.length (Lib.byteCells L) from hownj.out).lt q hq).1)
                      clear hown6 hgr6 hownj
                      go_wp2_with fail
                      go_roundw
                      case rel => exact ⟨j + 1, by omega, by go_num, Lib.hid (by rw [HL2.out]; exact hown7), hlo7⟩
                      case measure => simp [intOf] <;> omega
                  · obtain rfl : j = N := by omega
                    go_wp2_with fail
                    go_roundg ((r).length)
                    case measure => omega
                    case rel => exact ⟨r, l ++ List.replicate j c, by first | rfl | (rw [HB2.out]), Nat.le_refl _, by simp; omega, hownj, hlo2, Lib.hid (by rw [HM4.out]; simp)⟩
end Go.Proofs.Ytpjnjcljaoaceaa
