/- The program's match. -/
import Derived.Test.YtpjnjcljaoaceaaSyMtW
namespace Go.Proofs.Ytpjnjcljaoaceaa
open Go Go.RowKit
set_option linter.unusedVariables false
set_option maxRecDepth 100000 in
set_option maxHeartbeats 2000000 in
theorem match_nil (P : List UInt8) (a : Option Addr) (cap : Nat) (w : World) : Calls Try.prog 24 #[.string (bs P), .slice a 0 cap] w fun e w' => ∃ v, e = .returned (.tuple #[v, .bool (mt P []).isSome]) ∧ (∀ l, mt P [] = some l → v = .slice none 0 0) ∧ Below w.heap.size w w' := by
  go_enter Try.func24, Try.ntmps24
  go_wp2_with fail
  go_loopg [0, 6] P.length (fun g x v wr => ∃ (p : List UInt8), x = .string (bs p) ∧ p.length ≤ g ∧ v = .slice none 0 0 ∧ Below w.heap.size w wr ∧ Hid (mt P [] = mt p []))
  case atStart => exact ⟨P, rfl, Nat.le_refl _, rfl, Below.refl _ _, Lib.hid rfl⟩
  case round =>
    rename World => WR
    obtain ⟨p, rfl, hg, rfl, hlo, HM⟩ := hrel
    cases p with
    | nil =>
      rw [show bs [] = ⟨#[]⟩ from rfl]
      have hm : mt P [] = some [] := by rw [HM.out, mt_nil, if_pos rfl]
      clear HM
      go_wp2_with fail
      refine bodyPost_ret (v := .tuple #[.slice none 0 0, .bool true]) (by simp [results, Try.results24, go_sem]) rfl ⟨_, by rw [hm]; rfl, fun l' h' => rfl, hlo⟩
    | cons c q =>
      have hB1 : (bs (c :: q)).extract 1 (bs (c :: q)).size = bs q := bs_tail c q
      have hB0 : 0 < (bs (c :: q)).size := by simp [bs, ByteArray.size]
      have hBc : (bs (c :: q))[0].toNat = c.toNat := rfl
      have hBn : (bs (c :: q)).toList.isEmpty = false := toL_ne hB0
      have hM := mt_cons c q ([] : List Nd)
      rw [hM] at HM
      clear hM
      have hql : q.length < gk := by simp at hg; omega
      clear hg
      generalize bs (c :: q) = B at *
      cases q with
      | nil =>
        rw [show bs [] = ⟨#[]⟩ from rfl] at hB1
        rw [show markN [] = (0, []) from rfl] at HM
        go_upto_region 8 with fail
        have hN : takeN c (0 : UInt8) [] = 0 := Nat.le_zero.1 (takeN_le c (0 : UInt8) [])
        rw [hN] at HM
        have hT := taken_any c (0 : UInt8) [] a cap (by simp) WR ⟨Nat.zero_le _, fun h => absurd rfl h⟩
        rw [hN] at hT
        clear hN
        have HT := Lib.hid hT
        clear hT
        have hRL : (([] : List UInt8)).length < gk := by simp at hql ⊢; omega
        clear hql
        have h42 : (0 : UInt8) ≠ 42 := by decide
        have HMn := HM.out
        rw [if_pos ⟨rfl, h42⟩] at HMn
        clear HM
        go_wp2_with (refine (HT.out).mono ?_; rintro e w5 ⟨rfl, hb5⟩)
        refine bodyPost_ret (v := .tuple #[.slice none 0 0, .bool false]) (by simp [results, Try.results24, go_sem]) rfl ⟨_, by rw [HMn]; rfl, fun l' h' => ?_, hlo.trans (hb5.mono hlo.size)⟩
        exact absurd (HMn.symm.trans h') (by simp)
      | cons m r =>
        have hC1 : (bs (m :: r)).extract 1 (bs (m :: r)).size = bs r := bs_tail m r
        have hC0 : 0 < (bs (m :: r)).size := by simp [bs, ByteArray.size]
        have hCc : (bs (m :: r))[0].toNat = m.toNat := rfl
        have hCn : (bs (m :: r)).toList.isEmpty = false := toL_ne hC0
        obtain ⟨n, hn⟩ : ∃ n, Lib.indexByte [42, 43, 63] m = n := ⟨_, rfl⟩
        have hmk := mark_ix ⟨m.toNat, m.toNat_lt⟩
        simp only [UInt8.ofNat_toNat] at hmk
        rw [hn] at hmk
        have hI := fun W => ib ⟨#[42, 43, 63]⟩ (m.toNat : Int) n (by simpa using hn) W
        generalize hB2 : bs (m :: r) = B2 at *
        have HB2 := Lib.hid hB2
        clear hB2
        cases hM : isMark m
        · have hn0 : ¬ (0 ≤ n) := by rw [hmk, hM]; decide
          rw [markN_no hM] at HM
          clear hmk hn hM
          have HI := Lib.hid hI
          clear hI
          go_upto_region 8 with (refine (HI.out _).mono ?_; rintro e w4 ⟨rfl, rfl⟩)
          have hN : takeN c (0 : UInt8) [] = 0 := Nat.le_zero.1 (takeN_le c (0 : UInt8) [])
          rw [hN] at HM
          have hT := taken_any c (0 : UInt8) [] a cap (by simp) WR ⟨Nat.zero_le _, fun h => absurd rfl h⟩
          rw [hN] at hT
          clear hN
          have HT := Lib.hid hT
          clear hT
          have hRL : ((m :: r)).length < gk := by exact hql
          clear hql
          have h42 : (0 : UInt8) ≠ 42 := by decide
          have HMn := HM.out
          rw [if_pos ⟨rfl, h42⟩] at HMn
          clear HM
          go_wp2_with (refine (HT.out).mono ?_; rintro e w5 ⟨rfl, hb5⟩)
          refine bodyPost_ret (v := .tuple #[.slice none 0 0, .bool false]) (by simp [results, Try.results24, go_sem]) rfl ⟨_, by rw [HMn]; rfl, fun l' h' => ?_, hlo.trans (hb5.mono hlo.size)⟩
          exact absurd (HMn.symm.trans h') (by simp)
        · have hn0 : 0 ≤ n := by rw [hmk, hM]
          rw [markN_yes hM] at HM
          clear hmk hn hM
          have HI := Lib.hid hI
          clear hI
          go_upto_region 8 with (refine (HI.out _).mono ?_; rintro e w4 ⟨rfl, rfl⟩)
          have hN : takeN c m [] = 0 := Nat.le_zero.1 (takeN_le c m [])
          rw [hN] at HM
          have hT := taken_any c m [] a cap (by simp) WR ⟨Nat.zero_le _, fun h => absurd rfl h⟩
          rw [hN] at hT
          clear hN
          have HT := Lib.hid hT
          clear hT
          have hRL : (r).length < gk := by simp at hql; omega
          clear hql
          by_cases h42 : m = 42
          · subst h42
            rw [show ((UInt8.toNat 42 : Nat) : Int) = 42 from rfl] at *
            have HM2 : Hid (mt P [] = mt r []) := Lib.hid (by rw [HM.out, if_neg (by rintro ⟨_, h⟩; exact h rfl)]; simp)
            clear HM
            go_wp2_with (refine (HT.out).mono ?_; rintro e w5 ⟨rfl, hb5⟩)
            go_loop [6, 42] (fun v u => v = .slice none 0 0 ∧ u = .int .i64 0) (fun _ _ => 0)
            case atStart => exact ⟨rfl, rfl⟩
            case round =>
              obtain ⟨rfl, rfl⟩ := hrel
              go_wp2_with fail
              go_roundg (r.length)
              case measure => omega
              case rel => exact ⟨r, rfl, Nat.le_refl _, rfl, hlo.trans (hb5.mono hlo.size), HM2⟩
          · have h42i : ((m.toNat : Int) == 42) = false := beq_eq_false_iff_ne.2 (fun h => h42 (UInt8.toNat_inj.1 (by simpa using (by omega : m.toNat = 42))))
            have HMn := HM.out
            rw [if_pos ⟨rfl, h42⟩] at HMn
            clear HM
            go_wp2_with (refine (HT.out).mono ?_; rintro e w5 ⟨rfl, hb5⟩)
            refine bodyPost_ret (v := .tuple #[.slice none 0 0, .bool false]) (by simp [results, Try.results24, go_sem]) rfl ⟨_, by rw [HMn]; rfl, fun l' h' => ?_, hlo.trans (hb5.mono hlo.size)⟩
            exact absurd (HMn.symm.trans h') (by simp)
end Go.Proofs.Ytpjnjcljaoaceaa
