/- What the reference's readDigits reckons with: the digits' text, a digit's bits. No program here.
   The reference's readDigits.
   The map of the bases: made, and looked up. -/
import Derived.Test.YtfnkablbcalclaaGreatDoorMgDec
import Derived.Test.YtfnkablbcalclaaGreatDoorMgRefs
import Derived.Test.YtfnkablbcalclaaGreatDoorRfNum
import Derived.Deep.RegionLaw
import Derived.Deep.CutBlock
import Derived.Deep.DeepCutAuto
import Derived.LoopTactic
import Derived.Test.YtfnkablbcalclaaGreatDoorBase
import Derived.MapKept
namespace Go.Proofs.YtfnkablbcalclaaGreatDoor
open Go Go.RowKit
set_option linter.unusedVariables false
/-- the digits, in their order -/
def hxB : ByteArray := ⟨#[48, 49, 50, 51, 52, 53, 54, 55, 56, 57, 97, 98, 99, 100, 101, 102]⟩
theorem hx_size : hxB.size = 16 := by decide +kernel
theorem hx_all : ∀ j : Fin 16, ∀ c : Fin 256, ((hxB.data[j.1]!).toNat == c.1) = decide (dv c.1 = j.1) := by decide +kernel
theorem int_beq (x c : Nat) : ((x : Int) == (c : Int)) = (x == c) := by rw [Bool.eq_iff_iff, beq_iff_eq, beq_iff_eq]; omega
theorem hx_at {j c : Nat} (hj : j < hxB.size) (hc : c ≤ 255) : ((hxB[j].toNat : Int) == (c : Int)) = decide (dv c = j) := by
  have h16 : j < 16 := by rw [hx_size] at hj; exact hj
  have h := hx_all ⟨j, h16⟩ ⟨c, by omega⟩
  have e : hxB.data[j]! = hxB[j] := by rw [getElem!_pos hxB.data j hj]; rfl
  rw [e] at h
  exact (int_beq _ _).trans h
/-- which digit has been found among the first j -/
def fnd (c j : Nat) : Int := if dv c < j then (dv c : Int) else -1
theorem fnd_zero (c : Nat) : fnd c 0 = -1 := by unfold fnd; rw [if_neg (by omega)]
theorem fnd_yes {c j : Nat} (h : dv c = j) : fnd c (j + 1) = j := by unfold fnd; rw [if_pos (by omega), h]
theorem fnd_no {c j : Nat} (h : dv c ≠ j) : fnd c (j + 1) = fnd c j := by
  unfold fnd
  by_cases c1 : dv c < j
  · rw [if_pos c1, if_pos (by omega)]
  · rw [if_neg c1, if_neg (by omega)]
/-- the states of a digit's first bits -/
def dbl (size c m : Nat) : List UInt8 := (List.range m).map (st (dbits size c))
theorem dbl_succ (size c m : Nat) : dbl size c (m + 1) = dbl size c m ++ [st (dbits size c) m] := by unfold dbl; rw [List.range_succ, List.map_append]; rfl
theorem dbl_len (size c m : Nat) : (dbl size c m).length = m := by unfold dbl; simp
theorem dl_succ (size : Nat) (s : ByteArray) (k : Nat) : dl size s (k + 1) = dl size s k ++ dbl size (dgt s k) size := rfl
theorem dbl_fill {size : Nat} (z2 : size ≤ 4) {c : Nat} (h : c = 120 ∨ c = 122) : dbl size c size = List.replicate size (UInt8.ofNat c) := by
  unfold dbl
  apply List.ext_getElem
  · simp
  · intro i h1 h2
    have hi : i < size := by simpa using h1
    rw [List.getElem_map, List.getElem_range, List.getElem_replicate]
    rcases h with rfl | rfl <;> simp [dbits, st, fl, msk_bit (show size ≤ 64 by omega), hi] <;> rfl
theorem st_bit : ∀ z : Fin 5, ∀ c : Fin 256, ∀ m : Fin 4, c.1 ≠ 120 → c.1 ≠ 122 → dv c.1 < 2 ^ z.1 → m.1 < z.1 → (st (dbits z.1 c.1) m.1).toNat = 48 + dv c.1 / 2 ^ m.1 % 2 := by decide +kernel
theorem bit_val : ∀ d : Fin 16, ∀ m : Fin 4, wrap64 (48 + bits BinOp.and IntKind.i64 ((d.1 : Int) / 2 ^ m.1) 1) % 256 = ((48 + d.1 / 2 ^ m.1 % 2 : Nat) : Int) := by decide +kernel
theorem loo_le {n size : Nat} (s : ByteArray) (K : Nat) : loo n size s K ≤ size := by
  rcases loo_spec n size s K with ⟨k, _, _, _, h⟩ | ⟨_, h⟩ <;> omega
/-- the list that is checked at the end -/
def ful (n size : Nat) (s : ByteArray) : List UInt8 := dl size s s.size ++ List.replicate (n - s.size * size) (fst_ s)
theorem ful_len (n size : Nat) (s : ByteArray) : (ful n size s).length = max n (s.size * size) := by unfold ful; rw [List.length_append, dl_len, List.length_replicate]; omega
theorem ful_large {n size : Nat} (z1 : 1 ≤ size) (z2 : size ≤ 4) (s : ByteArray) {q : Nat} (h1 : n + loo n size s s.size ≤ q) (h2 : q < (ful n size s).length) (h3 : (ful n size s)[q] ≠ 48) : ∃ k, k < s.size ∧ rdE n size s k = true := by
  rw [ful_len] at h2
  have hq : q < s.size * size := by omega
  refine (large_iff z1 z2 s).1 ⟨q, h1, hq, ?_⟩
  have e : (ful n size s)[q] = (dl size s s.size)[q]'(by rw [dl_len]; exact hq) := List.getElem_append_left (by rw [dl_len]; exact hq)
  rw [List.getD_eq_getElem?_getD, List.getElem?_eq_getElem (by rw [dl_len]; exact hq)]
  show (dl size s s.size)[q]'_ ≠ 48
  rw [← e]; exact h3
theorem ful_fine {n size : Nat} (z1 : 1 ≤ size) (z2 : size ≤ 4) (s : ByteArray) (h : ∀ q (hq : q < (ful n size s).length), n + loo n size s s.size ≤ q → (ful n size s)[q] = 48) : ∀ k, k < s.size → rdE n size s k = false := by
  intro k hk
  cases e : rdE n size s k
  · rfl
  · obtain ⟨i, h1, h2, h3⟩ := (large_iff z1 z2 s).2 ⟨k, hk, e⟩
    have hl : i < (ful n size s).length := by rw [ful_len]; omega
    have h4 := h i hl h1
    have e2 : (ful n size s)[i] = (dl size s s.size)[i]'(by rw [dl_len]; exact h2) := List.getElem_append_left (by rw [dl_len]; exact h2)
    rw [List.getD_eq_getElem?_getD, List.getElem?_eq_getElem (by rw [dl_len]; exact h2)] at h3
    exact absurd (e2.symm.trans h4) h3
theorem ful_B {n size : Nat} (h1 : 1 ≤ n) (h2 : n ≤ 64) (z2 : size ≤ 4) (s : ByteArray) : Bl ((ful n size s).take n) = ⟨n, (rdB n size s s.size).v, (rdB n size s s.size).x⟩ :=
  Bl_map (rdB_ok h1 h2 size s s.size) (rdB_vl h2 z2 s).symm
end Go.Proofs.YtfnkablbcalclaaGreatDoor
namespace Go.Proofs.YtfnkablbcalclaaGreatDoor
open Go Go.RowKit
set_option linter.unusedVariables false
set_option maxRecDepth 100000 in
set_option maxHeartbeats 3200000 in
theorem rfDig (n size : Nat) (s : ByteArray) (v : Value) (hn : n ≤ 100000) (h1 : 1 ≤ n) (z1 : 1 ≤ size) (z2 : size ≤ 4) (hs : 0 < s.size) (hs2 : s.size ≤ 2000)
    (H10 : Hid ((∃ k, k < s.size ∧ digOk size (dgt s k) = false) → v = bad 10)) (H2 : Hid ((∀ k, k < s.size → digOk size (dgt s k) = true) → 64 < n → v = bad 2))
    (H3 : Hid (n ≤ 64 → (∀ k, k < s.size → digOk size (dgt s k) = true) → (∃ k, k < s.size ∧ rdE n size s k = true) → v = bad 3))
    (H0 : Hid (n ≤ 64 → (∀ k, k < s.size → digOk size (dgt s k) = true) → (∀ k, k < s.size → rdE n size s k = false) → v = good n (rdB n size s s.size)))
    (w : World) :
    Calls Tryz.prog 56 #[.string s, .int .i64 n, .int .i64 size] w fun e w' => e = .returned v ∧ Below w.heap.size w w' := by
  obtain ⟨i0, hi, hz0, hz1, hz2⟩ := info_parts info5
  go_enter Tryz.func56, Tryz.ntmps56
  have hlit : (⟨#[48, 49, 50, 51, 52, 53, 54, 55, 56, 57, 97, 98, 99, 100, 101, 102]⟩ : ByteArray) = hxB := rfl
  rw [hlit]
  clear hlit
  have hsz := hx_size
  have hat : ∀ (j c : Nat) (hj : j < hxB.size), c ≤ 255 → ((hxB[j].toNat : Int) == (c : Int)) = decide (dv c = j) := fun j c hj hc => hx_at hj hc
  generalize hxB = S at hsz hat ⊢
  have HAT := Lib.hid hat
  have hS : 16 ≤ S.size := by omega
  have HS := Lib.hid hsz
  clear hat hsz
  go_wp2_with fail
  obtain ⟨W1, hW1⟩ : ∃ W, W = w.alloc (Obj.cells #[Value.int IntKind.i64 0, Value.int IntKind.u64 0, Value.int IntKind.u64 0] 30) := ⟨_, rfl⟩
  have X : Box W1 w.heap.size 0 0 0 ∧ W1.heap.size = w.heap.size + 1 ∧ Below w.heap.size w W1 := by
    rw [hW1]
    exact ⟨Box.new _ _ _ _, by simp, (Below.refl _ _).alloc (Nat.le_refl _) _⟩
  rw [← hW1]
  clear hW1
  have HX := Lib.hid X
  clear X
  go_loopw [8, 9, 10] (fun u l i wr => ∃ k : Nat, k ≤ s.size ∧ i = .int .i64 ((s.size : Int) - 1 - (k : Int)) ∧ l = .int .i64 ((loo n size s k : Nat) : Int) ∧ Hid (Own8 W1.heap.size wr u (dl size s k)) ∧ Below W1.heap.size W1 wr ∧ Hid (∀ q, q < k → digOk size (dgt s q) = true)) (fun _ _ i _ => (intOf i + 1).toNat)
  case atStart => exact ⟨0, Nat.zero_le _, by simp, rfl, Lib.hid (World.ownsRow_nil _ _ _ _), Below.refl _ _, Lib.hid (fun q hq => absurd hq (Nat.not_lt_zero q))⟩
  case round =>
    obtain ⟨k, hk, rfl, rfl, hown, hlo, hok⟩ := hrel
    rename World => WR
    by_cases hlt : k < s.size
    · obtain ⟨x, hx, hxe, hxk⟩ : ∃ x, x < s.size ∧ (s.size : Int) - 1 - (k : Int) = (x : Int) ∧ Hid (∀ h : x < s.size, s[x].toNat = dgt s k) := ⟨s.size - 1 - k, by omega, by omega, Lib.hid (fun h => (dgt_at s k h).symm)⟩
      rw [hxe]
      have HXE := Lib.hid hxe
      clear hxe
      have hby : s[x].toNat ≤ 255 := by have := s[x].toNat_lt; omega
      have h2s : 1 ≤ 2 ^ size ∧ 2 ^ size ≤ 16 := ⟨Nat.one_le_two_pow, Nat.le_trans (Nat.pow_le_pow_right (by omega) z2) (by decide)⟩
      have hpw := pow_wrap z2
      obtain ⟨P, hP⟩ : ∃ P, P = 2 ^ size := ⟨_, rfl⟩
      go_wp2_with fail
      rw [hpw]
      rw [← hP] at h2s ⊢
      obtain ⟨hP1, hP2⟩ := h2s
      have HP := Lib.hid hP
      clear hP hpw
      go_loopw [11, 25] (fun f j wx => ∃ j' : Nat, j' ≤ P ∧ j = .int .i64 j' ∧ f = .int .i64 (fnd (dgt s k) j') ∧ Below WR.heap.size WR wx) (fun _ j _ => P - (intOf j).toNat)
      case atStart => exact ⟨0, Nat.zero_le _, rfl, by rw [fnd_zero], Below.refl _ _⟩
      case round =>
        obtain ⟨j, hj, rfl, rfl, hlx⟩ := hrel
        by_cases hjl : j < P
        · have hjS : j < S.size := by omega
          have hj0 : (0 : Int) ≤ (j : Int) := by omega
          by_cases hdj : dv s[x].toNat = j
          · have hab : ((S[j].toNat : Int) == (s[x].toNat : Int)) = true := (HAT.out j s[x].toNat hjS hby).trans (decide_eq_true hdj)
            have HF : Hid (fnd (dgt s k) (j + 1) = (j : Int)) := Lib.hid (by rw [← hxk.out hx]; exact fnd_yes hdj)
            clear hdj
            go_upto_region 10 with fail
            refine wp_region_rel 6 (by kernel_rfl) (by kernel_rfl) ?_
            simp only [List.take_succ_cons, List.take_zero, List.drop_succ_cons, List.drop_zero]
            (refine rel_fix0 (fun K hK => ?_); go_simp; refine hK _ ?_; clear hK K)
            (refine rel_fix0 (fun K hK => ?_); go_simp; refine hK _ ?_; clear hK K)
            (refine rel_fix0 (fun K hK => ?_); go_simp; refine hK _ ?_; clear hK K)
            (refine rel_fix0 (fun K hK => ?_); go_simp; refine hK _ ?_; clear hK K)
            (refine rel_fix0 (fun K hK => ?_); go_simp; refine hK _ ?_; clear hK K)
            (refine rel_fix0 (fun K hK => ?_); go_simp; refine hK _ ?_; clear hK K)
            refine rel_nil ?_
            intro dq osq
            simp only [relAll]
            have hq := hlx.trans ((below_regrown wr dq osq).mono hlx.size)
            go_wp2_with fail
            go_roundw
            case rel => exact ⟨j + 1, by omega, by go_num, by rw [HF.out], hq⟩
            case measure => simp [intOf]; omega
          · have hab : ((S[j].toNat : Int) == (s[x].toNat : Int)) = false := (HAT.out j s[x].toNat hjS hby).trans (decide_eq_false hdj)
            have HF : Hid (fnd (dgt s k) (j + 1) = fnd (dgt s k) j) := Lib.hid (by rw [← hxk.out hx]; exact fnd_no hdj)
            clear hdj
            go_upto_region 10 with fail
            refine wp_region_rel 6 (by kernel_rfl) (by kernel_rfl) ?_
            simp only [List.take_succ_cons, List.take_zero, List.drop_succ_cons, List.drop_zero]
            (refine rel_fix0 (fun K hK => ?_); go_simp; refine hK _ ?_; clear hK K)
            (refine rel_fix0 (fun K hK => ?_); go_simp; refine hK _ ?_; clear hK K)
            (refine rel_fix0 (fun K hK => ?_); go_simp; refine hK _ ?_; clear hK K)
            (refine rel_fix0 (fun K hK => ?_); go_simp; refine hK _ ?_; clear hK K)
            (refine rel_fix0 (fun K hK => ?_); go_simp; refine hK _ ?_; clear hK K)
            (refine rel_fix0 (fun K hK => ?_); go_simp; refine hK _ ?_; clear hK K)
            refine rel_nil ?_
            intro dq osq
            simp only [relAll]
            have hq := hlx.trans ((below_regrown wr dq osq).mono hlx.size)
            go_wp2_with fail
            go_roundw
            case rel => exact ⟨j + 1, by omega, by go_num, by rw [HF.out], hq⟩
            case measure => simp [intOf]; omega
        · obtain rfl : j = P := by omega
          have HFIN : Hid (fnd (dgt s k) j = if dv (dgt s k) < j then (dv (dgt s k) : Int) else -1) := rfl
          have HJP := Lib.hid HP.out
          have hown2 := Lib.hid (show wr.ownsRow W1.heap.size 5 1 _ (dl size s k).length (Lib.byteCells (dl size s k)) from own_below hown.out hlx)
          have hlo2 : Below W1.heap.size W1 wr := hlo.trans (hlx.mono hlo.size)
          obtain ⟨a1, cap1, hu, -⟩ := id (show Row8 wr _ (dl size s k) from row8_own hown2.out).sh
          subst hu
          have HKS : Hid ((dl size s k).length = k * size) := Lib.hid (dl_len size s k)
          have HRL : Hid ((Lib.byteCells (List.replicate size s[x])).length = size) := Lib.hid (by unfold Lib.byteCells; rw [List.length_map, List.length_replicate])
          have HK4 : k * size ≤ 8000 := Nat.le_trans (Nat.mul_le_mul (show k ≤ 2000 by omega) z2) (by decide)
          rw [HKS.out] at hown2 ⊢
          generalize k * size = Ks at HKS HK4 hown2 ⊢
          by_cases hxc : s[x].toNat = 120
          · have hc120 : ((s[x].toNat : Int) == 120) = true := by rw [hxc]; rfl
            have HDB : Hid (dl size s (k + 1) = dl size s k ++ List.replicate size s[x]) := Lib.hid (by rw [dl_succ, dbl_fill z2 (by rw [← hxk.out hx]; omega), ← hxk.out hx, UInt8.ofNat_toNat])
            have HOK : Hid (∀ q, q < k + 1 → digOk size (dgt s q) = true) := Lib.hid (fun q hq => by
              by_cases hqk : q < k
              · exact hok.out q hqk
              · obtain rfl : q = k := by omega
                rw [← hxk.out hx, hxc]; rfl)
            have HLO : Hid (loo n size s (k + 1) = if Ks < n ∧ n < Ks + size then Ks + size - n else loo n size s k) := Lib.hid (by
              show (if _ then _ else _) = _
              rw [dl_len] at HKS
              rw [HKS.out, ← hxk.out hx]
              have : s[x].toNat = 120 ∨ s[x].toNat = 122 := by omega
              simp only [this, true_and])
            clear hxc
            by_cases hl1 : Ks < n
            · by_cases hl2 : n < Ks + size
              · have HL2 : Hid (loo n size s (k + 1) = Ks + size - n) := Lib.hid (HLO.out.trans (if_pos ⟨hl1, hl2⟩))
                clear HLO
                have hl1i : (Ks : Int) < (n : Int) := by omega
                have hl2i : (n : Int) < (Ks : Int) + (size : Int) := by omega
                go_upto_region 16 with fail
                go_wp2_with fail
                refine (refFill_any size s[x] (by omega) _).mono ?_
                rintro e w2 ⟨r2, rfl, hr2, hb2⟩
                obtain ⟨a2, cap2, rfl, -⟩ := id hr2.sh
                obtain ⟨bl, off, rfl, -, hcs⟩ := row_nth hr2 (k := 0) (by rw [List.length_replicate]; omega)
                have hnews := bytes_news0 hcs
                have hown3 := own_below hown2.out hb2
                have hlo3 := hlo2.trans (hb2.mono hlo2.size)
                have hz3 := hlo3.size
                clear hcs hr2
                rw [List.length_replicate]
                go_wp2_with (at_builtin; refine wpList_append_own _ rfl _ _ 53 rfl W1.heap.size 5 i0 (.int .u8 0) 1 1 Tryz.underlying53 hi hz0 hz1 hz2 rfl (by decide) _ Ks (Lib.byteCells (dl size s k)) rfl (HKS.out ▸ hown3) ⟨bl, off, none⟩ size cap2 (Lib.byteCells (List.replicate size s[x])) rfl (by rw [HRL.out]; omega) (fun q u hq => hnews q u hq) (fun u hu => bytes_one _ u hu) (by unfold maxLen; omega) (by omega) (by omega) ?_; intro v5 w5 hown5 hgr5 _)
                have hown6 : Own8 W1.heap.size w5 v5 (dl size s (k + 1)) := by
                  rw [HDB.out]
                  refine own_join ?_
                  rw [List.length_replicate, HKS.out]
                  exact hown5
                have hlo6 : Below W1.heap.size W1 w5 := hlo3.grown hgr5 hz3 (fun q hq => (hown3.lt q hq).1)
                clear hown5 hgr5 hown3 hnews
                go_wp2_with fail
                go_roundw
                case rel => exact ⟨k + 1, by omega, congrArg (Value.int .i64) (by have := HXE.out; omega), by rw [HL2.out]; exact congrArg (Value.int .i64) (by omega), Lib.hid hown6, hlo6, HOK⟩
                case measure => simp [intOf] <;> omega
              · have HL2 : Hid (loo n size s (k + 1) = loo n size s k) := Lib.hid (HLO.out.trans (if_neg (by omega)))
                clear HLO
                have hl1i : (Ks : Int) < (n : Int) := by omega
                have hl2i : ¬ ((n : Int) < (Ks : Int) + (size : Int)) := by omega
                go_upto_region 16 with fail
                go_wp2_with fail
                refine (refFill_any size s[x] (by omega) _).mono ?_
                rintro e w2 ⟨r2, rfl, hr2, hb2⟩
                obtain ⟨a2, cap2, rfl, -⟩ := id hr2.sh
                obtain ⟨bl, off, rfl, -, hcs⟩ := row_nth hr2 (k := 0) (by rw [List.length_replicate]; omega)
                have hnews := bytes_news0 hcs
                have hown3 := own_below hown2.out hb2
                have hlo3 := hlo2.trans (hb2.mono hlo2.size)
                have hz3 := hlo3.size
                clear hcs hr2
                rw [List.length_replicate]
                go_wp2_with (at_builtin; refine wpList_append_own _ rfl _ _ 53 rfl W1.heap.size 5 i0 (.int .u8 0) 1 1 Tryz.underlying53 hi hz0 hz1 hz2 rfl (by decide) _ Ks (Lib.byteCells (dl size s k)) rfl (HKS.out ▸ hown3) ⟨bl, off, none⟩ size cap2 (Lib.byteCells (List.replicate size s[x])) rfl (by rw [HRL.out]; omega) (fun q u hq => hnews q u hq) (fun u hu => bytes_one _ u hu) (by unfold maxLen; omega) (by omega) (by omega) ?_; intro v5 w5 hown5 hgr5 _)
                have hown6 : Own8 W1.heap.size w5 v5 (dl size s (k + 1)) := by
                  rw [HDB.out]
                  refine own_join ?_
                  rw [List.length_replicate, HKS.out]
                  exact hown5
                have hlo6 : Below W1.heap.size W1 w5 := hlo3.grown hgr5 hz3 (fun q hq => (hown3.lt q hq).1)
                clear hown5 hgr5 hown3 hnews
                go_wp2_with fail
                go_roundw
                case rel => exact ⟨k + 1, by omega, congrArg (Value.int .i64) (by have := HXE.out; omega), by rw [HL2.out], Lib.hid hown6, hlo6, HOK⟩
                case measure => simp [intOf] <;> omega
            · have HL2 : Hid (loo n size s (k + 1) = loo n size s k) := Lib.hid (HLO.out.trans (if_neg (by omega)))
              clear HLO
              have hl1i : ¬ ((Ks : Int) < (n : Int)) := by omega
              go_upto_region 16 with fail
              go_wp2_with fail
              refine (refFill_any size s[x] (by omega) _).mono ?_
              rintro e w2 ⟨r2, rfl, hr2, hb2⟩
              obtain ⟨a2, cap2, rfl, -⟩ := id hr2.sh
              obtain ⟨bl, off, rfl, -, hcs⟩ := row_nth hr2 (k := 0) (by rw [List.length_replicate]; omega)
              have hnews := bytes_news0 hcs
              have hown3 := own_below hown2.out hb2
              have hlo3 := hlo2.trans (hb2.mono hlo2.size)
              have hz3 := hlo3.size
              clear hcs hr2
              rw [List.length_replicate]
              go_wp2_with (at_builtin; refine wpList_append_own _ rfl _ _ 53 rfl W1.heap.size 5 i0 (.int .u8 0) 1 1 Tryz.underlying53 hi hz0 hz1 hz2 rfl (by decide) _ Ks (Lib.byteCells (dl size s k)) rfl (HKS.out ▸ hown3) ⟨bl, off, none⟩ size cap2 (Lib.byteCells (List.replicate size s[x])) rfl (by rw [HRL.out]; omega) (fun q u hq => hnews q u hq) (fun u hu => bytes_one _ u hu) (by unfold maxLen; omega) (by omega) (by omega) ?_; intro v5 w5 hown5 hgr5 _)
              have hown6 : Own8 W1.heap.size w5 v5 (dl size s (k + 1)) := by
                rw [HDB.out]
                refine own_join ?_
                rw [List.length_replicate, HKS.out]
                exact hown5
              have hlo6 : Below W1.heap.size W1 w5 := hlo3.grown hgr5 hz3 (fun q hq => (hown3.lt q hq).1)
              clear hown5 hgr5 hown3 hnews
              go_wp2_with fail
              go_roundw
              case rel => exact ⟨k + 1, by omega, congrArg (Value.int .i64) (by have := HXE.out; omega), by rw [HL2.out], Lib.hid hown6, hlo6, HOK⟩
              case measure => simp [intOf] <;> omega
          · by_cases hxc2 : s[x].toNat = 122
            · have hxc := hxc2
              clear hxc2
              have hc122 : ((s[x].toNat : Int) == 122) = true := by rw [hxc]; rfl
              have hc120 : ((s[x].toNat : Int) == 120) = false := by rw [hxc]; rfl
              have HDB : Hid (dl size s (k + 1) = dl size s k ++ List.replicate size s[x]) := Lib.hid (by rw [dl_succ, dbl_fill z2 (by rw [← hxk.out hx]; omega), ← hxk.out hx, UInt8.ofNat_toNat])
              have HOK : Hid (∀ q, q < k + 1 → digOk size (dgt s q) = true) := Lib.hid (fun q hq => by
                by_cases hqk : q < k
                · exact hok.out q hqk
                · obtain rfl : q = k := by omega
                  rw [← hxk.out hx, hxc]; rfl)
              have HLO : Hid (loo n size s (k + 1) = if Ks < n ∧ n < Ks + size then Ks + size - n else loo n size s k) := Lib.hid (by
                show (if _ then _ else _) = _
                rw [dl_len] at HKS
                rw [HKS.out, ← hxk.out hx]
                have : s[x].toNat = 120 ∨ s[x].toNat = 122 := by omega
                simp only [this, true_and])
              clear hxc
              by_cases hl1 : Ks < n
              · by_cases hl2 : n < Ks + size
                · have HL2 : Hid (loo n size s (k + 1) = Ks + size - n) := Lib.hid (HLO.out.trans (if_pos ⟨hl1, hl2⟩))
                  clear HLO
                  have hl1i : (Ks : Int) < (n : Int) := by omega
                  have hl2i : (n : Int) < (Ks : Int) + (size : Int) := by omega
                  go_upto_region 16 with fail
                  go_wp2_with fail
                  refine (refFill_any size s[x] (by omega) _).mono ?_
                  rintro e w2 ⟨r2, rfl, hr2, hb2⟩
                  obtain ⟨a2, cap2, rfl, -⟩ := id hr2.sh
                  obtain ⟨bl, off, rfl, -, hcs⟩ := row_nth hr2 (k := 0) (by rw [List.length_replicate]; omega)
                  have hnews := bytes_news0 hcs
                  have hown3 := own_below hown2.out hb2
                  have hlo3 := hlo2.trans (hb2.mono hlo2.size)
                  have hz3 := hlo3.size
                  clear hcs hr2
                  rw [List.length_replicate]
                  go_wp2_with (at_builtin; refine wpList_append_own _ rfl _ _ 53 rfl W1.heap.size 5 i0 (.int .u8 0) 1 1 Tryz.underlying53 hi hz0 hz1 hz2 rfl (by decide) _ Ks (Lib.byteCells (dl size s k)) rfl (HKS.out ▸ hown3) ⟨bl, off, none⟩ size cap2 (Lib.byteCells (List.replicate size s[x])) rfl (by rw [HRL.out]; omega) (fun q u hq => hnews q u hq) (fun u hu => bytes_one _ u hu) (by unfold maxLen; omega) (by omega) (by omega) ?_; intro v5 w5 hown5 hgr5 _)
                  have hown6 : Own8 W1.heap.size w5 v5 (dl size s (k + 1)) := by
                    rw [HDB.out]
                    refine own_join ?_
                    rw [List.length_replicate, HKS.out]
                    exact hown5
                  have hlo6 : Below W1.heap.size W1 w5 := hlo3.grown hgr5 hz3 (fun q hq => (hown3.lt q hq).1)
                  clear hown5 hgr5 hown3 hnews
                  go_wp2_with fail
                  go_roundw
                  case rel => exact ⟨k + 1, by omega, congrArg (Value.int .i64) (by have := HXE.out; omega), by rw [HL2.out]; exact congrArg (Value.int .i64) (by omega), Lib.hid hown6, hlo6, HOK⟩
                  case measure => simp [intOf] <;> omega
                · have HL2 : Hid (loo n size s (k + 1) = loo n size s k) := Lib.hid (HLO.out.trans (if_neg (by omega)))
                  clear HLO
                  have hl1i : (Ks : Int) < (n : Int) := by omega
                  have hl2i : ¬ ((n : Int) < (Ks : Int) + (size : Int)) := by omega
                  go_upto_region 16 with fail
                  go_wp2_with fail
                  refine (refFill_any size s[x] (by omega) _).mono ?_
                  rintro e w2 ⟨r2, rfl, hr2, hb2⟩
                  obtain ⟨a2, cap2, rfl, -⟩ := id hr2.sh
                  obtain ⟨bl, off, rfl, -, hcs⟩ := row_nth hr2 (k := 0) (by rw [List.length_replicate]; omega)
                  have hnews := bytes_news0 hcs
                  have hown3 := own_below hown2.out hb2
                  have hlo3 := hlo2.trans (hb2.mono hlo2.size)
                  have hz3 := hlo3.size
                  clear hcs hr2
                  rw [List.length_replicate]
                  go_wp2_with (at_builtin; refine wpList_append_own _ rfl _ _ 53 rfl W1.heap.size 5 i0 (.int .u8 0) 1 1 Tryz.underlying53 hi hz0 hz1 hz2 rfl (by decide) _ Ks (Lib.byteCells (dl size s k)) rfl (HKS.out ▸ hown3) ⟨bl, off, none⟩ size cap2 (Lib.byteCells (List.replicate size s[x])) rfl (by rw [HRL.out]; omega) (fun q u hq => hnews q u hq) (fun u hu => bytes_one _ u hu) (by unfold maxLen; omega) (by omega) (by omega) ?_; intro v5 w5 hown5 hgr5 _)
                  have hown6 : Own8 W1.heap.size w5 v5 (dl size s (k + 1)) := by
                    rw [HDB.out]
                    refine own_join ?_
                    rw [List.length_replicate, HKS.out]
                    exact hown5
                  have hlo6 : Below W1.heap.size W1 w5 := hlo3.grown hgr5 hz3 (fun q hq => (hown3.lt q hq).1)
                  clear hown5 hgr5 hown3 hnews
                  go_wp2_with fail
                  go_roundw
                  case rel => exact ⟨k + 1, by omega, congrArg (Value.int .i64) (by have := HXE.out; omega), by rw [HL2.out], Lib.hid hown6, hlo6, HOK⟩
                  case measure => simp [intOf] <;> omega
              · have HL2 : Hid (loo n size s (k + 1) = loo n size s k) := Lib.hid (HLO.out.trans (if_neg (by omega)))
                clear HLO
                have hl1i : ¬ ((Ks : Int) < (n : Int)) := by omega
                go_upto_region 16 with fail
                go_wp2_with fail
                refine (refFill_any size s[x] (by omega) _).mono ?_
                rintro e w2 ⟨r2, rfl, hr2, hb2⟩
                obtain ⟨a2, cap2, rfl, -⟩ := id hr2.sh
                obtain ⟨bl, off, rfl, -, hcs⟩ := row_nth hr2 (k := 0) (by rw [List.length_replicate]; omega)
                have hnews := bytes_news0 hcs
                have hown3 := own_below hown2.out hb2
                have hlo3 := hlo2.trans (hb2.mono hlo2.size)
                have hz3 := hlo3.size
                clear hcs hr2
                rw [List.length_replicate]
                go_wp2_with (at_builtin; refine wpList_append_own _ rfl _ _ 53 rfl W1.heap.size 5 i0 (.int .u8 0) 1 1 Tryz.underlying53 hi hz0 hz1 hz2 rfl (by decide) _ Ks (Lib.byteCells (dl size s k)) rfl (HKS.out ▸ hown3) ⟨bl, off, none⟩ size cap2 (Lib.byteCells (List.replicate size s[x])) rfl (by rw [HRL.out]; omega) (fun q u hq => hnews q u hq) (fun u hu => bytes_one _ u hu) (by unfold maxLen; omega) (by omega) (by omega) ?_; intro v5 w5 hown5 hgr5 _)
                have hown6 : Own8 W1.heap.size w5 v5 (dl size s (k + 1)) := by
                  rw [HDB.out]
                  refine own_join ?_
                  rw [List.length_replicate, HKS.out]
                  exact hown5
                have hlo6 : Below W1.heap.size W1 w5 := hlo3.grown hgr5 hz3 (fun q hq => (hown3.lt q hq).1)
                clear hown5 hgr5 hown3 hnews
                go_wp2_with fail
                go_roundw
                case rel => exact ⟨k + 1, by omega, congrArg (Value.int .i64) (by have := HXE.out; omega), by rw [HL2.out], Lib.hid hown6, hlo6, HOK⟩
                case measure => simp [intOf] <;> omega
            · have hc120 : ((s[x].toNat : Int) == 120) = false := beq_eq_false_iff_ne.2 (by omega)
              have hc122 : ((s[x].toNat : Int) == 122) = false := beq_eq_false_iff_ne.2 (by omega)
              have HC1 : Hid (dgt s k ≠ 120 ∧ dgt s k ≠ 122) := Lib.hid (by rw [← hxk.out hx]; exact ⟨hxc, hxc2⟩)
              clear hxc hxc2
              by_cases hdv : dv (dgt s k) < j
              · have hfn : fnd (dgt s k) j = (dv (dgt s k) : Int) := HFIN.out.trans (if_pos hdv)
                rw [hfn]
                have HJ2 : Hid (j = 2 ^ size) := HJP
                have HLO : Hid (loo n size s (k + 1) = loo n size s k) := Lib.hid (if_neg (fun h => h.1.elim HC1.out.1 HC1.out.2))
                have HOK : Hid (∀ q, q < k + 1 → digOk size (dgt s q) = true) := Lib.hid (fun q hq => by
                  by_cases hqk : q < k
                  · exact hok.out q hqk
                  · obtain rfl : q = k := by omega
                    unfold digOk
                    rw [← HJ2.out]
                    simp [hdv])
                have HST : Hid (∀ m, m < size → (st (dbits size (dgt s k)) m).toNat = 48 + dv (dgt s k) / 2 ^ m % 2) := Lib.hid (fun m hm => st_bit ⟨size, by omega⟩ ⟨dgt s k, by rw [← hxk.out hx]; omega⟩ ⟨m, by omega⟩ HC1.out.1 HC1.out.2 (by show _ < 2 ^ size; rw [← HJ2.out]; exact hdv) hm)
                have hd16 : dv (dgt s k) < 16 := by omega
                have HDS : Hid (dl size s (k + 1) = dl size s k ++ dbl size (dgt s k) size) := Lib.hid (dl_succ size s k)
                clear hfn hdv HFIN
                generalize dv (dgt s k) = d at HST hd16 ⊢
                have hd0 : (0 : Int) ≤ (d : Int) := by omega
                go_upto_block 4 with fail
                go_wp2_with fail
                go_loopw [8, 75] (fun u m wx => ∃ m' : Nat, m' ≤ size ∧ m = .int .i64 m' ∧ Hid (Own8 W1.heap.size wx u (dl size s k ++ dbl size (dgt s k) m')) ∧ Below W1.heap.size W1 wx) (fun _ m _ => size - (intOf m).toNat)
                case atStart => exact ⟨0, Nat.zero_le _, rfl, Lib.hid (by show Own8 _ _ _ (dl size s k ++ []); rw [List.append_nil]; unfold Own8; rw [HKS.out]; exact hown2.out), hlo2⟩
                case round =>
                  obtain ⟨m, hm, rfl, hownm, hlom⟩ := hrel
                  by_cases hml : m < size
                  · have hm4 : m < 4 := by omega
                    have hm0 : (0 : Int) ≤ (m : Int) := by omega
                    have hbit : wrap64 (48 + bits BinOp.and IntKind.i64 ((d : Int) / 2 ^ m) 1) % 256 = ((st (dbits size (dgt s k)) m).toNat : Int) := by rw [HST.out m hml]; exact bit_val ⟨d, hd16⟩ ⟨m, hm4⟩
                    have HCC : Hid (Lib.byteCells (dl size s k ++ dbl size (dgt s k) (m + 1)) = Lib.byteCells (dl size s k ++ dbl size (dgt s k) m) ++ [Value.int .u8 ((st (dbits size (dgt s k)) m).toNat : Int)] ∧ (dl size s k ++ dbl size (dgt s k) (m + 1)).length = (dl size s k ++ dbl size (dgt s k) m).length + 1) := Lib.hid (by
                      rw [dbl_succ, ← List.append_assoc]
                      generalize dl size s k ++ dbl size (dgt s k) m = l
                      unfold Lib.byteCells; simp)
                    have HLN : Hid ((dl size s k ++ dbl size (dgt s k) m).length = Ks + m) := Lib.hid (by rw [List.length_append, HKS.out, dbl_len])
                    generalize st (dbits size (dgt s k)) m = z at hbit HCC
                    generalize dl size s k ++ dbl size (dgt s k) m = lm at HCC HLN hownm
                    have hzm := hlom.size
                    go_upto_region 22 with fail
                    go_wp2_with (at_builtin; refine wpList_append_own _ rfl _ _ 53 rfl W1.heap.size 5 i0 (.int .u8 0) 1 1 Tryz.underlying53 hi hz0 hz1 hz2 rfl (by decide) _ _ _ rfl (World.ownsRow.alloc (show wr.ownsRow W1.heap.size 5 1 _ lm.length (Lib.byteCells lm) from hownm.out) _) ⟨wr.heap.size, 0, none⟩ 1 1 [.int .u8 (z.toNat : Int)] rfl rfl ?d1 ?d2 ?d3 ?d4 ?d5 ?_)
                    case d1 =>
                      intro q u hq
                      match q, hq with
                      | 0, hq => simp at hq; subst hq; simp [Addr.add]
                    case d2 => intro u hu; simp at hu; subst hu; rfl
                    case d3 => unfold maxLen; rw [HLN.out]; omega
                    case d4 => rw [HLN.out]; omega
                    case d5 => simp; omega
                    intro v5 w5 hown5 hgr5 _
                    have hown6 : Own8 W1.heap.size w5 v5 (dl size s k ++ dbl size (dgt s k) (m + 1)) := by
                      unfold Own8
                      rw [HCC.out.1, HCC.out.2]
                      exact hown5
                    have hlo6 : Below W1.heap.size W1 w5 := (hlom.alloc hlom.size _).grown hgr5 (by simp; omega) (fun q hq => ((show wr.ownsRow W1.heap.size 5 1 _ lm.length (Lib.byteCells lm) from hownm.out).lt q hq).1)
                    clear hown5 hgr5
                    go_wp2_with fail
                    go_roundw
                    case rel => exact ⟨m + 1, by omega, by go_num, Lib.hid hown6, hlo6⟩
                    case measure => simp [intOf] <;> omega
                  · obtain rfl : m = size := by omega
                    have hown6 := hownm.out
                    rw [← HDS.out] at hown6
                    go_upto_region 5 with fail
                    go_wp2_with fail
                    go_roundw
                    case rel => exact ⟨k + 1, by omega, congrArg (Value.int .i64) (by have := HXE.out; omega), by rw [HLO.out], Lib.hid hown6, hlom, HOK⟩
                    case measure => simp [intOf] <;> omega
              · have hfn : fnd (dgt s k) j = -1 := HFIN.out.trans (if_neg hdv)
                rw [hfn]
                have HV : Hid (v = bad 10) := Lib.hid (H10.out ⟨k, hlt, by unfold digOk; rw [← HJP.out]; simp [hdv, HC1.out.1, HC1.out.2]⟩)
                clear hdv HFIN hfn hown2
                have hbb : Below w.heap.size w wr := HX.out.2.2.trans (hlo2.mono (by have := HX.out.2.1; omega))
                obtain ⟨r0, r1, r2, rf⟩ := HX.out.1.below hlo2
                have rz := World.block_lt_of_cell? wr _ r0
                go_wp2_with fail
                exact bodyPost_ret (v := bad 10) (by simp [bad, results, Tryz.results56, go_sem, r0, r1, r2, rf, rz]) rfl ⟨by rw [HV.out], by (repeat (first | exact hbb | exact Nat.le_refl _ | refine Below.setCell ?_ ?_ _)) <;> (first | omega | (simp <;> omega))⟩
    · have hke : k = s.size := by omega
      subst hke
      have HKS : Hid ((dl size s s.size).length = s.size * size) := Lib.hid (dl_len size s s.size)
      have HK4 : s.size * size ≤ 8000 := Nat.le_trans (Nat.mul_le_mul hs2 z2) (by decide)
      obtain ⟨a1, cap1, hu, -⟩ := id (show Row8 WR _ (dl size s s.size) from row8_own hown.out).sh
      subst hu
      rw [HKS.out] at hown ⊢
      generalize s.size * size = KN at HKS HK4 hown ⊢
      have hm1 : (s.size : Int) - 1 - (s.size : Int) = -1 := by omega
      rw [hm1]
      by_cases hw : 64 < n
      · have HV : Hid (v = bad 2) := Lib.hid (H2.out hok.out hw)
        have hwi : (64 : Int) < (n : Int) := by omega
        clear hw
        have hbb : Below w.heap.size w WR := HX.out.2.2.trans (hlo.mono (by have := HX.out.2.1; omega))
        obtain ⟨r0, r1, r2, rf⟩ := HX.out.1.below hlo
        have rz := World.block_lt_of_cell? WR _ r0
        go_wp2_with fail
        exact bodyPost_ret (v := bad 2) (by simp [bad, results, Tryz.results56, go_sem, r0, r1, r2, rf, rz]) rfl ⟨by rw [HV.out], by (repeat (first | exact hbb | exact Nat.le_refl _ | refine Below.setCell ?_ ?_ _)) <;> (first | omega | (simp <;> omega))⟩
      · have hwi : ¬ ((64 : Int) < (n : Int)) := by omega
        go_upto_region 27 with fail
        go_cut [98] (fun b wx => b = .bool (decide (s[0].toNat = 120 ∨ s[0].toNat = 122)) ∧ Hid (Own8 W1.heap.size wx (.slice a1 KN cap1) (dl size s s.size)) ∧ Below W1.heap.size W1 wx)
        case first =>
          by_cases c1 : s[0].toNat = 120
          · have t1 : ((s[0].toNat : Int) == 120) = true := by rw [c1]; rfl
            have HF : Hid (true = decide (s[0].toNat = 120 ∨ s[0].toNat = 122)) := Lib.hid (decide_eq_true (.inl c1)).symm
            clear c1
            go_wp2_with fail
            go_meet
            exact ⟨by rw [← HF.out], hown, hlo⟩
          · by_cases c2 : s[0].toNat = 122
            · have t1 : ((s[0].toNat : Int) == 120) = false := by rw [c2]; rfl
              have t2 : ((s[0].toNat : Int) == 122) = true := by rw [c2]; rfl
              have HF : Hid (true = decide (s[0].toNat = 120 ∨ s[0].toNat = 122)) := Lib.hid (decide_eq_true (.inr c2)).symm
              clear c1 c2
              go_wp2_with fail
              go_meet
              exact ⟨by rw [← HF.out], hown, hlo⟩
            · have t1 : ((s[0].toNat : Int) == 120) = false := beq_eq_false_iff_ne.2 (by omega)
              have t2 : ((s[0].toNat : Int) == 122) = false := beq_eq_false_iff_ne.2 (by omega)
              have HF : Hid (false = decide (s[0].toNat = 120 ∨ s[0].toNat = 122)) := Lib.hid (decide_eq_false (fun h => h.elim c1 c2)).symm
              clear c1 c2
              go_wp2_with fail
              go_meet
              exact ⟨by rw [← HF.out], hown, hlo⟩
        case rest =>
        obtain ⟨rfl, hownc, hloc⟩ := hcut
        clear hown hlo
        go_upto_if 98 with fail
        go_cut [14] (fun f wx => f = .int .u8 ((fst_ s).toNat : Int) ∧ Hid (Own8 W1.heap.size wx (.slice a1 KN cap1) (dl size s s.size)) ∧ Below W1.heap.size W1 wx)
        case first =>
          have hf := dgt_first s hs
          by_cases c1 : s[0].toNat = 120 ∨ s[0].toNat = 122
          · have HF : Hid (((fst_ s).toNat : Int) = (s[0].toNat : Int)) := Lib.hid (by
              unfold fst_; rw [hf]
              rcases c1 with c1 | c1 <;> rw [c1] <;> rfl)
            rw [decide_eq_true c1]
            clear c1 hf
            go_wp2_with fail
            go_meet
            exact ⟨by rw [HF.out], hownc, hloc⟩
          · have HF : Hid (((fst_ s).toNat : Int) = 48) := Lib.hid (by unfold fst_; rw [hf, if_neg (fun h => c1 (.inl h)), if_neg (fun h => c1 (.inr h))]; rfl)
            rw [decide_eq_false c1]
            clear c1 hf
            go_wp2_with fail
            go_meet
            exact ⟨by rw [HF.out], hownc, hloc⟩
        case rest =>
        clear hownc hloc
        obtain ⟨rfl, hownc, hloc⟩ := hcut
        have HFF : Hid (ful n size s = dl size s s.size ++ List.replicate (n - KN) (fst_ s)) := Lib.hid (by unfold ful; rw [← dl_len size s s.size, HKS.out])
        have HFL : Hid ((ful n size s).length = max n KN) := Lib.hid (by rw [ful_len, ← dl_len size s s.size, HKS.out])
        generalize fst_ s = f at HFF ⊢
        go_upto_block 6 with fail
        go_wp2_with fail
        go_loopw [8] (fun u wx => ∃ (L : Nat) (a : Option Addr) (cap : Nat), KN ≤ L ∧ L ≤ max n KN ∧ u = .slice a L cap ∧ Hid (Own8 W1.heap.size wx u (dl size s s.size ++ List.replicate (L - KN) f)) ∧ Below W1.heap.size W1 wx) (fun u _ => n - slen u)
        case atStart => exact ⟨KN, _, _, Nat.le_refl _, by omega, rfl, by rw [Nat.sub_self]; show Hid (Own8 _ _ _ (_ ++ [])); rw [List.append_nil]; exact hownc, hloc⟩
        case round =>
          obtain ⟨L, a, cap, hKL, hLm, rfl, hownL, hloL⟩ := hrel
          have HLL : Hid ((dl size s s.size ++ List.replicate (L - KN) f).length = L) := Lib.hid (by rw [List.length_append, HKS.out, List.length_replicate]; omega)
          by_cases hlt : L < n
          · have HCC : Hid (Lib.byteCells (dl size s s.size ++ List.replicate (L + 1 - KN) f) = Lib.byteCells (dl size s s.size ++ List.replicate (L - KN) f) ++ [Value.int .u8 (f.toNat : Int)] ∧ (dl size s s.size ++ List.replicate (L + 1 - KN) f).length = L + 1) := Lib.hid (by
              rw [show L + 1 - KN = (L - KN) + 1 by omega, List.replicate_succ', ← List.append_assoc]
              refine ⟨by unfold Lib.byteCells; rw [List.map_append]; rfl, ?_⟩
              rw [List.length_append, HLL.out]; rfl)
            generalize dl size s s.size ++ List.replicate (L - KN) f = lm at HCC HLL hownL
            have howL : wr.ownsRow W1.heap.size 5 1 (.slice a L cap) L (Lib.byteCells lm) := own_k hownL.out HLL.out (Nat.le_refl _)
            have hzm := hloL.size
            go_wp2_with (at_builtin; refine wpList_append_own _ rfl _ _ 53 rfl W1.heap.size 5 i0 (.int .u8 0) 1 1 Tryz.underlying53 hi hz0 hz1 hz2 rfl (by decide) _ L (Lib.byteCells lm) rfl (World.ownsRow.alloc howL _) ⟨wr.heap.size, 0, none⟩ 1 1 [.int .u8 (f.toNat : Int)] rfl rfl ?d1 ?d2 ?d3 ?d4 ?d5 ?_)
            case d1 =>
              intro q u hq
              match q, hq with
              | 0, hq => simp at hq; subst hq; simp [Addr.add]
            case d2 => intro u hu; simp at hu; subst hu; rfl
            case d3 => unfold maxLen; omega
            case d4 => omega
            case d5 => simp; omega
            intro v5 w5 hown5 hgr5 _
            have hown6 : Own8 W1.heap.size w5 v5 (dl size s s.size ++ List.replicate (L + 1 - KN) f) := by
              unfold Own8
              rw [HCC.out.1, HCC.out.2]
              exact hown5
            have hlo6 : Below W1.heap.size W1 w5 := (hloL.alloc hloL.size _).grown hgr5 (by simp; omega) (fun q hq => (howL.lt q hq).1)
            obtain ⟨a5, cap5, hu5, -⟩ := id (show Row8 w5 _ _ from row8_own hown6).sh
            rw [HCC.out.2] at hu5
            subst hu5
            clear hown5 hgr5
            go_wp2_with fail
            go_roundw
            case rel => exact ⟨L + 1, a5, cap5, by omega, by omega, rfl, Lib.hid hown6, hlo6⟩
            case measure => simp [slen] <;> omega
          · have hLe : L = max n KN := by omega
            have hful : dl size s s.size ++ List.replicate (L - KN) f = ful n size s := by rw [HFF.out, show L - KN = n - KN by omega]
            rw [hful] at hownL
            have hrow : Row8 wr (.slice a L cap) (ful n size s) := row8_own hownL.out
            have hcp := hrow.cp _ _ _ rfl
            obtain ⟨bl, off, rfl, -, hcs⟩ := row_nth hrow (k := 0) (by rw [HFL.out]; omega)
            have HROW := Lib.hid hrow
            have HCS := Lib.hid hcs
            have HLO := Lib.hid (show loo n size s s.size = loo n size s s.size from rfl)
            have hlb := loo_le (n := n) (size := size) s s.size
            have hLg : (ful n size s).length = L := by rw [HFL.out]; omega
            have HLG := Lib.hid hLg
            have hcpn : (n : Int) ≤ (cap : Int) := by omega
            have hn0 : (0 : Int) ≤ (n : Int) := by omega
            have hnL : n ≤ L := by omega
            clear hful hrow hcs HLL hLg hownL
            obtain ⟨lo, hlo⟩ : ∃ lo, loo n size s s.size = lo := ⟨_, rfl⟩
            rw [hlo] at hlb ⊢
            have HL1 := Lib.hid hlo
            clear hlo HLO
            go_upto_block 8 with fail
            go_wp2_with fail
            go_loop [15] (fun i => ∃ q : Nat, n + lo ≤ q ∧ (q ≤ L ∨ q = n + lo) ∧ i = .int .i64 q ∧ Hid (∀ p (hp : p < (ful n size s).length), n + lo ≤ p → p < q → (ful n size s)[p] = 48)) (fun i => L - (intOf i).toNat)
            case atStart => exact ⟨n + lo, Nat.le_refl _, .inr rfl, by simp, Lib.hid (fun p hp h1 h2 => absurd h1 (by omega))⟩
            case round =>
              obtain ⟨q, hq1, hq2, rfl, hall⟩ := hrel
              by_cases hql : q < L
              · have hqF : q < (ful n size s).length := by rw [HLG.out]; exact hql
                have hc0 := HCS.out q hqF
                have hq0 : (0 : Int) ≤ (q : Int) := by omega
                have hqi : (q : Int) < (L : Int) := by omega
                by_cases hz : (ful n size s)[q] = 48
                · have hzz : (((ful n size s)[q].toNat : Int) == 48) = true := by rw [hz]; rfl
                  have HALL : Hid (∀ p (hp : p < (ful n size s).length), n + lo ≤ p → p < q + 1 → (ful n size s)[p] = 48) := Lib.hid (fun p hp h1 h2 => by
                    by_cases hpq : p < q
                    · exact hall.out p hp h1 hpq
                    · obtain rfl : p = q := by omega
                      exact hz)
                  clear hz
                  generalize (ful n size s)[q] = z at hc0 hzz
                  go_wp2_with fail
                  go_round
                  case rel => exact ⟨q + 1, by omega, .inl (by omega), by go_num, HALL⟩
                  case measure => simp [intOf] <;> omega
                · have hzz : (((ful n size s)[q].toNat : Int) == 48) = false := beq_eq_false_iff_ne.2 (fun e => hz (UInt8.toNat_inj.1 (by simpa using Int.ofNat_inj.1 e)))
                  have HV : Hid (v = bad 3) := Lib.hid (H3.out (by omega) hok.out (ful_large z1 z2 s (by rw [HL1.out]; exact hq1) hqF hz))
                  clear hz
                  generalize (ful n size s)[q] = z at hc0 hzz
                  have hbb : Below w.heap.size w wr := HX.out.2.2.trans (hloL.mono (by have := HX.out.2.1; omega))
                  obtain ⟨r0, r1, r2, rf⟩ := HX.out.1.below hloL
                  have rz := World.block_lt_of_cell? wr _ r0
                  go_wp2_with fail
                  exact bodyPost_ret (v := bad 3) (by simp [bad, results, Tryz.results56, go_sem, r0, r1, r2, rf, rz]) rfl ⟨by rw [HV.out], by (repeat (first | exact hbb | exact Nat.le_refl _ | refine Below.setCell ?_ ?_ _)) <;> (first | omega | (simp <;> omega))⟩
              · have HV : Hid (v = good n (rdB n size s s.size)) := Lib.hid (H0.out (by omega) hok.out (ful_fine z1 z2 s (fun p hp h => hall.out p hp (by rw [← HL1.out]; exact h) (by rw [HLG.out] at hp; omega))))
                have hqi : ¬ ((q : Int) < (L : Int)) := by omega
                have hbb : Below w.heap.size w wr := HX.out.2.2.trans (hloL.mono (by have := HX.out.2.1; omega))
                have hn64 : n ≤ 64 := by omega
                go_upto_region 36 with fail
                go_wp2_with fail
                refine (refB_is _ ((ful n size s).take n) _ (ful_B h1 hn64 z2 s) (by rw [List.length_take]; omega) _ (row8_take HROW.out hnL)).mono ?_
                rintro e w7 ⟨rfl, hb7⟩
                obtain ⟨r0, r1, r2, rf⟩ := (HX.out.1.below hloL).below hb7
                have rz := World.block_lt_of_cell? w7 _ r0
                have hbb7 := hbb.trans (hb7.mono hbb.size)
                generalize (rdB n size s s.size) = R at HV ⊢
                go_wp2_with fail
                exact bodyPost_ret (v := good n R) (by simp [good, results, Tryz.results56, go_sem, r0, r1, r2, rf, rz]) rfl ⟨by rw [HV.out], by (repeat (first | exact hbb7 | exact Nat.le_refl _ | refine Below.setCell ?_ ?_ _)) <;> (first | omega | (simp <;> omega))⟩
end Go.Proofs.YtfnkablbcalclaaGreatDoor
namespace Go.Proofs.YtfnkablbcalclaaGreatDoor
open Go Go.RowKit
set_option linter.unusedVariables false
theorem mapT : Tryz.prog.underlying 66 = some (.map 5 3) := by kernel_rfl
theorem keyT : Tryz.prog.underlying 5 = some (.int .u8) := by kernel_rfl
theorem set_alloc (W : World) (o o' : Obj) : ({ W.alloc o with heap := (W.alloc o).heap.setIfInBounds W.heap.size o' } : World) = W.alloc o' := by
  show ({ W with heap := (W.heap.push o).setIfInBounds W.heap.size o' } : World) = { W with heap := W.heap.push o' }
  congr 1
  apply Array.ext_getElem?
  intro i
  by_cases h : i = W.heap.size
  · subst h; simp
  · rw [Array.getElem?_setIfInBounds_ne (by omega), Array.getElem?_push, Array.getElem?_push]
    simp [h]
theorem ins_map (W : World) (es : Array MapEntry) (clock : Nat) (c : Int) (x : Value) (hf : Instr.findNow (.int .u8) (.int .u8 c) es.toList 0 = some none) :
    (Instr.mapUpdate 66 (.map (some W.heap.size)) (.int .u8 c) x).run Tryz.prog (W.alloc (.map es clock)) = .ok () (W.alloc (.map (es.push ⟨.int .u8 c, x, clock⟩) (clock + 1))) := by
  have hb := (MapKept.heap_alloc W (.map es clock)).1
  refine Eq.trans ?_ (congrArg (Result.ok ()) (set_alloc W (.map es clock) (.map (es.push ⟨.int .u8 c, x, clock⟩) (clock + 1))))
  simp [Instr.mapUpdate, run_underlying mapT, MapKept.run_getObj_map hb, MapKept.run_checkKey keyT (show MapKept.IsKey (.int .u8) (.int .u8 c) from rfl), MapKept.run_findKey keyT hf, MapKept.run_setObj_map _ hb, Result.andThen]
def bases : Array MapEntry := #[⟨.int .u8 98, .int .i64 1, 0⟩, ⟨.int .u8 111, .int .i64 3, 1⟩, ⟨.int .u8 104, .int .i64 4, 2⟩, ⟨.int .u8 100, .int .i64 99, 3⟩]
def mz (c : Int) : Nat := if c = 98 then 1 else if c = 111 then 3 else if c = 104 then 4 else if c = 100 then 99 else 0
theorem look_map (W : World) (c : Int) : (Instr.lookup 66 (.map (some W.heap.size)) (.int .u8 c) false).run Tryz.prog (W.alloc (.map bases 4)) = .ok (.int .i64 (mz c : Nat)) (W.alloc (.map bases 4)) := by
  have hb := (MapKept.heap_alloc W (.map bases 4)).1
  have hz : (zeroValue 3).run Tryz.prog (W.alloc (.map bases 4)) = .ok (.int .i64 0) (W.alloc (.map bases 4)) := by kernel_rfl
  have fin : ∀ a : Option (Nat × Value), Instr.findNow (.int .u8) (.int .u8 c) bases.toList 0 = some a → (match a with | some (_, v) => v | none => Value.int .i64 0) = .int .i64 (mz c : Nat) → (Instr.lookup 66 (.map (some W.heap.size)) (.int .u8 c) false).run Tryz.prog (W.alloc (.map bases 4)) = .ok (.int .i64 (mz c : Nat)) (W.alloc (.map bases 4)) := by
    intro a ha hv
    have hfk := MapKept.run_findKey (P := Tryz.prog) (w := W.alloc (.map bases 4)) keyT ha
    cases a with
    | none => simp [Instr.lookup, run_underlying mapT, MapKept.run_getObj_map hb, MapKept.run_checkKey keyT (show MapKept.IsKey (.int .u8) (.int .u8 c) from rfl), hfk, hz, Result.andThen]; simpa using hv
    | some p => simp [Instr.lookup, run_underlying mapT, MapKept.run_getObj_map hb, MapKept.run_checkKey keyT (show MapKept.IsKey (.int .u8) (.int .u8 c) from rfl), hfk, Result.andThen]; exact hv
  by_cases h1 : c = 98
  · subst h1; exact fin _ rfl rfl
  · by_cases h2 : c = 111
    · subst h2; exact fin _ rfl rfl
    · by_cases h3 : c = 104
      · subst h3; exact fin _ rfl rfl
      · by_cases h4 : c = 100
        · subst h4; exact fin _ rfl rfl
        · refine fin none ?_ (by unfold mz; rw [if_neg h1, if_neg h2, if_neg h3, if_neg h4]; rfl)
          simp [Instr.findNow, Instr.sameNow, bases, beq_eq_false_iff_ne.2 h1, beq_eq_false_iff_ne.2 h2, beq_eq_false_iff_ne.2 h3, beq_eq_false_iff_ne.2 h4]
end Go.Proofs.YtfnkablbcalclaaGreatDoor
