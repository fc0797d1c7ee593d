/- The reference's taken: the class of each kid. -/
import Derived.Test.YtpjnjcljaoaceaaSyTkM
import Derived.Test.YtpjnjcljaoaceaaSyNode
import Derived.Test.YtpjnjcljaoaceaaSyRfl
namespace Go.Proofs.Ytpjnjcljaoaceaa
open Go Go.RowKit Go.Sort
set_option linter.unusedVariables false
def oneB (c : UInt8) : ByteArray := bs [c]
theorem OS.form {w : World} {B : Nat} {v : Value} {l : List ByteArray} (h : OS B w v l) : ∃ a cap, v = .slice a l.length cap := by
  rcases h.2 with ⟨h1, h0⟩ | ⟨g, cap, cur, hv, _⟩
  · exact ⟨none, 0, by rw [h1, h0]⟩
  · exact ⟨_, _, hv⟩
theorem OS.block {w : World} {B : Nat} {v : Value} {l : List ByteArray} (h : OS B w v l) : ∀ q, v.ownBlock = some q → B ≤ q ∧ q < w.heap.size := fun q hq => World.ownsRow.lt (show w.ownsRow B 9 1 v l.length (l.map Value.string) from h) q hq
theorem fitN_eq (c mk : UInt8) (j : Nat) (k : Int) : fitN c mk j k = if ((mk == 42) || (mk == 43)) = true then bel k c else (decide (j = 0) && (k != 0 || (mk == 63))) := by
  unfold fitN
  by_cases h : mk = 42 ∨ mk = 43
  · rw [if_pos h, if_pos (by simpa using h)]
  · rw [if_neg h, if_neg (by simpa using h)]
theorem dash_len (m : Nat) (hm : m < 122) : (dash (formO (m : Int)).1).length ≤ 1000000 := by
  rw [formO_at m hm]
  have h := (form_len_le ⟨m, hm⟩).1
  simp only at h
  unfold dash
  split
  · simp
  · omega
theorem u8_eq (m : UInt8) (n : Nat) (h : n < 256) : (((m.toNat : Nat) : Int) == (n : Int)) = (m == UInt8.ofNat n) := by
  by_cases e : m = UInt8.ofNat n
  · rw [e]
    have : (UInt8.ofNat n).toNat = n := by simp; omega
    rw [this]
    simp
  · have h2 : ¬ ((m.toNat : Nat) : Int) = (n : Int) := by
      intro h3
      apply e
      apply UInt8.toNat_inj.1
      simp
      omega
    rw [beq_eq_false_iff_ne.2 h2, beq_eq_false_iff_ne.2 e]
theorem isMark_fin : ∀ m : Fin 256, (((if isMark (UInt8.ofNat m.1) = true then UInt8.ofNat m.1 else 0) != 0) = ((UInt8.ofNat m.1 == 42) || ((UInt8.ofNat m.1 == 43) || (UInt8.ofNat m.1 == 63)))) := by decide +kernel
theorem mark_is (m : UInt8) (r : List UInt8) : ((markN (m :: r)).1 != 0) = ((m == 42) || ((m == 43) || (m == 63))) := by
  have h := isMark_fin ⟨m.toNat, m.toNat_lt⟩
  simp only [UInt8.ofNat_toNat] at h
  rw [← h]
  show ((if isMark m = true then (m, r) else ((0 : UInt8), m :: r)).1 != 0) = _
  split <;> rfl
theorem mark_true {q : List UInt8} (h : ((markN q).1 != 0) = true) : ∃ m r, q = m :: r ∧ markN q = (m, r) ∧ m ≠ 0 := by
  cases q with
  | nil => exact absurd h (by decide)
  | cons m r =>
    by_cases hm : isMark m = true
    · have e := markN_yes (r := r) hm
      rw [e] at h
      exact ⟨m, r, rfl, e, by simpa using h⟩
    · have e := markN_no (r := r) (by simpa using hm)
      rw [e] at h
      simp at h
theorem mark_false {q : List UInt8} (h : ((markN q).1 != 0) = false) : markN q = (0, q) := by
  cases q with
  | nil => rfl
  | cons m r =>
    by_cases hm : isMark m = true
    · have e := markN_yes (r := r) hm
      rw [e] at h
      have h0 : m = 0 := by simpa using h
      subst h0
      exact absurd hm (by decide)
    · exact markN_no (r := r) (by simpa using hm)
set_option maxRecDepth 100000 in
set_option maxHeartbeats 4000000 in
theorem rtaken_any (P : List UInt8) (ks : List Nd) (a : Option Addr) (cap gt ct : Nat) (hct : 122 ≤ ct) (hl : ks.length ≤ 1000000) (hP : ∀ x ∈ P, x ≠ 45) (w : World) (hT : TAB w gt) (hr : Row w a cap ks) : Calls Try.prog 18 #[.slice (some ⟨gt, 0, none⟩) 122 ct, .string (bs P), .slice a ks.length cap] w fun e w' => ∃ v, e = .returned (.tuple #[v, .bool (mt P ks).isSome]) ∧ (∀ l, mt P ks = some l → OS w.heap.size w' v (l.map oneB)) ∧ Below w.heap.size w w' := by
  obtain ⟨i0, hi, hz0, hz1, hz2⟩ := infoS_parts
  have hrow := Lib.hid hr
  have HT := Lib.hid hT
  have hcap := hr.1
  clear hr hT
  go_enter Try.func18, Try.ntmps18
  go_wp2_with fail
  go_loopg [1, 8] P.length (fun g x v wr => ∃ (p l : List UInt8), x = .string (bs p) ∧ p.length ≤ g ∧ l.length ≤ ks.length ∧ Hid (OS w.heap.size wr v (l.map oneB)) ∧ Below w.heap.size w wr ∧ Hid (mt P ks = (mt p (ks.drop l.length)).map (l ++ ·)) ∧ Hid (∀ x ∈ p, x ≠ 45))
  case atStart => exact ⟨P, [], rfl, Nat.le_refl _, Nat.zero_le _, Lib.hid (World.ownsRow_nil _ _ _ _), Below.refl _ _, Lib.hid (by simp), Lib.hid hP⟩
  case round =>
    rename World => WR
    obtain ⟨p, l, rfl, hg, hll, hown, hlo, HM, H45⟩ := hrel
    clear hP
    obtain ⟨av, cv, hv⟩ := hown.out.form
    rw [List.length_map] at hv
    subst hv
    cases p with
    | nil =>
      rw [show bs [] = ⟨#[]⟩ from rfl]
      by_cases he : l.length = ks.length
      · have hq : ((l.length : Int) == (ks.length : Int)) = true := by rw [he]; exact beq_self_eq_true _
        have hm : mt P ks = some l := by rw [HM.out, mt_nil, if_pos (by rw [he, List.drop_length])]; simp
        clear he HM
        go_wp2_with fail
        refine bodyPost_ret (v := .tuple #[.slice av l.length cv, .bool true]) (by simp [results, Try.results18, go_sem]) rfl ⟨_, by rw [hm]; rfl, fun l' h' => ?_, hlo⟩
        rw [hm] at h'; cases h'
        exact hown.out
      · have hq : ((l.length : Int) == (ks.length : Int)) = false := beq_eq_false_iff_ne.2 (by omega)
        have hm : mt P ks = none := by rw [HM.out, mt_nil, if_neg (by intro h; have := congrArg List.length h; simp at this; omega)]; rfl
        clear he HM
        go_wp2_with fail
        refine bodyPost_ret (v := .tuple #[.slice av l.length cv, .bool false]) (by simp [results, Try.results18, go_sem]) rfl ⟨_, by rw [hm]; rfl, fun l' h' => ?_, hlo⟩
        rw [hm] at h'; cases h'
    | cons c q =>
      have hB1 : (bs (c :: q)).extract 1 (bs (c :: q)).size = bs q := bs_tail c q
      have hB0 : (bs (c :: q)).extract 0 1 = bs [c] := bs_head c q
      have hBs : 0 < (bs (c :: q)).size := by simp [bs, ByteArray.size]
      have hBn : (bs (c :: q)).toList.isEmpty = false := toL_ne hBs
      have hM := mt_cons c q (ks.drop l.length)
      rw [hM] at HM
      clear hM
      have hc45 := Lib.hid (H45.out c List.mem_cons_self)
      have H45q : Hid (∀ x ∈ (markN q).2, x ≠ 45) := Lib.hid (fun x hx => H45.out x (List.mem_cons_of_mem _ (markN_in q x hx)))
      have hql : Hid ((markN q).2.length < gk) := Lib.hid (by have := markN_le q; simp at hg; omega)
      clear hg H45
      generalize bs (c :: q) = B at *
      have HOW := Lib.hid hown.out
      have HLO := Lib.hid hlo
      clear hown hlo
      go_upto_region 6 with fail
      go_cut [37] (fun sv wx => sv = .bool ((markN q).1 != 0) ∧ WR = wx)
      case first =>
        clear hB1 hB0 hBs hBn HM H45q hql hc45 HOW HLO
        cases q with
        | nil =>
          rw [show bs [] = ⟨#[]⟩ from rfl]
          go_wp2_with fail
          go_meet
          exact ⟨rfl, rfl⟩
        | cons m r =>
          have hBs : 0 < (bs (m :: r)).size := by simp [bs, ByteArray.size]
          have hBc : (bs (m :: r))[0].toNat = m.toNat := rfl
          have hBn : (bs (m :: r)).toList.isEmpty = false := toL_ne hBs
          have x42 : ((m.toNat : Int) == 42) = (m == 42) := u8_eq m 42 (by decide)
          have x43 : ((m.toNat : Int) == 43) = (m == 43) := u8_eq m 43 (by decide)
          have x63 : ((m.toNat : Int) == 63) = (m == 63) := u8_eq m 63 (by decide)
          have hE : Hid (((markN (m :: r)).1 != 0) = ((m == 42) || ((m == 43) || (m == 63)))) := Lib.hid (mark_is m r)
          generalize bs (m :: r) = B2 at *
          generalize (m == 42) = E1 at *
          generalize (m == 43) = E2 at *
          generalize (m == 63) = E3 at *
          cases E1 <;> cases E2 <;> cases E3
          all_goals
            go_wp2_with fail
            go_meet
            exact ⟨by rw [hE.out]; rfl, rfl⟩
      case rest =>
      obtain ⟨rfl, rfl⟩ := hcut
      go_upto_if 37 with fail
      go_cut [10, 1] (fun m x wx => m = .string (bs (mkS (markN q).1)) ∧ x = .string (bs (markN q).2) ∧ RowKit.Below WR.heap.size WR wx)
      case first =>
        clear hB1 hB0 hBs hBn HM H45q hql hc45 HOW HLO
        cases hE : ((markN q).1 != 0)
        · have hm := Lib.hid (mark_false hE)
          go_wp2_with fail
          go_meet
          exact ⟨by rw [hm.out]; rfl, by rw [hm.out], Below.refl _ _⟩
        · obtain ⟨m, r, rfl, hm, hm0⟩ := mark_true hE
          have hB1 : (bs (m :: r)).extract 1 (bs (m :: r)).size = bs r := bs_tail m r
          have hB0 : (bs (m :: r)).extract 0 1 = bs [m] := bs_head m r
          have hBs : 0 < (bs (m :: r)).size := by simp [bs, ByteArray.size]
          have hS : Hid (mkS m = [m]) := Lib.hid (by unfold mkS; rw [if_neg hm0])
          have hm' := Lib.hid hm
          clear hm hm0
          generalize bs (m :: r) = B2 at *
          generalize hB3 : bs [m] = B3 at *
          generalize hB4 : bs r = B4 at *
          have H3 := Lib.hid hB3
          have H4 := Lib.hid hB4
          clear hB3 hB4
          go_upto_region 7 with fail
          go_region_with fail
          all_goals (go_wp2_with fail; go_meet; exact ⟨by rw [hm'.out, hS.out, H3.out], by rw [hm'.out, H4.out], (Below.refl _ _).drew⟩)
      case rest =>
      obtain ⟨rfl, rfl, hb1⟩ := hcut
      rename World => W2
      clear hB1 hB0 hBs hBn
      have HO2 := Lib.hid (HOW.out.below hb1)
      have HL2 := Lib.hid (HLO.out.trans (hb1.mono HLO.out.size))
      clear HOW HLO hb1
      have e42 := mkS_eq (markN q).1 42 (.inl rfl)
      have e43 := mkS_eq (markN q).1 43 (.inr (.inl rfl))
      have e63 := mkS_eq (markN q).1 63 (.inr (.inr rfl))
      generalize (markN q).2 = q' at *
      generalize (markN q).1 = mk at *
      generalize bs (mkS mk) = MB at *
      obtain ⟨E42, hE42⟩ : ∃ E, Hid ((mk == 42) = E) := ⟨_, Lib.hid rfl⟩
      obtain ⟨E43, hE43⟩ : ∃ E, Hid ((mk == 43) = E) := ⟨_, Lib.hid rfl⟩
      obtain ⟨E63, hE63⟩ : ∃ E, Hid ((mk == 63) = E) := ⟨_, Lib.hid rfl⟩
      rw [hE42.out] at e42
      rw [hE43.out] at e43
      rw [hE63.out] at e63
      obtain ⟨N, hN⟩ : ∃ N, takeN c mk (ks.drop l.length) = N := ⟨_, rfl⟩
      have hNl : N ≤ ks.length - l.length := by rw [← hN]; have := takeN_le c mk (ks.drop l.length); rwa [List.length_drop] at this
      have HNX : Hid (∀ j (h : l.length + j < ks.length), j ≤ N → fitN c mk j (ks[l.length + j]).kind = true → j + 1 ≤ N) := Lib.hid (fun j h hj hf => by
        rw [← hN] at hj ⊢
        exact take_next c mk (ks.drop l.length) j (by rw [List.length_drop]; omega) hj (by rw [List.getElem_drop]; exact hf))
      have HST : Hid (∀ j (h : l.length + j < ks.length), j ≤ N → fitN c mk j (ks[l.length + j]).kind = false → j = N) := Lib.hid (fun j h hj hf => by
        rw [← hN] at hj ⊢
        exact take_stop c mk (ks.drop l.length) j (by rw [List.length_drop]; omega) hj (by rw [List.getElem_drop]; exact hf))
      have HM2 : Hid (if N = 0 ∧ mk ≠ 42 then mt P ks = none else mt P ks = (mt q' (ks.drop (l.length + N))).map ((l ++ List.replicate N c) ++ ·)) := Lib.hid (by
        have hm := HM.out
        rw [hN] at hm
        split
        · rename_i h; rw [if_pos h] at hm; rw [hm]; rfl
        · rename_i h
          rw [if_neg h, List.drop_drop] at hm
          rw [hm, Option.map_map]
          congr 1
          funext x
          simp)
      clear HM hN
      have HNL := Lib.hid hNl
      go_upto_block 2 with fail
      go_cut [8, 11] (fun v n wx => ∃ vq, vq = v ∧ n = .int .i64 (N : Int) ∧ Hid (OS w.heap.size wx vq ((l ++ List.replicate N c).map oneB)) ∧ RowKit.Below w.heap.size w wx)
      case first =>
        clear HM2 H45q hql
        go_wp2_with fail
        go_loopw [8, 11] (fun v n wr => ∃ j : Nat, j ≤ N ∧ n = .int .i64 (j : Int) ∧ Hid (OS w.heap.size wr v ((l ++ List.replicate j c).map oneB)) ∧ Below w.heap.size w wr) (fun _ n _ => N - (intOf n).toNat)
        case atStart => exact ⟨0, Nat.zero_le _, rfl, Lib.hid (by simpa using HO2.out), HL2.out⟩
        case round =>
          clear HO2 HL2
          rename World => W3
          obtain ⟨j, hj, rfl, hownj, hlo3⟩ := hrel
          generalize hL : l ++ List.replicate j c = L at hownj
          have hLl : L.length = l.length + j := by rw [← hL]; simp
          obtain ⟨av2, cv2, hv2⟩ := hownj.out.form
          rw [List.length_map] at hv2
          subst hv2
          have hj0 : (0 : Int) ≤ (j : Int) := by omega
          by_cases hlt : L.length < ks.length
          · have hne : ks ≠ [] := by rintro rfl; simp at hlt
            obtain ⟨b, o, ha, hf⟩ := (hrow.out).2 hne
            subst ha
            have hf := (hf (L.length) hlt).below hlo3
            have hX : Hid (fitN c mk j (ks[L.length]).kind = true → j + 1 ≤ N) := Lib.hid (by
              intro h
              have e : ks[L.length] = ks[l.length + j]'(by omega) := by simp only [hLl]
              rw [e] at h
              exact HNX.out j (by omega) hj h)
            have hY : Hid (fitN c mk j (ks[L.length]).kind = false → j = N) := Lib.hid (by
              intro h
              have e : ks[L.length] = ks[l.length + j]'(by omega) := by simp only [hLl]
              rw [e] at h
              exact HST.out j (by omega) hj h)
            clear HNX HST hne
            have HL := Lib.hid hL
            clear hL hLl
            generalize ks[L.length] = K at *
            obtain ⟨k', l', co', nm', tx', n', v', x', s', a', cap', ks'⟩ := K
            obtain ⟨h0, h1, h2, h3, h4, h5, h6, h7, h8, h9⟩ := hf
            have hX2 : fitN c mk j k' = true → j + 1 ≤ N := hX.out
            have hY2 : fitN c mk j k' = false → j = N := hY.out
            rw [fitN_eq, hE42.out, hE43.out, hE63.out] at hX2 hY2
            have HX := Lib.hid hX2
            have HY := Lib.hid hY2
            clear hX hY hX2 hY2
            have hLi : (L.length : Int) < (ks.length : Int) := by omega
            have hL0 : (0 : Int) ≤ (L.length : Int) := by omega
            have HL3 := Lib.hid hlo3
            have T3 := Lib.hid (HT.out.below hlo3)
            have hz3 := hlo3.size
            clear hlo3
            obtain ⟨W8, hW8⟩ : ∃ W, W = W3.alloc (.cells #[.int .i64 k', .int .i64 l', .int .i64 co', .string nm', .string tx', .int .i64 n', .int .u64 v', .int .u64 x', .bool s', .slice a' ks'.length cap'] 34) := ⟨_, rfl⟩
            have b8 : Below W3.heap.size W3 W8 := by rw [hW8]; exact (Below.refl _ _).alloc (Nat.le_refl _) _
            have d0 : W8.cell? ⟨W3.heap.size, 0, none⟩ = some (.int .i64 k') := by rw [hW8]; go_simp
            have T8 := Lib.hid (T3.out.below b8)
            have HO8 := Lib.hid (hownj.out.below b8)
            have HL8 := Lib.hid (HL3.out.trans (b8.mono HL3.out.size))
            clear hownj T3 HL3
            go_upto_region 11 with fail
            rw [← hW8]
            clear hW8 h0 h1 h2 h3 h4 h5 h6 h7 h8 h9 b8
            go_cut [13] (fun sv wx => sv = .bool (E42 || E43) ∧ W8 = wx)
            case first =>
              cases E42 <;> cases E43
              all_goals
                go_wp2_with fail
                go_meet
                exact ⟨by first | rfl | simp, rfl⟩
            case rest =>
            obtain ⟨rfl, rfl⟩ := hcut
            generalize (E42 || E43) = MANY at *
            go_upto_if 61 with fail
            go_cut [14] (fun sv wx => sv = .bool (if MANY = true then bel k' c else (decide (j = 0) && (k' != 0 || E63))) ∧ RowKit.Below W8.heap.size W8 wx)
            case first =>
              clear HO8 HL8 HX HY HL hlt hLi hL0 e42 e43
              cases MANY
              · by_cases hz : j = 0
                · subst hz
                  cases hk : (k' != 0)
                  · cases E63
                    all_goals
                      go_wp2_with fail
                      go_meet
                      exact ⟨by first | rfl | simp [hk], Below.refl _ _⟩
                  · go_wp2_with fail
                    go_meet
                    exact ⟨by first | rfl | simp [hk], Below.refl _ _⟩
                · have hjb : ((j : Int) == 0) = false := by simp; omega
                  go_wp2_with fail
                  go_meet
                  exact ⟨by simp [hz], Below.refl _ _⟩
              · by_cases hk : 0 < k' ∧ k' < 122
                · obtain ⟨m, rfl⟩ : ∃ m : Nat, k' = (m : Int) := ⟨k'.toNat, by omega⟩
                  have hm : m < 122 := by omega
                  have hc := fun W => contains1 (dash (formO (m : Int)).1) c (dash_len m hm) W
                  rw [dash_has _ _ hc45.out] at hc
                  have hc2 : ∀ W, Calls Try.prog 16 #[.string (bs (dash (formO (m : Int)).1)), .string (bs [c])] W fun e w' => e = .returned (.bool (bel (m : Int) c)) ∧ W = w' := hc
                  have q0 := (T8.out m hm).1
                  have HC := Lib.hid hc2
                  have z0 : ((m : Int) != 0) = true := by simp; omega
                  have z1 : (0 : Int) < (m : Int) := hk.1
                  have z2 : (m : Int) < 122 := hk.2
                  clear hc hc2 hk hm
                  generalize bel (m : Int) c = BV at *
                  generalize bs (dash (formO (m : Int)).1) = FB at *
                  go_wp2_with (refine (HC.out _).mono ?_; rintro e w9 ⟨rfl, rfl⟩)
                  go_meet
                  exact ⟨rfl, Below.refl _ _⟩
                · have HB := Lib.hid (bel_out hk c)
                  rcases Int.lt_trichotomy k' 0 with h | h | h
                  · have z0 : (k' != 0) = true := by simp; omega
                    have z1 : ¬ (0 : Int) < k' := by omega
                    clear hk
                    go_wp2_with fail
                    go_meet
                    exact ⟨by rw [HB.out]; rfl, Below.refl _ _⟩
                  · subst h
                    clear hk
                    go_wp2_with fail
                    go_meet
                    exact ⟨by rw [HB.out]; rfl, Below.refl _ _⟩
                  · have z0 : (k' != 0) = true := by simp; omega
                    have z1 : ¬ k' < 122 := by omega
                    clear hk
                    go_wp2_with fail
                    go_meet
                    exact ⟨by rw [HB.out]; rfl, Below.refl _ _⟩
            case rest =>
            obtain ⟨rfl, hb9⟩ := hcut
            rename World => W9
            have HO9 := Lib.hid (HO8.out.below hb9)
            have HL9 := Lib.hid (HL8.out.trans (hb9.mono HL8.out.size))
            clear HO8 HL8 T8 d0 hb9
            generalize (if MANY = true then bel k' c else (decide (j = 0) && (k' != 0 || E63))) = FV at *
            cases FV
            · have hjN := HY.out rfl
              subst hjN
              have HO10 : Hid (OS w.heap.size W9 (.slice av2 L.length cv2) ((l ++ List.replicate j c).map oneB)) := Lib.hid (by rw [HL.out]; exact HO9.out)
              clear HX HY
              go_wp2_with fail
              go_meet
              exact ⟨_, rfl, rfl, HO10, HL9.out⟩
            · have hjN := HX.out rfl
              clear HX HY
              have HOa : W9.ownsRow w.heap.size 9 1 (.slice av2 L.length cv2) L.length ((L.map oneB).map Value.string) := by
                have h := HO9.out
                unfold OS at h
                rwa [List.length_map] at h
              have HS : Hid (l ++ List.replicate (j + 1) c = L ++ [c]) := Lib.hid (by rw [← HL.out, List.replicate_succ', List.append_assoc])
              have HOb := Lib.hid HOa
              clear HO9 HOa
              have hlk : L.length ≤ 1000000 := by omega
              go_upto_region 18 with (at_builtin; refine wpList_append_own _ rfl _ _ 49 rfl w.heap.size 9 i0 (.string ⟨#[]⟩) 1 16 Try.underlying49 hi hz0 hz1 hz2 rfl (by decide) _ _ _ rfl (World.ownsRow.alloc (show W9.ownsRow w.heap.size 9 1 _ L.length ((L.map oneB).map Value.string) from HOb.out) _) ⟨W9.heap.size, 0, none⟩ 1 1 [.string (bs [c])] rfl rfl ?d1 ?d2 ?d3 ?d4 ?d5 ?_)
              try case d1 =>
                intro q u hq
                match q, hq with
                | 0, hq => simp at hq; subst hq; simp [Addr.add]
              case d2 => first | (intro u hu; simp at hu; subst hu; rfl) | rfl
              case d3 => unfold maxLen; omega
              case d4 => omega
              case d5 => have := HL9.out.size; simp; omega
              intro v5 w5 hown5 hgr5 _
              have hown6 : OS w.heap.size w5 v5 ((L ++ [c]).map oneB) := by
                unfold OS
                rw [List.length_map, List.length_append, List.map_map, List.map_append]
                exact hown5
              have hlo6 : Below w.heap.size w w5 := (HL9.out.alloc HL9.out.size _).grown hgr5 (by have := HL9.out.size; simp; omega) (fun q hq => (HOb.out.lt q hq).1)
              rw [← HS.out] at hown6
              have HO6 := Lib.hid hown6
              clear hown5 hown6 hgr5 HOb HL9 HS HL
              go_wp2_with fail
              go_roundw
              case rel => exact ⟨j + 1, hjN, by go_num, HO6, hlo6⟩
              case measure => simp [intOf] <;> omega
          · have hjN : j = N := by omega
            subst hjN
            have hLi : ¬ (L.length : Int) < (ks.length : Int) := by omega
            have HO10 : Hid (OS w.heap.size W3 (.slice av2 L.length cv2) ((l ++ List.replicate j c).map oneB)) := Lib.hid (by rw [hL]; exact hownj.out)
            clear hL hownj hLl hlt
            go_wp2_with fail
            go_meet
            exact ⟨_, rfl, rfl, HO10, hlo3⟩
      case rest =>
      obtain ⟨vq, hvq, rfl, HO7, hlo7⟩ := hcut
      subst hvq
      rename World => W7
      have hlN : (l ++ List.replicate N c).length ≤ ks.length := by simp; omega
      clear HNX HST HO2 HL2
      by_cases hN0 : N = 0 ∧ mk ≠ 42
      · have hm := HM2.out
        rw [if_pos hN0] at hm
        have hE : E42 = false := by rw [← hE42.out]; simpa using hN0.2
        have HMn := Lib.hid hm
        obtain rfl : N = 0 := hN0.1
        subst hE
        clear hN0 HM2 hm hE42
        go_wp2_with fail
        refine bodyPost_ret (v := .tuple #[.slice none 0 0, .bool false]) (by simp [results, Try.results18, go_sem]) rfl ⟨_, by rw [HMn.out]; rfl, fun l' h' => ?_, hlo7⟩
        exact absurd (HMn.out.symm.trans h') (by simp)
      · have hm := HM2.out
        rw [if_neg hN0] at hm
        have HMs : Hid (mt P ks = (mt q' (ks.drop (l ++ List.replicate N c).length)).map ((l ++ List.replicate N c) ++ ·)) := Lib.hid (by rw [hm]; simp)
        have hor : ((N : Int) == 0) = false ∨ E42 = true := by
          by_cases h : N = 0
          · right
            rw [← hE42.out]
            simpa using fun e => hN0 ⟨h, e⟩
          · left
            exact beq_eq_false_iff_ne.2 (by omega)
        have HORr := Lib.hid hor
        clear hN0 HM2 hm hE42 hor
        generalize l ++ List.replicate N c = L at *
        cases hz : ((N : Int) == 0)
        · go_wp2_with fail
          go_roundg (q'.length)
          case measure => exact hql.out
          case rel => exact ⟨q', L, rfl, Nat.le_refl _, hlN, HO7, hlo7, HMs, H45q⟩
        · have hE : E42 = true := (HORr.out).resolve_left (by rw [hz]; decide)
          subst hE
          go_wp2_with fail
          go_roundg (q'.length)
          case measure => exact hql.out
          case rel => exact ⟨q', L, rfl, Nat.le_refl _, hlN, HO7, hlo7, HMs, H45q⟩
end Go.Proofs.Ytpjnjcljaoaceaa
