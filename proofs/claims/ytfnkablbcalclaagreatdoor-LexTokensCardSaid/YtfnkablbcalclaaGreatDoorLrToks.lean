/- The reference's Tokens. -/
import Derived.Test.YtfnkablbcalclaaGreatDoorMgToks
import Derived.Test.YtfnkablbcalclaaGreatDoorMgOn
import Derived.Test.YtfnkablbcalclaaGreatDoorLrRtR
import Derived.Deep.LoopGhost
import Derived.RegionTactic
namespace Go.Proofs.YtfnkablbcalclaaGreatDoor
open Go Go.RowKit
set_option linter.unusedVariables false
theorem on_one (s : ByteArray) (hs : s.size ≤ 2000) (b p : Nat) (h : p + 1 ≤ s.size) (w : World) (R : RC w b s p) :
    Calls Tryz.prog 9 (#[.int .i64 1] ++ #[.pointer (some ⟨b + 3, 0, none⟩), .pointer (some ⟨b, 0, none⟩), .pointer (some ⟨b + 1, 0, none⟩), .pointer (some ⟨b + 2, 0, none⟩)]) w fun e w' =>
      e = .returned (.tuple #[]) ∧ RC w' b s (p + 1) ∧ But (RO b) w.heap.size w w' := on_any s hs b p 1 h w R
theorem RO_lt {b k : Nat} (h : RO b k) : k < b + 4 := by rcases h with h | h | h <;> omega
theorem RO_ge {b k : Nat} (h : RO b k) : b ≤ k := by rcases h with h | h | h <;> omega
set_option maxRecDepth 100000 in
set_option maxHeartbeats 16000000 in
theorem ref_tokens (s : ByteArray) (hs : s.size ≤ 2000) (F : Fin) (hF : Lx s 0 [] F) (w : World) :
    Calls Tryz.prog 6 #[.string s] w fun e w' => TokAns w.heap.size w' e F ∧ Below w.heap.size w w' := by
  obtain ⟨i0, hi, hz0, hz1, hz2⟩ := infoT_parts
  have HF := Lib.hid hF
  clear hF
  have hsi : ¬ (16000 : Int) < (s.size : Int) := by omega
  go_enter Tryz.func6, Tryz.ntmps6
  go_upto_region 6 with fail
  obtain ⟨W1, hW1⟩ : ∃ W, W = ((((w.alloc (Obj.cells #[Value.string s] 9)).alloc (Obj.cells #[Value.int IntKind.i64 0] 3)).alloc (Obj.cells #[Value.int IntKind.i64 1] 3)).alloc (Obj.cells #[Value.int IntKind.i64 1] 3)) := ⟨_, rfl⟩
  have b1 : Below w.heap.size w W1 := by rw [hW1]; exact ((((Below.refl _ _).alloc (Nat.le_refl _) _).alloc (by simp) _).alloc (by simp <;> omega) _).alloc (by simp <;> omega) _
  have R1 : RC W1 w.heap.size s 0 := by
    rw [hW1]
    exact ⟨by go_simp, by first | (go_simp; done) | (go_simp; rfl), by first | (go_simp; done) | (go_simp; rfl), by first | (go_simp; done) | (go_simp; rfl), by go_simp, by go_simp, by go_simp⟩
  have sz1 : W1.heap.size = w.heap.size + 4 := by rw [hW1]; simp
  rw [← hW1]
  clear hW1
  have HR1 := Lib.hid R1
  have HB1 := Lib.hid b1
  clear R1 b1
  obtain ⟨bb, hbb⟩ : ∃ bb, w.heap.size = bb := ⟨_, rfl⟩
  have HBB := Lib.hid hbb
  simp only [hbb] at HR1 sz1 ⊢
  clear hbb
  go_wp2_with fail
  go_loopg [6] s.size (fun g v wr => ∃ (p : Nat) (L : List Tk), p ≤ s.size ∧ s.size - p ≤ g ∧ L.length ≤ p ∧ Hid (RC wr bb s p) ∧ Hid (OT (bb + 4) wr v L) ∧ Hid (Lx s p L F) ∧ Hid (Below w.heap.size w wr) ∧ bb + 4 ≤ wr.heap.size)
  case atStart => exact ⟨0, [], Nat.zero_le _, by omega, Nat.le_refl _, HR1, Lib.hid (OT.nil _ _), HF, HB1, by omega⟩
  case round =>
    rename World => wr
    obtain ⟨p, L, hp, hg, hL, HR, HO, HX, HLO, hsz⟩ := hrel
    rename_i v
    obtain ⟨av, cv, hv⟩ := HO.out.form
    subst hv
    clear HF HR1 HB1 sz1
    have hgl : ∀ q, Value.ownBlock (.slice av L.length cv) = some q → bb + 4 ≤ q ∧ q < wr.heap.size := fun q hq => OT.block HO.out q hq
    have hww : w.heap.size ≤ bb + 4 := by rw [HBB.out]; omega
    have hRO : ∀ q, RO bb q → q < bb + 4 := fun q h => RO_lt h
    have hROg : ∀ q, RO bb q → w.heap.size ≤ q := fun q h => by rw [HBB.out]; exact RO_ge h
    obtain ⟨h0, h1, h2, h3, g1, g2, g3⟩ := id HR.out
    have hp0 : (0 : Int) ≤ (p : Int) := by omega
    cases hx : HX.out with
    | fin =>
      have hlt : ¬ (s.size : Int) < (s.size : Int) := by omega
      obtain ⟨Y, hY⟩ : ∃ Y : Nat, (plcT s s.size).1 = Y := ⟨_, rfl⟩
      obtain ⟨X, hX⟩ : ∃ X : Nat, (plcT s s.size).2 = X := ⟨_, rfl⟩
      have HTK : Hid (tkAt s s.size 0 ⟨#[]⟩ false 0 0 0 false = ⟨0, Y, X, ⟨#[]⟩, false, 0, 0, 0, false⟩) := Lib.hid (by unfold tkAt; rw [hY, hX])
      rw [hY] at h2
      rw [hX] at h3
      clear hY hX hx HX
      go_wp2_with (at_builtin; refine wpList_append_own _ rfl _ _ 23 rfl (bb + 4) 32 i0 _ 9 80 Tryz.underlying23 hi hz0 hz1 hz2 rfl (by decide) _ _ _ rfl (show (wr.alloc _).ownsRow (bb + 4) 32 9 _ L.length (flatT L) from OT.below HO.out ((Below.refl _ _).alloc (Nat.le_refl _) _)) ⟨wr.heap.size, 0, none⟩ 1 1 (encT ⟨0, Y, X, ⟨#[]⟩, false, 0, 0, 0, false⟩) rfl ?d1 ?d2 ?d3 ?d4 ?d5 ?d6 ?_)
      case d1 => rfl
      case d2 =>
        intro j u hj
        first
          | exact hj
          | (rw [Addr.add_lit]
             have hjl : j < 9 := (List.getElem?_eq_some_iff.1 hj).1
             match j, hjl with
             | 0, _ => injection hj with hj; subst hj; go_simp
             | 1, _ => injection hj with hj; subst hj; go_simp
             | 2, _ => injection hj with hj; subst hj; go_simp
             | 3, _ => injection hj with hj; subst hj; go_simp
             | 4, _ => injection hj with hj; subst hj; go_simp
             | 5, _ => injection hj with hj; subst hj; go_simp
             | 6, _ => injection hj with hj; subst hj; go_simp
             | 7, _ => injection hj with hj; subst hj; go_simp
             | 8, _ => injection hj with hj; subst hj; go_simp
             | j + 9, h => exact absurd h (by omega))
      case d3 => exact encT_one _
      case d4 => unfold maxLen; omega
      case d5 => omega
      case d6 => first | (simp; omega) | omega
      intro v4 w4 hown4 hgr4 _
      have hown5 : OT (bb + 4) w4 v4 (L ++ [⟨0, Y, X, ⟨#[]⟩, false, 0, 0, 0, false⟩]) := by
        unfold OT
        rw [flatT_snoc, List.length_append]
        exact hown4
      have hlo4 : Below w.heap.size w w4 := (HLO.out.alloc HLO.out.size _).grown hgr4 (by have := HLO.out.size; simp; omega) (fun q hq => Nat.le_trans hww (hgl q hq).1)
      go_wp2_with fail
      exact bodyPost_ret (v := .tuple #[v4, .int .i64 0, .int .i64 0, .int .i64 0]) (by simp [results, Tryz.results6, go_sem]) rfl ⟨by
        rw [HTK.out]
        exact ⟨_, rfl, OT.mono hown5 (by omega)⟩, hlo4⟩
    | hop h hn hr =>
      rename_i n
      have HRR := Lib.hid hr
      clear hx HX hr
      have hpi : (p : Int) < (s.size : Int) := by omega
      have hb0 : s[p].toNat = gb s p := gb_at s p h
      rcases hop_bytes s p h with ⟨hb, hh⟩ | ⟨c0, q1, c1, hh⟩ | ⟨c0, q1, c1, hh⟩ | ⟨_, _, _, hh⟩
      · have hn1 : n = 1 := by rw [hn] at hh; injection hh with hh; injection hh
        subst hn1
        clear hn hh
        rcases isB_cases hb with k | k | k
        all_goals
          rw [k] at hb0
          clear hb k
          go_wp2_with fail
          refine (on_one s hs bb p (by omega) wr HR.out).mono ?_
          rintro e w2 ⟨rfl, R2, hbut⟩
          have O2 := Lib.hid (HO.out.but hbut hRO)
          have H2 := Lib.hid (HLO.out.trans ((hbut.mono HLO.out.size (fun k h => h)).below hROg))
          have hsz2 : bb + 4 ≤ w2.heap.size := Nat.le_trans hsz hbut.size
          have R2' := Lib.hid R2
          clear R2 hbut HR HO HLO h0 h1 h2 h3 g1 g2 g3 hgl
          go_wp2_with fail
          go_roundg (s.size - (p + 1))
          case measure => omega
          case rel => exact ⟨p + 1, L, by omega, by omega, by omega, R2', O2, HRR, H2, hsz2⟩
      · have hnn : n = span noF (rst s p) := by rw [hn] at hh; injection hh with hh; injection hh
        obtain ⟨z1, z2, z3⟩ := noF_span s p hp
        rw [← hnn] at z1 z2 z3
        have HZ2 := Lib.hid z2
        have HZ3 := Lib.hid z3
        rw [c0] at hb0
        have hb1 : s[p + 1].toNat = 47 := (gb_at s (p + 1) q1).trans c1
        have q1i : (p : Int) + 1 < (s.size : Int) := by omega
        have hp1 : (0 : Int) ≤ (p : Int) + 1 := by omega
        have hn1 : 1 ≤ n := by have := (hop_pos (by rw [rst_size]; omega) hn).1; exact this
        clear hn hh hnn z2 z3 c0 c1
        have HB0 := Lib.hid (But.refl (RO bb) wr.heap.size wr)
        go_wp2_with fail
        go_loopg [96] n (fun g2 x96 w2 => ∃ i : Nat, i ≤ n ∧ n - i ≤ g2 ∧ Hid (RC w2 bb s (p + i)) ∧ Hid (But (RO bb) wr.heap.size wr w2))
        case atStart => exact ⟨0, Nat.zero_le _, by omega, HR, HB0⟩
        case round =>
          rename World => w2
          obtain ⟨i, hi2, hg2, HRi, HBi⟩ := hrel
          clear h0 h1 h2 h3 g1 g2 g3 hb0 hb1 q1i hp1
          obtain ⟨h0, h1, h2, h3, g1, g2, g3⟩ := id HRi.out
          obtain ⟨q, hq⟩ : ∃ q, p + i = q := ⟨_, rfl⟩
          rw [hq] at h1 HRi
          have hq0 : (0 : Int) ≤ (q : Int) := by omega
          by_cases hin : i < n
          · have hqs : q < s.size := by omega
            have hqi : (q : Int) < (s.size : Int) := by omega
            have hne : ((s[q].toNat : Int) == 10) = false := beq_eq_false_iff_ne.2 (by rw [gb_at s q hqs, ← hq]; have := HZ2.out i hin; omega)
            go_wp2_with fail
            refine (on_one s hs bb q (by omega) w2 HRi.out).mono ?_
            rintro e w3 ⟨rfl, R3, hbut⟩
            have R3' := Lib.hid R3
            have HB3 := Lib.hid (HBi.out.trans (hbut.mono HBi.out.size (fun k h => h)))
            clear R3 hbut h0 h1 h2 h3 g1 g2 g3 hne
            go_wp2_with fail
            go_roundg (n - (i + 1))
            case measure => omega
            case rel => exact ⟨i + 1, by omega, by omega, by rw [show p + (i + 1) = q + 1 by omega]; exact R3', HB3⟩
          · have hi3 : i = n := by omega
            have O2 := Lib.hid (HO.out.but HBi.out hRO)
            have H2 := Lib.hid (HLO.out.trans ((HBi.out.mono HLO.out.size (fun k h => h)).below hROg))
            have hsz2 : bb + 4 ≤ w2.heap.size := Nat.le_trans hsz HBi.out.size
            rw [hi3] at hq
            rw [hq] at HRR
            by_cases hqs : q < s.size
            · have hqi : (q : Int) < (s.size : Int) := by omega
              have hne : s[q].toNat = 10 := by rw [gb_at s q hqs, ← hq]; exact HZ3.out (by omega)
              clear HZ2 HZ3 HR HO HLO HBi hgl
              go_wp2_with fail
              go_roundg (s.size - q)
              case measure => omega
              case rel => exact ⟨q, L, by omega, by omega, by omega, HRi, O2, HRR, H2, hsz2⟩
            · have hqi : ¬ (q : Int) < (s.size : Int) := by omega
              clear HZ2 HZ3 HR HO HLO HBi hgl
              go_wp2_with fail
              go_roundg (s.size - q)
              case measure => omega
              case rel => exact ⟨q, L, by omega, by omega, by omega, HRi, O2, HRR, H2, hsz2⟩
      · rw [c0] at hb0
        have hb1 : s[p + 1].toNat = 42 := (gb_at s (p + 1) q1).trans c1
        have q1i : (p : Int) + 1 < (s.size : Int) := by omega
        have hp1 : (0 : Int) ≤ (p : Int) + 1 := by omega
        have HH := Lib.hid hh
        clear hh c0 c1
        go_wp2_with fail
        go_loop [11] (fun u => ∃ j K : Nat, Hid (K = p + 2 + j) ∧ K ≤ s.size ∧ u = .int .i64 (K : Int) ∧ Hid (Lib.NoOcc (s.data.toList.drop (p + 2)) [42, 47] j)) (fun u => s.size + 1 - (intOf u).toNat)
        case atStart => exact ⟨0, p + 2, Lib.hid rfl, by omega, by first | rfl | go_num, Lib.hid (Lib.NoOcc.zero _ _)⟩
        case round =>
          obtain ⟨j, K, hK, hKs, rfl, hno⟩ := hrel
          have hK0 : (0 : Int) ≤ (K : Int) := by omega
          by_cases hlt : K + 1 < s.size
          · have hlti : (K : Int) + 1 < (s.size : Int) := by omega
            have hle2 : (K : Int) + 2 ≤ (s.size : Int) := by omega
            have hle3 : (K : Int) ≤ (K : Int) + 2 := by omega
            have ho := occ_at s (p + 2) j (by have := hK.out; omega)
            rw [← hK.out] at ho
            cases hv : Lib.occAt (s.data.toList.drop (p + 2)) [42, 47] j
            · have HD := Lib.hid (hno.out.succ hv)
              rw [hv] at ho
              have hq : ((s.extract K (K + 2)).toList == [42, 47]) = false := by rw [← star_list, beq_str]; exact ho.symm
              clear hv ho
              go_wp2_with fail
              go_round
              case rel => exact ⟨j + 1, K + 1, Lib.hid (by have := hK.out; omega), by omega, by first | rfl | go_num, HD⟩
              case measure => simp [intOf] <;> omega
            · have hq : ((s.extract K (K + 2)).toList == [42, 47]) = true := by rw [← star_list, beq_str, ← ho]; exact hv
              clear ho
              have hjn : n = j + 4 := by
                rw [HH.out, Lib.index_hit hno.out (by rw [List.length_drop, len_list]; have := hK.out; omega) hv, if_neg (by omega)] at hn
                injection hn with hn
                injection hn with hn
                omega
              have hkn : (K : Int) + 2 - (p : Int) = (n : Int) := by have := hK.out; omega
              have hks2 : ¬ (s.size : Int) ≤ (K : Int) + 1 := by omega
              clear HH hno hv
              have hpn : p + n ≤ s.size := by have := hK.out; omega
              have hn1 : 1 ≤ n := by omega
              clear hjn
              go_wp2_with fail
              try rw [hkn]
              refine (on_any s hs bb p n hpn wr HR.out).mono ?_
              rintro e w2 ⟨rfl, R2, hbut⟩
              have O2 := Lib.hid (HO.out.but hbut hRO)
              have H2 := Lib.hid (HLO.out.trans ((hbut.mono HLO.out.size (fun k h => h)).below hROg))
              have hsz2 : bb + 4 ≤ w2.heap.size := Nat.le_trans hsz hbut.size
              have R2' := Lib.hid R2
              clear R2 hbut HR HO HLO h0 h1 h2 h3 g1 g2 g3 hgl
              go_wp2_with fail
              go_roundg (s.size - (p + n))
              case measure => omega
              case rel => exact ⟨p + n, L, hpn, by omega, by omega, R2', O2, HRR, H2, hsz2⟩
          · exfalso
            rw [HH.out, Lib.index_past (by simp) hno.out (by rw [List.length_drop, len_list]; have := hK.out; simp; omega), if_pos (by omega)] at hn
            simp at hn
      · exact absurd (hn.symm.trans hh) (by simp)
    | short h hn =>
      obtain ⟨Y, hY⟩ : ∃ Y : Nat, (plcT s p).1 = Y := ⟨_, rfl⟩
      obtain ⟨X, hX⟩ : ∃ X : Nat, (plcT s p).2 = X := ⟨_, rfl⟩
      have HY : Hid ((plcT s p).1 = Y ∧ (plcT s p).2 = X) := Lib.hid ⟨hY, hX⟩
      rw [hY] at h2
      rw [hX] at h3
      clear hY hX hx HX
      have hpi : (p : Int) < (s.size : Int) := by omega
      have hb0 : s[p].toNat = gb s p := gb_at s p h
      rcases hop_bytes s p h with ⟨_, hh⟩ | ⟨_, _, _, hh⟩ | ⟨c0, q1, c1, hh⟩ | ⟨_, _, _, hh⟩
      · exact absurd (hn.symm.trans hh) (by simp)
      · exact absurd (hn.symm.trans hh) (by simp)
      · rw [c0] at hb0
        have hb1 : s[p + 1].toNat = 42 := (gb_at s (p + 1) q1).trans c1
        have q1i : (p : Int) + 1 < (s.size : Int) := by omega
        have hp1 : (0 : Int) ≤ (p : Int) + 1 := by omega
        have HH := Lib.hid hh
        clear hh c0 c1
        go_wp2_with fail
        go_loop [11] (fun u => ∃ j K : Nat, Hid (K = p + 2 + j) ∧ K ≤ s.size ∧ u = .int .i64 (K : Int) ∧ Hid (Lib.NoOcc (s.data.toList.drop (p + 2)) [42, 47] j)) (fun u => s.size + 1 - (intOf u).toNat)
        case atStart => exact ⟨0, p + 2, Lib.hid rfl, by omega, by first | rfl | go_num, Lib.hid (Lib.NoOcc.zero _ _)⟩
        case round =>
          obtain ⟨j, K, hK, hKs, rfl, hno⟩ := hrel
          have hK0 : (0 : Int) ≤ (K : Int) := by omega
          by_cases hlt : K + 1 < s.size
          · have hlti : (K : Int) + 1 < (s.size : Int) := by omega
            have hle2 : (K : Int) + 2 ≤ (s.size : Int) := by omega
            have hle3 : (K : Int) ≤ (K : Int) + 2 := by omega
            have ho := occ_at s (p + 2) j (by have := hK.out; omega)
            rw [← hK.out] at ho
            cases hv : Lib.occAt (s.data.toList.drop (p + 2)) [42, 47] j
            · have HD := Lib.hid (hno.out.succ hv)
              rw [hv] at ho
              have hq : ((s.extract K (K + 2)).toList == [42, 47]) = false := by rw [← star_list, beq_str]; exact ho.symm
              clear hv ho
              go_wp2_with fail
              go_round
              case rel => exact ⟨j + 1, K + 1, Lib.hid (by have := hK.out; omega), by omega, by first | rfl | go_num, HD⟩
              case measure => simp [intOf] <;> omega
            · have hq : ((s.extract K (K + 2)).toList == [42, 47]) = true := by rw [← star_list, beq_str, ← ho]; exact hv
              clear ho
              exfalso
              rw [HH.out, Lib.index_hit hno.out (by rw [List.length_drop, len_list]; have := hK.out; omega) hv, if_neg (by omega)] at hn
              simp at hn
          · have hks2 : (s.size : Int) ≤ (K : Int) + 1 := by omega
            have hlti : ¬ (K : Int) + 1 < (s.size : Int) := by omega
            clear HH hno hn
            go_wp2_with fail
            go_region
            go_wp2_with fail
            exact bodyPost_ret (v := .tuple #[.slice none 0 0, .int .i64 (Y : Int), .int .i64 (X : Int), .int .i64 11]) (by simp [results, Tryz.results6, go_sem]) rfl ⟨by rw [HY.out.1, HY.out.2]; exact rfl, HLO.out.drew⟩
      · exact absurd (hn.symm.trans hh) (by simp)
    | tok h hn hRt hr =>
      rename_i K T Q N V X2 SG z
      obtain ⟨Y, hY⟩ : ∃ Y : Nat, (plcT s p).1 = Y := ⟨_, rfl⟩
      obtain ⟨X, hX⟩ : ∃ X : Nat, (plcT s p).2 = X := ⟨_, rfl⟩
      have HY : Hid ((plcT s p).1 = Y ∧ (plcT s p).2 = X) := Lib.hid ⟨hY, hX⟩
      rw [hY] at h2
      rw [hX] at h3
      clear hY hX hx HX
      have hpi : (p : Int) < (s.size : Int) := by omega
      have hpi2 : (p : Int) ≤ (s.size : Int) := by omega
      have hb0 : s[p].toNat = gb s p := gb_at s p h
      have hrt := token_rt (rst s p) (by rw [rst_size]; omega) (by rw [rst_size]; omega) _ hRt
      have hps := scan_rt (rst s p) (by rw [rst_size]; omega) (by rw [rst_size]; omega) _ hRt
      obtain ⟨hz1b, hk0, hzp, hzr, _⟩ := hps
      rw [rst_size] at hzr
      have HRR := Lib.hid hr
      clear hr
      have hT : ∀ W, Calls Tryz.prog 10 #[.string (s.extract p s.size)] W fun u w' => u = .returned (.tuple #[.agg #[.int .i64 K, .int .i64 0, .int .i64 0, .string T, .bool Q, .int .i64 N, .int .u64 V, .int .u64 X2, .bool SG], .int .i64 z, .int .i64 0]) ∧ Below W.heap.size W w' := hrt
      have HT := Lib.hid hT
      clear hrt hT hRt
      obtain ⟨hB, n47, n42⟩ : isB (gb s p) = false ∧ ¬ (gb s p = 47 ∧ p + 1 < s.size ∧ gb s (p + 1) = 47) ∧ ¬ (gb s p = 47 ∧ p + 1 < s.size ∧ gb s (p + 1) = 42) := by
        rcases hop_bytes s p h with ⟨_, hh⟩ | ⟨_, _, _, hh⟩ | ⟨_, _, _, hh⟩ | ⟨a1, a2, a3, _⟩
        · exact absurd (hn.symm.trans hh) (by simp)
        · exact absurd (hn.symm.trans hh) (by simp)
        · rw [hn] at hh; split at hh <;> cases hh
        · exact ⟨a1, a2, a3⟩
      obtain ⟨e32, e9, e10⟩ := isB_not hB
      have k32 : ((s[p].toNat : Int) == 32) = false := beq_eq_false_iff_ne.2 (by omega)
      have k9 : ((s[p].toNat : Int) == 9) = false := beq_eq_false_iff_ne.2 (by omega)
      have k10 : ((s[p].toNat : Int) == 10) = false := beq_eq_false_iff_ne.2 (by omega)
      clear hn hB e32 e9 e10
      by_cases c47 : gb s p = 47
      · have m47 : ((s[p].toNat : Int) == 47) = true := by rw [hb0, c47]; rfl
        clear hb0
        by_cases q1 : p + 1 < s.size
        · have q1i : (p : Int) + 1 < (s.size : Int) := by omega
          have hp1 : (0 : Int) ≤ (p : Int) + 1 := by omega
          have hd := gb_at s (p + 1) q1
          have d47 : ((s[p + 1].toNat : Int) == 47) = false := beq_eq_false_iff_ne.2 (by rw [hd]; intro e; exact n47 ⟨c47, q1, by omega⟩)
          have d42 : ((s[p + 1].toNat : Int) == 42) = false := beq_eq_false_iff_ne.2 (by rw [hd]; intro e; exact n42 ⟨c47, q1, by omega⟩)
          clear hd n47 n42 c47
          go_upto_region 9 with (go_at_call 10; refine (HT.out _).mono ?_; rintro e w2 ⟨rfl, hb2⟩)
          obtain ⟨W3, hW3⟩ : ∃ W, W = w2.alloc (Obj.cells #[Value.int IntKind.i64 K, Value.int IntKind.i64 0, Value.int IntKind.i64 0, Value.string T, Value.bool Q, Value.int IntKind.i64 N, Value.int IntKind.u64 V, Value.int IntKind.u64 X2, Value.bool SG] 32) := ⟨_, rfl⟩
          have b3 : Below w2.heap.size w2 W3 := by rw [hW3]; exact (Below.refl _ _).alloc (Nat.le_refl _) _
          have T3 : TB W3 w2.heap.size K 0 0 T Q N V X2 SG := by rw [hW3]; exact TB.new w2 _ _ _ _ _ _ _ _ _
          rw [← hW3]
          clear hW3
          have hb3 : Below wr.heap.size wr W3 := hb2.trans (b3.mono hb2.size)
          have R3 := HR.out.below hb3 HR.out.lt
          have O3 := Lib.hid (HO.out.below hb3)
          have H3 := Lib.hid (HLO.out.trans (hb3.mono HLO.out.size))
          have hsz3 : bb + 4 ≤ W3.heap.size := Nat.le_trans hsz hb3.size
          have hblk : bb + 4 ≤ w2.heap.size := Nat.le_trans hsz hb2.size
          have hgl2 : ∀ q, Value.ownBlock (.slice av L.length cv) = some q → q < w2.heap.size := fun q hq => Nat.lt_of_lt_of_le (hgl q hq).2 hb2.size
          clear h0 h1 h2 h3 g1 g2 g3 HR HO HLO hb2 b3 hb3 hgl HT
          obtain ⟨h0, h1, h2, h3, g1, g2, g3⟩ := id R3
          rw [HY.out.1] at h2
          rw [HY.out.2] at h3
          obtain ⟨x0, x1, x2, x3, x4, x5, x6, x7, x8, xf⟩ := id T3
          go_upto_region 11 with fail
          go_region
          obtain ⟨W5, hW5⟩ : ∃ W, W = ((W3.setCell ⟨w2.heap.size, 1, none⟩ (.int .i64 (Y : Int))).setCell ⟨w2.heap.size, 2, none⟩ (.int .i64 (X : Int))).drew := ⟨_, rfl⟩
          have hb5 : Below (bb + 4) W3 W5 := by rw [hW5]; exact (((Below.refl _ _).setCell (p := ⟨w2.heap.size, 1, none⟩) hblk _).setCell (p := ⟨w2.heap.size, 2, none⟩) hblk _).drew
          have hu5 : But (fun k => k = w2.heap.size) W3.heap.size W3 W5 := by rw [hW5]; exact (((But.refl (fun k => k = w2.heap.size) W3.heap.size W3).setCell (p := ⟨w2.heap.size, 1, none⟩) (.inl rfl) _).setCell (p := ⟨w2.heap.size, 2, none⟩) (.inl rfl) _).drew
          have T5 : TB W5 w2.heap.size K Y X T Q N V X2 SG := by rw [hW5]; exact T3.place Y X
          rw [← hW5]
          clear hW5 h0 h1 h2 h3 g1 g2 g3 x0 x1 x2 x3 x4 x5 x6 x7 x8 xf
          have R5 := Lib.hid (R3.below hb5 (by omega))
          have O5 := Lib.hid (O3.out.keep (fun q hq => hu5.block q (OT.block O3.out q hq).2 (fun e => by have := hgl2 q hq; omega)))
          have H5 := Lib.hid (H3.out.trans (hb5.mono hww))
          have hsz5 : bb + 4 ≤ W5.heap.size := Nat.le_trans hsz3 hb5.size
          have HTK : Hid (tkAt s p K T Q N V X2 SG = ⟨K, Y, X, T, Q, N, V, X2, SG⟩) := Lib.hid (by unfold tkAt; rw [HY.out.1, HY.out.2])
          clear R3 O3 H3 T3 hb5 hu5 hgl2
          obtain ⟨x0, x1, x2, x3, x4, x5, x6, x7, x8, xf⟩ := id T5
          go_upto_region 13 with (at_builtin; refine wpList_append_own _ rfl _ _ 23 rfl (bb + 4) 32 i0 _ 9 80 Tryz.underlying23 hi hz0 hz1 hz2 rfl (by decide) _ _ _ rfl (show (W5.alloc _).ownsRow (bb + 4) 32 9 _ L.length (flatT L) from OT.below O5.out ((Below.refl _ _).alloc (Nat.le_refl _) _)) ⟨W5.heap.size, 0, none⟩ 1 1 (encT ⟨K, Y, X, T, Q, N, V, X2, SG⟩) rfl ?d1 ?d2 ?d3 ?d4 ?d5 ?d6 ?_)
          case d1 => rfl
          case d2 =>
            intro j u hj
            first
              | exact hj
              | (rw [Addr.add_lit]
                 have hjl : j < 9 := (List.getElem?_eq_some_iff.1 hj).1
                 match j, hjl with
                 | 0, _ => injection hj with hj; subst hj; go_simp
                 | 1, _ => injection hj with hj; subst hj; go_simp
                 | 2, _ => injection hj with hj; subst hj; go_simp
                 | 3, _ => injection hj with hj; subst hj; go_simp
                 | 4, _ => injection hj with hj; subst hj; go_simp
                 | 5, _ => injection hj with hj; subst hj; go_simp
                 | 6, _ => injection hj with hj; subst hj; go_simp
                 | 7, _ => injection hj with hj; subst hj; go_simp
                 | 8, _ => injection hj with hj; subst hj; go_simp
                 | j + 9, h => exact absurd h (by omega))
          case d3 => exact encT_one _
          case d4 => unfold maxLen; omega
          case d5 => omega
          case d6 => first | (simp; omega) | omega
          intro v4 w4 hown4 hgr4 _
          have hown5 : OT (bb + 4) w4 v4 (L ++ [⟨K, Y, X, T, Q, N, V, X2, SG⟩]) := by
            unfold OT
            rw [flatT_snoc, List.length_append]
            exact hown4
          have hrow : ∀ q, Value.ownBlock (.slice av L.length cv) = some q → bb + 4 ≤ q := fun q hq => (OT.block O5.out q hq).1
          have hlo4 : Below w.heap.size w w4 := (H5.out.alloc H5.out.size _).grown hgr4 (by have := H5.out.size; simp; omega) (fun q hq => Nat.le_trans hww (hrow q hq))
          have hlo5 : Below (bb + 4) W5 w4 := ((Below.refl _ _).alloc hsz5 _).grown hgr4 (by simp; omega) hrow
          have R4 := R5.out.below hlo5 (by omega)
          have hsz4 : bb + 4 ≤ w4.heap.size := Nat.le_trans hsz5 hlo5.size
          have HO4 := Lib.hid hown5
          have HL4 := Lib.hid hlo4
          clear x0 x1 x2 x3 x4 x5 x6 x7 x8 xf T5 hown4 hown5 hgr4 hlo4 hlo5 O5 H5 R5
          go_wp2_with fail
          refine (on_any s hs bb p z (by omega) w4 R4).mono ?_
          rintro e w6 ⟨rfl, R6, hbut⟩
          have O6 := Lib.hid (HO4.out.but hbut hRO)
          have H6 := Lib.hid (HL4.out.trans ((hbut.mono HL4.out.size (fun k h => h)).below hROg))
          have hsz6 : bb + 4 ≤ w6.heap.size := Nat.le_trans hsz4 hbut.size
          have R6' := Lib.hid R6
          clear R6 hbut HO4 HL4 R4
          go_wp2_with fail
          go_roundg (s.size - (p + z))
          case measure => omega
          case rel => exact ⟨p + z, L ++ [⟨K, Y, X, T, Q, N, V, X2, SG⟩], by omega, by omega, by simp; omega, R6', O6, by rw [← HTK.out]; exact HRR, H6, hsz6⟩
        · have q1i : ¬ (p : Int) + 1 < (s.size : Int) := by omega
          clear n47 n42 c47
          go_upto_region 9 with (go_at_call 10; refine (HT.out _).mono ?_; rintro e w2 ⟨rfl, hb2⟩)
          obtain ⟨W3, hW3⟩ : ∃ W, W = w2.alloc (Obj.cells #[Value.int IntKind.i64 K, Value.int IntKind.i64 0, Value.int IntKind.i64 0, Value.string T, Value.bool Q, Value.int IntKind.i64 N, Value.int IntKind.u64 V, Value.int IntKind.u64 X2, Value.bool SG] 32) := ⟨_, rfl⟩
          have b3 : Below w2.heap.size w2 W3 := by rw [hW3]; exact (Below.refl _ _).alloc (Nat.le_refl _) _
          have T3 : TB W3 w2.heap.size K 0 0 T Q N V X2 SG := by rw [hW3]; exact TB.new w2 _ _ _ _ _ _ _ _ _
          rw [← hW3]
          clear hW3
          have hb3 : Below wr.heap.size wr W3 := hb2.trans (b3.mono hb2.size)
          have R3 := HR.out.below hb3 HR.out.lt
          have O3 := Lib.hid (HO.out.below hb3)
          have H3 := Lib.hid (HLO.out.trans (hb3.mono HLO.out.size))
          have hsz3 : bb + 4 ≤ W3.heap.size := Nat.le_trans hsz hb3.size
          have hblk : bb + 4 ≤ w2.heap.size := Nat.le_trans hsz hb2.size
          have hgl2 : ∀ q, Value.ownBlock (.slice av L.length cv) = some q → q < w2.heap.size := fun q hq => Nat.lt_of_lt_of_le (hgl q hq).2 hb2.size
          clear h0 h1 h2 h3 g1 g2 g3 HR HO HLO hb2 b3 hb3 hgl HT
          obtain ⟨h0, h1, h2, h3, g1, g2, g3⟩ := id R3
          rw [HY.out.1] at h2
          rw [HY.out.2] at h3
          obtain ⟨x0, x1, x2, x3, x4, x5, x6, x7, x8, xf⟩ := id T3
          go_upto_region 11 with fail
          go_region
          obtain ⟨W5, hW5⟩ : ∃ W, W = ((W3.setCell ⟨w2.heap.size, 1, none⟩ (.int .i64 (Y : Int))).setCell ⟨w2.heap.size, 2, none⟩ (.int .i64 (X : Int))).drew := ⟨_, rfl⟩
          have hb5 : Below (bb + 4) W3 W5 := by rw [hW5]; exact (((Below.refl _ _).setCell (p := ⟨w2.heap.size, 1, none⟩) hblk _).setCell (p := ⟨w2.heap.size, 2, none⟩) hblk _).drew
          have hu5 : But (fun k => k = w2.heap.size) W3.heap.size W3 W5 := by rw [hW5]; exact (((But.refl (fun k => k = w2.heap.size) W3.heap.size W3).setCell (p := ⟨w2.heap.size, 1, none⟩) (.inl rfl) _).setCell (p := ⟨w2.heap.size, 2, none⟩) (.inl rfl) _).drew
          have T5 : TB W5 w2.heap.size K Y X T Q N V X2 SG := by rw [hW5]; exact T3.place Y X
          rw [← hW5]
          clear hW5 h0 h1 h2 h3 g1 g2 g3 x0 x1 x2 x3 x4 x5 x6 x7 x8 xf
          have R5 := Lib.hid (R3.below hb5 (by omega))
          have O5 := Lib.hid (O3.out.keep (fun q hq => hu5.block q (OT.block O3.out q hq).2 (fun e => by have := hgl2 q hq; omega)))
          have H5 := Lib.hid (H3.out.trans (hb5.mono hww))
          have hsz5 : bb + 4 ≤ W5.heap.size := Nat.le_trans hsz3 hb5.size
          have HTK : Hid (tkAt s p K T Q N V X2 SG = ⟨K, Y, X, T, Q, N, V, X2, SG⟩) := Lib.hid (by unfold tkAt; rw [HY.out.1, HY.out.2])
          clear R3 O3 H3 T3 hb5 hu5 hgl2
          obtain ⟨x0, x1, x2, x3, x4, x5, x6, x7, x8, xf⟩ := id T5
          go_upto_region 13 with (at_builtin; refine wpList_append_own _ rfl _ _ 23 rfl (bb + 4) 32 i0 _ 9 80 Tryz.underlying23 hi hz0 hz1 hz2 rfl (by decide) _ _ _ rfl (show (W5.alloc _).ownsRow (bb + 4) 32 9 _ L.length (flatT L) from OT.below O5.out ((Below.refl _ _).alloc (Nat.le_refl _) _)) ⟨W5.heap.size, 0, none⟩ 1 1 (encT ⟨K, Y, X, T, Q, N, V, X2, SG⟩) rfl ?d1 ?d2 ?d3 ?d4 ?d5 ?d6 ?_)
          case d1 => rfl
          case d2 =>
            intro j u hj
            first
              | exact hj
              | (rw [Addr.add_lit]
                 have hjl : j < 9 := (List.getElem?_eq_some_iff.1 hj).1
                 match j, hjl with
                 | 0, _ => injection hj with hj; subst hj; go_simp
                 | 1, _ => injection hj with hj; subst hj; go_simp
                 | 2, _ => injection hj with hj; subst hj; go_simp
                 | 3, _ => injection hj with hj; subst hj; go_simp
                 | 4, _ => injection hj with hj; subst hj; go_simp
                 | 5, _ => injection hj with hj; subst hj; go_simp
                 | 6, _ => injection hj with hj; subst hj; go_simp
                 | 7, _ => injection hj with hj; subst hj; go_simp
                 | 8, _ => injection hj with hj; subst hj; go_simp
                 | j + 9, h => exact absurd h (by omega))
          case d3 => exact encT_one _
          case d4 => unfold maxLen; omega
          case d5 => omega
          case d6 => first | (simp; omega) | omega
          intro v4 w4 hown4 hgr4 _
          have hown5 : OT (bb + 4) w4 v4 (L ++ [⟨K, Y, X, T, Q, N, V, X2, SG⟩]) := by
            unfold OT
            rw [flatT_snoc, List.length_append]
            exact hown4
          have hrow : ∀ q, Value.ownBlock (.slice av L.length cv) = some q → bb + 4 ≤ q := fun q hq => (OT.block O5.out q hq).1
          have hlo4 : Below w.heap.size w w4 := (H5.out.alloc H5.out.size _).grown hgr4 (by have := H5.out.size; simp; omega) (fun q hq => Nat.le_trans hww (hrow q hq))
          have hlo5 : Below (bb + 4) W5 w4 := ((Below.refl _ _).alloc hsz5 _).grown hgr4 (by simp; omega) hrow
          have R4 := R5.out.below hlo5 (by omega)
          have hsz4 : bb + 4 ≤ w4.heap.size := Nat.le_trans hsz5 hlo5.size
          have HO4 := Lib.hid hown5
          have HL4 := Lib.hid hlo4
          clear x0 x1 x2 x3 x4 x5 x6 x7 x8 xf T5 hown4 hown5 hgr4 hlo4 hlo5 O5 H5 R5
          go_wp2_with fail
          refine (on_any s hs bb p z (by omega) w4 R4).mono ?_
          rintro e w6 ⟨rfl, R6, hbut⟩
          have O6 := Lib.hid (HO4.out.but hbut hRO)
          have H6 := Lib.hid (HL4.out.trans ((hbut.mono HL4.out.size (fun k h => h)).below hROg))
          have hsz6 : bb + 4 ≤ w6.heap.size := Nat.le_trans hsz4 hbut.size
          have R6' := Lib.hid R6
          clear R6 hbut HO4 HL4 R4
          go_wp2_with fail
          go_roundg (s.size - (p + z))
          case measure => omega
          case rel => exact ⟨p + z, L ++ [⟨K, Y, X, T, Q, N, V, X2, SG⟩], by omega, by omega, by simp; omega, R6', O6, by rw [← HTK.out]; exact HRR, H6, hsz6⟩
      · have m47 : ((s[p].toNat : Int) == 47) = false := beq_eq_false_iff_ne.2 (by omega)
        clear hb0 n47 n42 c47
        go_upto_region 9 with (go_at_call 10; refine (HT.out _).mono ?_; rintro e w2 ⟨rfl, hb2⟩)
        obtain ⟨W3, hW3⟩ : ∃ W, W = w2.alloc (Obj.cells #[Value.int IntKind.i64 K, Value.int IntKind.i64 0, Value.int IntKind.i64 0, Value.string T, Value.bool Q, Value.int IntKind.i64 N, Value.int IntKind.u64 V, Value.int IntKind.u64 X2, Value.bool SG] 32) := ⟨_, rfl⟩
        have b3 : Below w2.heap.size w2 W3 := by rw [hW3]; exact (Below.refl _ _).alloc (Nat.le_refl _) _
        have T3 : TB W3 w2.heap.size K 0 0 T Q N V X2 SG := by rw [hW3]; exact TB.new w2 _ _ _ _ _ _ _ _ _
        rw [← hW3]
        clear hW3
        have hb3 : Below wr.heap.size wr W3 := hb2.trans (b3.mono hb2.size)
        have R3 := HR.out.below hb3 HR.out.lt
        have O3 := Lib.hid (HO.out.below hb3)
        have H3 := Lib.hid (HLO.out.trans (hb3.mono HLO.out.size))
        have hsz3 : bb + 4 ≤ W3.heap.size := Nat.le_trans hsz hb3.size
        have hblk : bb + 4 ≤ w2.heap.size := Nat.le_trans hsz hb2.size
        have hgl2 : ∀ q, Value.ownBlock (.slice av L.length cv) = some q → q < w2.heap.size := fun q hq => Nat.lt_of_lt_of_le (hgl q hq).2 hb2.size
        clear h0 h1 h2 h3 g1 g2 g3 HR HO HLO hb2 b3 hb3 hgl HT
        obtain ⟨h0, h1, h2, h3, g1, g2, g3⟩ := id R3
        rw [HY.out.1] at h2
        rw [HY.out.2] at h3
        obtain ⟨x0, x1, x2, x3, x4, x5, x6, x7, x8, xf⟩ := id T3
        go_upto_region 11 with fail
        go_region
        obtain ⟨W5, hW5⟩ : ∃ W, W = ((W3.setCell ⟨w2.heap.size, 1, none⟩ (.int .i64 (Y : Int))).setCell ⟨w2.heap.size, 2, none⟩ (.int .i64 (X : Int))).drew := ⟨_, rfl⟩
        have hb5 : Below (bb + 4) W3 W5 := by rw [hW5]; exact (((Below.refl _ _).setCell (p := ⟨w2.heap.size, 1, none⟩) hblk _).setCell (p := ⟨w2.heap.size, 2, none⟩) hblk _).drew
        have hu5 : But (fun k => k = w2.heap.size) W3.heap.size W3 W5 := by rw [hW5]; exact (((But.refl (fun k => k = w2.heap.size) W3.heap.size W3).setCell (p := ⟨w2.heap.size, 1, none⟩) (.inl rfl) _).setCell (p := ⟨w2.heap.size, 2, none⟩) (.inl rfl) _).drew
        have T5 : TB W5 w2.heap.size K Y X T Q N V X2 SG := by rw [hW5]; exact T3.place Y X
        rw [← hW5]
        clear hW5 h0 h1 h2 h3 g1 g2 g3 x0 x1 x2 x3 x4 x5 x6 x7 x8 xf
        have R5 := Lib.hid (R3.below hb5 (by omega))
        have O5 := Lib.hid (O3.out.keep (fun q hq => hu5.block q (OT.block O3.out q hq).2 (fun e => by have := hgl2 q hq; omega)))
        have H5 := Lib.hid (H3.out.trans (hb5.mono hww))
        have hsz5 : bb + 4 ≤ W5.heap.size := Nat.le_trans hsz3 hb5.size
        have HTK : Hid (tkAt s p K T Q N V X2 SG = ⟨K, Y, X, T, Q, N, V, X2, SG⟩) := Lib.hid (by unfold tkAt; rw [HY.out.1, HY.out.2])
        clear R3 O3 H3 T3 hb5 hu5 hgl2
        obtain ⟨x0, x1, x2, x3, x4, x5, x6, x7, x8, xf⟩ := id T5
        go_upto_region 13 with (at_builtin; refine wpList_append_own _ rfl _ _ 23 rfl (bb + 4) 32 i0 _ 9 80 Tryz.underlying23 hi hz0 hz1 hz2 rfl (by decide) _ _ _ rfl (show (W5.alloc _).ownsRow (bb + 4) 32 9 _ L.length (flatT L) from OT.below O5.out ((Below.refl _ _).alloc (Nat.le_refl _) _)) ⟨W5.heap.size, 0, none⟩ 1 1 (encT ⟨K, Y, X, T, Q, N, V, X2, SG⟩) rfl ?d1 ?d2 ?d3 ?d4 ?d5 ?d6 ?_)
        case d1 => rfl
        case d2 =>
          intro j u hj
          first
            | exact hj
            | (rw [Addr.add_lit]
               have hjl : j < 9 := (List.getElem?_eq_some_iff.1 hj).1
               match j, hjl with
               | 0, _ => injection hj with hj; subst hj; go_simp
               | 1, _ => injection hj with hj; subst hj; go_simp
               | 2, _ => injection hj with hj; subst hj; go_simp
               | 3, _ => injection hj with hj; subst hj; go_simp
               | 4, _ => injection hj with hj; subst hj; go_simp
               | 5, _ => injection hj with hj; subst hj; go_simp
               | 6, _ => injection hj with hj; subst hj; go_simp
               | 7, _ => injection hj with hj; subst hj; go_simp
               | 8, _ => injection hj with hj; subst hj; go_simp
               | j + 9, h => exact absurd h (by omega))
        case d3 => exact encT_one _
        case d4 => unfold maxLen; omega
        case d5 => omega
        case d6 => first | (simp; omega) | omega
        intro v4 w4 hown4 hgr4 _
        have hown5 : OT (bb + 4) w4 v4 (L ++ [⟨K, Y, X, T, Q, N, V, X2, SG⟩]) := by
          unfold OT
          rw [flatT_snoc, List.length_append]
          exact hown4
        have hrow : ∀ q, Value.ownBlock (.slice av L.length cv) = some q → bb + 4 ≤ q := fun q hq => (OT.block O5.out q hq).1
        have hlo4 : Below w.heap.size w w4 := (H5.out.alloc H5.out.size _).grown hgr4 (by have := H5.out.size; simp; omega) (fun q hq => Nat.le_trans hww (hrow q hq))
        have hlo5 : Below (bb + 4) W5 w4 := ((Below.refl _ _).alloc hsz5 _).grown hgr4 (by simp; omega) hrow
        have R4 := R5.out.below hlo5 (by omega)
        have hsz4 : bb + 4 ≤ w4.heap.size := Nat.le_trans hsz5 hlo5.size
        have HO4 := Lib.hid hown5
        have HL4 := Lib.hid hlo4
        clear x0 x1 x2 x3 x4 x5 x6 x7 x8 xf T5 hown4 hown5 hgr4 hlo4 hlo5 O5 H5 R5
        go_wp2_with fail
        refine (on_any s hs bb p z (by omega) w4 R4).mono ?_
        rintro e w6 ⟨rfl, R6, hbut⟩
        have O6 := Lib.hid (HO4.out.but hbut hRO)
        have H6 := Lib.hid (HL4.out.trans ((hbut.mono HL4.out.size (fun k h => h)).below hROg))
        have hsz6 : bb + 4 ≤ w6.heap.size := Nat.le_trans hsz4 hbut.size
        have R6' := Lib.hid R6
        clear R6 hbut HO4 HL4 R4
        go_wp2_with fail
        go_roundg (s.size - (p + z))
        case measure => omega
        case rel => exact ⟨p + z, L ++ [⟨K, Y, X, T, Q, N, V, X2, SG⟩], by omega, by omega, by simp; omega, R6', O6, by rw [← HTK.out]; exact HRR, H6, hsz6⟩
    | @bad _ _ er h hn hRt =>
      obtain ⟨Y, hY⟩ : ∃ Y : Nat, (plcT s p).1 = Y := ⟨_, rfl⟩
      obtain ⟨X, hX⟩ : ∃ X : Nat, (plcT s p).2 = X := ⟨_, rfl⟩
      have HY : Hid ((plcT s p).1 = Y ∧ (plcT s p).2 = X) := Lib.hid ⟨hY, hX⟩
      rw [hY] at h2
      rw [hX] at h3
      clear hY hX hx HX
      have hpi : (p : Int) < (s.size : Int) := by omega
      have hpi2 : (p : Int) ≤ (s.size : Int) := by omega
      have hb0 : s[p].toNat = gb s p := gb_at s p h
      have hrt := token_rt (rst s p) (by rw [rst_size]; omega) (by rw [rst_size]; omega) _ hRt
      obtain ⟨he0, K, T, Q, N, V, X2, SG, z, hrt⟩ := hrt
      have hE1 : (er == 0) = false := beq_eq_false_iff_ne.2 he0
      have hE2 : (er != 0) = true := by rw [bne, hE1]; rfl
      clear he0
      have hT : ∀ W, Calls Tryz.prog 10 #[.string (s.extract p s.size)] W fun u w' => u = .returned (.tuple #[.agg #[.int .i64 K, .int .i64 0, .int .i64 0, .string T, .bool Q, .int .i64 N, .int .u64 V, .int .u64 X2, .bool SG], .int .i64 z, .int .i64 er]) ∧ Below W.heap.size W w' := hrt
      have HT := Lib.hid hT
      clear hrt hT hRt
      obtain ⟨hB, n47, n42⟩ : isB (gb s p) = false ∧ ¬ (gb s p = 47 ∧ p + 1 < s.size ∧ gb s (p + 1) = 47) ∧ ¬ (gb s p = 47 ∧ p + 1 < s.size ∧ gb s (p + 1) = 42) := by
        rcases hop_bytes s p h with ⟨_, hh⟩ | ⟨_, _, _, hh⟩ | ⟨_, _, _, hh⟩ | ⟨a1, a2, a3, _⟩
        · exact absurd (hn.symm.trans hh) (by simp)
        · exact absurd (hn.symm.trans hh) (by simp)
        · rw [hn] at hh; split at hh <;> cases hh
        · exact ⟨a1, a2, a3⟩
      obtain ⟨e32, e9, e10⟩ := isB_not hB
      have k32 : ((s[p].toNat : Int) == 32) = false := beq_eq_false_iff_ne.2 (by omega)
      have k9 : ((s[p].toNat : Int) == 9) = false := beq_eq_false_iff_ne.2 (by omega)
      have k10 : ((s[p].toNat : Int) == 10) = false := beq_eq_false_iff_ne.2 (by omega)
      clear hn hB e32 e9 e10
      by_cases c47 : gb s p = 47
      · have m47 : ((s[p].toNat : Int) == 47) = true := by rw [hb0, c47]; rfl
        clear hb0
        by_cases q1 : p + 1 < s.size
        · have q1i : (p : Int) + 1 < (s.size : Int) := by omega
          have hp1 : (0 : Int) ≤ (p : Int) + 1 := by omega
          have hd := gb_at s (p + 1) q1
          have d47 : ((s[p + 1].toNat : Int) == 47) = false := beq_eq_false_iff_ne.2 (by rw [hd]; intro e; exact n47 ⟨c47, q1, by omega⟩)
          have d42 : ((s[p + 1].toNat : Int) == 42) = false := beq_eq_false_iff_ne.2 (by rw [hd]; intro e; exact n42 ⟨c47, q1, by omega⟩)
          clear hd n47 n42 c47
          go_upto_region 9 with (go_at_call 10; refine (HT.out _).mono ?_; rintro e w2 ⟨rfl, hb2⟩)
          obtain ⟨W3, hW3⟩ : ∃ W, W = w2.alloc (Obj.cells #[Value.int IntKind.i64 K, Value.int IntKind.i64 0, Value.int IntKind.i64 0, Value.string T, Value.bool Q, Value.int IntKind.i64 N, Value.int IntKind.u64 V, Value.int IntKind.u64 X2, Value.bool SG] 32) := ⟨_, rfl⟩
          have b3 : Below w2.heap.size w2 W3 := by rw [hW3]; exact (Below.refl _ _).alloc (Nat.le_refl _) _
          have T3 : TB W3 w2.heap.size K 0 0 T Q N V X2 SG := by rw [hW3]; exact TB.new w2 _ _ _ _ _ _ _ _ _
          rw [← hW3]
          clear hW3
          have hb3 : Below wr.heap.size wr W3 := hb2.trans (b3.mono hb2.size)
          have R3 := HR.out.below hb3 HR.out.lt
          have O3 := Lib.hid (HO.out.below hb3)
          have H3 := Lib.hid (HLO.out.trans (hb3.mono HLO.out.size))
          have hsz3 : bb + 4 ≤ W3.heap.size := Nat.le_trans hsz hb3.size
          have hblk : bb + 4 ≤ w2.heap.size := Nat.le_trans hsz hb2.size
          have hgl2 : ∀ q, Value.ownBlock (.slice av L.length cv) = some q → q < w2.heap.size := fun q hq => Nat.lt_of_lt_of_le (hgl q hq).2 hb2.size
          clear h0 h1 h2 h3 g1 g2 g3 HR HO HLO hb2 b3 hb3 hgl HT
          obtain ⟨h0, h1, h2, h3, g1, g2, g3⟩ := id R3
          rw [HY.out.1] at h2
          rw [HY.out.2] at h3
          go_wp2_with fail
          go_region
          go_wp2_with fail
          exact bodyPost_ret (v := .tuple #[.slice none 0 0, .int .i64 (Y : Int), .int .i64 (X : Int), .int .i64 er]) (by simp [results, Tryz.results6, go_sem]) rfl ⟨by rw [HY.out.1, HY.out.2]; exact rfl, H3.out.drew⟩
        · have q1i : ¬ (p : Int) + 1 < (s.size : Int) := by omega
          clear n47 n42 c47
          go_upto_region 9 with (go_at_call 10; refine (HT.out _).mono ?_; rintro e w2 ⟨rfl, hb2⟩)
          obtain ⟨W3, hW3⟩ : ∃ W, W = w2.alloc (Obj.cells #[Value.int IntKind.i64 K, Value.int IntKind.i64 0, Value.int IntKind.i64 0, Value.string T, Value.bool Q, Value.int IntKind.i64 N, Value.int IntKind.u64 V, Value.int IntKind.u64 X2, Value.bool SG] 32) := ⟨_, rfl⟩
          have b3 : Below w2.heap.size w2 W3 := by rw [hW3]; exact (Below.refl _ _).alloc (Nat.le_refl _) _
          have T3 : TB W3 w2.heap.size K 0 0 T Q N V X2 SG := by rw [hW3]; exact TB.new w2 _ _ _ _ _ _ _ _ _
          rw [← hW3]
          clear hW3
          have hb3 : Below wr.heap.size wr W3 := hb2.trans (b3.mono hb2.size)
          have R3 := HR.out.below hb3 HR.out.lt
          have O3 := Lib.hid (HO.out.below hb3)
          have H3 := Lib.hid (HLO.out.trans (hb3.mono HLO.out.size))
          have hsz3 : bb + 4 ≤ W3.heap.size := Nat.le_trans hsz hb3.size
          have hblk : bb + 4 ≤ w2.heap.size := Nat.le_trans hsz hb2.size
          have hgl2 : ∀ q, Value.ownBlock (.slice av L.length cv) = some q → q < w2.heap.size := fun q hq => Nat.lt_of_lt_of_le (hgl q hq).2 hb2.size
          clear h0 h1 h2 h3 g1 g2 g3 HR HO HLO hb2 b3 hb3 hgl HT
          obtain ⟨h0, h1, h2, h3, g1, g2, g3⟩ := id R3
          rw [HY.out.1] at h2
          rw [HY.out.2] at h3
          go_wp2_with fail
          go_region
          go_wp2_with fail
          exact bodyPost_ret (v := .tuple #[.slice none 0 0, .int .i64 (Y : Int), .int .i64 (X : Int), .int .i64 er]) (by simp [results, Tryz.results6, go_sem]) rfl ⟨by rw [HY.out.1, HY.out.2]; exact rfl, H3.out.drew⟩
      · have m47 : ((s[p].toNat : Int) == 47) = false := beq_eq_false_iff_ne.2 (by omega)
        clear hb0 n47 n42 c47
        go_upto_region 9 with (go_at_call 10; refine (HT.out _).mono ?_; rintro e w2 ⟨rfl, hb2⟩)
        obtain ⟨W3, hW3⟩ : ∃ W, W = w2.alloc (Obj.cells #[Value.int IntKind.i64 K, Value.int IntKind.i64 0, Value.int IntKind.i64 0, Value.string T, Value.bool Q, Value.int IntKind.i64 N, Value.int IntKind.u64 V, Value.int IntKind.u64 X2, Value.bool SG] 32) := ⟨_, rfl⟩
        have b3 : Below w2.heap.size w2 W3 := by rw [hW3]; exact (Below.refl _ _).alloc (Nat.le_refl _) _
        have T3 : TB W3 w2.heap.size K 0 0 T Q N V X2 SG := by rw [hW3]; exact TB.new w2 _ _ _ _ _ _ _ _ _
        rw [← hW3]
        clear hW3
        have hb3 : Below wr.heap.size wr W3 := hb2.trans (b3.mono hb2.size)
        have R3 := HR.out.below hb3 HR.out.lt
        have O3 := Lib.hid (HO.out.below hb3)
        have H3 := Lib.hid (HLO.out.trans (hb3.mono HLO.out.size))
        have hsz3 : bb + 4 ≤ W3.heap.size := Nat.le_trans hsz hb3.size
        have hblk : bb + 4 ≤ w2.heap.size := Nat.le_trans hsz hb2.size
        have hgl2 : ∀ q, Value.ownBlock (.slice av L.length cv) = some q → q < w2.heap.size := fun q hq => Nat.lt_of_lt_of_le (hgl q hq).2 hb2.size
        clear h0 h1 h2 h3 g1 g2 g3 HR HO HLO hb2 b3 hb3 hgl HT
        obtain ⟨h0, h1, h2, h3, g1, g2, g3⟩ := id R3
        rw [HY.out.1] at h2
        rw [HY.out.2] at h3
        go_wp2_with fail
        go_region
        go_wp2_with fail
        exact bodyPost_ret (v := .tuple #[.slice none 0 0, .int .i64 (Y : Int), .int .i64 (X : Int), .int .i64 er]) (by simp [results, Tryz.results6, go_sem]) rfl ⟨by rw [HY.out.1, HY.out.2]; exact rfl, H3.out.drew⟩
end Go.Proofs.YtfnkablbcalclaaGreatDoor
