/- The reference's forms: the table of all kinds. -/
import Derived.Test.YtpjnjcljaoaceaaMgPat
import Derived.Test.YtpjnjcljaoaceaaMgStr
import Derived.Deep.AppendLies
import Derived.Deep.CutBlock
import Derived.Deep.DeepCutAuto
import Derived.Laws.OwnMore
namespace Go.Proofs.Ytpjnjcljaoaceaa
open Go Go.RowKit
set_option linter.unusedVariables false
theorem bs_ne (l : List UInt8) : ((bs l).toList == [47]) = (l == [47]) := by
  rw [ByteArray.toList_eq]
  simp [bs]
theorem bs_eq45 (l : List UInt8) : ((bs l).toList == [45]) = (l == [45]) := by
  rw [ByteArray.toList_eq]
  simp [bs]
def wordsB : List ByteArray := allL.map bs
theorem wordsB_len : wordsB.length = 488 := by unfold wordsB; rw [List.length_map, allL_len]
theorem wordsB_at (k : Nat) (h : k < wordsB.length) : wordsB[k] = bs (allL.getD k []) := by
  have h1 : k < allL.length := by rw [allL_len]; rw [wordsB_len] at h; exact h
  have h2 : wordsB[k]? = some (bs (allL.getD k [])) := by
    unfold wordsB
    rw [List.getElem?_map]
    simp [h1]
  rw [List.getElem?_eq_getElem h] at h2
  exact Option.some.inj h2
set_option maxRecDepth 100000 in
set_option maxHeartbeats 4000000 in
theorem forms_any (w : World) : Calls Try.prog 12 #[] w fun e w' => ∃ v, e = .returned v ∧ OF w.heap.size w' v formR ∧ Below w.heap.size w w' := by
  have h := fun w1 => split_any patT (by rw [patT_size]; decide) (patL.map bs) (Lib.hid pat_words) w1
  unfold patT at h
  have H := Lib.hid h
  clear h
  have hP : (patL.map bs).length = 487 := by rw [List.length_map]; decide +kernel
  have HP : Hid (patL.map bs ++ [bs [47]] = wordsB) := Lib.hid (by unfold wordsB allL; rw [List.map_append]; rfl)
  generalize patL.map bs = P at *
  obtain ⟨i0, hi, hz0, hz1, hz2⟩ := infoS_parts
  obtain ⟨j0, gi, gz0, gz1, gz2⟩ := infoF_parts
  have HZ := Lib.hid (And.intro hi (And.intro hz0 (And.intro hz1 hz2)))
  have GZ := Lib.hid (And.intro gi (And.intro gz0 (And.intro gz1 gz2)))
  go_enter Try.func12, Try.ntmps12
  go_upto_region 3 with fail
  go_cut [8, 9, 10] (fun v n i wx => ∃ v8, v8 = v ∧ n = .int .i64 488 ∧ i = .int .i64 0 ∧ Hid (OS w.heap.size wx v8 wordsB) ∧ RowKit.Below w.heap.size w wx)
  case first =>
    go_wp2_with (first | (go_at_call 20; refine (H.out _).mono ?_; rintro e w1 ⟨v, rfl, ho, hb⟩) | (at_builtin; refine wpList_append_own _ rfl _ _ 49 rfl w.heap.size 9 i0 (.string ⟨#[]⟩) 1 16 Try.underlying49 hi hz0 hz1 hz2 rfl (by decide) _ _ _ rfl (World.ownsRow.alloc (show w1.ownsRow w.heap.size 9 1 _ P.length (P.map Value.string) from ho) _) ⟨w1.heap.size, 0, none⟩ 1 1 [.string ⟨#[47]⟩] rfl rfl ?d1 ?d2 ?d3 ?d4 ?d5 ?_))
    try case d1 =>
      intro q u hq
      match q, hq with
      | 0, hq => simp at hq; subst hq; simp [Addr.add]
    case d2 => first | (intro u hu; simp at hu; subst hu; rfl) | rfl
    case d3 => unfold maxLen; omega
    case d4 => omega
    case d5 => have := hb.size; simp; omega
    intro v5 w5 hown5 hgr5 _
    have hown6 : OS w.heap.size w5 v5 wordsB := by
      rw [← HP.out]
      unfold OS
      rw [List.map_append, List.length_append, hP]
      exact hown5
    have hlo6 : Below w.heap.size w w5 := (hb.alloc hb.size _).grown hgr5 (by have := hb.size; simp; omega) (fun q hq => ((show w1.ownsRow w.heap.size 9 1 _ P.length (P.map Value.string) from ho).lt q hq).1)
    clear hown5 hgr5 ho
    obtain ⟨g8, c8, h8⟩ : ∃ a c, v5 = .slice a wordsB.length c := by
      rcases hown6.2 with ⟨h1, h0⟩ | ⟨g, cap, cur, hv, _⟩
      · exact ⟨none, 0, by rw [h1, h0]⟩
      · exact ⟨_, _, hv⟩
    subst h8
    rw [wordsB_len] at hown6
    rw [wordsB_len]
    have HO6 := Lib.hid hown6
    clear hown6
    go_wp2_with fail
    go_meet
    exact ⟨_, rfl, rfl, rfl, HO6, hlo6⟩
  case rest =>
  obtain ⟨v8, hv8, rfl, rfl, HO8, hlo8⟩ := hcut
  subst hv8
  rename World => W1
  clear H HP hP
  have h488 := wordsB_len
  obtain ⟨g8, c8, rfl, hc8, hat⟩ := HO8.out.at (by rw [h488]; omega)
  rw [h488]
  have HAT := Lib.hid (show ∀ k, k < 488 → W1.cell? ⟨g8, k, none⟩ = some (.string (bs (allL.getD k []))) from fun k hk => by rw [hat k (by rw [h488]; exact hk), wordsB_at])
  have hc8' : 488 ≤ c8 := by rw [h488] at hc8; exact hc8
  clear hat HO8 h488 hc8
  go_wp2_with fail
  have hlw1 := hlo8.size
  go_loopw [1, 2, 10] (fun u o i wr => ∃ k Bo : Nat, k ≤ 488 ∧ i = .int .i64 (k : Int) ∧ Hid (OF W1.heap.size wr u (formR.take (k / 4))) ∧ Hid (OS Bo wr o ((oneL k).map bs)) ∧ Hid (W1.heap.size ≤ Bo ∧ Bo ≤ wr.heap.size ∧ ∀ q, u.ownBlock = some q → q < Bo) ∧ Below W1.heap.size W1 wr) (fun _ _ i _ => 488 - (intOf i).toNat)
  case atStart => exact ⟨0, W1.heap.size, Nat.zero_le _, rfl, Lib.hid (World.ownsRow_nil _ _ _ _), Lib.hid (World.ownsRow_nil _ _ _ _), Lib.hid ⟨Nat.le_refl _, Nat.le_refl _, fun q h => by cases h⟩, Below.refl _ _⟩
  case round =>
    obtain ⟨k, Bo, hk, rfl, HF, HS, HBo, hlo⟩ := hrel
    rename World => WR
    by_cases hlt : k < 488
    · have ck := (Below.cell hlo (p := ⟨g8, k, none⟩) (World.block_lt_of_cell? W1 _ (HAT.out k hlt))).trans (HAT.out k hlt)
      have hsg := sign_at ⟨k, hlt⟩
      simp only at hsg
      have hkI : (k : Int) < 488 := by omega
      have hk0 : (0 : Int) ≤ (k : Int) := by omega
      have hneq := bs_ne (allL.getD k [])
      by_cases h3 : k % 4 = 3
      · have HT := oneL_three k hlt h3
        have HN := Lib.hid (oneL_sign k hlt h3)
        have HQ := Lib.hid (formR_next k hlt h3)
        have hwn : ((bs (allL.getD k [])).toList == [47]) = true := by rw [hneq, hsg]; simp [h3]
        have hS := HS.out
        rw [HT] at hS
        have hb45 := bs_eq45 (allL.getD (4 * (k / 4) + 1) [])
        clear hneq hsg HT HS h3
        generalize allL.getD (4 * (k / 4)) [] = XA at *
        generalize allL.getD (4 * (k / 4) + 1) [] = XB at *
        generalize allL.getD (4 * (k / 4) + 2) [] = XC at *
        generalize allL.getD k [] = X at *
        generalize bs X = XW at *
        simp only [List.map_cons, List.map_nil] at hS
        obtain ⟨go, co, rfl, hco, hca⟩ := hS.at (by simp)
        have q0 := hca 0 (by simp)
        have q1 := hca 1 (by simp)
        have q2 := hca 2 (by simp)
        simp only [List.getElem_cons_zero, List.getElem_cons_succ, List.length_cons, List.length_nil, Nat.zero_add, Nat.reduceAdd] at q0 q1 q2 hco
        have HF0 := HF.out
        have hfl : (formR.take (k / 4)).length ≤ 122 := by rw [List.length_take, formR_len]; omega
        clear hS hca HF
        generalize hFL : formR.take (k / 4) = FL at *
        clear hFL
        obtain ⟨av, cv, rfl⟩ := HF0.form
        have HF1 := Lib.hid HF0
        have HL0 := Lib.hid hlo
        clear HF0 hlo
        have hgo : go < WR.heap.size := World.block_lt_of_cell? WR _ q0
        simp only [List.length_cons, List.length_nil, Nat.zero_add, Nat.reduceAdd]
        obtain ⟨E, hE⟩ : ∃ E, (XB == [45]) = E := ⟨_, rfl⟩
        rw [hE] at hb45
        have eKB : (if XB = [45] then ([] : List UInt8) else XB) = (if E = true then [] else XB) := by
          rw [← hE]
          by_cases h : XB = [45]
          · rw [if_pos h, if_pos (by rw [h]; rfl)]
          · rw [if_neg h, if_neg (by simpa using h)]
        rw [eKB] at HQ
        clear eKB hE
        go_upto_region 8 with fail
        go_cut [5] (fun p wx => p = .pointer (some ⟨WR.heap.size, 0, none⟩) ∧ wx = (WR.alloc (Obj.cells #[.string (bs XA), .string (bs XB), .string (bs XC)] 47)).drew)
        case first =>
          clear HF1 HL0 HQ HN hb45 hfl
          go_region_with fail
          all_goals (go_wp2_with fail; go_meet; exact ⟨rfl, rfl⟩)
        case rest =>
        obtain ⟨rfl, rfl⟩ := hcut
        clear q0 q1 q2
        obtain ⟨W5, hW5⟩ : ∃ W, W = (WR.alloc (Obj.cells #[.string (bs XA), .string (bs XB), .string (bs XC)] 47)).drew := ⟨_, rfl⟩
        have b5 : Below WR.heap.size WR W5 := by rw [hW5]; exact ((Below.refl _ _).alloc (Nat.le_refl _) _).drew
        have e0 : W5.cell? ⟨WR.heap.size, 0, none⟩ = some (.string (bs XA)) := by rw [hW5]; go_simp
        have e1 : W5.cell? ⟨WR.heap.size, 1, none⟩ = some (.string (bs XB)) := by rw [hW5]; go_simp
        have e2 : W5.cell? ⟨WR.heap.size, 2, none⟩ = some (.string (bs XC)) := by rw [hW5]; go_simp
        have f1 : W5.frozen? ⟨WR.heap.size, 1, none⟩ = false := by rw [hW5]; go_simp
        rw [← hW5]
        clear hW5
        go_upto_if 32 with fail
        go_cut [] (fun wx => ∃ W6 : World, W6 = wx ∧ W6.cell? ⟨WR.heap.size, 0, none⟩ = some (.string (bs XA)) ∧ W6.cell? ⟨WR.heap.size, 1, none⟩ = some (.string (bs (if E = true then [] else XB))) ∧ W6.cell? ⟨WR.heap.size, 2, none⟩ = some (.string (bs XC)) ∧ RowKit.Below WR.heap.size WR W6)
        case first =>
          clear HF1 HL0 HQ HN hco hfl
          cases E
          · clear hb45
            go_wp2_with fail
            go_meet
            exact ⟨_, rfl, e0, by simpa using e1, e2, b5⟩
          · clear hb45
            go_wp2_with fail
            go_meet
            exact ⟨_, rfl, by go_simp, by go_simp; rfl, by go_simp, b5.setCell (Nat.le_refl _) _⟩
        case rest =>
        obtain ⟨W6, hW6, g0, g1, g2, b6⟩ := hcut
        subst hW6
        clear e0 e1 e2 f1 b5 hb45
        generalize hKB : (if E = true then ([] : List UInt8) else XB) = KB at *
        clear hKB
        have O6 := Lib.hid (HF1.out.below b6)
        have h6 := b6.size
        have hw6 : W1.heap.size ≤ WR.heap.size := HL0.out.size
        have hlo6 := HL0.out.trans (b6.mono hw6)
        go_upto_region 12 with (at_builtin; refine wpList_append_own _ rfl _ _ 42 rfl W1.heap.size 47 j0 _ 3 48 Try.underlying42 gi gz0 gz1 gz2 rfl (by decide) _ _ _ rfl (show (W6.alloc _).ownsRow W1.heap.size 47 3 _ FL.length (flatF FL) from OF.below O6.out ((Below.refl _ _).alloc (Nat.le_refl _) _)) ⟨W6.heap.size, 0, none⟩ 1 1 (encF (XA, KB, XC)) rfl ?d1 ?d2 ?d3 ?d4 ?d5 ?d6 ?_)
        case d1 => rfl
        case d2 =>
          intro j u hj
          rw [Addr.add_lit]
          have hjl : j < 3 := (List.getElem?_eq_some_iff.1 hj).1
          match j, hjl with
          | 0, _ => injection hj with hj; subst hj; go_simp
          | 1, _ => injection hj with hj; subst hj; go_simp
          | 2, _ => injection hj with hj; subst hj; go_simp
          | j + 3, h => exact absurd h (by omega)
        case d3 => exact encF_one _
        case d4 => unfold maxLen; omega
        case d5 => omega
        case d6 => simp; omega
        intro v7 w7 hown7 hgr7 _
        have hown8 : OF W1.heap.size w7 v7 (FL ++ [(XA, KB, XC)]) := by
          unfold OF
          rw [flatF_snoc, List.length_append]
          exact hown7
        have hlo7 : Below W1.heap.size W1 w7 := (hlo6.alloc hlo6.size _).grown hgr7 (by have := hlo6.size; simp; omega) (fun q hq => (OF.block O6.out q hq).1)
        have HO8 := Lib.hid hown8
        clear hown7 hown8 hgr7 hlo6
        go_wp2_with fail
        go_roundw
        case rel => exact ⟨k + 1, w7.heap.size, by omega, by go_num, by rw [HQ.out]; exact HO8, by rw [HN.out]; exact Lib.hid (World.ownsRow_nil _ _ _ _), Lib.hid ⟨hlo7.size, Nat.le_refl _, fun q hq => (OF.block HO8.out q hq).2⟩, hlo7⟩
        case measure => simp [intOf] <;> omega
      · have HN := Lib.hid (oneL_word k hlt h3)
        have HQ : Hid ((k + 1) / 4 = k / 4) := Lib.hid (by omega)
        have hwn : ((bs (allL.getD k [])).toList == [47]) = false := by rw [hneq, hsg]; simp [h3]
        have hol := oneL_len k hk
        clear hneq hsg
        generalize allL.getD k [] = X at *
        generalize hON : (oneL k).map bs = ON at *
        have hoN : ON.length ≤ 4 := by rw [← hON, List.length_map, hol]; omega
        have HN2 : Hid ((oneL (k + 1)).map bs = ON ++ [bs X]) := Lib.hid (by rw [HN.out, List.map_append, hON]; rfl)
        generalize bs X = XB at *
        have HS0 := HS.out
        have HL0 := Lib.hid hlo
        have HF0 := Lib.hid HF.out
        have hw6 : W1.heap.size ≤ WR.heap.size := hlo.size
        clear hON hol HN HF hlo
        go_upto_region 13 with (at_builtin; refine wpList_append_own _ rfl _ _ 49 rfl Bo 9 i0 (.string ⟨#[]⟩) 1 16 Try.underlying49 hi hz0 hz1 hz2 rfl (by decide) _ _ _ rfl (World.ownsRow.alloc (show WR.ownsRow Bo 9 1 _ ON.length (ON.map Value.string) from HS0) _) ⟨WR.heap.size, 0, none⟩ 1 1 [.string XB] rfl rfl ?d1 ?d2 ?d3 ?d4 ?d5 ?_)
        try case d1 =>
          intro q u hq
          match q, hq with
          | 0, hq => simp at hq; subst hq; simp [Addr.add]
        case d2 => first | (intro u hu; simp at hu; subst hu; rfl) | rfl
        case d3 => unfold maxLen; omega
        case d4 => omega
        case d5 => have := HBo.out.2.1; simp; omega
        intro v5 w5 hown5 hgr5 _
        have hown6 : OS Bo w5 v5 (ON ++ [XB]) := by
          unfold OS
          rw [List.map_append, List.length_append]
          exact hown5
        have hlo6 : Below W1.heap.size W1 w5 := (HL0.out.alloc HL0.out.size _).grown hgr5 (by have := HL0.out.size; simp; omega) (fun q hq => Nat.le_trans HBo.out.1 ((show WR.ownsRow Bo 9 1 _ ON.length (ON.map Value.string) from HS0).lt q hq).1)
        have HF6 := Lib.hid (OF.keep HF0.out (w' := w5) (fun q hq => by
          have h1 := HBo.out.2.2 q hq
          have h2 := (OF.block HF0.out q hq).2
          rw [hgr5.block q (by simp; omega) (fun e => by
            have := ((show WR.ownsRow Bo 9 1 _ ON.length (ON.map Value.string) from HS0).lt q e.symm).1
            omega)]
          exact ((Below.refl _ _).alloc (Nat.le_refl _) _).block q h2))
        have hs5 : Bo ≤ w5.heap.size := by
          have h1 := HBo.out.2.1
          have h2 := hgr5.size
          simp at h2
          omega
        have HO6 : Hid (OS Bo w5 v5 ((oneL (k + 1)).map bs)) := Lib.hid (by rw [HN2.out]; exact hown6)
        rw [← HQ.out] at HF6
        clear hown5 hown6 hgr5 HS0 HN2 HL0
        go_wp2_with fail
        go_roundw
        case rel => exact ⟨k + 1, Bo, by omega, by go_num, HF6, HO6, Lib.hid ⟨HBo.out.1, hs5, HBo.out.2.2⟩, hlo6⟩
        case measure => simp [intOf] <;> omega
    · obtain rfl : k = 488 := by omega
      have HE : Hid (formR.take (488 / 4) = formR) := Lib.hid (List.take_of_length_le (by rw [formR_len]; decide))
      rw [HE.out] at HF
      go_wp2_with fail
      go_ret
      exact ⟨_, rfl, HF.out.mono hlw1, hlo8.trans (hlo.mono hlw1)⟩
end Go.Proofs.Ytpjnjcljaoaceaa
