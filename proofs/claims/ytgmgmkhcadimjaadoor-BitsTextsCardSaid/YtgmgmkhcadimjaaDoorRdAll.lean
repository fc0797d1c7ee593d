/- Read of any text of at most 1000 bytes. -/
import Derived.Test.YtgmgmkhcadimjaaDoorRdP
import Derived.Test.YtgmgmkhcadimjaaDoorApLa
import Derived.Test.YtgmgmkhcadimjaaDoorApLb
import Derived.Test.YtgmgmkhcadimjaaDoorDigitsL
import Derived.Test.YtgmgmkhcadimjaaDoorRfRdM
namespace Go.Proofs.YtgmgmkhcadimjaaDoor
open Go Go.RowKit
set_option linter.unusedVariables false
theorem dw_le (c : Nat) : dw c ≤ 4 := by
  unfold dw
  repeat' split
  all_goals omega
theorem dig_list {d : ByteArray} (h : allB (fun c => isDig c.toNat) d = true) : ∀ c ∈ d.data.toList, 48 ≤ c.toNat ∧ c.toNat ≤ 57 := by
  intro c hc
  unfold allB at h
  exact isDig_yes.1 (List.all_eq_true.1 h c hc)
theorem wid_pos {s wd r0 rs : ByteArray} (C : Cutt s wd r0 rs) : 1 ≤ wid wd := by
  have hd : ∀ k, k < wd.size → dv (wd.data.toList.getD k 0).toNat = (wd.data.toList.getD k 0).toNat - 48 := fun k hk => by
    rw [List.getD_eq_getElem?_getD, List.getElem?_eq_getElem (by rw [size_list]; exact hk)]
    exact dv_dig (C.digs _ (List.getElem_mem _))
  rcases rfw_wid hd wd.size (Nat.le_refl _) with h | h
  · have hw0 := C.w0
    have h2 : 0 < rfw wd wd.size := by
      refine rfw_pos ?_ _ hw0
      rw [byte_at wd 0 hw0]
      have h3 := C.digs wd[0] (by rw [← at_list wd 0 hw0]; exact List.getElem_mem _)
      have h4 : wd[0].toNat ≠ 48 := by
        have hl := C.list
        have h0 : 0 < s.size := Nat.lt_of_le_of_lt (Nat.zero_le _) C.lt
        have e : wd[0] = s[0] := by
          rw [← at_list wd 0 hw0, ← at_list s 0 h0]
          simp only [hl]
          rw [List.getElem_append_left]
        rw [e]
        exact C.nz h0
      omega
    unfold wid; omega
  · unfold wid; omega
theorem prog_read (s : ByteArray) (v : Value) (hs : s.size ≤ 1000) (hR : Rdg s v) (m : Int) (ev : Value) (w : World) (hm : w.cell? ⟨0, 0, none⟩ = some (.int .i64 m)) (hv : w.cell? ⟨2, 0, none⟩ = some ev) (hev : ev = .nilIface ∨ ∃ te pe, ev = .iface te pe) :
    Calls Tryd.prog 5 #[.string s] w fun e w' => e = .returned v ∧ Below w.heap.size w w' := by
  have hw := World.block_lt_of_cell? w _ hm
  have cm : ∀ {w1}, Below w.heap.size w w1 → w1.cell? ⟨0, 0, none⟩ = some (.int .i64 m) := fun hb => kcell0 hb hm
  have cw : ∀ {w1}, Below w.heap.size w w1 → 0 < w1.heap.size := fun hb => Nat.lt_of_lt_of_le hw hb.size
  have hs4 : s.size < 4294967281 := by omega
  rcases first39 s.data.toList with hn | ⟨p, q, hl, hp⟩
  · have hbad : v = bad 10 := rdg_bad (fun wd r0 rs C => by
      have hc := C.cut.out
      rw [show (⟨#[39]⟩ : ByteArray).data.toList = [39] from rfl, cut_no39 _ hn] at hc
      exact absurd (congrArg (fun t => t.2.2) hc) (by simp)) hR
    obtain ⟨rs, hrs⟩ := trim_some ⟨#[]⟩
    rw [hbad]
    exact read_no s ⟨#[]⟩ 0 0 w fun w1 hb => ap_a s s rs ⟨#[]⟩ hs4 m w1 (cm hb) (cw hb) (Lib.hid (cut_no39 _ hn)) (trim_of hrs)
  obtain ⟨wd, hwd⟩ : ∃ wd : ByteArray, wd.data.toList = p := ⟨⟨p.toArray⟩, rfl⟩
  obtain ⟨r0, hr0⟩ : ∃ r0 : ByteArray, r0.data.toList = q := ⟨⟨q.toArray⟩, rfl⟩
  obtain ⟨rs, hrs⟩ := trim_some r0
  subst hwd hr0
  have hcut : Lib.cut s.data.toList [39] = (wd.data.toList, r0.data.toList, true) := by rw [hl]; exact cut_39 _ _ hp
  have HC : Hid (Lib.cut s.data.toList (⟨#[39]⟩ : ByteArray).data.toList = (wd.data.toList, r0.data.toList, true)) := Lib.hid hcut
  have HT := trim_of hrs
  have same : ∀ {wd' r0' rs'}, Cutt s wd' r0' rs' → wd' = wd := fun {wd' r0' rs'} C => by
    have hc := C.cut.out
    rw [show (⟨#[39]⟩ : ByteArray).data.toList = [39] from rfl, hcut] at hc
    injection hc with h1 h2
    have : wd'.data.toList.toArray = wd.data.toList.toArray := by rw [h1]
    rw [Array.toArray_toList, Array.toArray_toList] at this
    cases wd; cases wd'; cases this; rfl
  have hsz : s.size = wd.size + 1 + r0.size := by
    have := congrArg List.length hl
    rw [List.length_append, List.length_cons, size_list, size_list, size_list] at this
    omega
  have hrsz : rs.size ≤ r0.size := by
    rcases hrs with ⟨_, _, h⟩ | ⟨_, h⟩
    · rw [h]; simp
    · rw [h]; exact Nat.le_refl _
  by_cases h0 : 0 < wd.size
  · by_cases hz : wd[0].toNat = 48
    · have hbad : v = bad 10 := rdg_bad (fun wd' r0' rs' C => by
        obtain rfl := same C
        have h1 : 0 < s.size := by omega
        have e : wd'[0] = s[0] := by
          rw [← at_list wd' 0 h0, ← at_list s 0 h1]
          simp only [hl]
          rw [List.getElem_append_left]
        rw [e] at hz
        exact C.nz h1 hz) hR
      rw [hbad]
      exact read_no s ⟨#[]⟩ 0 0 w fun w1 hb => ap_c s wd rs r0 hs4 m w1 (cm hb) (cw hb) HC HT h0 (by rw [hz]; rfl)
    · have hz2 : ((wd[0].toNat : Int) == 48) = false := beq_eq_false_iff_ne.2 (by omega)
      by_cases hd : allB (fun c => isDig c.toNat) wd = true
      · have C : Cutt s wd r0 rs := by
          have hlt : wd.size < s.size := by omega
          refine ⟨h0, hlt, ?_, fun i h hi => ?_, fun h => ?_, fun h => ?_, ?_, hrs⟩
          · apply ByteArray.ext
            apply Array.toList_inj.1
            rw [ext_list, hl, List.drop_zero, ← size_list wd, List.take_left]
          · have e : s[i] = wd[i] := by
              rw [← at_list s i h, ← at_list wd i hi]
              simp only [hl]
              rw [List.getElem_append_left]
            rw [e]
            exact isDig_yes.1 (allB_yes hd i hi)
          · have e : wd[0] = s[0] := by
              rw [← at_list wd 0 h0, ← at_list s 0 h]
              simp only [hl]
              rw [List.getElem_append_left]
            rw [← e]; exact hz
          · rw [← at_list s _ h]
            simp only [hl]
            rw [List.getElem_append_right (by rw [size_list]; exact Nat.le_refl _)]
            simp []
          · apply ByteArray.ext
            apply Array.toList_inj.1
            rw [ext_list, List.take_of_length_le (by rw [size_list]; exact Nat.le_refl _), hl, ← size_list wd, ← List.drop_drop, List.drop_left]
            rfl
        have hwl : wd.size ≤ s.size := by omega
        have hrl : rs.size ≤ s.size := by omega
        have HD := Lib.hid hd
        rcases hR.inv C with ⟨hr, rfl⟩ | ⟨hr, h⟩
        · exact read_no s ⟨#[]⟩ 0 0 w fun w1 hb => ap_e s wd rs r0 hs4 m w1 (cm hb) (cw hb) HC HT h0 hz2 HD hr hwl
        · have hr0 : 0 < rs.size := by omega
          have hd0 : 0 < (rs.extract 1 rs.size).size := by simp; omega
          have hd1 : (rs.extract 1 rs.size).size ≤ 1000 := by simp; omega
          have hw1 := wid_pos C
          have h255 : rs[0].toNat ≤ 255 := by have := rs[0].toNat_lt; omega
          rcases h with ⟨hb, hdw, rfl⟩ | ⟨hb, hA⟩ | ⟨hb, hdw, hA⟩
          · have hbf : ((rs[0].toNat : Int) == 100) = false := beq_eq_false_iff_ne.2 (by omega)
            exact read_no s _ _ _ w fun w1 hb => ap_g s wd rs r0 hs4 m w1 (cm hb) (cw hb) HC HT h0 hz2 HD hr hwl hrl hr0 hbf (Lib.hid hdw)
          · have hbt : ((rs[0].toNat : Int) == 100) = true := by rw [hb]; rfl
            cases hA with
            | ill hx hz hdg => exact read_no s _ _ _ w fun w1 hb => ap_fd s wd rs r0 hs4 m w1 (cm hb) (cw hb) HC HT h0 hz2 HD hr hwl hrl hr0 hbt false hx hz (Lib.hid hdg)
            | wide hw hdg =>
              rcases hdg with hx | hx | ⟨hx, hz, hall⟩
              · exact read_wide s _ _ _ w (fun w1 hb => ap_fx s wd rs r0 hs4 m w1 (cm hb) (cw hb) HC HT h0 hz2 HD hr hwl hrl hr0 hbt hx) hw
              · exact read_wide s _ _ _ w (fun w1 hb => ap_fz s wd rs r0 hs4 m w1 (cm hb) (cw hb) HC HT h0 hz2 HD hr hwl hrl hr0 hbt hx) hw
              · exact read_wide s _ _ _ w (fun w1 hb => ap_fd s wd rs r0 hs4 m w1 (cm hb) (cw hb) HC HT h0 hz2 HD hr hwl hrl hr0 hbt true hx hz (Lib.hid hall)) hw
            | x hw hx => exact read_dec s _ _ _ w (fun w1 hb => ap_fx s wd rs r0 hs4 m w1 (cm hb) (cw hb) HC HT h0 hz2 HD hr hwl hrl hr0 hbt hx) hw hb _ _ _ _ (fun w1 _ => by rw [hx]; exact decP_x _ hw1 hw w1)
            | z hw hx => exact read_dec s _ _ _ w (fun w1 hb => ap_fz s wd rs r0 hs4 m w1 (cm hb) (cw hb) HC HT h0 hz2 HD hr hwl hrl hr0 hbt hx) hw hb _ _ _ _ (fun w1 _ => by rw [hx]; exact decP_z _ hw1 hw w1)
            | fits hw hx hz hall hv2 =>
              exact read_dec s _ _ _ w (fun w1 hb => ap_fd s wd rs r0 hs4 m w1 (cm hb) (cw hb) HC HT h0 hz2 HD hr hwl hrl hr0 hbt true hx hz (Lib.hid hall)) hw hb _ _ _ _ (fun w1 hb1 => by
                have h := decP_any _ _ hw1 hw (by intro e; rw [← size_list, e] at hd0; cases hd0) hd1 (dig_list hall) ev w1 (kcell0 hb1 hv) hev
                rw [if_pos hv2] at h
                exact h)
            | large hw hx hz hall hv2 =>
              exact read_dec s _ _ _ w (fun w1 hb => ap_fd s wd rs r0 hs4 m w1 (cm hb) (cw hb) HC HT h0 hz2 HD hr hwl hrl hr0 hbt true hx hz (Lib.hid hall)) hw hb _ _ _ _ (fun w1 hb1 => by
                have h := decP_any _ _ hw1 hw (by intro e; rw [← size_list, e] at hd0; cases hd0) hd1 (dig_list hall) ev w1 (kcell0 hb1 hv) hev
                rw [if_neg hv2] at h
                exact h)
          · have hbf : ((rs[0].toNat : Int) == 100) = false := beq_eq_false_iff_ne.2 (by omega)
            have z1 : 1 ≤ dw rs[0].toNat := by omega
            have z2 := dw_le rs[0].toNat
            cases hA with
            | ill hdg => exact read_no s _ _ _ w fun w1 hb => ap_h s wd rs r0 hs4 m w1 (cm hb) (cw hb) HC HT h0 hz2 HD hr hwl hrl hr0 hbf z1 z2 (Lib.hid hdg)
            | wide hw hall => exact read_wide s _ _ _ w (fun w1 hb => takeApart_ok s wd rs r0 hs4 m w1 (cm hb) (cw hb) HC HT h0 hz2 HD hr hwl hrl hr0 hbf z1 z2 (Lib.hid hall)) hw
            | fits hw hall hE => exact read_dig s _ _ _ w (fun w1 hb => takeApart_ok s wd rs r0 hs4 m w1 (cm hb) (cw hb) HC HT h0 hz2 HD hr hwl hrl hr0 hbf z1 z2 (Lib.hid hall)) hw hbf h255 _ (Lib.hid rfl) _ _ _ _ (fun w1 _ => readDigits_ok _ _ _ hw1 hw z1 z2 hd0 hd1 w1 hE)
            | large hw hall hE => exact read_dig s _ _ _ w (fun w1 hb => takeApart_ok s wd rs r0 hs4 m w1 (cm hb) (cw hb) HC HT h0 hz2 HD hr hwl hrl hr0 hbf z1 z2 (Lib.hid hall)) hw hbf h255 _ (Lib.hid rfl) _ _ _ _ (fun w1 _ => readDigits_large _ _ _ hw1 hw z1 z2 hd0 hd1 w1 hE)
      · have hdf : allB (fun c => isDig c.toNat) wd = false := by simpa using hd
        have hbad : v = bad 10 := rdg_bad (fun wd' r0' rs' C => by
          obtain rfl := same C
          obtain ⟨k, hk, hf⟩ := allB_no hdf
          have := isDig_yes.2 (C.digs wd'[k] (by rw [← at_list wd' k hk]; exact List.getElem_mem _))
          rw [this] at hf; cases hf) hR
        rw [hbad]
        exact read_no s ⟨#[]⟩ 0 0 w fun w1 hb => ap_d s wd rs r0 hs4 m w1 (cm hb) (cw hb) HC HT h0 hz2 (Lib.hid hdf) (by omega)
  · have hbad : v = bad 10 := rdg_bad (fun wd' r0' rs' C => by
      obtain rfl := same C
      exact h0 C.w0) hR
    have hwe : wd.data.toList = [] := by
      apply List.eq_nil_of_length_eq_zero
      rw [size_list]; omega
    rw [hbad]
    exact read_no s ⟨#[]⟩ 0 0 w fun w1 hb => ap_b s rs r0 hs4 m w1 (cm hb) (cw hb) (Lib.hid (by rw [hwe] at hcut; exact hcut)) HT
end Go.Proofs.YtgmgmkhcadimjaaDoor
