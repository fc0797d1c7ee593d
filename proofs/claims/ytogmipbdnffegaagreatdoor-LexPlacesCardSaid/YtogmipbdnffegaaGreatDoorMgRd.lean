/- What the reference's ReadBits reckons with. No program here.
   Read of any text of at most 2000 bytes.
   The program's scanNumber: a number with a quotation mark. -/
import Derived.Test.YtogmipbdnffegaaGreatDoorMgDec
import Derived.Test.YtogmipbdnffegaaGreatDoorRdP
import Derived.Test.YtogmipbdnffegaaGreatDoorMgApA
import Derived.Test.YtogmipbdnffegaaGreatDoorMgApB
import Derived.Test.YtogmipbdnffegaaGreatDoorDigitsL
import Derived.Test.YtogmipbdnffegaaGreatDoorLxNum
namespace Go.Proofs.YtogmipbdnffegaaGreatDoor
open Go Go.RowKit
set_option linter.unusedVariables false
theorem Cutt.one {s wd r0 rs wd' r0' rs' : ByteArray} (h : Cutt s wd r0 rs) (h' : Cutt s wd' r0' rs') : wd = wd' ∧ r0 = r0' ∧ rs = rs' := by
  have hz : wd.size = wd'.size := by
    rcases Nat.lt_trichotomy wd.size wd'.size with hl | hl | hl
    · have h1 := h'.dg wd.size h.lt hl
      have h2 := h.q h.lt
      omega
    · exact hl
    · have h1 := h.dg wd'.size h'.lt hl
      have h2 := h'.q h'.lt
      omega
  have e1 : wd = wd' := by rw [h.ew, h'.ew, hz]
  have e2 : r0 = r0' := by rw [h.er, h'.er, hz]
  refine ⟨e1, e2, ?_⟩
  subst e2
  rcases h.es with ⟨a, b, c⟩ | ⟨b, c⟩ <;> rcases h'.es with ⟨a', b', c'⟩ | ⟨b', c'⟩
  · rw [c, c']
  · exact absurd b (b' a)
  · exact absurd b' (b a')
  · rw [c, c']
theorem rdg_bad {s : ByteArray} {v : Value} (hn : ∀ wd r0 rs, ¬ Cutt s wd r0 rs) (h : Rdg s v) : v = bad 10 := by
  cases h <;> first | rfl | (rename_i h _ _ _ _ _ _ _; exact absurd h (hn _ _ _)) | (rename_i h _ _ _ _ _ _; exact absurd h (hn _ _ _)) | (rename_i h _ _ _ _ _; exact absurd h (hn _ _ _)) | (rename_i h _ _ _ _; exact absurd h (hn _ _ _)) | (rename_i h _ _ _; exact absurd h (hn _ _ _))
/-- the width that the reference reads -/
def rfw (s : ByteArray) : Nat → Nat
  | 0 => 0
  | k + 1 => if rfw s k < 1000 then 10 * rfw s k + ((s.data.toList.getD k 0).toNat - 48) else rfw s k
theorem rfw_le (s : ByteArray) : ∀ k, rfw s k ≤ 20000
  | 0 => Nat.zero_le _
  | k + 1 => by
    have h := rfw_le s k
    have hb := (s.data.toList.getD k 0).toNat_lt
    unfold rfw
    split <;> omega
theorem rfw_pos {s : ByteArray} (h0 : 48 < (s.data.toList.getD 0 0).toNat) : ∀ k, 0 < k → 0 < rfw s k
  | 0, h => absurd h (by omega)
  | k + 1, _ => by
    unfold rfw
    by_cases hk : k = 0
    · subst hk
      have : rfw s 0 = 0 := rfl
      rw [this]
      split <;> omega
    · have := rfw_pos h0 k (by omega)
      split <;> omega
/-- the two widths are one where they matter -/
theorem rfw_wid {s : ByteArray} (hd : ∀ k, k < s.size → dv (s.data.toList.getD k 0).toNat = (s.data.toList.getD k 0).toNat - 48) : ∀ k, k ≤ s.size → (rwd s k = rfw s k ∨ (64 < rwd s k ∧ 64 < rfw s k))
  | 0, _ => .inl rfl
  | k + 1, hk => by
    have ih := rfw_wid hd k (by omega)
    have he := hd k (by omega)
    unfold rwd rfw
    rw [he]
    generalize (s.data.toList.getD k 0).toNat - 48 = c
    split <;> split <;> omega
theorem cutt_K {s wd r0 rs : ByteArray} (h : Cutt s wd r0 rs) {K : Nat} (hd : ∀ q (h : q < s.size), q < K → 48 ≤ s[q].toNat ∧ s[q].toNat ≤ 57) (hst : ∀ h : K < s.size, ¬ (48 ≤ s[K].toNat ∧ s[K].toNat ≤ 57)) : wd.size = K := by
  rcases Nat.lt_trichotomy wd.size K with hl | hl | hl
  · have h1 := hd wd.size h.lt hl
    have h2 := h.q h.lt
    omega
  · exact hl
  · have hk : K < s.size := Nat.lt_trans hl h.lt
    exact absurd (h.dg K hk hl) (hst hk)
theorem cutt_mk {s : ByteArray} {K : Nat} (h0 : 0 < K) (hk : K < s.size) (hd : ∀ q (h : q < s.size), q < K → 48 ≤ s[q].toNat ∧ s[q].toNat ≤ 57) (hz : ∀ h : 0 < s.size, s[0].toNat ≠ 48) (hq : s[K].toNat = 39) : ∃ rs, Cutt s (s.extract 0 K) (s.extract (K + 1) s.size) rs := by
  have hw : (s.extract 0 K).size = K := by simp; omega
  obtain ⟨rs, hr⟩ := trim_some (s.extract (K + 1) s.size)
  refine ⟨rs, ⟨by omega, by omega, by rw [hw], fun i h hi => hd i h (by omega), hz, fun h => ?_, by rw [hw], hr⟩⟩
  simp only [hw]
  exact hq
theorem wd_at {s : ByteArray} {K q : Nat} (hk : K ≤ s.size) (hq : q < (s.extract 0 K).size) : ∃ h : q < s.size, (s.extract 0 K)[q] = s[q] := by
  have hw : (s.extract 0 K).size = K := by simp; omega
  refine ⟨by omega, ?_⟩
  rw [ByteArray.getElem_extract]
  simp
/-- the answers for decimal digits -/
inductive DecA (n : Nat) (d : ByteArray) : Value → Prop
  | ill (hx : d ≠ ⟨#[120]⟩) (hz : d ≠ ⟨#[122]⟩) (hd : allB (fun c => isDig c.toNat) d = false) : DecA n d (bad 10)
  | wide (hw : 64 < n) (hd : d = ⟨#[120]⟩ ∨ d = ⟨#[122]⟩ ∨ (d ≠ ⟨#[120]⟩ ∧ d ≠ ⟨#[122]⟩ ∧ allB (fun c => isDig c.toNat) d = true)) : DecA n d (bad 2)
  | x (hw : n ≤ 64) (hx : d = ⟨#[120]⟩) : DecA n d (good n (fl n 3))
  | z (hw : n ≤ 64) (hx : d = ⟨#[122]⟩) : DecA n d (good n (fl n 2))
  | fits (hw : n ≤ 64) (hx : d ≠ ⟨#[120]⟩) (hz : d ≠ ⟨#[122]⟩) (hd : allB (fun c => isDig c.toNat) d = true) (hv : dval 0 d.data.toList < 2 ^ n) : DecA n d (good n (kv n (BitVec.ofNat 64 (dval 0 d.data.toList))))
  | large (hw : n ≤ 64) (hx : d ≠ ⟨#[120]⟩) (hz : d ≠ ⟨#[122]⟩) (hd : allB (fun c => isDig c.toNat) d = true) (hv : ¬ dval 0 d.data.toList < 2 ^ n) : DecA n d (bad 3)
/-- the answers for digits of some bits each -/
inductive DigA (n size : Nat) (d : ByteArray) : Value → Prop
  | ill (hd : allB (fun c => digOk size c.toNat) d = false) : DigA n size d (bad 10)
  | wide (hw : 64 < n) (hd : allB (fun c => digOk size c.toNat) d = true) : DigA n size d (bad 2)
  | fits (hw : n ≤ 64) (hd : allB (fun c => digOk size c.toNat) d = true) (hE : ∀ k, k < d.size → rdE n size d k = false) : DigA n size d (good n (rdB n size d d.size))
  | large (hw : n ≤ 64) (hd : allB (fun c => digOk size c.toNat) d = true) (hE : ∃ k, k < d.size ∧ rdE n size d k = true) : DigA n size d (bad 3)
theorem Rdg.inv {s wd r0 rs : ByteArray} {v : Value} (C : Cutt s wd r0 rs) (h : Rdg s v) : (rs.size < 2 ∧ v = bad 10) ∨ ∃ hr : 2 ≤ rs.size, (rs[0].toNat ≠ 100 ∧ dw rs[0].toNat = 0 ∧ v = bad 10) ∨ (rs[0].toNat = 100 ∧ DecA (wid wd) (rs.extract 1 rs.size) v) ∨ (rs[0].toNat ≠ 100 ∧ dw rs[0].toNat ≠ 0 ∧ DigA (wid wd) (dw rs[0].toNat) (rs.extract 1 rs.size) v) := by
  cases h with
  | noForm h => exact absurd C (h _ _ _)
  | short h hr => obtain ⟨rfl, rfl, rfl⟩ := C.one h; exact .inl ⟨hr, rfl⟩
  | noBase h hr hb hd => obtain ⟨rfl, rfl, rfl⟩ := C.one h; exact .inr ⟨hr, .inl ⟨hb, hd, rfl⟩⟩
  | decBad h hr hb hx hz hd => obtain ⟨rfl, rfl, rfl⟩ := C.one h; exact .inr ⟨hr, .inr (.inl ⟨hb, .ill hx hz hd⟩)⟩
  | decWide h hr hb hd hw => obtain ⟨rfl, rfl, rfl⟩ := C.one h; exact .inr ⟨hr, .inr (.inl ⟨hb, .wide hw hd⟩)⟩
  | decX h hr hb hx hw => obtain ⟨rfl, rfl, rfl⟩ := C.one h; exact .inr ⟨hr, .inr (.inl ⟨hb, .x hw hx⟩)⟩
  | decZ h hr hb hx hw => obtain ⟨rfl, rfl, rfl⟩ := C.one h; exact .inr ⟨hr, .inr (.inl ⟨hb, .z hw hx⟩)⟩
  | decOk h hr hb hx hz hd hw hv => obtain ⟨rfl, rfl, rfl⟩ := C.one h; exact .inr ⟨hr, .inr (.inl ⟨hb, .fits hw hx hz hd hv⟩)⟩
  | decLarge h hr hb hx hz hd hw hv => obtain ⟨rfl, rfl, rfl⟩ := C.one h; exact .inr ⟨hr, .inr (.inl ⟨hb, .large hw hx hz hd hv⟩)⟩
  | digBad h hr hb hb2 hd => obtain ⟨rfl, rfl, rfl⟩ := C.one h; exact .inr ⟨hr, .inr (.inr ⟨hb, hb2, .ill hd⟩)⟩
  | digWide h hr hb hb2 hd hw => obtain ⟨rfl, rfl, rfl⟩ := C.one h; exact .inr ⟨hr, .inr (.inr ⟨hb, hb2, .wide hw hd⟩)⟩
  | digLarge h hr hb hb2 hd hw hE => obtain ⟨rfl, rfl, rfl⟩ := C.one h; exact .inr ⟨hr, .inr (.inr ⟨hb, hb2, .large hw hd hE⟩)⟩
  | digOk h hr hb hb2 hd hw hE => obtain ⟨rfl, rfl, rfl⟩ := C.one h; exact .inr ⟨hr, .inr (.inr ⟨hb, hb2, .fits hw hd hE⟩)⟩
theorem rdg_short {s wd r0 rs : ByteArray} {v : Value} (C : Cutt s wd r0 rs) (hs : rs.size < 2) (h : Rdg s v) : v = bad 10 := by
  rcases h.inv C with ⟨_, h⟩ | ⟨hr, _⟩
  · exact h
  · omega
theorem allB_yes {f : UInt8 → Bool} {d : ByteArray} (h : allB f d = true) : ∀ k (hk : k < d.size), f d[k] = true := by
  intro k hk
  unfold allB at h
  exact List.all_eq_true.1 h d[k] (Array.mem_toList_iff.2 (Array.getElem_mem (xs := d.data) hk))
theorem allB_no {f : UInt8 → Bool} {d : ByteArray} (h : allB f d = false) : ∃ k, ∃ hk : k < d.size, f d[k] = false := by
  unfold allB at h
  rw [List.all_eq_false] at h
  obtain ⟨c, hc, hf⟩ := h
  obtain ⟨k, hk, rfl⟩ := List.getElem_of_mem hc
  refine ⟨k, by rw [← size_list]; exact hk, ?_⟩
  cases e : f (d.data.toList[k])
  · exact e
  · exact absurd e hf
theorem isDig_iff : ∀ c : Fin 256, isDig c.1 = decide (48 ≤ c.1 ∧ c.1 ≤ 57) := by decide +kernel
theorem isDig_yes {c : UInt8} : isDig c.toNat = true ↔ 48 ≤ c.toNat ∧ c.toNat ≤ 57 := by
  rw [isDig_iff ⟨c.toNat, c.toNat_lt⟩, decide_eq_true_iff]
theorem dv_dig {c : Nat} (h : 48 ≤ c ∧ c ≤ 57) : dv c = c - 48 := by
  unfold dv
  rw [if_pos (by omega)]
theorem dgt_get {d : ByteArray} {k : Nat} (hk : k < d.size) : dgt d k = (d[d.size - 1 - k]'(by omega)).toNat := dgt_at d k (by omega)
end Go.Proofs.YtogmipbdnffegaaGreatDoor
namespace Go.Proofs.YtogmipbdnffegaaGreatDoor
open Go Go.RowKit
set_option linter.unusedVariables false
theorem dw_le (c : Nat) : dw c ≤ 4 := by
  unfold dw
  repeat' split
  all_goals omega
theorem dig_list {d : ByteArray} (h : allB (fun c => isDig c.toNat) d = true) : ∀ c ∈ d.data.toList, 48 ≤ c.toNat ∧ c.toNat ≤ 57 := by
  intro c hc
  unfold allB at h
  exact isDig_yes.1 (List.all_eq_true.1 h c hc)
theorem wid_pos {s wd r0 rs : ByteArray} (C : Cutt s wd r0 rs) : 1 ≤ wid wd := by
  have hd : ∀ k, k < wd.size → dv (wd.data.toList.getD k 0).toNat = (wd.data.toList.getD k 0).toNat - 48 := fun k hk => by
    rw [List.getD_eq_getElem?_getD, List.getElem?_eq_getElem (by rw [size_list]; exact hk)]
    exact dv_dig (C.digs _ (List.getElem_mem _))
  rcases rfw_wid hd wd.size (Nat.le_refl _) with h | h
  · have hw0 := C.w0
    have h2 : 0 < rfw wd wd.size := by
      refine rfw_pos ?_ _ hw0
      rw [byte_at wd 0 hw0]
      have h3 := C.digs wd[0] (by rw [← at_list wd 0 hw0]; exact List.getElem_mem _)
      have h4 : wd[0].toNat ≠ 48 := by
        have hl := C.list
        have h0 : 0 < s.size := Nat.lt_of_le_of_lt (Nat.zero_le _) C.lt
        have e : wd[0] = s[0] := by
          rw [← at_list wd 0 hw0, ← at_list s 0 h0]
          simp only [hl]
          rw [List.getElem_append_left]
        rw [e]
        exact C.nz h0
      omega
    unfold wid; omega
  · unfold wid; omega
theorem prog_read (s : ByteArray) (v : Value) (hs : s.size ≤ 2000) (hR : Rdg s v) (m : Int) (ev : Value) (w : World) (hm : w.cell? ⟨2, 0, none⟩ = some (.int .i64 m)) (hv : w.cell? ⟨4, 0, none⟩ = some ev) (hev : ev = .nilIface ∨ ∃ te pe, ev = .iface te pe) :
    Calls Tryz.prog 79 #[.string s] w fun e w' => e = .returned v ∧ Below w.heap.size w w' := by
  have hw := World.block_lt_of_cell? w _ hm
  have cm : ∀ {w1}, Below w.heap.size w w1 → w1.cell? ⟨2, 0, none⟩ = some (.int .i64 m) := fun hb => kcell0 hb hm
  have cw : ∀ {w1}, Below w.heap.size w w1 → 2 < w1.heap.size := fun hb => Nat.lt_of_lt_of_le hw hb.size
  have hs4 : s.size < 4294967281 := by omega
  rcases first39 s.data.toList with hn | ⟨p, q, hl, hp⟩
  · have hbad : v = bad 10 := rdg_bad (fun wd r0 rs C => by
      have hc := C.cut.out
      rw [show (⟨#[39]⟩ : ByteArray).data.toList = [39] from rfl, cut_no39 _ hn] at hc
      exact absurd (congrArg (fun t => t.2.2) hc) (by simp)) hR
    obtain ⟨rs, hrs⟩ := trim_some ⟨#[]⟩
    rw [hbad]
    exact read_no s ⟨#[]⟩ 0 0 w fun w1 hb => ap_a s s rs ⟨#[]⟩ hs4 m w1 (cm hb) (cw hb) (Lib.hid (cut_no39 _ hn)) (trim_of hrs)
  obtain ⟨wd, hwd⟩ : ∃ wd : ByteArray, wd.data.toList = p := ⟨⟨p.toArray⟩, rfl⟩
  obtain ⟨r0, hr0⟩ : ∃ r0 : ByteArray, r0.data.toList = q := ⟨⟨q.toArray⟩, rfl⟩
  obtain ⟨rs, hrs⟩ := trim_some r0
  subst hwd hr0
  have hcut : Lib.cut s.data.toList [39] = (wd.data.toList, r0.data.toList, true) := by rw [hl]; exact cut_39 _ _ hp
  have HC : Hid (Lib.cut s.data.toList (⟨#[39]⟩ : ByteArray).data.toList = (wd.data.toList, r0.data.toList, true)) := Lib.hid hcut
  have HT := trim_of hrs
  have same : ∀ {wd' r0' rs'}, Cutt s wd' r0' rs' → wd' = wd := fun {wd' r0' rs'} C => by
    have hc := C.cut.out
    rw [show (⟨#[39]⟩ : ByteArray).data.toList = [39] from rfl, hcut] at hc
    injection hc with h1 h2
    have : wd'.data.toList.toArray = wd.data.toList.toArray := by rw [h1]
    rw [Array.toArray_toList, Array.toArray_toList] at this
    cases wd; cases wd'; cases this; rfl
  have hsz : s.size = wd.size + 1 + r0.size := by
    have := congrArg List.length hl
    rw [List.length_append, List.length_cons, size_list, size_list, size_list] at this
    omega
  have hrsz : rs.size ≤ r0.size := by
    rcases hrs with ⟨_, _, h⟩ | ⟨_, h⟩
    · rw [h]; simp
    · rw [h]; exact Nat.le_refl _
  by_cases h0 : 0 < wd.size
  · by_cases hz : wd[0].toNat = 48
    · have hbad : v = bad 10 := rdg_bad (fun wd' r0' rs' C => by
        obtain rfl := same C
        have h1 : 0 < s.size := by omega
        have e : wd'[0] = s[0] := by
          rw [← at_list wd' 0 h0, ← at_list s 0 h1]
          simp only [hl]
          rw [List.getElem_append_left]
        rw [e] at hz
        exact C.nz h1 hz) hR
      rw [hbad]
      exact read_no s ⟨#[]⟩ 0 0 w fun w1 hb => ap_c s wd rs r0 hs4 m w1 (cm hb) (cw hb) HC HT h0 (by rw [hz]; rfl)
    · have hz2 : ((wd[0].toNat : Int) == 48) = false := beq_eq_false_iff_ne.2 (by omega)
      by_cases hd : allB (fun c => isDig c.toNat) wd = true
      · have C : Cutt s wd r0 rs := by
          have hlt : wd.size < s.size := by omega
          refine ⟨h0, hlt, ?_, fun i h hi => ?_, fun h => ?_, fun h => ?_, ?_, hrs⟩
          · apply ByteArray.ext
            apply Array.toList_inj.1
            rw [ext_list, hl, List.drop_zero, ← size_list wd, List.take_left]
          · have e : s[i] = wd[i] := by
              rw [← at_list s i h, ← at_list wd i hi]
              simp only [hl]
              rw [List.getElem_append_left]
            rw [e]
            exact isDig_yes.1 (allB_yes hd i hi)
          · have e : wd[0] = s[0] := by
              rw [← at_list wd 0 h0, ← at_list s 0 h]
              simp only [hl]
              rw [List.getElem_append_left]
            rw [← e]; exact hz
          · rw [← at_list s _ h]
            simp only [hl]
            rw [List.getElem_append_right (by rw [size_list]; exact Nat.le_refl _)]
            simp [size_list]
          · apply ByteArray.ext
            apply Array.toList_inj.1
            rw [ext_list, List.take_of_length_le (by rw [size_list]; exact Nat.le_refl _), hl, ← size_list wd, ← List.drop_drop, List.drop_left]
            rfl
        have hwl : wd.size ≤ s.size := by omega
        have hrl : rs.size ≤ s.size := by omega
        have HD := Lib.hid hd
        rcases hR.inv C with ⟨hr, rfl⟩ | ⟨hr, h⟩
        · exact read_no s ⟨#[]⟩ 0 0 w fun w1 hb => ap_e s wd rs r0 hs4 m w1 (cm hb) (cw hb) HC HT h0 hz2 HD hr hwl
        · have hr0 : 0 < rs.size := by omega
          have hd0 : 0 < (rs.extract 1 rs.size).size := by simp; omega
          have hd1 : (rs.extract 1 rs.size).size ≤ 2000 := by simp; omega
          have hw1 := wid_pos C
          have h255 : rs[0].toNat ≤ 255 := by have := rs[0].toNat_lt; omega
          rcases h with ⟨hb, hdw, rfl⟩ | ⟨hb, hA⟩ | ⟨hb, hdw, hA⟩
          · have hbf : ((rs[0].toNat : Int) == 100) = false := beq_eq_false_iff_ne.2 (by omega)
            exact read_no s _ _ _ w fun w1 hb => ap_g s wd rs r0 hs4 m w1 (cm hb) (cw hb) HC HT h0 hz2 HD hr hwl hrl hr0 hbf (Lib.hid hdw)
          · have hbt : ((rs[0].toNat : Int) == 100) = true := by rw [hb]; rfl
            cases hA with
            | ill hx hz hdg => exact read_no s _ _ _ w fun w1 hb => ap_fd s wd rs r0 hs4 m w1 (cm hb) (cw hb) HC HT h0 hz2 HD hr hwl hrl hr0 hbt false hx hz (Lib.hid hdg)
            | wide hw hdg =>
              rcases hdg with hx | hx | ⟨hx, hz, hall⟩
              · exact read_wide s _ _ _ w (fun w1 hb => ap_fx s wd rs r0 hs4 m w1 (cm hb) (cw hb) HC HT h0 hz2 HD hr hwl hrl hr0 hbt hx) hw
              · exact read_wide s _ _ _ w (fun w1 hb => ap_fz s wd rs r0 hs4 m w1 (cm hb) (cw hb) HC HT h0 hz2 HD hr hwl hrl hr0 hbt hx) hw
              · exact read_wide s _ _ _ w (fun w1 hb => ap_fd s wd rs r0 hs4 m w1 (cm hb) (cw hb) HC HT h0 hz2 HD hr hwl hrl hr0 hbt true hx hz (Lib.hid hall)) hw
            | x hw hx => exact read_dec s _ _ _ w (fun w1 hb => ap_fx s wd rs r0 hs4 m w1 (cm hb) (cw hb) HC HT h0 hz2 HD hr hwl hrl hr0 hbt hx) hw hb _ _ _ _ (fun w1 _ => by rw [hx]; exact decP_x _ hw1 hw w1)
            | z hw hx => exact read_dec s _ _ _ w (fun w1 hb => ap_fz s wd rs r0 hs4 m w1 (cm hb) (cw hb) HC HT h0 hz2 HD hr hwl hrl hr0 hbt hx) hw hb _ _ _ _ (fun w1 _ => by rw [hx]; exact decP_z _ hw1 hw w1)
            | fits hw hx hz hall hv2 =>
              exact read_dec s _ _ _ w (fun w1 hb => ap_fd s wd rs r0 hs4 m w1 (cm hb) (cw hb) HC HT h0 hz2 HD hr hwl hrl hr0 hbt true hx hz (Lib.hid hall)) hw hb _ _ _ _ (fun w1 hb1 => by
                have h := decP_any _ _ hw1 hw (by intro e; rw [← size_list, e] at hd0; cases hd0) hd1 (dig_list hall) ev w1 (kcell0 hb1 hv) hev
                rw [if_pos hv2] at h
                exact h)
            | large hw hx hz hall hv2 =>
              exact read_dec s _ _ _ w (fun w1 hb => ap_fd s wd rs r0 hs4 m w1 (cm hb) (cw hb) HC HT h0 hz2 HD hr hwl hrl hr0 hbt true hx hz (Lib.hid hall)) hw hb _ _ _ _ (fun w1 hb1 => by
                have h := decP_any _ _ hw1 hw (by intro e; rw [← size_list, e] at hd0; cases hd0) hd1 (dig_list hall) ev w1 (kcell0 hb1 hv) hev
                rw [if_neg hv2] at h
                exact h)
          · have hbf : ((rs[0].toNat : Int) == 100) = false := beq_eq_false_iff_ne.2 (by omega)
            have z1 : 1 ≤ dw rs[0].toNat := by omega
            have z2 := dw_le rs[0].toNat
            cases hA with
            | ill hdg => exact read_no s _ _ _ w fun w1 hb => ap_h s wd rs r0 hs4 m w1 (cm hb) (cw hb) HC HT h0 hz2 HD hr hwl hrl hr0 hbf z1 z2 (Lib.hid hdg)
            | wide hw hall => exact read_wide s _ _ _ w (fun w1 hb => takeApart_ok s wd rs r0 hs4 m w1 (cm hb) (cw hb) HC HT h0 hz2 HD hr hwl hrl hr0 hbf z1 z2 (Lib.hid hall)) hw
            | fits hw hall hE => exact read_dig s _ _ _ w (fun w1 hb => takeApart_ok s wd rs r0 hs4 m w1 (cm hb) (cw hb) HC HT h0 hz2 HD hr hwl hrl hr0 hbf z1 z2 (Lib.hid hall)) hw hbf h255 _ (Lib.hid rfl) _ _ _ _ (fun w1 _ => readDigits_ok _ _ _ hw1 hw z1 z2 hd0 hd1 w1 hE)
            | large hw hall hE => exact read_dig s _ _ _ w (fun w1 hb => takeApart_ok s wd rs r0 hs4 m w1 (cm hb) (cw hb) HC HT h0 hz2 HD hr hwl hrl hr0 hbf z1 z2 (Lib.hid hall)) hw hbf h255 _ (Lib.hid rfl) _ _ _ _ (fun w1 _ => readDigits_large _ _ _ hw1 hw z1 z2 hd0 hd1 w1 hE)
      · have hdf : allB (fun c => isDig c.toNat) wd = false := by simpa using hd
        have hbad : v = bad 10 := rdg_bad (fun wd' r0' rs' C => by
          obtain rfl := same C
          obtain ⟨k, hk, hf⟩ := allB_no hdf
          have := isDig_yes.2 (C.digs wd'[k] (by rw [← at_list wd' k hk]; exact List.getElem_mem _))
          rw [this] at hf; cases hf) hR
        rw [hbad]
        exact read_no s ⟨#[]⟩ 0 0 w fun w1 hb => ap_d s wd rs r0 hs4 m w1 (cm hb) (cw hb) HC HT h0 hz2 (Lib.hid hdf) (by omega)
  · have hbad : v = bad 10 := rdg_bad (fun wd' r0' rs' C => by
      obtain rfl := same C
      exact h0 C.w0) hR
    have hwe : wd.data.toList = [] := by
      apply List.eq_nil_of_length_eq_zero
      rw [size_list]; omega
    rw [hbad]
    exact read_no s ⟨#[]⟩ 0 0 w fun w1 hb => ap_b s rs r0 hs4 m w1 (cm hb) (cw hb) (Lib.hid (by rw [hwe] at hcut; exact hcut)) HT
end Go.Proofs.YtogmipbdnffegaaGreatDoor
namespace Go.Proofs.YtogmipbdnffegaaGreatDoor
open Go Go.RowKit
set_option linter.unusedVariables false
theorem rest_part (s : ByteArray) (n : Nat) (h : n ≤ s.size) : (s.extract n s.size).extract 1 (s.extract n s.size).size = s.extract (n + 1) s.size := by
  rw [ByteArray.extract_extract]
  congr 1
  simp
  omega
theorem rest_at (s : ByteArray) (n i : Nat) (h : n + i < s.size) : gb (s.extract n s.size) i = gb s (n + i) := by
  have h1 : i < (s.extract n s.size).size := by simp; omega
  rw [← gb_at _ i h1, ← gb_at s (n + i) h, ByteArray.getElem_extract]
set_option maxRecDepth 100000 in
set_option maxHeartbeats 4000000 in
theorem scanNumber_qbad (s : ByteArray) (n : Nat) (hs : s.size ≤ 100000) (h1 : 1 ≤ n) (hns : n ≤ s.size) (hn : Hid (span isD s = n)) (hq : Hid (Lib.hasPrefix (s.extract n s.size).data.toList (ByteArray.mk #[39]).data.toList = true)) (hlt1 : n < s.size) (r : Nat) (hr : Hid (span inW (s.extract (n + 1) s.size) = r)) (hrs : n + 1 + r ≤ s.size) (a b c er : Int) (hE : er ≠ 0) (w : World)
    (hB : ∀ W, Below w.heap.size w W → Calls Tryz.prog 79 #[.string (s.extract 0 (n + (1 + r)))] W fun e w' => e = .returned (.tuple #[.agg #[.int .i64 a, .int .u64 b, .int .u64 c], .int .i64 er]) ∧ Below W.heap.size W w') :
    Calls Tryz.prog 65 #[.string s] w fun e w' => e = .returned (.tuple #[.agg #[.int .i64 0, .int .i64 0, .int .i64 0, .string ⟨#[]⟩, .bool false, .int .i64 0, .int .u64 0, .int .u64 0, .bool false], .int .i64 0, .int .i64 er]) ∧ Below w.heap.size w w' := by
  have hn0 : (0 : Int) ≤ (n : Int) := by omega
  have hn1 : (n : Int) ≤ (s.size : Int) := by omega
  have hs0 : 0 < s.size := by omega
  have hs0i : (0 : Int) < (s.size : Int) := by omega
  have hq1 : (1 : Int) ≤ ((s.extract n s.size).size : Int) := by simp; omega
  have hm0 : (0 : Int) ≤ (n : Int) + (1 + (r : Int)) := by omega
  have hm1 : (n : Int) + (1 + (r : Int)) ≤ (s.size : Int) := by omega
  have hR := fun w1 => span_W ((s.extract n s.size).extract 1 (s.extract n s.size).size) (by rw [rest_part s n hns]; simp; omega) w1
  rw [rest_part s n hns, hr.out, ← rest_part s n hns] at hR
  have HR := Lib.hid hR
  have HB := Lib.hid hB
  clear hR hr hB
  obtain ⟨rest, hrest⟩ : ∃ rest, s.extract n s.size = rest := ⟨_, rfl⟩
  have HRE := Lib.hid hrest
  simp only [hrest] at hq hq1 HR
  have hE1 : (er == 0) = false := beq_eq_false_iff_ne.2 hE
  have hE2 : (er != 0) = true := by rw [bne, hE1]; rfl
  clear hE
  clear hrest
  go_enter Tryz.func65, Tryz.ntmps65
  go_upto_region 1 with fail
  obtain ⟨W1, hW1⟩ : ∃ W, W = w.alloc (Obj.cells #[Value.int IntKind.i64 0, Value.int IntKind.i64 0, Value.int IntKind.i64 0, Value.string { data := #[] }, Value.bool false, Value.int IntKind.i64 0, Value.int IntKind.u64 0, Value.int IntKind.u64 0, Value.bool false] 42) := ⟨_, rfl⟩
  have b0 : Below w.heap.size w W1 := by rw [hW1]; exact (Below.refl _ _).alloc (Nat.le_refl _) _
  have T0 : TB W1 w.heap.size 0 0 0 ⟨#[]⟩ false 0 0 0 false := by rw [hW1]; exact TB.new w 0 0 0 ⟨#[]⟩ false 0 0 0 false
  rw [← hW1]
  clear hW1
  have hlt := T0.lt
  go_wp2_with fail
  refine (span_D s (by omega) _).mono ?_
  rintro e w1 ⟨rfl, rfl⟩
  rw [hn.out]
  go_wp2_with fail
  rw [HRE.out]
  refine (Tryz.strings_HasPrefix _ _ _).mono ?_
  rintro e w1 ⟨rfl, rfl⟩
  rw [hq.out]
  go_upto_region 5 with (go_at_call 25; refine (HR.out _).mono ?_; rintro e w2 ⟨rfl, rfl⟩)
  clear HR
  go_upto_region 6 with (go_at_call 79; refine (HB.out _ b0).mono ?_; rintro e w2 ⟨rfl, hb2⟩)
  have T2 := T0.below hb2
  have b2 := b0.trans (hb2.mono b0.size)
  obtain ⟨W3, hW3⟩ : ∃ W, W = w2.alloc (Obj.cells #[Value.int IntKind.i64 a, Value.int IntKind.u64 b, Value.int IntKind.u64 c] 40) := ⟨_, rfl⟩
  have b3 : Below w2.heap.size w2 W3 := by rw [hW3]; exact (Below.refl _ _).alloc (Nat.le_refl _) _
  have y0 : W3.cell? ⟨w2.heap.size, 0, none⟩ = some (.int .i64 a) := by rw [hW3]; go_simp
  have y1 : W3.cell? ⟨w2.heap.size, 1, none⟩ = some (.int .u64 b) := by rw [hW3]; go_simp
  have y2 : W3.cell? ⟨w2.heap.size, 2, none⟩ = some (.int .u64 c) := by rw [hW3]; go_simp
  have T3 := T2.below b3
  rw [← hW3]
  have b4 : Below w.heap.size w W3 := b2.trans (b3.mono b2.size)
  clear hW3 T0 T2 b3 hb2 b2 hlt b0
  obtain ⟨x0, x1, x2, x3, x4, x5, x6, x7, x8, xf⟩ := id T3
  go_wp2_with fail
  obtain ⟨q0, q1, q2, q3, q4, q5, q6, q7, q8, -⟩ := T3.set 0 0 0 ⟨#[]⟩ false 0 0 0 false
  unfold setTk at q0 q1 q2 q3 q4 q5 q6 q7 q8
  exact bodyPost_ret (v := .tuple #[.agg #[.int .i64 0, .int .i64 0, .int .i64 0, .string ⟨#[]⟩, .bool false, .int .i64 0, .int .u64 0, .int .u64 0, .bool false], .int .i64 0, .int .i64 er]) (by simp [results, Tryz.results65, go_sem, q0, q1, q2, q3, q4, q5, q6, q7, q8]) rfl ⟨rfl, below_setTk b4 (Nat.le_refl _) _ _ _ _ _ _ _ _ _⟩
set_option maxRecDepth 100000 in
set_option maxHeartbeats 4000000 in
theorem scanNumber_qyes (s : ByteArray) (n : Nat) (hs : s.size ≤ 100000) (h1 : 1 ≤ n) (hns : n ≤ s.size) (hn : Hid (span isD s = n)) (hq : Hid (Lib.hasPrefix (s.extract n s.size).data.toList (ByteArray.mk #[39]).data.toList = true)) (hlt1 : n < s.size) (r : Nat) (hr : Hid (span inW (s.extract (n + 1) s.size) = r)) (hrs : n + 1 + r ≤ s.size) (a b c er : Int) (hE : er = 0) (hl2 : n + 1 < s.size) (h115 : gb s (n + 1) = 115) (w : World)
    (hB : ∀ W, Below w.heap.size w W → Calls Tryz.prog 79 #[.string (s.extract 0 (n + (1 + r)))] W fun e w' => e = .returned (.tuple #[.agg #[.int .i64 a, .int .u64 b, .int .u64 c], .int .i64 er]) ∧ Below W.heap.size W w') :
    Calls Tryz.prog 65 #[.string s] w fun e w' => e = .returned (.tuple #[.agg #[.int .i64 3, .int .i64 0, .int .i64 0, .string ⟨#[]⟩, .bool false, .int .i64 a, .int .u64 b, .int .u64 c, .bool true], .int .i64 (n + (1 + r) : Nat), .int .i64 0]) ∧ Below w.heap.size w w' := by
  have hn0 : (0 : Int) ≤ (n : Int) := by omega
  have hn1 : (n : Int) ≤ (s.size : Int) := by omega
  have hs0 : 0 < s.size := by omega
  have hs0i : (0 : Int) < (s.size : Int) := by omega
  have hq1 : (1 : Int) ≤ ((s.extract n s.size).size : Int) := by simp; omega
  have hm0 : (0 : Int) ≤ (n : Int) + (1 + (r : Int)) := by omega
  have hm1 : (n : Int) + (1 + (r : Int)) ≤ (s.size : Int) := by omega
  have hR := fun w1 => span_W ((s.extract n s.size).extract 1 (s.extract n s.size).size) (by rw [rest_part s n hns]; simp; omega) w1
  rw [rest_part s n hns, hr.out, ← rest_part s n hns] at hR
  have HR := Lib.hid hR
  have HB := Lib.hid hB
  clear hR hr hB
  obtain ⟨rest, hrest⟩ : ∃ rest, s.extract n s.size = rest := ⟨_, rfl⟩
  have HRE := Lib.hid hrest
  simp only [hrest] at hq hq1 HR
  subst hE
  have hr2 : 1 < rest.size := by rw [← hrest]; simp; omega
  have hat : rest[1].toNat = gb s (n + 1) := by
    have h := rest_at s n 1 hl2
    rw [hrest] at h
    rw [gb_at rest 1 hr2, h]
  have hr2i : (1 : Int) < (rest.size : Int) := by omega
  rw [h115] at hat
  clear hrest
  go_enter Tryz.func65, Tryz.ntmps65
  go_upto_region 1 with fail
  obtain ⟨W1, hW1⟩ : ∃ W, W = w.alloc (Obj.cells #[Value.int IntKind.i64 0, Value.int IntKind.i64 0, Value.int IntKind.i64 0, Value.string { data := #[] }, Value.bool false, Value.int IntKind.i64 0, Value.int IntKind.u64 0, Value.int IntKind.u64 0, Value.bool false] 42) := ⟨_, rfl⟩
  have b0 : Below w.heap.size w W1 := by rw [hW1]; exact (Below.refl _ _).alloc (Nat.le_refl _) _
  have T0 : TB W1 w.heap.size 0 0 0 ⟨#[]⟩ false 0 0 0 false := by rw [hW1]; exact TB.new w 0 0 0 ⟨#[]⟩ false 0 0 0 false
  rw [← hW1]
  clear hW1
  have hlt := T0.lt
  go_wp2_with fail
  refine (span_D s (by omega) _).mono ?_
  rintro e w1 ⟨rfl, rfl⟩
  rw [hn.out]
  go_wp2_with fail
  rw [HRE.out]
  refine (Tryz.strings_HasPrefix _ _ _).mono ?_
  rintro e w1 ⟨rfl, rfl⟩
  rw [hq.out]
  go_upto_region 5 with (go_at_call 25; refine (HR.out _).mono ?_; rintro e w2 ⟨rfl, rfl⟩)
  clear HR
  go_upto_region 6 with (go_at_call 79; refine (HB.out _ b0).mono ?_; rintro e w2 ⟨rfl, hb2⟩)
  have T2 := T0.below hb2
  have b2 := b0.trans (hb2.mono b0.size)
  obtain ⟨W3, hW3⟩ : ∃ W, W = w2.alloc (Obj.cells #[Value.int IntKind.i64 a, Value.int IntKind.u64 b, Value.int IntKind.u64 c] 40) := ⟨_, rfl⟩
  have b3 : Below w2.heap.size w2 W3 := by rw [hW3]; exact (Below.refl _ _).alloc (Nat.le_refl _) _
  have y0 : W3.cell? ⟨w2.heap.size, 0, none⟩ = some (.int .i64 a) := by rw [hW3]; go_simp
  have y1 : W3.cell? ⟨w2.heap.size, 1, none⟩ = some (.int .u64 b) := by rw [hW3]; go_simp
  have y2 : W3.cell? ⟨w2.heap.size, 2, none⟩ = some (.int .u64 c) := by rw [hW3]; go_simp
  have T3 := T2.below b3
  rw [← hW3]
  have b4 : Below w.heap.size w W3 := b2.trans (b3.mono b2.size)
  clear hW3 T0 T2 b3 hb2 b2 hlt b0
  obtain ⟨x0, x1, x2, x3, x4, x5, x6, x7, x8, xf⟩ := id T3
  go_wp2_with fail
  go_region
  all_goals
    go_wp2_with fail
    obtain ⟨q0, q1, q2, q3, q4, q5, q6, q7, q8, -⟩ := (T3.set 3 0 0 ⟨#[]⟩ false a b c true).below (Below.refl _ _).drew
    unfold setTk at q0 q1 q2 q3 q4 q5 q6 q7 q8
    exact bodyPost_ret (v := .tuple #[.agg #[.int .i64 3, .int .i64 0, .int .i64 0, .string ⟨#[]⟩, .bool false, .int .i64 a, .int .u64 b, .int .u64 c, .bool true], .int .i64 (n + (1 + r) : Nat), .int .i64 0]) (by simp [results, Tryz.results65, go_sem, q0, q1, q2, q3, q4, q5, q6, q7, q8]) rfl ⟨by simp, (below_setTk b4 (Nat.le_refl _) _ _ _ _ _ _ _ _ _).drew⟩
set_option maxRecDepth 100000 in
set_option maxHeartbeats 4000000 in
theorem scanNumber_qno (s : ByteArray) (n : Nat) (hs : s.size ≤ 100000) (h1 : 1 ≤ n) (hns : n ≤ s.size) (hn : Hid (span isD s = n)) (hq : Hid (Lib.hasPrefix (s.extract n s.size).data.toList (ByteArray.mk #[39]).data.toList = true)) (hlt1 : n < s.size) (r : Nat) (hr : Hid (span inW (s.extract (n + 1) s.size) = r)) (hrs : n + 1 + r ≤ s.size) (a b c er : Int) (hE : er = 0) (hl2 : n + 1 < s.size) (h115 : gb s (n + 1) ≠ 115) (w : World)
    (hB : ∀ W, Below w.heap.size w W → Calls Tryz.prog 79 #[.string (s.extract 0 (n + (1 + r)))] W fun e w' => e = .returned (.tuple #[.agg #[.int .i64 a, .int .u64 b, .int .u64 c], .int .i64 er]) ∧ Below W.heap.size W w') :
    Calls Tryz.prog 65 #[.string s] w fun e w' => e = .returned (.tuple #[.agg #[.int .i64 3, .int .i64 0, .int .i64 0, .string ⟨#[]⟩, .bool false, .int .i64 a, .int .u64 b, .int .u64 c, .bool false], .int .i64 (n + (1 + r) : Nat), .int .i64 0]) ∧ Below w.heap.size w w' := by
  have hn0 : (0 : Int) ≤ (n : Int) := by omega
  have hn1 : (n : Int) ≤ (s.size : Int) := by omega
  have hs0 : 0 < s.size := by omega
  have hs0i : (0 : Int) < (s.size : Int) := by omega
  have hq1 : (1 : Int) ≤ ((s.extract n s.size).size : Int) := by simp; omega
  have hm0 : (0 : Int) ≤ (n : Int) + (1 + (r : Int)) := by omega
  have hm1 : (n : Int) + (1 + (r : Int)) ≤ (s.size : Int) := by omega
  have hR := fun w1 => span_W ((s.extract n s.size).extract 1 (s.extract n s.size).size) (by rw [rest_part s n hns]; simp; omega) w1
  rw [rest_part s n hns, hr.out, ← rest_part s n hns] at hR
  have HR := Lib.hid hR
  have HB := Lib.hid hB
  clear hR hr hB
  obtain ⟨rest, hrest⟩ : ∃ rest, s.extract n s.size = rest := ⟨_, rfl⟩
  have HRE := Lib.hid hrest
  simp only [hrest] at hq hq1 HR
  subst hE
  have hr2 : 1 < rest.size := by rw [← hrest]; simp; omega
  have hat : rest[1].toNat = gb s (n + 1) := by
    have h := rest_at s n 1 hl2
    rw [hrest] at h
    rw [gb_at rest 1 hr2, h]
  have hr2i : (1 : Int) < (rest.size : Int) := by omega
  have k115 : ((rest[1].toNat : Int) == 115) = false := beq_eq_false_iff_ne.2 (by rw [hat]; omega)
  clear hat
  clear hrest
  go_enter Tryz.func65, Tryz.ntmps65
  go_upto_region 1 with fail
  obtain ⟨W1, hW1⟩ : ∃ W, W = w.alloc (Obj.cells #[Value.int IntKind.i64 0, Value.int IntKind.i64 0, Value.int IntKind.i64 0, Value.string { data := #[] }, Value.bool false, Value.int IntKind.i64 0, Value.int IntKind.u64 0, Value.int IntKind.u64 0, Value.bool false] 42) := ⟨_, rfl⟩
  have b0 : Below w.heap.size w W1 := by rw [hW1]; exact (Below.refl _ _).alloc (Nat.le_refl _) _
  have T0 : TB W1 w.heap.size 0 0 0 ⟨#[]⟩ false 0 0 0 false := by rw [hW1]; exact TB.new w 0 0 0 ⟨#[]⟩ false 0 0 0 false
  rw [← hW1]
  clear hW1
  have hlt := T0.lt
  go_wp2_with fail
  refine (span_D s (by omega) _).mono ?_
  rintro e w1 ⟨rfl, rfl⟩
  rw [hn.out]
  go_wp2_with fail
  rw [HRE.out]
  refine (Tryz.strings_HasPrefix _ _ _).mono ?_
  rintro e w1 ⟨rfl, rfl⟩
  rw [hq.out]
  go_upto_region 5 with (go_at_call 25; refine (HR.out _).mono ?_; rintro e w2 ⟨rfl, rfl⟩)
  clear HR
  go_upto_region 6 with (go_at_call 79; refine (HB.out _ b0).mono ?_; rintro e w2 ⟨rfl, hb2⟩)
  have T2 := T0.below hb2
  have b2 := b0.trans (hb2.mono b0.size)
  obtain ⟨W3, hW3⟩ : ∃ W, W = w2.alloc (Obj.cells #[Value.int IntKind.i64 a, Value.int IntKind.u64 b, Value.int IntKind.u64 c] 40) := ⟨_, rfl⟩
  have b3 : Below w2.heap.size w2 W3 := by rw [hW3]; exact (Below.refl _ _).alloc (Nat.le_refl _) _
  have y0 : W3.cell? ⟨w2.heap.size, 0, none⟩ = some (.int .i64 a) := by rw [hW3]; go_simp
  have y1 : W3.cell? ⟨w2.heap.size, 1, none⟩ = some (.int .u64 b) := by rw [hW3]; go_simp
  have y2 : W3.cell? ⟨w2.heap.size, 2, none⟩ = some (.int .u64 c) := by rw [hW3]; go_simp
  have T3 := T2.below b3
  rw [← hW3]
  have b4 : Below w.heap.size w W3 := b2.trans (b3.mono b2.size)
  clear hW3 T0 T2 b3 hb2 b2 hlt b0
  obtain ⟨x0, x1, x2, x3, x4, x5, x6, x7, x8, xf⟩ := id T3
  go_wp2_with fail
  go_region
  all_goals
    go_wp2_with fail
    obtain ⟨q0, q1, q2, q3, q4, q5, q6, q7, q8, -⟩ := (T3.set 3 0 0 ⟨#[]⟩ false a b c false).below (Below.refl _ _).drew
    unfold setTk at q0 q1 q2 q3 q4 q5 q6 q7 q8
    exact bodyPost_ret (v := .tuple #[.agg #[.int .i64 3, .int .i64 0, .int .i64 0, .string ⟨#[]⟩, .bool false, .int .i64 a, .int .u64 b, .int .u64 c, .bool false], .int .i64 (n + (1 + r) : Nat), .int .i64 0]) (by simp [results, Tryz.results65, go_sem, q0, q1, q2, q3, q4, q5, q6, q7, q8]) rfl ⟨by simp, (below_setTk b4 (Nat.le_refl _) _ _ _ _ _ _ _ _ _).drew⟩
end Go.Proofs.YtogmipbdnffegaaGreatDoor
