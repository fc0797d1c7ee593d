/- What the reference's ReadBits reckons with. No program here. -/
import Derived.Test.YtgmgmkhcadimjaaDoorRdMath
namespace Go.Proofs.YtgmgmkhcadimjaaDoor
open Go Go.RowKit
set_option linter.unusedVariables false
theorem Cutt.one {s wd r0 rs wd' r0' rs' : ByteArray} (h : Cutt s wd r0 rs) (h' : Cutt s wd' r0' rs') : wd = wd' ∧ r0 = r0' ∧ rs = rs' := by
  have hz : wd.size = wd'.size := by
    rcases Nat.lt_trichotomy wd.size wd'.size with hl | hl | hl
    · have h1 := h'.dg wd.size h.lt hl
      have h2 := h.q h.lt
      omega
    · exact hl
    · have h1 := h.dg wd'.size h'.lt hl
      have h2 := h'.q h'.lt
      omega
  have e1 : wd = wd' := by rw [h.ew, h'.ew, hz]
  have e2 : r0 = r0' := by rw [h.er, h'.er, hz]
  refine ⟨e1, e2, ?_⟩
  subst e2
  rcases h.es with ⟨a, b, c⟩ | ⟨b, c⟩ <;> rcases h'.es with ⟨a', b', c'⟩ | ⟨b', c'⟩
  · rw [c, c']
  · exact absurd b (b' a)
  · exact absurd b' (b a')
  · rw [c, c']
theorem rdg_bad {s : ByteArray} {v : Value} (hn : ∀ wd r0 rs, ¬ Cutt s wd r0 rs) (h : Rdg s v) : v = bad 10 := by
  cases h <;> first | rfl | (rename_i h _ _ _ _ _ _ _; exact absurd h (hn _ _ _)) | (rename_i h _ _ _ _ _ _; exact absurd h (hn _ _ _)) | (rename_i h _ _ _ _ _; exact absurd h (hn _ _ _)) | (rename_i h _ _ _ _; exact absurd h (hn _ _ _)) | (rename_i h _ _ _; exact absurd h (hn _ _ _))
/-- the width that the reference reads -/
def rfw (s : ByteArray) : Nat → Nat
  | 0 => 0
  | k + 1 => if rfw s k < 1000 then 10 * rfw s k + ((s.data.toList.getD k 0).toNat - 48) else rfw s k
theorem rfw_le (s : ByteArray) : ∀ k, rfw s k ≤ 20000
  | 0 => Nat.zero_le _
  | k + 1 => by
    have h := rfw_le s k
    have hb := (s.data.toList.getD k 0).toNat_lt
    unfold rfw
    split <;> omega
theorem rfw_pos {s : ByteArray} (h0 : 48 < (s.data.toList.getD 0 0).toNat) : ∀ k, 0 < k → 0 < rfw s k
  | 0, h => absurd h (by omega)
  | k + 1, _ => by
    unfold rfw
    by_cases hk : k = 0
    · subst hk
      have : rfw s 0 = 0 := rfl
      rw [this]
      split <;> omega
    · have := rfw_pos h0 k (by omega)
      split <;> omega
/-- the two widths are one where they matter -/
theorem rfw_wid {s : ByteArray} (hd : ∀ k, k < s.size → dv (s.data.toList.getD k 0).toNat = (s.data.toList.getD k 0).toNat - 48) : ∀ k, k ≤ s.size → (rwd s k = rfw s k ∨ (64 < rwd s k ∧ 64 < rfw s k))
  | 0, _ => .inl rfl
  | k + 1, hk => by
    have ih := rfw_wid hd k (by omega)
    have he := hd k (by omega)
    unfold rwd rfw
    rw [he]
    generalize (s.data.toList.getD k 0).toNat - 48 = c
    split <;> split <;> omega
theorem cutt_K {s wd r0 rs : ByteArray} (h : Cutt s wd r0 rs) {K : Nat} (hd : ∀ q (h : q < s.size), q < K → 48 ≤ s[q].toNat ∧ s[q].toNat ≤ 57) (hst : ∀ h : K < s.size, ¬ (48 ≤ s[K].toNat ∧ s[K].toNat ≤ 57)) : wd.size = K := by
  rcases Nat.lt_trichotomy wd.size K with hl | hl | hl
  · have h1 := hd wd.size h.lt hl
    have h2 := h.q h.lt
    omega
  · exact hl
  · have hk : K < s.size := Nat.lt_trans hl h.lt
    exact absurd (h.dg K hk hl) (hst hk)
theorem cutt_mk {s : ByteArray} {K : Nat} (h0 : 0 < K) (hk : K < s.size) (hd : ∀ q (h : q < s.size), q < K → 48 ≤ s[q].toNat ∧ s[q].toNat ≤ 57) (hz : ∀ h : 0 < s.size, s[0].toNat ≠ 48) (hq : s[K].toNat = 39) : ∃ rs, Cutt s (s.extract 0 K) (s.extract (K + 1) s.size) rs := by
  have hw : (s.extract 0 K).size = K := by simp; omega
  obtain ⟨rs, hr⟩ := trim_some (s.extract (K + 1) s.size)
  refine ⟨rs, ⟨by omega, by omega, by rw [hw], fun i h hi => hd i h (by omega), hz, fun h => ?_, by rw [hw], hr⟩⟩
  simp only [hw]
  exact hq
theorem wd_at {s : ByteArray} {K q : Nat} (hk : K ≤ s.size) (hq : q < (s.extract 0 K).size) : ∃ h : q < s.size, (s.extract 0 K)[q] = s[q] := by
  have hw : (s.extract 0 K).size = K := by simp; omega
  refine ⟨by omega, ?_⟩
  rw [ByteArray.getElem_extract]
  simp
/-- the answers for decimal digits -/
inductive DecA (n : Nat) (d : ByteArray) : Value → Prop
  | ill (hx : d ≠ ⟨#[120]⟩) (hz : d ≠ ⟨#[122]⟩) (hd : allB (fun c => isDig c.toNat) d = false) : DecA n d (bad 10)
  | wide (hw : 64 < n) (hd : d = ⟨#[120]⟩ ∨ d = ⟨#[122]⟩ ∨ (d ≠ ⟨#[120]⟩ ∧ d ≠ ⟨#[122]⟩ ∧ allB (fun c => isDig c.toNat) d = true)) : DecA n d (bad 2)
  | x (hw : n ≤ 64) (hx : d = ⟨#[120]⟩) : DecA n d (good n (fl n 3))
  | z (hw : n ≤ 64) (hx : d = ⟨#[122]⟩) : DecA n d (good n (fl n 2))
  | fits (hw : n ≤ 64) (hx : d ≠ ⟨#[120]⟩) (hz : d ≠ ⟨#[122]⟩) (hd : allB (fun c => isDig c.toNat) d = true) (hv : dval 0 d.data.toList < 2 ^ n) : DecA n d (good n (kv n (BitVec.ofNat 64 (dval 0 d.data.toList))))
  | large (hw : n ≤ 64) (hx : d ≠ ⟨#[120]⟩) (hz : d ≠ ⟨#[122]⟩) (hd : allB (fun c => isDig c.toNat) d = true) (hv : ¬ dval 0 d.data.toList < 2 ^ n) : DecA n d (bad 3)
/-- the answers for digits of some bits each -/
inductive DigA (n size : Nat) (d : ByteArray) : Value → Prop
  | ill (hd : allB (fun c => digOk size c.toNat) d = false) : DigA n size d (bad 10)
  | wide (hw : 64 < n) (hd : allB (fun c => digOk size c.toNat) d = true) : DigA n size d (bad 2)
  | fits (hw : n ≤ 64) (hd : allB (fun c => digOk size c.toNat) d = true) (hE : ∀ k, k < d.size → rdE n size d k = false) : DigA n size d (good n (rdB n size d d.size))
  | large (hw : n ≤ 64) (hd : allB (fun c => digOk size c.toNat) d = true) (hE : ∃ k, k < d.size ∧ rdE n size d k = true) : DigA n size d (bad 3)
theorem Rdg.inv {s wd r0 rs : ByteArray} {v : Value} (C : Cutt s wd r0 rs) (h : Rdg s v) : (rs.size < 2 ∧ v = bad 10) ∨ ∃ hr : 2 ≤ rs.size, (rs[0].toNat ≠ 100 ∧ dw rs[0].toNat = 0 ∧ v = bad 10) ∨ (rs[0].toNat = 100 ∧ DecA (wid wd) (rs.extract 1 rs.size) v) ∨ (rs[0].toNat ≠ 100 ∧ dw rs[0].toNat ≠ 0 ∧ DigA (wid wd) (dw rs[0].toNat) (rs.extract 1 rs.size) v) := by
  cases h with
  | noForm h => exact absurd C (h _ _ _)
  | short h hr => obtain ⟨rfl, rfl, rfl⟩ := C.one h; exact .inl ⟨hr, rfl⟩
  | noBase h hr hb hd => obtain ⟨rfl, rfl, rfl⟩ := C.one h; exact .inr ⟨hr, .inl ⟨hb, hd, rfl⟩⟩
  | decBad h hr hb hx hz hd => obtain ⟨rfl, rfl, rfl⟩ := C.one h; exact .inr ⟨hr, .inr (.inl ⟨hb, .ill hx hz hd⟩)⟩
  | decWide h hr hb hd hw => obtain ⟨rfl, rfl, rfl⟩ := C.one h; exact .inr ⟨hr, .inr (.inl ⟨hb, .wide hw hd⟩)⟩
  | decX h hr hb hx hw => obtain ⟨rfl, rfl, rfl⟩ := C.one h; exact .inr ⟨hr, .inr (.inl ⟨hb, .x hw hx⟩)⟩
  | decZ h hr hb hx hw => obtain ⟨rfl, rfl, rfl⟩ := C.one h; exact .inr ⟨hr, .inr (.inl ⟨hb, .z hw hx⟩)⟩
  | decOk h hr hb hx hz hd hw hv => obtain ⟨rfl, rfl, rfl⟩ := C.one h; exact .inr ⟨hr, .inr (.inl ⟨hb, .fits hw hx hz hd hv⟩)⟩
  | decLarge h hr hb hx hz hd hw hv => obtain ⟨rfl, rfl, rfl⟩ := C.one h; exact .inr ⟨hr, .inr (.inl ⟨hb, .large hw hx hz hd hv⟩)⟩
  | digBad h hr hb hb2 hd => obtain ⟨rfl, rfl, rfl⟩ := C.one h; exact .inr ⟨hr, .inr (.inr ⟨hb, hb2, .ill hd⟩)⟩
  | digWide h hr hb hb2 hd hw => obtain ⟨rfl, rfl, rfl⟩ := C.one h; exact .inr ⟨hr, .inr (.inr ⟨hb, hb2, .wide hw hd⟩)⟩
  | digLarge h hr hb hb2 hd hw hE => obtain ⟨rfl, rfl, rfl⟩ := C.one h; exact .inr ⟨hr, .inr (.inr ⟨hb, hb2, .large hw hd hE⟩)⟩
  | digOk h hr hb hb2 hd hw hE => obtain ⟨rfl, rfl, rfl⟩ := C.one h; exact .inr ⟨hr, .inr (.inr ⟨hb, hb2, .fits hw hd hE⟩)⟩
theorem rdg_short {s wd r0 rs : ByteArray} {v : Value} (C : Cutt s wd r0 rs) (hs : rs.size < 2) (h : Rdg s v) : v = bad 10 := by
  rcases h.inv C with ⟨_, h⟩ | ⟨hr, _⟩
  · exact h
  · omega
theorem allB_yes {f : UInt8 → Bool} {d : ByteArray} (h : allB f d = true) : ∀ k (hk : k < d.size), f d[k] = true := by
  intro k hk
  unfold allB at h
  exact List.all_eq_true.1 h d[k] (Array.mem_toList_iff.2 (Array.getElem_mem (xs := d.data) hk))
theorem allB_no {f : UInt8 → Bool} {d : ByteArray} (h : allB f d = false) : ∃ k, ∃ hk : k < d.size, f d[k] = false := by
  unfold allB at h
  rw [List.all_eq_false] at h
  obtain ⟨c, hc, hf⟩ := h
  obtain ⟨k, hk, rfl⟩ := List.getElem_of_mem hc
  refine ⟨k, by rw [← size_list]; exact hk, ?_⟩
  cases e : f (d.data.toList[k])
  · exact e
  · exact absurd e hf
theorem isDig_iff : ∀ c : Fin 256, isDig c.1 = decide (48 ≤ c.1 ∧ c.1 ≤ 57) := by decide +kernel
theorem isDig_yes {c : UInt8} : isDig c.toNat = true ↔ 48 ≤ c.toNat ∧ c.toNat ≤ 57 := by
  rw [isDig_iff ⟨c.toNat, c.toNat_lt⟩, decide_eq_true_iff]
theorem dv_dig {c : Nat} (h : 48 ≤ c ∧ c ≤ 57) : dv c = c - 48 := by
  unfold dv
  rw [if_pos (by omega)]
theorem dgt_get {d : ByteArray} {k : Nat} (hk : k < d.size) : dgt d k = (d[d.size - 1 - k]'(by omega)).toNat := dgt_at d k (by omega)
end Go.Proofs.YtgmgmkhcadimjaaDoor
