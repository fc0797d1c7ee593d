/- A text that is read as a vector: its parts, and the answer. No program here. -/
import Derived.Test.YtgmgmkhcadimjaaDoorApNo
import Derived.Test.YtgmgmkhcadimjaaDoorBtM
import Derived.Test.YtgmgmkhcadimjaaDoorDecPA
import Derived.Lib.Strings
import Derived.Lib.IndexBytes
import Derived.Lib.IndexLaws
namespace Go.Proofs.YtgmgmkhcadimjaaDoor
open Go Go.RowKit
set_option linter.unusedVariables false
def bad (e : Int) : Value := .tuple #[.agg #[.int .i64 0, .int .u64 0, .int .u64 0], .int .i64 e]
def good (n : Nat) (a : Vx) : Value := .tuple #[.agg #[.int .i64 n, .int .u64 (U a.v), .int .u64 (U a.x)], .int .i64 0]
theorem first39 : ∀ l : List UInt8, (∀ c ∈ l, c ≠ 39) ∨ ∃ p q, l = p ++ 39 :: q ∧ ∀ c ∈ p, c ≠ 39
  | [] => .inl (by simp)
  | c :: l => by
    by_cases h : c = 39
    · exact .inr ⟨[], l, by rw [h]; rfl, by simp⟩
    · rcases first39 l with h1 | ⟨p, q, h1, h2⟩
      · refine .inl fun d hd => ?_
        rcases List.mem_cons.1 hd with rfl | hd
        · exact h
        · exact h1 d hd
      · refine .inr ⟨c :: p, q, by rw [h1]; rfl, fun d hd => ?_⟩
        rcases List.mem_cons.1 hd with rfl | hd
        · exact h
        · exact h2 d hd
theorem index_39 (q : List UInt8) : ∀ p : List UInt8, (∀ c ∈ p, c ≠ 39) → Lib.index (p ++ 39 :: q) [39] = p.length
  | [], _ => by simp [Lib.index]
  | c :: p, h => by
    have hc : c ≠ 39 := h c (by simp)
    have ih := index_39 q p (fun d hd => h d (by simp [hd]))
    have h1 : ¬ (39 : UInt8) = c := fun e => hc e.symm
    rw [List.cons_append, Lib.index, ih]
    simp [h1]
theorem cut_39 (p q : List UInt8) (h : ∀ c ∈ p, c ≠ 39) : Lib.cut (p ++ 39 :: q) [39] = (p, q, true) := by
  unfold Lib.cut
  rw [index_39 q p h, if_pos (by omega)]
  simp
theorem index_no39 : ∀ p : List UInt8, (∀ c ∈ p, c ≠ 39) → Lib.index p [39] = -1
  | [], _ => by simp [Lib.index]
  | c :: p, h => by
    have hc : c ≠ 39 := h c (by simp)
    have ih := index_no39 p (fun d hd => h d (by simp [hd]))
    have h1 : ¬ (39 : UInt8) = c := fun e => hc e.symm
    rw [Lib.index, ih]
    simp [h1]
theorem cut_no39 (p : List UInt8) (h : ∀ c ∈ p, c ≠ 39) : Lib.cut p [39] = (p, [], false) := by
  unfold Lib.cut
  rw [index_no39 p h, if_neg (by omega)]
/-- a text's width, its rest behind the quote, and what stands behind the sign -/
structure Cutt (s wd r0 rs : ByteArray) : Prop where
  w0 : 0 < wd.size
  lt : wd.size < s.size
  ew : wd = s.extract 0 wd.size
  dg : ∀ i (h : i < s.size), i < wd.size → 48 ≤ s[i].toNat ∧ s[i].toNat ≤ 57
  nz : ∀ h : 0 < s.size, s[0].toNat ≠ 48
  q : ∀ h : wd.size < s.size, s[wd.size].toNat = 39
  er : r0 = s.extract (wd.size + 1) s.size
  es : (∃ h : 0 < r0.size, r0[0].toNat = 115 ∧ rs = r0.extract 1 r0.size) ∨ ((∀ h : 0 < r0.size, r0[0].toNat ≠ 115) ∧ rs = r0)
theorem ext_list (s : ByteArray) (a b : Nat) : (s.extract a b).data.toList = (s.data.toList.take b).drop a := by
  rw [Lib.extract_eq, List.drop_take]
theorem size_list (s : ByteArray) : s.data.toList.length = s.size := (Lib.size_eq s).symm
theorem at_list (s : ByteArray) (i : Nat) (h : i < s.size) : s.data.toList[i]'(by rw [size_list]; exact h) = s[i] := rfl
theorem Cutt.list {s wd r0 rs : ByteArray} (h : Cutt s wd r0 rs) : s.data.toList = wd.data.toList ++ 39 :: r0.data.toList := by
  have hl := size_list s
  have h1 : wd.data.toList = s.data.toList.take wd.size := by
    have := congrArg (fun b : ByteArray => b.data.toList) h.ew
    simp only [ext_list, List.drop_zero] at this
    exact this
  have h2 : r0.data.toList = s.data.toList.drop (wd.size + 1) := by
    rw [h.er, ext_list, List.take_of_length_le (by omega)]
  have hlt := h.lt
  have h3 : s.data.toList.drop wd.size = 39 :: s.data.toList.drop (wd.size + 1) := by
    rw [List.drop_eq_getElem_cons (by omega)]
    congr 1
    apply UInt8.toNat_inj.1
    rw [at_list s _ h.lt]
    exact h.q h.lt
  rw [h2, ← h3, h1, List.take_append_drop]
theorem Cutt.digs {s wd r0 rs : ByteArray} (h : Cutt s wd r0 rs) : ∀ c ∈ wd.data.toList, 48 ≤ c.toNat ∧ c.toNat ≤ 57 := by
  intro c hc
  obtain ⟨i, hi, rfl⟩ := List.getElem_of_mem hc
  have hi2 : i < wd.size := by rw [← size_list]; exact hi
  have e : wd.data.toList[i] = s.data.toList[i]'(by rw [size_list]; have := h.lt; omega) := by
    have := h.list
    simp only [this]
    rw [List.getElem_append_left hi]
  rw [e, at_list]
  exact h.dg i (by have := h.lt; omega) hi2
theorem Cutt.cut {s wd r0 rs : ByteArray} (h : Cutt s wd r0 rs) : Hid (Lib.cut s.data.toList (⟨#[39]⟩ : ByteArray).data.toList = (wd.data.toList, r0.data.toList, true)) := by
  refine Lib.hid ?_
  show Lib.cut s.data.toList [39] = _
  rw [h.list]
  refine cut_39 _ _ fun c hc e => ?_
  have := h.digs c hc
  rw [e] at this
  exact absurd this.1 (by decide)
theorem trim_of {r0 rs : ByteArray} (h : (∃ h : 0 < r0.size, r0[0].toNat = 115 ∧ rs = r0.extract 1 r0.size) ∨ ((∀ h : 0 < r0.size, r0[0].toNat ≠ 115) ∧ rs = r0)) : Hid (Lib.trimPrefix r0.data.toList (⟨#[115]⟩ : ByteArray).data.toList = rs.data.toList) := by
  refine Lib.hid ?_
  show Lib.trimPrefix r0.data.toList [115] = _
  unfold Lib.trimPrefix Lib.hasPrefix
  cases hl : r0.data.toList with
  | nil =>
    rcases h with ⟨h0, _⟩ | ⟨_, rfl⟩
    · rw [← size_list, hl] at h0; cases h0
    · simp [hl]
  | cons c l =>
    have h0 : 0 < r0.size := by rw [← size_list, hl]; simp
    have e0 : r0[0] = c := by
      rw [← at_list r0 0 h0]; simp [hl]
    rcases h with ⟨_, h1, rfl⟩ | ⟨h1, rfl⟩
    · have : c = 115 := by rw [← e0]; exact UInt8.toNat_inj.1 h1
      rw [this, ext_list, List.take_of_length_le (by rw [size_list]; omega), hl]
      simp
    · have : ¬ 115 = c := by
        intro e
        exact h1 h0 (by rw [e0, ← e]; rfl)
      simp [this, hl]
theorem trim_some (r0 : ByteArray) : ∃ rs : ByteArray, (∃ h : 0 < r0.size, r0[0].toNat = 115 ∧ rs = r0.extract 1 r0.size) ∨ ((∀ h : 0 < r0.size, r0[0].toNat ≠ 115) ∧ rs = r0) := by
  by_cases h : ∃ h : 0 < r0.size, r0[0].toNat = 115
  · exact ⟨_, .inl ⟨h.1, h.2, rfl⟩⟩
  · exact ⟨r0, .inr ⟨fun h0 h1 => h ⟨h0, h1⟩, rfl⟩⟩
/-- the width that the program reads -/
def wid (wd : ByteArray) : Nat := rwd wd wd.size
/-- how a text is read -/
inductive Rdg (s : ByteArray) : Value → Prop
  | noForm (h : ∀ wd r0 rs, ¬ Cutt s wd r0 rs) : Rdg s (bad 10)
  | short {wd r0 rs : ByteArray} (h : Cutt s wd r0 rs) (hr : rs.size < 2) : Rdg s (bad 10)
  | noBase {wd r0 rs : ByteArray} (h : Cutt s wd r0 rs) (hr : 2 ≤ rs.size) (hb : rs[0].toNat ≠ 100) (hd : dw rs[0].toNat = 0) : Rdg s (bad 10)
  | decBad {wd r0 rs : ByteArray} (h : Cutt s wd r0 rs) (hr : 2 ≤ rs.size) (hb : rs[0].toNat = 100) (hx : rs.extract 1 rs.size ≠ ⟨#[120]⟩) (hz : rs.extract 1 rs.size ≠ ⟨#[122]⟩) (hd : allB (fun c => isDig c.toNat) (rs.extract 1 rs.size) = false) : Rdg s (bad 10)
  | decWide {wd r0 rs : ByteArray} (h : Cutt s wd r0 rs) (hr : 2 ≤ rs.size) (hb : rs[0].toNat = 100) (hd : rs.extract 1 rs.size = ⟨#[120]⟩ ∨ rs.extract 1 rs.size = ⟨#[122]⟩ ∨ (rs.extract 1 rs.size ≠ ⟨#[120]⟩ ∧ rs.extract 1 rs.size ≠ ⟨#[122]⟩ ∧ allB (fun c => isDig c.toNat) (rs.extract 1 rs.size) = true)) (hw : 64 < wid wd) : Rdg s (bad 2)
  | decX {wd r0 rs : ByteArray} (h : Cutt s wd r0 rs) (hr : 2 ≤ rs.size) (hb : rs[0].toNat = 100) (hx : rs.extract 1 rs.size = ⟨#[120]⟩) (hw : wid wd ≤ 64) : Rdg s (good (wid wd) (fl (wid wd) 3))
  | decZ {wd r0 rs : ByteArray} (h : Cutt s wd r0 rs) (hr : 2 ≤ rs.size) (hb : rs[0].toNat = 100) (hx : rs.extract 1 rs.size = ⟨#[122]⟩) (hw : wid wd ≤ 64) : Rdg s (good (wid wd) (fl (wid wd) 2))
  | decOk {wd r0 rs : ByteArray} (h : Cutt s wd r0 rs) (hr : 2 ≤ rs.size) (hb : rs[0].toNat = 100) (hx : rs.extract 1 rs.size ≠ ⟨#[120]⟩) (hz : rs.extract 1 rs.size ≠ ⟨#[122]⟩) (hd : allB (fun c => isDig c.toNat) (rs.extract 1 rs.size) = true) (hw : wid wd ≤ 64) (hv : dval 0 (rs.extract 1 rs.size).data.toList < 2 ^ wid wd) : Rdg s (good (wid wd) (kv (wid wd) (BitVec.ofNat 64 (dval 0 (rs.extract 1 rs.size).data.toList))))
  | decLarge {wd r0 rs : ByteArray} (h : Cutt s wd r0 rs) (hr : 2 ≤ rs.size) (hb : rs[0].toNat = 100) (hx : rs.extract 1 rs.size ≠ ⟨#[120]⟩) (hz : rs.extract 1 rs.size ≠ ⟨#[122]⟩) (hd : allB (fun c => isDig c.toNat) (rs.extract 1 rs.size) = true) (hw : wid wd ≤ 64) (hv : ¬ dval 0 (rs.extract 1 rs.size).data.toList < 2 ^ wid wd) : Rdg s (bad 3)
  | digBad {wd r0 rs : ByteArray} (h : Cutt s wd r0 rs) (hr : 2 ≤ rs.size) (hb : rs[0].toNat ≠ 100) (hb2 : dw rs[0].toNat ≠ 0) (hd : allB (fun c => digOk (dw rs[0].toNat) c.toNat) (rs.extract 1 rs.size) = false) : Rdg s (bad 10)
  | digWide {wd r0 rs : ByteArray} (h : Cutt s wd r0 rs) (hr : 2 ≤ rs.size) (hb : rs[0].toNat ≠ 100) (hb2 : dw rs[0].toNat ≠ 0) (hd : allB (fun c => digOk (dw rs[0].toNat) c.toNat) (rs.extract 1 rs.size) = true) (hw : 64 < wid wd) : Rdg s (bad 2)
  | digLarge {wd r0 rs : ByteArray} (h : Cutt s wd r0 rs) (hr : 2 ≤ rs.size) (hb : rs[0].toNat ≠ 100) (hb2 : dw rs[0].toNat ≠ 0) (hd : allB (fun c => digOk (dw rs[0].toNat) c.toNat) (rs.extract 1 rs.size) = true) (hw : wid wd ≤ 64) (hE : ∃ k, k < (rs.extract 1 rs.size).size ∧ rdE (wid wd) (dw rs[0].toNat) (rs.extract 1 rs.size) k = true) : Rdg s (bad 3)
  | digOk {wd r0 rs : ByteArray} (h : Cutt s wd r0 rs) (hr : 2 ≤ rs.size) (hb : rs[0].toNat ≠ 100) (hb2 : dw rs[0].toNat ≠ 0) (hd : allB (fun c => digOk (dw rs[0].toNat) c.toNat) (rs.extract 1 rs.size) = true) (hw : wid wd ≤ 64) (hE : ∀ k, k < (rs.extract 1 rs.size).size → rdE (wid wd) (dw rs[0].toNat) (rs.extract 1 rs.size) k = false) : Rdg s (good (wid wd) (rdB (wid wd) (dw rs[0].toNat) (rs.extract 1 rs.size) (rs.extract 1 rs.size).size))
theorem rdg_total (s : ByteArray) : ∃ v, Rdg s v := by
  by_cases h0 : ∃ wd r0 rs, Cutt s wd r0 rs
  · obtain ⟨wd, r0, rs, h⟩ := h0
    by_cases hr : rs.size < 2
    · exact ⟨_, .short h hr⟩
    · have hr2 : 2 ≤ rs.size := by omega
      by_cases hb : rs[0].toNat = 100
      · by_cases hx : rs.extract 1 rs.size = ⟨#[120]⟩
        · by_cases hw : wid wd ≤ 64
          · exact ⟨_, .decX h hr2 hb hx hw⟩
          · exact ⟨_, .decWide h hr2 hb (.inl hx) (by omega)⟩
        · by_cases hz : rs.extract 1 rs.size = ⟨#[122]⟩
          · by_cases hw : wid wd ≤ 64
            · exact ⟨_, .decZ h hr2 hb hz hw⟩
            · exact ⟨_, .decWide h hr2 hb (.inr (.inl hz)) (by omega)⟩
          · by_cases hd : allB (fun c => isDig c.toNat) (rs.extract 1 rs.size) = true
            · by_cases hw : wid wd ≤ 64
              · by_cases hv : dval 0 (rs.extract 1 rs.size).data.toList < 2 ^ wid wd
                · exact ⟨_, .decOk h hr2 hb hx hz hd hw hv⟩
                · exact ⟨_, .decLarge h hr2 hb hx hz hd hw hv⟩
              · exact ⟨_, .decWide h hr2 hb (.inr (.inr ⟨hx, hz, hd⟩)) (by omega)⟩
            · exact ⟨_, .decBad h hr2 hb hx hz (by simpa using hd)⟩
      · by_cases hb2 : dw rs[0].toNat = 0
        · exact ⟨_, .noBase h hr2 hb hb2⟩
        · by_cases hd : allB (fun c => digOk (dw rs[0].toNat) c.toNat) (rs.extract 1 rs.size) = true
          · by_cases hw : wid wd ≤ 64
            · by_cases hE : ∃ k, k < (rs.extract 1 rs.size).size ∧ rdE (wid wd) (dw rs[0].toNat) (rs.extract 1 rs.size) k = true
              · exact ⟨_, .digLarge h hr2 hb hb2 hd hw hE⟩
              · exact ⟨_, .digOk h hr2 hb hb2 hd hw fun k hk => by
                  cases e : rdE (wid wd) (dw rs[0].toNat) (rs.extract 1 rs.size) k
                  · rfl
                  · exact absurd ⟨k, hk, e⟩ hE⟩
            · exact ⟨_, .digWide h hr2 hb hb2 hd (by omega)⟩
          · exact ⟨_, .digBad h hr2 hb hb2 (by simpa using hd)⟩
  · exact ⟨_, .noForm fun wd r0 rs h => h0 ⟨wd, r0, rs, h⟩⟩
end Go.Proofs.YtgmgmkhcadimjaaDoor
