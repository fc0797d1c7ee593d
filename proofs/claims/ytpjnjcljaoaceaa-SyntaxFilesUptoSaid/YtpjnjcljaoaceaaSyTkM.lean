/- How many kids a letter takes, one by one; what the reference's table says. -/
import Derived.Test.YtpjnjcljaoaceaaSyForms
import Derived.Test.YtpjnjcljaoaceaaSyChk
namespace Go.Proofs.Ytpjnjcljaoaceaa
open Go Go.RowKit
set_option linter.unusedVariables false
/-- a letter takes one more kid -/
def fitN (c mk : UInt8) (n : Nat) (k : Int) : Bool := if mk = 42 ∨ mk = 43 then bel k c else decide (n = 0) && (k != 0 || mk == 63)
theorem preN_next (c : UInt8) : ∀ (ks : List Nd) (n : Nat) (h : n < ks.length), n ≤ preN c ks → bel ks[n].kind c = true → n + 1 ≤ preN c ks
  | x :: r, 0, _, _, hb => by
    unfold preN
    rw [if_pos (show bel x.kind c = true from hb)]
    omega
  | x :: r, n + 1, h, hn, hb => by
    unfold preN at hn ⊢
    split at hn
    · rename_i hx
      rw [if_pos hx]
      have := preN_next c r n (by simpa using h) (by omega) hb
      omega
    · omega
theorem take_next (c mk : UInt8) (ks : List Nd) (n : Nat) (h : n < ks.length) (hn : n ≤ takeN c mk ks) (hf : fitN c mk n ks[n].kind = true) : n + 1 ≤ takeN c mk ks := by
  unfold takeN at hn ⊢
  unfold fitN at hf
  split at hn
  · rename_i hm
    rw [if_pos hm] at hf ⊢
    exact preN_next c ks n h hn hf
  · rename_i hm
    rw [if_neg hm] at hf ⊢
    rw [Bool.and_eq_true, decide_eq_true_eq] at hf
    obtain ⟨rfl, hk⟩ := hf
    cases ks with
    | nil => simp at h
    | cons x r =>
      simp only [List.getElem_cons_zero, Bool.or_eq_true, bne_iff_ne, ne_eq, beq_iff_eq] at hk
      simp only
      rw [if_pos (by rcases hk with hk | hk; exact .inr hk; exact .inl hk)]
      exact Nat.le_refl _
theorem take_stop (c mk : UInt8) (ks : List Nd) (n : Nat) (h : n < ks.length) (hn : n ≤ takeN c mk ks) (hf : fitN c mk n ks[n].kind = false) : n = takeN c mk ks := by
  unfold takeN at hn ⊢
  unfold fitN at hf
  split at hn
  · rename_i hm
    rw [if_pos hm] at hf ⊢
    by_cases e : n < preN c ks
    · have := preN_bel c ks n h e
      rw [hf] at this
      cases this
    · omega
  · rename_i hm
    rw [if_neg hm] at hf ⊢
    cases ks with
    | nil => simp at h
    | cons x r =>
      simp only at hn ⊢
      by_cases e : n = 0
      · subst e
        simp only [decide_true, Bool.true_and, List.getElem_cons_zero, Bool.or_eq_false_iff] at hf
        rw [if_neg]
        rintro (e1 | e1)
        · rw [e1] at hf; exact absurd hf.2 (by decide)
        · exact e1 (by simpa using hf.1)
      · split at hn
        · rename_i hx; rw [if_pos hx]; omega
        · omega
theorem take_end (c mk : UInt8) (ks : List Nd) (n : Nat) (h : n = ks.length) (hn : n ≤ takeN c mk ks) : n = takeN c mk ks := by
  have := takeN_le c mk ks
  omega
theorem bel_out {k : Int} (h : ¬ (0 < k ∧ k < 122)) (c : UInt8) : bel k c = false := by
  unfold bel formO
  by_cases h0 : 0 ≤ k ∧ k < 122
  · obtain rfl : k = 0 := by omega
    rw [if_pos h0]
    rfl
  · rw [if_neg h0]
    rfl
theorem dash_has (l : List UInt8) (c : UInt8) (h : c ≠ 45) : (dash l).contains c = l.contains c := by
  unfold dash
  split
  · rename_i e
    subst e
    simp [h]
  · rfl
theorem formO_at (m : Nat) (h : m < 122) : formO (m : Int) = formL.getD m ([], [], []) := by
  unfold formO
  rw [if_pos (by omega)]
  rfl
/-- the reference's table, in memory -/
def TAB (w : World) (g : Nat) : Prop := ∀ m, m < 122 → w.cell? ⟨g, m * 3, none⟩ = some (.string (bs (dash (formO (m : Int)).1))) ∧ w.cell? ⟨g, m * 3 + 1, none⟩ = some (.string (bs (formO (m : Int)).2.1)) ∧ w.cell? ⟨g, m * 3 + 2, none⟩ = some (.string (bs (dash (formO (m : Int)).2.2)))
theorem TAB.lt {w : World} {g : Nat} (h : TAB w g) : g < w.heap.size := World.block_lt_of_cell? w _ (h 0 (by decide)).1
theorem TAB.below {w w' : World} {g : Nat} (h : TAB w g) (hb : Below w.heap.size w w') : TAB w' g := by
  have K : ∀ i, w'.cell? ⟨g, i, none⟩ = w.cell? ⟨g, i, none⟩ := fun i => hb.cell (p := ⟨g, i, none⟩) h.lt
  intro m hm
  obtain ⟨a, b, c⟩ := h m hm
  exact ⟨(K _).trans a, (K _).trans b, (K _).trans c⟩
theorem row_eq {w : World} {g m : Nat} {X Y : F3} (e : X = Y) (h : w.cell? ⟨g, m * 3, none⟩ = some (.string (bs X.1)) ∧ w.cell? ⟨g, m * 3 + 1, none⟩ = some (.string (bs X.2.1)) ∧ w.cell? ⟨g, m * 3 + 2, none⟩ = some (.string (bs X.2.2))) : w.cell? ⟨g, m * 3, none⟩ = some (.string (bs Y.1)) ∧ w.cell? ⟨g, m * 3 + 1, none⟩ = some (.string (bs Y.2.1)) ∧ w.cell? ⟨g, m * 3 + 2, none⟩ = some (.string (bs Y.2.2)) := by
  cases e
  exact h
theorem formR_at (m : Nat) (hm : m < 122) : formR[m]'(by rw [formR_len]; exact hm) = (dash (formO (m : Int)).1, (formO (m : Int)).2.1, dash (formO (m : Int)).2.2) := by
  have hl : m < formL.length := by rw [form_len]; exact hm
  rw [formO_at m hm]
  have h : formR[m]? = (formL[m]?).map fun r => (dash r.1, r.2.1, dash r.2.2) := by
    unfold formR
    rw [List.getElem?_map]
  rw [List.getElem?_eq_getElem hl, List.getElem?_eq_getElem (by rw [formR_len]; exact hm)] at h
  rw [Option.some.inj h]
  simp only [List.getD_eq_getElem?_getD, List.getElem?_eq_getElem hl, Option.getD_some]
set_option maxRecDepth 100000 in
theorem tab_of {B : Nat} {w : World} {v : Value} (h : OF B w v formR) : ∃ g cap, v = .slice (some ⟨g, 0, none⟩) 122 cap ∧ 122 ≤ cap ∧ TAB w g := by
  obtain ⟨g, cap, hv, hc, hat⟩ := h.at (by rw [formR_len]; decide)
  rw [formR_len] at hv hc
  have key : ∀ m, m < 122 → w.cell? ⟨g, m * 3, none⟩ = some (.string (bs (dash (formO (m : Int)).1))) ∧ w.cell? ⟨g, m * 3 + 1, none⟩ = some (.string (bs (formO (m : Int)).2.1)) ∧ w.cell? ⟨g, m * 3 + 2, none⟩ = some (.string (bs (dash (formO (m : Int)).2.2))) := by
    intro m hm
    have h1 := hat m (by rw [formR_len]; exact hm)
    have h2 := row_eq (formR_at m hm) h1
    simp only at h2
    exact h2
  exact ⟨g, cap, hv, hc, key⟩
theorem form_len_le : ∀ m : Fin 122, (formL.getD m.1 ([], [], [])).1.length ≤ 10 ∧ (formL.getD m.1 ([], [], [])).2.1.length ≤ 10 ∧ (formL.getD m.1 ([], [], [])).2.2.length ≤ 10 := by decide +kernel
theorem pat_no45 : ∀ m : Fin 122, ((formL.getD m.1 ([], [], [])).2.1).contains 45 = false := by decide +kernel
/-- a mark as the reference keeps it -/
def mkS (m : UInt8) : List UInt8 := if m = 0 then [] else [m]
theorem mkS_is : ∀ m : Fin 256, ∀ j : Fin 3, ((mkS (UInt8.ofNat m.1)) == [[42, 43, 63].getD j.1 0]) = (UInt8.ofNat m.1 == [42, 43, 63].getD j.1 0) := by decide +kernel
theorem mkS_eq (m : UInt8) (x : UInt8) (hx : x = 42 ∨ x = 43 ∨ x = 63) : ((bs (mkS m)).toList == [x]) = (m == x) := by
  rw [ByteArray.toList_eq]
  have h : (bs (mkS m)).data.toList = mkS m := bs_list _
  rw [h]
  have hm : UInt8.ofNat m.toNat = m := by simp
  have hlt : m.toNat < 256 := m.toNat_lt
  rcases hx with rfl | rfl | rfl
  · have := mkS_is ⟨m.toNat, hlt⟩ 0; rw [hm] at this; exact this
  · have := mkS_is ⟨m.toNat, hlt⟩ 1; rw [hm] at this; exact this
  · have := mkS_is ⟨m.toNat, hlt⟩ 2; rw [hm] at this; exact this
theorem markN_in : ∀ (q : List UInt8), ∀ x ∈ (markN q).2, x ∈ q
  | [], x, h => h
  | m :: r, x, h => by
    have h' : x ∈ (if isMark m = true then (m, r) else ((0 : UInt8), m :: r)).2 := h
    split at h'
    · exact List.mem_cons_of_mem _ h'
    · exact h'
theorem bs_head (c : UInt8) (p : List UInt8) : (bs (c :: p)).extract 0 1 = bs [c] := by
  have : ((bs (c :: p)).extract 0 1).data = (bs [c]).data := by
    rw [ByteArray.data_extract]
    simp [bs]
  exact ByteArray.ext this
theorem mt_in : ∀ (m : Nat) (p : List UInt8) (ks : List Nd) (l : List UInt8), p.length ≤ m → mt p ks = some l → ∀ x ∈ l, x ∈ p
  | _, [], ks, l, _, h => by
    rw [mt_nil] at h
    split at h
    · cases h; intro x hx; cases hx
    · cases h
  | 0, c :: p, ks, l, hm, h => by simp at hm
  | m + 1, c :: p, ks, l, hm, h => by
    rw [mt_cons] at h
    split at h
    · cases h
    · obtain ⟨l', h', rfl⟩ := Option.map_eq_some_iff.1 h
      have ih := mt_in m _ _ l' (by have := markN_le p; simp at hm; omega) h'
      intro x hx
      rcases List.mem_append.1 hx with hx | hx
      · rw [List.eq_of_mem_replicate hx]; exact List.mem_cons_self
      · exact List.mem_cons_of_mem _ (markN_in p x (ih x hx))
end Go.Proofs.Ytpjnjcljaoaceaa
