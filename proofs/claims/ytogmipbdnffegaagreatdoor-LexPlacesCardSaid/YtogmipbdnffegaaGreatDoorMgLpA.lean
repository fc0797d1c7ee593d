/- A token that stands alone is found where a blank follows it, whatever comes behind. No program here.
   The tokens of which the makers choose, and what stands between them. No program here.
   A text of tokens with something between them is divided into these tokens. No program here. -/
import Derived.Test.YtogmipbdnffegaaGreatDoorLxToks
import Derived.Test.YtogmipbdnffegaaGreatDoorMgQt
import Derived.Test.YtogmipbdnffegaaGreatDoorLxEx
import Derived.Test.YtogmipbdnffegaaGreatDoorQtQ
namespace Go.Proofs.YtogmipbdnffegaaGreatDoor
open Go Go.RowKit
set_option linter.unusedVariables false
theorem qbs_list (l : List UInt8) : (qbs l).data.toList = l := by simp [qbs]
theorem qbs_size (l : List UInt8) : (qbs l).size = l.length := by rw [← len_list, qbs_list]
theorem qbs_of (s : ByteArray) : qbs s.data.toList = s := ByteArray.ext (by simp [qbs])
theorem qbs_ext {s : ByteArray} {l : List UInt8} (h : s.data.toList = l) : s = qbs l := by rw [← h, qbs_of]
theorem lext_list (s : ByteArray) (a b : Nat) : (s.extract a b).data.toList = (s.data.toList.take b).drop a := by
  rw [ByteArray.data_extract, Array.toList_extract, List.extract_eq_take_drop, List.drop_take]
theorem qbs_extract (l : List UInt8) (a b : Nat) : (qbs l).extract a b = qbs ((l.take b).drop a) := qbs_ext (by rw [lext_list, qbs_list])
theorem qbs_tail (l : List UInt8) (a : Nat) : (qbs l).extract a (qbs l).size = qbs (l.drop a) := by rw [qbs_extract, qbs_size, List.take_length]
theorem gb_qbs (l : List UInt8) (n : Nat) (h : n < l.length) : gb (qbs l) n = (l[n]).toNat := by
  rw [← gb_at (qbs l) n (by rw [qbs_size]; exact h)]
  congr 1
theorem gb_app (p e : List UInt8) (n : Nat) (h : n < p.length) : gb (qbs (p ++ e)) n = gb (qbs p) n := by
  rw [gb_qbs _ _ (by rw [List.length_append]; omega), gb_qbs _ _ h, List.getElem_append_left h]
theorem gb_end (p : List UInt8) (c : UInt8) (e : List UInt8) : gb (qbs (p ++ c :: e)) p.length = c.toNat := by
  rw [gb_qbs _ _ (by simp)]
  simp
theorem spn_stop (f : Nat → Bool) : ∀ (p e : List UInt8), spn f p < p.length → spn f (p ++ e) = spn f p
  | [], e, h => by simp at h
  | a :: p, e, h => by
    show (if f a.toNat then spn f (p ++ e) + 1 else 0) = if f a.toNat then spn f p + 1 else 0
    by_cases ha : f a.toNat = true
    · rw [if_pos ha, if_pos ha, spn_stop f p e (by
        have : spn f (a :: p) = spn f p + 1 := by show (if _ then _ else _) = _; rw [if_pos ha]
        rw [this] at h
        simpa using h)]
    · rw [if_neg ha, if_neg ha]
theorem spn_all (f : Nat → Bool) (c : UInt8) (hc : f c.toNat = false) : ∀ (p e : List UInt8), spn f p = p.length → spn f (p ++ c :: e) = p.length
  | [], e, _ => by show (if f c.toNat then spn f e + 1 else 0) = 0; rw [hc]; rfl
  | a :: p, e, h => by
    show (if f a.toNat then spn f (p ++ c :: e) + 1 else 0) = p.length + 1
    by_cases ha : f a.toNat = true
    · have hs : spn f (a :: p) = spn f p + 1 := by show (if _ then _ else _) = _; rw [if_pos ha]
      rw [hs] at h
      rw [if_pos ha, spn_all f c hc p e (by simpa using h)]
    · have hs : spn f (a :: p) = 0 := by show (if _ then _ else _) = _; rw [if_neg ha]
      rw [hs] at h
      simp at h
theorem span_qbs (f : Nat → Bool) (l : List UInt8) : span f (qbs l) = spn f l := by unfold span; rw [qbs_list]
theorem take_app (p e : List UInt8) (n : Nat) (h : n ≤ p.length) : (p ++ e).take n = p.take n := List.take_append_of_le_length h
theorem pre_app {x p e : List UInt8} {c : UInt8} (hx : c ∉ x) : x.isPrefixOf (p ++ c :: e) = x.isPrefixOf p := by
  induction x generalizing p with
  | nil => simp
  | cons a x ih =>
    cases p with
    | nil =>
      have : ¬ a = c := fun h => hx (by simp [h])
      simp [List.isPrefixOf, this]
    | cons b p =>
      show ((a == b) && x.isPrefixOf (p ++ c :: e)) = ((a == b) && x.isPrefixOf p)
      rw [ih (fun h => hx (List.mem_cons_of_mem _ h))]
theorem blank_of {c : UInt8} (hc : isB c.toNat = true) : c.toNat = 32 ∨ c.toNat = 9 ∨ c.toNat = 10 := by
  simp only [isB, Bool.or_eq_true, beq_iff_eq] at hc
  omega
theorem blank_cls {c : UInt8} (hc : isB c.toNat = true) : inW c.toNat = false ∧ inQ c.toNat = false ∧ isD c.toNat = false ∧ isL c.toNat = false := by
  rcases blank_of hc with h | h | h <;> rw [h] <;> decide
theorem sign_noB : ∀ i : _root_.Fin 39, ∀ c ∈ signL.getD i.1 [], isB c.toNat = false := by decide +kernel
theorem sgF_app (p e : List UInt8) (c : UInt8) (hc : isB c.toNat = true) : ∀ n, n ≤ 39 → sgF (p ++ c :: e) n = sgF p n
  | 0, _ => rfl
  | n + 1, hn => by
    have ih := sgF_app p e c hc n (by omega)
    have hm : c ∉ signL.getD n [] := fun h => by
      have := sign_noB ⟨n, by omega⟩ c h
      rw [hc] at this
      cases this
    show (match sgF (p ++ c :: e) n with | some i => some i | none => if Lib.hasPrefix (p ++ c :: e) (signL.getD n []) then some n else none) = (match sgF p n with | some i => some i | none => if Lib.hasPrefix p (signL.getD n []) then some n else none)
    rw [ih]
    unfold Lib.hasPrefix
    rw [pre_app hm]
theorem ss_app {p : List UInt8} {e : List UInt8} {n : Nat} {l : List UInt8} {o : So} (h : Ss (qbs p) n l o) : ∀ m l', o = .ok m l' → Ss (qbs (p ++ e)) n l o := by
  have hsz : (qbs (p ++ e)).size = p.length + e.length := by rw [qbs_size, List.length_append]
  have hat : ∀ j, j < p.length → (qbs (p ++ e)).data[j]! = (qbs p).data[j]! := fun j hj => by
    have h1 := get_of_lt (qbs (p ++ e)) j (by rw [hsz]; omega)
    have h2 := get_of_lt (qbs p) j (by rw [qbs_size]; exact hj)
    rw [h1, h2]
    show (p ++ e)[j]'(by rw [List.length_append]; omega) = p[j]
    rw [List.getElem_append_left hj]
  induction h with
  | nd h => intro m l' e; cases e
  | nl h c => intro m l' e; cases e
  | @qt n l h c => intro m l' _; rw [qbs_size] at h; exact .qt (by rw [hsz]; omega) (by rw [gb_app _ _ _ h]; exact c)
  | be h c h1 => intro m l' e; cases e
  | bx h c h1 d e => intro m l' e; cases e
  | @bo n l o h c h1 d r ih =>
    intro m l' ho
    rw [qbs_size] at h h1
    have r2 := ih m l' ho
    rw [← hat _ h1] at r2
    exact .bo (by rw [hsz]; omega) (by rw [gb_app _ _ _ h]; exact c) (by rw [hsz]; omega) (by rw [gb_app _ _ _ h1]; exact d) r2
  | il h c d e f => intro m l' e; cases e
  | @go n l o h d ec f r ih =>
    intro m l' ho
    rw [qbs_size] at h
    have r2 := ih m l' ho
    rw [← hat _ h] at r2
    exact .go (by rw [hsz]; omega) (by rw [gb_app _ _ _ h]; exact d) (by rw [gb_app _ _ _ h]; exact ec) (by rw [gb_app _ _ _ h]; exact f) r2
theorem dgv_app (p e : List UInt8) : ∀ n, n ≤ p.length → dgv (qbs (p ++ e)) n = dgv (qbs p) n
  | 0, _ => rfl
  | n + 1, h => by
    show 10 * dgv (qbs (p ++ e)) n + (gb (qbs (p ++ e)) n - 48) = 10 * dgv (qbs p) n + (gb (qbs p) n - 48)
    rw [dgv_app p e n (by omega), gb_app p e n (by omega)]
theorem hop_app {p e : List UInt8} {c : UInt8} (hc : isB c.toNat = true) (hp : 0 < p.length) (h : hop (qbs p) = none) : hop (qbs (p ++ c :: e)) = none := by
  have n47 : c ∉ ([47, 47] : List UInt8) ∧ c ∉ ([47, 42] : List UInt8) := by
    constructor <;> (intro hm; simp only [List.mem_cons, List.mem_nil_iff, or_false] at hm; rcases hm with rfl | rfl <;> revert hc <;> decide)
  unfold hop at h ⊢
  rw [qbs_list] at h ⊢
  obtain ⟨a, p', rfl⟩ : ∃ a p', p = a :: p' := by cases p with
    | nil => simp at hp
    | cons a p' => exact ⟨a, p', rfl⟩
  have h0 : (a :: p' ++ c :: e).getD 0 0 = (a :: p').getD 0 0 := rfl
  have q1 : Lib.hasPrefix (a :: p' ++ c :: e) [47, 47] = Lib.hasPrefix (a :: p') [47, 47] := pre_app n47.1
  have q2 : Lib.hasPrefix (a :: p' ++ c :: e) [47, 42] = Lib.hasPrefix (a :: p') [47, 42] := pre_app n47.2
  rw [h0, q1, q2]
  by_cases b0 : isB ((a :: p').getD 0 0).toNat = true
  · rw [if_pos b0] at h; cases h
  · rw [if_neg b0] at h ⊢
    by_cases b1 : Lib.hasPrefix (a :: p') [47, 47] = true
    · rw [if_pos b1] at h; cases h
    · rw [if_neg b1] at h ⊢
      by_cases b2 : Lib.hasPrefix (a :: p') [47, 42] = true
      · rw [if_pos b2] at h
        split at h <;> cases h
      · rw [if_neg b2]
theorem rt_app {p e : List UInt8} {c : UInt8} (hc : isB c.toNat = true) (hp : 0 < p.length) {R : Res} (h : Rt (qbs p) R) : ∀ k t q n v x sg, R = .ok k t q n v x sg p.length → Rt (qbs (p ++ c :: e)) R := by
  obtain ⟨cW, cQ, cD, cL⟩ := blank_cls hc
  have g0 := gb_app p (c :: e) 0 hp
  have hsz : (qbs (p ++ c :: e)).size = p.length + (e.length + 1) := by rw [qbs_size, List.length_append]; rfl
  have hend := gb_end p c e
  have hex : ∀ a b, b ≤ p.length → (qbs (p ++ c :: e)).extract a b = (qbs p).extract a b := fun a b hb => by
    rw [qbs_extract, qbs_extract, take_app _ _ _ hb]
  have htl : ∀ a, a ≤ p.length → (qbs (p ++ c :: e)).extract a (qbs (p ++ c :: e)).size = qbs (p.drop a ++ c :: e) := fun a ha => by
    rw [qbs_tail, List.drop_append_of_le_length ha]
  cases h with
  | name hL h40 =>
    intro k t q n v x sg hR
    injection hR with _ _ _ _ _ _ _ hz
    have hs : span inW (qbs (p ++ c :: e)) = p.length := by rw [span_qbs]; exact spn_all _ c cW p e (by rw [← span_qbs]; exact hz)
    have h2 := Rt.name (r := qbs (p ++ c :: e)) (by rw [g0]; exact hL) (by rw [hs, ← hz]; exact h40)
    rw [hs, hex 0 _ (Nat.le_refl _)] at h2
    rw [hz]
    exact h2
  | qok h92 h1 he h40 =>
    intro k t q n v x sg hR
    injection hR with _ _ _ _ _ _ _ hz
    rw [qbs_tail] at h1 he h40 hz ⊢
    have hs : span inQ (qbs (p.drop 1 ++ c :: e)) = (p.drop 1).length := by
      rw [span_qbs]
      exact spn_all _ c cQ _ e (by rw [← span_qbs, List.length_drop]; omega)
    have hsp : span inQ (qbs (p.drop 1)) = (p.drop 1).length := by rw [List.length_drop]; omega
    have hl1 : 1 + (p.drop 1).length = p.length := by rw [List.length_drop]; omega
    rw [hsp] at h1 h40 ⊢
    have ht := htl 1 (by omega)
    have h2 := Rt.qok (r := qbs (p ++ c :: e)) (by rw [g0]; exact h92) (by rw [ht, hs]; exact h1) (.inr ⟨by rw [ht, hs, hsz, hl1]; omega, by rw [ht, hs, hl1, hend]; exact hc⟩) (by rw [ht, hs]; exact h40)
    rw [ht, hs, hl1, hex 1 _ (Nat.le_refl _)] at h2
    rw [hl1]
    exact h2
  | @sok h34 n l h hl =>
    intro k t q n' v x sg hR
    exact .sok (by rw [g0]; exact h34) (ss_app h _ _ rfl) hl
  | @nq hD hl h39 a b d hR2 =>
    intro k t q n v x sg hR
    injection hR with _ _ _ _ _ _ _ hz
    rw [qbs_size] at hl
    have hs : span isD (qbs (p ++ c :: e)) = span isD (qbs p) := by rw [span_qbs, span_qbs]; exact spn_stop _ p _ (by rw [← span_qbs]; exact hl)
    rw [qbs_tail] at hz
    have hsw : spn inW (p.drop (span isD (qbs p) + 1)) = (p.drop (span isD (qbs p) + 1)).length := by rw [← span_qbs, List.length_drop]; omega
    have hs2 : span inW (qbs (p.drop (span isD (qbs p) + 1) ++ c :: e)) = span inW (qbs (p.drop (span isD (qbs p) + 1))) := by
      rw [span_qbs inW (p.drop (span isD (qbs p) + 1) ++ c :: e), span_qbs inW (p.drop (span isD (qbs p) + 1)), hsw]
      exact spn_all _ c cW _ e hsw
    have ht := htl (span isD (qbs p) + 1) (by omega)
    have hq : quoT (qbs (p ++ c :: e)) (span isD (qbs p)) = quoT (qbs p) (span isD (qbs p)) := by
      unfold quoT
      rw [ht, hs2, qbs_tail]
      exact hex 0 _ (by omega)
    have h2 := Rt.nq (r := qbs (p ++ c :: e)) (by rw [g0]; exact hD) (by rw [hs, hsz]; omega) (by rw [hs, gb_app _ _ _ hl]; exact h39) (a := a) (b := b) (c := d) (by rw [hs, hq]; exact hR2)
    have hg1 : decide (gb (qbs (p ++ c :: e)) (span isD (qbs p) + 1) = 115) = decide (gb (qbs p) (span isD (qbs p) + 1) = 115) := by
      by_cases hl1 : span isD (qbs p) + 1 < p.length
      · rw [gb_app _ _ _ hl1]
      · have hl2 : span isD (qbs p) + 1 = p.length := by omega
        rw [hl2, hend]
        have hgz : gb (qbs p) p.length = 0 := by
          unfold gb
          have : ¬ p.length < (qbs p).data.size := by show ¬ p.length < (qbs p).size; rw [qbs_size]; omega
          rw [Array.getElem!_eq_getD, Array.getD, dif_neg this]
          rfl
        rw [hgz]
        rcases blank_of hc with h | h | h <;> rw [h] <;> decide
    rw [hs, ht, hs2, hg1] at h2
    rw [qbs_tail]
    exact h2
  | nok hD hn hb hv =>
    intro k t q n v x sg hR
    injection hR with _ _ _ _ _ _ _ hz
    have hs : span isD (qbs (p ++ c :: e)) = p.length := by rw [span_qbs]; exact spn_all _ c cD p e (by rw [← span_qbs]; exact hz)
    rw [hz] at hn hb hv ⊢
    have h2 := Rt.nok (r := qbs (p ++ c :: e)) (by rw [g0]; exact hD) (by
      rw [hs, hend]
      rintro ⟨_, h⟩
      rcases blank_of hc with h' | h' | h' <;> omega) (by
      rw [hs, hend, g0, cL]
      rintro (⟨_, h⟩ | h)
      · cases h
      · exact hb (.inr h)) (by rw [hs, dgv_app _ _ _ (Nat.le_refl _)]; exact hv)
    rw [hs, dgv_app _ _ _ (Nat.le_refl _)] at h2
    exact h2
  | @sign hL hD n34 n92 i hi =>
    intro k t q n v x sg hR
    exact .sign (by rw [g0]; exact hL) (by rw [g0]; exact hD) (by rw [g0]; exact n34) (by rw [g0]; exact n92) (by
      rw [qbs_list] at hi ⊢
      unfold sgn at hi ⊢
      rw [sgF_app p e c hc 39 (Nat.le_refl _)]
      exact hi)
  | long => intro k t q n v x sg hR; cases hR
  | qbad => intro k t q n v x sg hR; cases hR
  | qlong => intro k t q n v x sg hR; cases hR
  | slong => intro k t q n v x sg hR; cases hR
  | sbad => intro k t q n v x sg hR; cases hR
  | nqbad => intro k t q n v x sg hR; cases hR
  | nbad => intro k t q n v x sg hR; cases hR
  | nbig => intro k t q n v x sg hR; cases hR
  | none => intro k t q n v x sg hR; cases hR
end Go.Proofs.YtogmipbdnffegaaGreatDoor
namespace Go.Proofs.YtogmipbdnffegaaGreatDoor
open Go Go.RowKit
set_option linter.unusedVariables false
/-- a token without its place -/
structure Td where
  k : Int
  t : ByteArray
  q : Bool
  n : Int
  v : Int
  x : Int
  s : Bool
def Td.res (d : Td) (z : Nat) : Res := .ok d.k d.t d.q d.n d.v d.x d.s z
def Td.at (d : Td) (s : ByteArray) (p : Nat) : Tk := tkAt s p d.k d.t d.q d.n d.v d.x d.s
/-- a text that is one token -/
structure Gd (p : List UInt8) (d : Td) : Prop where
  lo : 1 ≤ p.length
  hi : p.length ≤ 20
  hn : hop (qbs p) = none
  hR : Rt (qbs p) (d.res p.length)
def isGood (p : List UInt8) : Prop := ∃ d, Gd p d
def nameOk (p : List UInt8) : Bool := decide (1 ≤ p.length) && (decide (p.length ≤ 20) && (decide (hop (qbs p) = none) && (isL (gb (qbs p) 0) && (spn inW p == p.length))))
theorem good_name (p : List UInt8) (h : nameOk p = true) : isGood p := by
  simp only [nameOk, Bool.and_eq_true, decide_eq_true_eq, beq_iff_eq] at h
  obtain ⟨h1, h2, h3, h4, h5⟩ := h
  have hs : span inW (qbs p) = p.length := by rw [span_qbs]; exact h5
  have h := Rt.name (r := qbs p) h4 (by rw [hs]; omega)
  rw [hs] at h
  exact ⟨⟨_, _, _, _, _, _, _⟩, h1, h2, h3, h⟩
theorem word_all : ∀ i : _root_.Fin 54, nameOk (wordL.getD i.1 []) = true := by decide +kernel
theorem good_word (i : Nat) (h : i < 54) : isGood (wordB i).data.toList := by
  have := good_name _ (word_all ⟨i, h⟩)
  rw [← wordB_list, ByteArray.toList_eq] at this
  exact this
def signOk (i : Nat) : Bool := decide (1 ≤ (signL.getD i []).length) && (decide ((signL.getD i []).length ≤ 20) && (decide (hop (qbs (signL.getD i [])) = none) && (!isL (gb (qbs (signL.getD i [])) 0) && (!isD (gb (qbs (signL.getD i [])) 0) && (decide (gb (qbs (signL.getD i [])) 0 ≠ 34) && (decide (gb (qbs (signL.getD i [])) 0 ≠ 92) && decide (sgn (signL.getD i []) = some i)))))))
theorem sign_all : ∀ i : _root_.Fin 39, signOk i.1 = true := by decide +kernel
theorem good_sign (i : Nat) (h : i < 39) : isGood (signB i).data.toList := by
  have h := sign_all ⟨i, h⟩
  simp only [signOk, Bool.and_eq_true, decide_eq_true_eq, Bool.not_eq_true'] at h
  obtain ⟨h1, h2, h3, h4, h5, h6, h7, h8⟩ := h
  rw [signB_list]
  have hsz : (signB i).size = (signL.getD i []).length := by rw [← len_list, signB_list]
  have h := Rt.sign (r := qbs (signL.getD i [])) h4 h5 h6 h7 (i := i) (by rw [qbs_list]; exact h8)
  rw [hsz] at h
  exact ⟨⟨_, _, _, _, _, _, _⟩, h1, h2, h3, h⟩
/-- names that the makers write -/
def namB (i : Nat) : ByteArray := [⟨#[97]⟩, ⟨#[98, 49]⟩, ⟨#[95]⟩, ⟨#[119, 104, 105, 108]⟩, ⟨#[77, 111, 100, 117, 108, 101]⟩].getD i ⟨#[]⟩
theorem nam_all : ∀ i : _root_.Fin 5, nameOk (namB i.1).data.toList = true := by decide +kernel
theorem good_nam (i : Nat) (h : i < 5) : isGood (namB i).data.toList := good_name _ (nam_all ⟨i, h⟩)
/-- quoted names -/
def quoOk (p : List UInt8) : Bool := decide (1 ≤ p.length) && (decide (p.length ≤ 20) && (decide (hop (qbs p) = none) && (decide (gb (qbs p) 0 = 92) && (decide (1 ≤ spn inQ (p.drop 1)) && (spn inQ (p.drop 1) == p.length - 1)))))
theorem good_quo (p : List UInt8) (h : quoOk p = true) : isGood p := by
  simp only [quoOk, Bool.and_eq_true, decide_eq_true_eq, beq_iff_eq] at h
  obtain ⟨h1, h2, h3, h4, h5, h6⟩ := h
  have hs : span inQ ((qbs p).extract 1 (qbs p).size) = p.length - 1 := by rw [qbs_tail, span_qbs]; exact h6
  have hl : 1 + (p.length - 1) = p.length := by omega
  have h := Rt.qok (r := qbs p) h4 (by rw [hs]; omega) (.inl (by rw [hs, qbs_size]; exact hl)) (by rw [hs]; omega)
  rw [hs, hl] at h
  exact ⟨⟨_, _, _, _, _, _, _⟩, h1, h2, h3, h⟩
def qnB (i : Nat) : ByteArray := [⟨#[43]⟩, ⟨#[47, 42]⟩, ⟨#[49, 39, 98, 48]⟩, ⟨#[47, 47]⟩].getD i ⟨#[]⟩
theorem qn_all : ∀ i : _root_.Fin 4, quoOk (⟨#[92, 113]⟩ ++ qnB i.1 : ByteArray).data.toList = true := by decide +kernel
theorem good_qn (i : Nat) (h : i < 4) : isGood (⟨#[92, 113]⟩ ++ qnB i : ByteArray).data.toList := good_quo _ (qn_all ⟨i, h⟩)
/-- texts in quotes -/
def strB (i : Nat) : ByteArray := [⟨#[]⟩, ⟨#[97, 32, 98]⟩, ⟨#[120, 34, 121]⟩, ⟨#[92]⟩].getD i ⟨#[]⟩
theorem good_str_of (p : List UInt8) {n : Nat} {l : List UInt8} (h1 : 1 ≤ p.length) (h2 : p.length ≤ 20) (h3 : hop (qbs p) = none) (h4 : gb (qbs p) 0 = 34) (h : Ss (qbs p) 1 [] (.ok n l)) (hl : l.length ≤ 200) (hn : n + 1 = p.length) : isGood p := by
  have h := Rt.sok (r := qbs p) h4 h hl
  rw [hn] at h
  exact ⟨⟨_, _, _, _, _, _, _⟩, h1, h2, h3, h⟩
theorem good_str0 : isGood (quoL []) := good_str_of _ (by decide) (by decide) (by decide +kernel) (by decide +kernel) (.qt (by decide +kernel) (by decide +kernel)) (by decide) (by decide)
theorem good_str1 : isGood (quoL [97, 32, 98]) := good_str_of _ (by decide) (by decide) (by decide +kernel) (by decide +kernel) (.go (by decide +kernel) (by decide +kernel) (by decide +kernel) (by decide +kernel) (.go (by decide +kernel) (by decide +kernel) (by decide +kernel) (by decide +kernel) (.go (by decide +kernel) (by decide +kernel) (by decide +kernel) (by decide +kernel) (.qt (by decide +kernel) (by decide +kernel))))) (by decide +kernel) (by decide)
theorem good_str2 : isGood (quoL [120, 34, 121]) := good_str_of _ (by decide) (by decide) (by decide +kernel) (by decide +kernel) (.go (by decide +kernel) (by decide +kernel) (by decide +kernel) (by decide +kernel) (.bo (by decide +kernel) (by decide +kernel) (by decide +kernel) (by decide +kernel) (.go (by decide +kernel) (by decide +kernel) (by decide +kernel) (by decide +kernel) (.qt (by decide +kernel) (by decide +kernel))))) (by decide +kernel) (by decide)
theorem good_str3 : isGood (quoL [92]) := good_str_of _ (by decide) (by decide) (by decide +kernel) (by decide +kernel) (.bo (by decide +kernel) (by decide +kernel) (by decide +kernel) (by decide +kernel) (.qt (by decide +kernel) (by decide +kernel))) (by decide +kernel) (by decide)
theorem good_str (i : Nat) (h : i < 4) : isGood (qbs (quoL (strB i).data.toList)).data.toList := by
  rw [qbs_list]
  match i, h with
  | 0, _ => exact good_str0
  | 1, _ => exact good_str1
  | 2, _ => exact good_str2
  | 3, _ => exact good_str3
/-- numbers -/
def numB (i : Nat) : ByteArray := [⟨#[48]⟩, ⟨#[55]⟩, ⟨#[49, 50, 51, 52, 53]⟩, ⟨#[56, 39, 104, 102, 102]⟩, ⟨#[52, 39, 98, 49, 48, 120, 122]⟩, ⟨#[51, 39, 115, 100, 50]⟩, ⟨#[54, 52, 39, 111, 49, 55]⟩].getD i ⟨#[]⟩
theorem good_dec (p : List UInt8) (h1 : 1 ≤ p.length) (h2 : p.length ≤ 20) (h3 : hop (qbs p) = none) (h4 : isD (gb (qbs p) 0) = true) (h5 : spn isD p = p.length) (h6 : ¬ (2 ≤ p.length ∧ gb (qbs p) 0 = 48)) (h7 : dgv (qbs p) p.length ≤ 2147483647) : isGood p := by
  have hs : span isD (qbs p) = p.length := by rw [span_qbs]; exact h5
  have h := Rt.nok (r := qbs p) h4 (by rw [hs, qbs_size]; omega) (by rw [hs, qbs_size]; rintro (⟨h, _⟩ | h); omega; exact h6 h) (by rw [hs]; exact h7)
  rw [hs] at h
  exact ⟨⟨_, _, _, _, _, _, _⟩, h1, h2, h3, h⟩
theorem good_nq (p : List UInt8) {W : Nat} {v : Vx} (h1 : 1 ≤ p.length) (h2 : p.length ≤ 20) (h3 : hop (qbs p) = none) (h4 : isD (gb (qbs p) 0) = true) (h5 : span isD (qbs p) < (qbs p).size) (h6 : gb (qbs p) (span isD (qbs p)) = 39) (hz : span isD (qbs p) + 1 + span inW ((qbs p).extract (span isD (qbs p) + 1) (qbs p).size) = p.length) (hR : Rdg (quoT (qbs p) (span isD (qbs p))) (good W v)) : isGood p := by
  have h := Rt.nq (r := qbs p) h4 h5 h6 hR
  rw [hz] at h
  exact ⟨⟨_, _, _, _, _, _, _⟩, h1, h2, h3, h⟩
theorem ncut3 : Cutt ⟨#[56, 39, 104, 102, 102]⟩ ⟨#[56]⟩ ⟨#[104, 102, 102]⟩ ⟨#[104, 102, 102]⟩ :=
  ⟨by decide, by decide, by kernel_rfl, fun i h hi => by
    have hi' : i < 1 := hi
    have : i = 0 := by omega
    subst this
    exact (show 48 ≤ 56 ∧ 56 ≤ 57 by omega), fun _ => (show (56 : Nat) ≠ 48 by decide), fun _ => by kernel_rfl, by kernel_rfl, .inr ⟨fun _ => (show (104 : Nat) ≠ 115 by decide), rfl⟩⟩
theorem good_num3 : isGood [56, 39, 104, 102, 102] := good_nq _ (by decide) (by decide) (by decide +kernel) (by decide +kernel) (by decide +kernel) (by decide +kernel) (by decide +kernel) (by
  have hq : quoT (qbs [56, 39, 104, 102, 102]) (span isD (qbs [56, 39, 104, 102, 102])) = ⟨#[56, 39, 104, 102, 102]⟩ := by kernel_rfl
  rw [hq]
  exact Rdg.digOk ncut3 (by decide) (by decide) (by decide) (by kernel_rfl) (by decide) (fun k hk => match k, (show k < 2 from hk) with
    | 0, _ => by kernel_rfl
    | 1, _ => by kernel_rfl))
theorem ncut4 : Cutt ⟨#[52, 39, 98, 49, 48, 120, 122]⟩ ⟨#[52]⟩ ⟨#[98, 49, 48, 120, 122]⟩ ⟨#[98, 49, 48, 120, 122]⟩ :=
  ⟨by decide, by decide, by kernel_rfl, fun i h hi => by
    have hi' : i < 1 := hi
    have : i = 0 := by omega
    subst this
    exact (show 48 ≤ 52 ∧ 52 ≤ 57 by omega), fun _ => (show (52 : Nat) ≠ 48 by decide), fun _ => by kernel_rfl, by kernel_rfl, .inr ⟨fun _ => (show (98 : Nat) ≠ 115 by decide), rfl⟩⟩
theorem good_num4 : isGood [52, 39, 98, 49, 48, 120, 122] := good_nq _ (by decide) (by decide) (by decide +kernel) (by decide +kernel) (by decide +kernel) (by decide +kernel) (by decide +kernel) (by
  have hq : quoT (qbs [52, 39, 98, 49, 48, 120, 122]) (span isD (qbs [52, 39, 98, 49, 48, 120, 122])) = ⟨#[52, 39, 98, 49, 48, 120, 122]⟩ := by kernel_rfl
  rw [hq]
  exact Rdg.digOk ncut4 (by decide) (by decide) (by decide) (by kernel_rfl) (by decide) (fun k hk => match k, (show k < 4 from hk) with
    | 0, _ => by kernel_rfl
    | 1, _ => by kernel_rfl
    | 2, _ => by kernel_rfl
    | 3, _ => by kernel_rfl))
theorem ncut5 : Cutt ⟨#[51, 39, 115, 100, 50]⟩ ⟨#[51]⟩ ⟨#[115, 100, 50]⟩ ⟨#[100, 50]⟩ :=
  ⟨by decide, by decide, by kernel_rfl, fun i h hi => by
    have hi' : i < 1 := hi
    have : i = 0 := by omega
    subst this
    exact (show 48 ≤ 51 ∧ 51 ≤ 57 by omega), fun _ => (show (51 : Nat) ≠ 48 by decide), fun _ => by kernel_rfl, by kernel_rfl, .inl ⟨by decide, by kernel_rfl, by kernel_rfl⟩⟩
theorem good_num5 : isGood [51, 39, 115, 100, 50] := good_nq _ (by decide) (by decide) (by decide +kernel) (by decide +kernel) (by decide +kernel) (by decide +kernel) (by decide +kernel) (by
  have hq : quoT (qbs [51, 39, 115, 100, 50]) (span isD (qbs [51, 39, 115, 100, 50])) = ⟨#[51, 39, 115, 100, 50]⟩ := by kernel_rfl
  rw [hq]
  exact Rdg.decOk ncut5 (by decide) (by decide) (by decide) (by decide) (by kernel_rfl) (by decide) (of_decide_eq_true (by kernel_rfl)))
theorem ncut6 : Cutt ⟨#[54, 52, 39, 111, 49, 55]⟩ ⟨#[54, 52]⟩ ⟨#[111, 49, 55]⟩ ⟨#[111, 49, 55]⟩ :=
  ⟨by decide, by decide, by kernel_rfl, fun i h hi => by
    have hi' : i < 2 := hi
    match i, hi' with
    | 0, _ => exact (show 48 ≤ 54 ∧ 54 ≤ 57 by omega)
    | 1, _ => exact (show 48 ≤ 52 ∧ 52 ≤ 57 by omega), fun _ => (show (54 : Nat) ≠ 48 by decide), fun _ => by kernel_rfl, by kernel_rfl, .inr ⟨fun _ => (show (111 : Nat) ≠ 115 by decide), rfl⟩⟩
theorem good_num6 : isGood [54, 52, 39, 111, 49, 55] := good_nq _ (by decide) (by decide) (by decide +kernel) (by decide +kernel) (by decide +kernel) (by decide +kernel) (by decide +kernel) (by
  have hq : quoT (qbs [54, 52, 39, 111, 49, 55]) (span isD (qbs [54, 52, 39, 111, 49, 55])) = ⟨#[54, 52, 39, 111, 49, 55]⟩ := by kernel_rfl
  rw [hq]
  exact Rdg.digOk ncut6 (by decide) (by decide) (by decide) (by kernel_rfl) (by decide) (fun k hk => match k, (show k < 2 from hk) with
    | 0, _ => by kernel_rfl
    | 1, _ => by kernel_rfl))
theorem good_num0 : isGood [48] := good_dec _ (by decide) (by decide) (by decide +kernel) (by decide +kernel) (by decide +kernel) (by decide +kernel) (by decide +kernel)
theorem good_num1 : isGood [55] := good_dec _ (by decide) (by decide) (by decide +kernel) (by decide +kernel) (by decide +kernel) (by decide +kernel) (by decide +kernel)
theorem good_num2 : isGood [49, 50, 51, 52, 53] := good_dec _ (by decide) (by decide) (by decide +kernel) (by decide +kernel) (by decide +kernel) (by decide +kernel) (by decide +kernel)
theorem good_num (i : Nat) (h : i < 7) : isGood (numB i).data.toList := by
  match i, h with
  | 0, _ => exact good_num0
  | 1, _ => exact good_num1
  | 2, _ => exact good_num2
  | 3, _ => exact good_num3
  | 4, _ => exact good_num4
  | 5, _ => exact good_num5
  | 6, _ => exact good_num6
end Go.Proofs.YtogmipbdnffegaaGreatDoor
namespace Go.Proofs.YtogmipbdnffegaaGreatDoor
open Go Go.RowKit
set_option linter.unusedVariables false
theorem rst_qbs (pre l : List UInt8) : rst (qbs (pre ++ l)) pre.length = qbs l := by
  unfold rst
  rw [qbs_tail, List.drop_left]
theorem len_qbs (pre l : List UInt8) : (qbs (pre ++ l)).size = pre.length + l.length := by rw [qbs_size, List.length_append]
/-- one step over what is no token -/
theorem lx_hop {pre x l : List UInt8} {acc : List Tk} {F : Fin} (hx : 0 < x.length) (h : hop (qbs (x ++ l)) = some (some x.length)) (r : Lx (qbs (pre ++ (x ++ l))) (pre ++ x).length acc F) : Lx (qbs (pre ++ (x ++ l))) pre.length acc F := by
  rw [List.length_append] at r
  exact .hop (by rw [len_qbs, List.length_append]; omega) (by rw [rst_qbs]; exact h) r
/-- what may stand between two tokens -/
structure Sep (x : List UInt8) : Prop where
  hd : ∃ c e, x = c :: e ∧ isB c.toNat = true
  sk : ∀ (pre l : List UInt8) (acc : List Tk) (F : Fin), Lx (qbs (pre ++ (x ++ l))) (pre ++ x).length acc F → Lx (qbs (pre ++ (x ++ l))) pre.length acc F
theorem hop_blank (c : UInt8) (hc : isB c.toNat = true) (l : List UInt8) : hop (qbs (c :: l)) = some (some 1) := by
  unfold hop
  rw [qbs_list, if_pos (by exact hc)]
theorem sep_one (c : UInt8) (hc : isB c.toNat = true) : Sep [c] := ⟨⟨c, [], rfl, hc⟩, fun pre l acc F r => lx_hop (x := [c]) Nat.one_pos (hop_blank c hc l) r⟩
/-- one piece after the other -/
theorem sep_join {x y : List UInt8} (hx : Sep x) (hy : ∀ (pre l : List UInt8) (acc : List Tk) (F : Fin), Lx (qbs (pre ++ (y ++ l))) (pre ++ y).length acc F → Lx (qbs (pre ++ (y ++ l))) pre.length acc F) : Sep (x ++ y) := by
  obtain ⟨c, e, he, hc⟩ := hx.hd
  refine ⟨⟨c, e ++ y, by rw [he]; rfl, hc⟩, fun pre l acc F r => ?_⟩
  have e1 : pre ++ (x ++ y ++ l) = pre ++ (x ++ (y ++ l)) := by rw [List.append_assoc x y l]
  have e2 : pre ++ (x ++ y ++ l) = (pre ++ x) ++ (y ++ l) := by rw [e1, List.append_assoc]
  have e3 : pre ++ (x ++ y) = (pre ++ x) ++ y := by rw [List.append_assoc]
  rw [e2, e3] at r
  have h2 := hy (pre ++ x) l acc F r
  rw [← e2, e1] at h2
  rw [e1]
  exact hx.sk pre (y ++ l) acc F h2
theorem hop_long {x : List UInt8} (hx : 0 < x.length) (h : ∀ l, hop (qbs (x ++ l)) = some (some x.length)) : ∀ (pre l : List UInt8) (acc : List Tk) (F : Fin), Lx (qbs (pre ++ (x ++ l))) (pre ++ x).length acc F → Lx (qbs (pre ++ (x ++ l))) pre.length acc F :=
  fun pre l acc F r => lx_hop hx (h l) r
theorem rem1 (l : List UInt8) : hop (qbs ([47, 42, 32, 120, 32, 42, 47] ++ l)) = some (some 7) := by
  unfold hop
  rw [qbs_list, qbs_tail, qbs_list]
  kernel_rfl
theorem rem2 (l : List UInt8) : hop (qbs ([47, 47, 32, 121, 10] ++ l)) = some (some 4) := by
  unfold hop
  rw [qbs_list, qbs_tail, qbs_list, span_qbs]
  kernel_rfl
theorem rem3 (l : List UInt8) : hop (qbs ([47, 42, 10, 42, 47] ++ l)) = some (some 5) := by
  unfold hop
  rw [qbs_list, qbs_tail, qbs_list]
  kernel_rfl
theorem sep32 : Sep [32] := sep_one 32 rfl
theorem sep10 : Sep [10] := sep_one 10 rfl
theorem sep9 : Sep [9] := sep_one 9 rfl
theorem sep1010 : Sep [10, 10] := sep_join (x := [10]) (y := [10]) sep10 sep10.sk
theorem sep3232 : Sep [32, 32] := sep_join (x := [32]) (y := [32]) sep32 sep32.sk
theorem sepR1 : Sep [32, 47, 42, 32, 120, 32, 42, 47, 32] :=
  sep_join (x := [32, 47, 42, 32, 120, 32, 42, 47]) (y := [32]) (sep_join (x := [32]) (y := [47, 42, 32, 120, 32, 42, 47]) sep32 (hop_long (by decide) rem1)) sep32.sk
theorem sepR3 : Sep [32, 47, 42, 10, 42, 47, 32] :=
  sep_join (x := [32, 47, 42, 10, 42, 47]) (y := [32]) (sep_join (x := [32]) (y := [47, 42, 10, 42, 47]) sep32 (hop_long (by decide) rem3)) sep32.sk
theorem sepR2 : Sep [32, 47, 47, 32, 121, 10] := by
  refine ⟨⟨32, _, rfl, rfl⟩, fun pre l acc F r => ?_⟩
  have h1 : Lx (qbs ((pre ++ [32] ++ [47, 47, 32, 121]) ++ ([10] ++ l))) (pre ++ [32] ++ [47, 47, 32, 121]).length acc F := sep10.sk (pre ++ [32] ++ [47, 47, 32, 121]) l acc F (by
    have e : pre ++ [32] ++ [47, 47, 32, 121] ++ ([10] ++ l) = pre ++ ([32, 47, 47, 32, 121, 10] ++ l) := by simp
    have e2 : pre ++ [32] ++ [47, 47, 32, 121] ++ [10] = pre ++ [32, 47, 47, 32, 121, 10] := by simp
    rw [e, e2]
    exact r)
  have e3 : pre ++ [32] ++ [47, 47, 32, 121] ++ ([10] ++ l) = (pre ++ [32]) ++ ([47, 47, 32, 121] ++ ([10] ++ l)) := by simp
  rw [e3] at h1
  have h2 := lx_hop (pre := pre ++ [32]) (x := [47, 47, 32, 121]) (l := [10] ++ l) (by decide) (rem2 l) h1
  have e4 : (pre ++ [32]) ++ ([47, 47, 32, 121] ++ ([10] ++ l)) = pre ++ ([32] ++ ([47, 47, 32, 121, 10] ++ l)) := by simp
  rw [e4] at h2
  have h3 := sep32.sk pre ([47, 47, 32, 121, 10] ++ l) acc F h2
  have e5 : pre ++ ([32] ++ ([47, 47, 32, 121, 10] ++ l)) = pre ++ ([32, 47, 47, 32, 121, 10] ++ l) := by simp
  rw [e5] at h3
  exact h3
/-- a text: each token with what stands behind it -/
abbrev Pc := List UInt8 × Td × List UInt8
def ptx (L : List Pc) : List UInt8 := L.flatMap fun x => x.1 ++ x.2.2
def toks (s : ByteArray) : Nat → List Pc → List Tk
  | _, [] => []
  | p, x :: L => x.2.1.at s p :: toks s (p + x.1.length + x.2.2.length) L
theorem toks_len (s : ByteArray) : ∀ (L : List Pc) (p : Nat), (toks s p L).length = L.length
  | [], _ => rfl
  | x :: L, p => by show (toks s _ L).length + 1 = L.length + 1; rw [toks_len s L]
theorem lx_go : ∀ (L : List Pc) (pre : List UInt8) (acc : List Tk), (∀ x ∈ L, Gd x.1 x.2.1 ∧ Sep x.2.2) →
    Lx (qbs (pre ++ ptx L)) pre.length acc (.done (acc ++ toks (qbs (pre ++ ptx L)) pre.length L ++ [tkAt (qbs (pre ++ ptx L)) (qbs (pre ++ ptx L)).size 0 ⟨#[]⟩ false 0 0 0 false]))
  | [], pre, acc, _ => by
    have e : pre ++ ptx [] = pre := by simp [ptx]
    rw [e]
    have h := Lx.fin (s := qbs pre) (acc := acc)
    rw [qbs_size] at h ⊢
    simpa [toks] using h
  | x :: L, pre, acc, h => by
    obtain ⟨p, d, sp⟩ := x
    obtain ⟨hG, hS⟩ : Gd p d ∧ Sep sp := h (p, d, sp) List.mem_cons_self
    obtain ⟨c, e, hse, hc⟩ := hS.hd
    have et : ptx ((p, d, sp) :: L) = p ++ (sp ++ ptx L) := by simp [ptx]
    rw [et]
    have ih := lx_go L (pre ++ p ++ sp) (acc ++ [d.at (qbs (pre ++ (p ++ (sp ++ ptx L)))) pre.length]) (fun y hy => h y (List.mem_cons_of_mem _ hy))
    have e1 : pre ++ p ++ sp ++ ptx L = pre ++ (p ++ (sp ++ ptx L)) := by simp
    have e2 : (pre ++ p ++ sp).length = pre.length + p.length + sp.length := by rw [List.length_append, List.length_append]
    rw [e1, e2] at ih
    have ef : acc ++ [d.at (qbs (pre ++ (p ++ (sp ++ ptx L)))) pre.length] ++ toks (qbs (pre ++ (p ++ (sp ++ ptx L)))) (pre.length + p.length + sp.length) L = acc ++ toks (qbs (pre ++ (p ++ (sp ++ ptx L)))) pre.length ((p, d, sp) :: L) := by
      rw [List.append_assoc]
      rfl
    rw [ef] at ih
    have e3 : pre ++ (p ++ (sp ++ ptx L)) = (pre ++ p) ++ (sp ++ ptx L) := by simp
    have h1 := hS.sk (pre ++ p) (ptx L) (acc ++ [d.at (qbs (pre ++ (p ++ (sp ++ ptx L)))) pre.length]) (.done (acc ++ toks (qbs (pre ++ (p ++ (sp ++ ptx L)))) pre.length ((p, d, sp) :: L) ++ [tkAt (qbs (pre ++ (p ++ (sp ++ ptx L)))) (qbs (pre ++ (p ++ (sp ++ ptx L)))).size 0 ⟨#[]⟩ false 0 0 0 false])) (by
      rw [← e3, e2]
      exact ih)
    rw [← e3, List.length_append] at h1
    have hr : rst (qbs (pre ++ (p ++ (sp ++ ptx L)))) pre.length = qbs (p ++ c :: (e ++ ptx L)) := by rw [rst_qbs, hse]; rfl
    exact .tok (by rw [len_qbs, List.length_append]; have := hG.lo; omega) (by rw [hr]; exact hop_app hc hG.lo hG.hn) (by rw [hr]; exact rt_app hc hG.lo hG.hR _ _ _ _ _ _ _ rfl) h1
/-- a token alone -/
theorem lx_alone (p : List UInt8) (d : Td) (h : Gd p d) : Lx (qbs p) 0 [] (.done [d.at (qbs p) 0, tkAt (qbs p) (qbs p).size 0 ⟨#[]⟩ false 0 0 0 false]) := by
  have hr : rst (qbs p) 0 = qbs p := by have := rst_qbs [] p; simpa using this
  have hf := Lx.fin (s := qbs p) (acc := [d.at (qbs p) 0])
  have hs : (qbs p).size = 0 + p.length := by rw [qbs_size]; omega
  have hf2 : Lx (qbs p) (0 + p.length) [d.at (qbs p) 0] (.done ([d.at (qbs p) 0] ++ [tkAt (qbs p) (qbs p).size 0 ⟨#[]⟩ false 0 0 0 false])) := by rw [← hs]; exact hf
  exact .tok (by rw [qbs_size]; exact h.lo) (by rw [hr]; exact h.hn) (by rw [hr]; exact h.hR) hf2
/-- the comment of the example -/
def chT : ByteArray := ⟨#[97, 47, 42, 32, 42, 47, 98, 32, 47, 47, 32, 99, 10, 100]⟩
def chL : List Tk := [⟨1, 1, 1, ⟨#[97]⟩, false, 0, 0, 0, false⟩, ⟨1, 1, 7, ⟨#[98]⟩, false, 0, 0, 0, false⟩, ⟨1, 2, 1, ⟨#[100]⟩, false, 0, 0, 0, false⟩, ⟨0, 2, 2, ⟨#[]⟩, false, 0, 0, 0, false⟩]
theorem ch_name (p : Nat) (b : UInt8) (h1 : isL (gb (rst chT p) 0) = true) (h2 : span inW (rst chT p) = 1) (e : Res.ok (if isKey ((rst chT p).extract 0 1).data.toList then 2 else 1) ((rst chT p).extract 0 1) false 0 0 0 false 1 = Res.ok 1 ⟨#[b]⟩ false 0 0 0 false 1) : Rt (rst chT p) (.ok 1 ⟨#[b]⟩ false 0 0 0 false 1) := by
  have h := Rt.name (r := rst chT p) h1 (by rw [h2]; decide)
  rw [h2, e] at h
  exact h
theorem lx_ch : Lx chT 0 [] (.done chL) := by
  have h : Lx chT 14 [tkAt chT 0 1 ⟨#[97]⟩ false 0 0 0 false, tkAt chT 6 1 ⟨#[98]⟩ false 0 0 0 false, tkAt chT 13 1 ⟨#[100]⟩ false 0 0 0 false] (.done chL) := by
    have h := Lx.fin (s := chT) (acc := [tkAt chT 0 1 ⟨#[97]⟩ false 0 0 0 false, tkAt chT 6 1 ⟨#[98]⟩ false 0 0 0 false, tkAt chT 13 1 ⟨#[100]⟩ false 0 0 0 false])
    have e : [tkAt chT 0 1 ⟨#[97]⟩ false 0 0 0 false, tkAt chT 6 1 ⟨#[98]⟩ false 0 0 0 false, tkAt chT 13 1 ⟨#[100]⟩ false 0 0 0 false] ++ [tkAt chT chT.size 0 ⟨#[]⟩ false 0 0 0 false] = chL := by kernel_rfl
    rw [e] at h
    exact h
  exact .tok (by decide) (by kernel_rfl) (ch_name 0 97 (by kernel_rfl) (by kernel_rfl) (by kernel_rfl)) (.hop (n := 5) (by decide) (by kernel_rfl) (.tok (by decide) (by kernel_rfl) (ch_name 6 98 (by kernel_rfl) (by kernel_rfl) (by kernel_rfl)) (.hop (n := 1) (by decide) (by kernel_rfl) (.hop (n := 4) (by decide) (by kernel_rfl) (.hop (n := 1) (by decide) (by kernel_rfl) (.tok (by decide) (by kernel_rfl) (ch_name 13 100 (by kernel_rfl) (by kernel_rfl) (by kernel_rfl)) h))))))
end Go.Proofs.YtogmipbdnffegaaGreatDoor
