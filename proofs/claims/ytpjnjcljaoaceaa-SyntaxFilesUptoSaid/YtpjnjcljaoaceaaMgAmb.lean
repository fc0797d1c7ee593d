/- The program's narrow: places that must be targets.
   The program's isAmbiguous. -/
import Derived.Test.YtpjnjcljaoaceaaSyPrt
import Derived.Deep.AppendLies
import Derived.Laws.OwnMore
namespace Go.Proofs.Ytpjnjcljaoaceaa
open Go Go.RowKit
set_option linter.unusedVariables false
def narL (k : Int) (c : UInt8) (l : List UInt8) : List UInt8 := if selK k = true then l.set 0 116 else if k = 114 ∧ c = 116 then List.replicate l.length 116 else l
theorem OB.cut {B : Nat} {w : World} {v : Value} {l : List UInt8} (h : OB B w v l) (hn : 0 < l.length) : ∃ g cap, v = .slice (some ⟨g, 0, none⟩) l.length cap ∧ B ≤ g ∧ g < w.heap.size := by
  rcases h.2 with ⟨_, h0⟩ | ⟨g, cap, cur, hv, hb, hg, _⟩
  · omega
  · refine ⟨g, cap, hv, hb, ?_⟩
    exact (h.lt g (by rw [hv]; rfl)).2
theorem bytes_set (l : List UInt8) (j : Nat) : (Lib.byteCells l).set j (.int .u8 116) = Lib.byteCells (l.set j 116) := by
  unfold Lib.byteCells
  rw [List.map_set]
  rfl
theorem OB.put {B g cap : Nat} {w : World} {l : List UInt8} (h : OB B w (.slice (some ⟨g, 0, none⟩) l.length cap) l) (j : Nat) : OB B (w.setCell ⟨g, j, none⟩ (.int .u8 116)) (.slice (some ⟨g, 0, none⟩) l.length cap) (l.set j 116) := by
  have h' := (World.ownsRow.stored (show w.ownsRow B 5 1 _ l.length (Lib.byteCells l) from h) j (.int .u8 116)).1
  unfold OB
  rw [bytes_set] at h'
  rw [List.length_set]
  exact h'
theorem OB.at {B g cap : Nat} {w : World} {l : List UInt8} (h : OB B w (.slice (some ⟨g, 0, none⟩) l.length cap) l) (j : Nat) (hj : j < l.length) : w.cell? ⟨g, j, none⟩ = some (.int .u8 (l[j].toNat : Int)) := by
  have h' := World.ownsRow.cellAt (show w.ownsRow B 5 1 _ l.length (Lib.byteCells l) from h) j (by omega)
  rw [h']
  unfold Lib.byteCells
  simp [hj]
theorem OB.free {B g cap : Nat} {w : World} {l : List UInt8} (h : OB B w (.slice (some ⟨g, 0, none⟩) l.length cap) l) (j : Nat) : w.frozen? ⟨g, j, none⟩ = false :=
  World.ownsRow.frozenAt (show w.ownsRow B 5 1 _ l.length (Lib.byteCells l) from h) j
set_option maxRecDepth 100000 in
set_option maxHeartbeats 2000000 in
theorem narrow_any (T : Nd) (c : UInt8) (B : Nat) (v : Value) (l : List UInt8) (hl : l.length ≤ 1000000) (w : World) (hB : B ≤ w.heap.size) (hO : OB B w v l) (hsel : selK T.kind = true → 0 < l.length) : Calls Try.prog 26 #[T.val, .int .u8 (c.toNat : Int), v] w fun e w' => e = .returned (.tuple #[]) ∧ OB B w' v (narL T.kind c l) ∧ Below B w w' := by
  obtain ⟨k, l', c', nm, tx, n, V, x, s, a, cap, ks⟩ := T
  have hs := fun W => selects_any (Nd.mk k l' c' nm tx n V x s a cap ks) W
  simp only [Nd.val, Nd.kind] at *
  have HO := Lib.hid hO
  cases hk : selK k
  · rw [hk] at hs hsel
    have HS := Lib.hid hs
    clear hs hO hsel
    by_cases h1 : k = 114 ∧ c = 116
    · have HL : Hid (narL k c l = List.replicate l.length 116) := Lib.hid (by unfold narL; rw [if_neg (by rw [hk]; decide), if_pos h1])
      obtain ⟨rfl, rfl⟩ := h1
      rw [HL.out]
      clear HL hk
      rw [show ((UInt8.toNat 116 : Nat) : Int) = 116 from rfl]
      obtain ⟨av, cv, rfl⟩ := HO.out.form
      go_enter Try.func26, Try.ntmps26
      go_wp2_with (refine (HS.out _).mono ?_; rintro e w3 ⟨rfl, hb3⟩; have x0 : w3.cell? ⟨w.heap.size, 0, none⟩ = some (.int .i64 114) := by (rw [(bcell hb3).1 _ _ (by simp)]; go_simp))
      have b3 := ((Below.refl w.heap.size w).alloc (Nat.le_refl _) _).trans (hb3.mono (by simp))
      have O3 := Lib.hid (HO.out.below b3)
      have B3 := b3.mono hB
      clear hb3 b3 x0 HO HS
      go_loopw [22] (fun i wr => ∃ j : Nat, j ≤ l.length ∧ i = .int .i64 (j : Int) ∧ Hid (OB B wr (.slice av l.length cv) (List.replicate j 116 ++ l.drop j)) ∧ Below B w wr) (fun i _ => l.length - (intOf i).toNat)
      case atStart => exact ⟨0, Nat.zero_le _, rfl, O3, B3⟩
      case round =>
        rename World => WR
        obtain ⟨j, hj, rfl, OJ, BJ⟩ := hrel
        by_cases hlt : j < l.length
        · obtain ⟨L, hL⟩ : ∃ L, List.replicate j 116 ++ l.drop j = L := ⟨_, rfl⟩
          have hLl : L.length = l.length := by rw [← hL]; simp; omega
          have HS2 : Hid (L.set j 116 = List.replicate (j + 1) 116 ++ l.drop (j + 1)) := Lib.hid (by
            rw [← hL, List.set_append_right _ _ (by simp), List.length_replicate, Nat.sub_self, List.drop_eq_getElem_cons hlt, List.set_cons_zero, List.replicate_succ', List.append_assoc]
            rfl)
          have OJ2 := OJ.out
          rw [hL, ← hLl] at OJ2
          clear OJ hL
          obtain ⟨g, cg, hv, hBg, _⟩ := OJ2.cut (by omega)
          cases hv
          have c3 := OJ2.at j (by omega)
          have f3 := OJ2.free j
          have OP := OJ2.put j
          rw [HS2.out, hLl] at OP
          have HP := Lib.hid OP
          clear OP OJ2 HS2 O3
          have hji : (j : Int) < (l.length : Int) := by omega
          have hj0 : (0 : Int) ≤ (j : Int) := by omega
          generalize L[j].toNat = q at c3
          clear hLl
          go_wp2_with fail
          go_roundw
          case rel => exact ⟨j + 1, by omega, by go_num, HP, BJ.setCell hBg _⟩
          case measure => simp [intOf] <;> omega
        · obtain rfl : j = l.length := by omega
          have OE := OJ.out
          rw [List.drop_length, List.append_nil] at OE
          go_wp2_with fail
          exact bodyPost_end (v := .tuple #[]) (by simp [results, Try.results26, go_sem]) rfl ⟨rfl, OE, BJ⟩
    · have HL : Hid (narL k c l = l) := Lib.hid (by unfold narL; rw [if_neg (by rw [hk]; decide), if_neg h1])
      have hc2 : ((c.toNat : Int) == 116) = true → c = 116 := fun h => UInt8.toNat_inj.1 (by have := beq_iff_eq.1 h; simp; omega)
      rw [HL.out]
      cases e1 : (k == 114)
      · clear HL hk h1 hc2
        go_enter Try.func26, Try.ntmps26
        go_wp2_with (refine (HS.out _).mono ?_; rintro e w3 ⟨rfl, hb3⟩; have x0 : w3.cell? ⟨w.heap.size, 0, none⟩ = some (.int .i64 k) := by (rw [(bcell hb3).1 _ _ (by simp)]; go_simp))
        have b3 := ((Below.refl w.heap.size w).alloc (Nat.le_refl _) _).trans (hb3.mono (by simp))
        exact bodyPost_end (v := .tuple #[]) (by simp [results, Try.results26, go_sem]) rfl ⟨rfl, HO.out.below b3, b3.mono hB⟩
      · cases e2 : ((c.toNat : Int) == 116)
        · clear HL hk h1 hc2
          go_enter Try.func26, Try.ntmps26
          go_wp2_with (refine (HS.out _).mono ?_; rintro e w3 ⟨rfl, hb3⟩; have x0 : w3.cell? ⟨w.heap.size, 0, none⟩ = some (.int .i64 k) := by (rw [(bcell hb3).1 _ _ (by simp)]; go_simp))
          have b3 := ((Below.refl w.heap.size w).alloc (Nat.le_refl _) _).trans (hb3.mono (by simp))
          exact bodyPost_end (v := .tuple #[]) (by simp [results, Try.results26, go_sem]) rfl ⟨rfl, HO.out.below b3, b3.mono hB⟩
        · exact absurd ⟨beq_iff_eq.1 e1, hc2 e2⟩ h1
  · rw [hk] at hs hsel
    have hl0 : 0 < l.length := hsel rfl
    obtain ⟨g, cg, rfl, hBg, hgw⟩ := hO.cut hl0
    have HL : Hid (narL k c l = l.set 0 116) := Lib.hid (by unfold narL; rw [if_pos hk])
    rw [HL.out]
    have HS := Lib.hid hs
    have hl0i : (0 : Int) < (l.length : Int) := by omega
    clear hs hO hsel HL hk
    go_enter Try.func26, Try.ntmps26
    go_wp2_with (refine (HS.out _).mono ?_; rintro e w3 ⟨rfl, hb3⟩; have O3 := HO.out.below (((Below.refl w.heap.size w).alloc (Nat.le_refl _) _).trans (hb3.mono (by simp))); have c3 := OB.at O3 0 hl0; have f3 := OB.free O3 0)
    have b3 := ((Below.refl w.heap.size w).alloc (Nat.le_refl _) _).trans (hb3.mono (by simp))
    exact bodyPost_end (v := .tuple #[]) (by simp [results, Try.results26, go_sem]) rfl ⟨rfl, OB.put O3 0, (b3.mono hB).setCell hBg _⟩
end Go.Proofs.Ytpjnjcljaoaceaa
namespace Go.Proofs.Ytpjnjcljaoaceaa
open Go Go.RowKit
set_option linter.unusedVariables false
set_option maxRecDepth 100000 in
set_option maxHeartbeats 2000000 in
theorem ambiguous_any (d : Nat) (T : Nd) (hd : depL T.kids ≤ d) (hc : T.cnt ≤ 4000000000000) (h3 : T.kind = 57 → T.kids.length = 3) (w : World) (hT : Nin w T) : Calls Try.prog 25 #[T.val] w fun e w' => e = .returned (.bool (ambK d T)) ∧ Below w.heap.size w w' := by
  obtain ⟨k, l, c, nm, tx, n, v, x, s, a, cap, ks⟩ := T
  have hrow := Lib.hid hT.row
  have hall := Lib.hid hT.all
  have hcc : 1 + cntL ks ≤ 4000000000000 := by unfold Nd.cnt at hc; exact hc
  simp only [Nd.val, Nd.kind, Nd.kids] at *
  simp only [ambK]
  by_cases e57 : k = 57
  · subst e57
    obtain ⟨K0, K1, K2, rfl⟩ := len3 (h3 rfl)
    obtain ⟨b, o, rfl, hf⟩ := hrow.out.2 (by simp)
    have hf1 := hf 1 (by simp)
    have hf2 := hf 2 (by simp)
    have hin := hall.out K1 (by simp)
    have hdm : K1.dep ≤ d := Nat.le_trans (depL_mem (by simp)) hd
    have hcm : K1.cnt ≤ 4000000000000 := Nat.le_trans (cntL_mem (by simp)) (Nat.le_trans (Nat.le_add_left _ 1) hcc)
    have hcall := fun wq (hb : Below w.heap.size w wq) => dangles_any d K1 hdm hcm wq (hin.keep hb)
    have HC := Lib.hid hcall
    clear hcall hin hdm hcm hall hrow hcc hc h3 hT hd hf
    simp only [show ((57 : Int) == 57) = true from rfl, Bool.true_and]
    generalize hR : dan d K1 = R at *
    obtain ⟨k1, l1, c1, nm1, tx1, n1, v1, x1, s1, a1, cap1, ks1⟩ := K1
    obtain ⟨k2, l2, c2, nm2, tx2, n2, v2, x2, s2, a2, cap2, ks2⟩ := K2
    clear hR
    simp only [Nd.val, Nd.kind] at *
    obtain ⟨g0, g1, g2, g3, g4, g5, g6, g7, g8, g9⟩ := hf2
    obtain ⟨h0, h1, h2, h3, h4, h5, h6, h7, h8, h9⟩ := hf1
    clear g1 g2 g3 g4 g5 g6 g7 g8 g9
    simp only [List.length_cons, List.length_nil] at *
    simp only [Nat.reduceMul, Nat.reduceAdd] at *
    have hbs : b < w.heap.size := World.block_lt_of_cell? w _ h0
    have hbn : b ≠ w.heap.size := by omega
    cases hz : (k2 == 0)
    · have hz2 : (k2 != 0) = true := by simp [bne, hz]
      go_enter Try.func25, Try.ntmps25
      go_wp2_with (go_at_call 43; refine (HC.out _ ((Below.refl _ _).alloc (Nat.le_refl _) _)).mono ?_; rintro e w3 ⟨rfl, hb3⟩)
      go_ret
      exact ⟨by first | rfl | simp, ((Below.refl _ _).alloc (Nat.le_refl _) _).trans (hb3.mono (by simp))⟩
    · have hz2 : (k2 != 0) = false := by simp [bne, hz]
      go_enter Try.func25, Try.ntmps25
      go_wp2_with fail
      go_ret
      exact ⟨by first | rfl | simp, (Below.refl _ _).alloc (Nat.le_refl _) _⟩
  · have q : (k == 57) = false := beq_eq_false_iff_ne.2 e57
    simp only [q, Bool.false_and]
    clear hrow hall hcc hc h3 hT hd e57
    go_enter Try.func25, Try.ntmps25
    go_wp2_with fail
    go_ret
    exact ⟨by first | rfl | simp, (Below.refl _ _).alloc (Nat.le_refl _) _⟩
end Go.Proofs.Ytpjnjcljaoaceaa
