/- Equal trees: the program's Same with slices.EqualFunc, the reference's SameTree. -/
import Derived.Test.YtpjnjcljaoaceaaSyTree
import Derived.LoopTactic
import Derived.Deep.CutBlock
namespace Go.Proofs.Ytpjnjcljaoaceaa
open Go Go.RowKit
set_option linter.unusedVariables false
mutual
/-- equal but for lines and columns -/
def same : Nd → Nd → Bool
  | .mk k _ _ nm tx n v x s _ _ ks, .mk k' _ _ nm' tx' n' v' x' s' _ _ ks' => decide (k = k' ∧ nm = nm' ∧ tx = tx' ∧ n = n' ∧ v = v' ∧ x = x' ∧ s = s') && sameL ks ks'
def sameL : List Nd → List Nd → Bool
  | [], [] => true
  | x :: r, y :: q => same x y && sameL r q
  | [], _ :: _ => false
  | _ :: _, [] => false
end
mutual
theorem same_self : ∀ T : Nd, same T T = true
  | .mk _ _ _ _ _ _ _ _ _ _ _ ks => by unfold same; simp [sameL_self ks]
theorem sameL_self : ∀ ks : List Nd, sameL ks ks = true
  | [] => rfl
  | x :: r => by unfold sameL; rw [same_self x, sameL_self r]; rfl
end
theorem sameL_len : ∀ {a b : List Nd}, a.length ≠ b.length → sameL a b = false
  | [], [], h => absurd rfl h
  | x :: r, y :: q, h => by unfold sameL; rw [sameL_len (a := r) (b := q) (by simpa using h)]; simp
  | [], _ :: _, _ => rfl
  | _ :: _, [], _ => rfl
theorem sameL_all : ∀ {a b : List Nd} (hl : a.length = b.length), (∀ j (h : j < a.length) (h' : j < b.length), same a[j] b[j] = true) → sameL a b = true
  | [], [], _, _ => rfl
  | x :: r, y :: q, hl, h => by
    unfold sameL
    have h0 := h 0 (by simp) (by simp)
    simp only [List.getElem_cons_zero] at h0
    rw [h0, sameL_all (a := r) (b := q) (by simpa using hl) (fun j h1 h2 => h (j + 1) (by simpa using h1) (by simpa using h2))]; rfl
theorem sameL_not : ∀ {a b : List Nd} (j : Nat) (h : j < a.length) (h' : j < b.length), same a[j] b[j] = false → sameL a b = false
  | x :: r, y :: q, 0, _, _, e => by
    unfold sameL
    simp only [List.getElem_cons_zero] at e
    rw [e]; rfl
  | x :: r, y :: q, j + 1, h, h', e => by
    unfold sameL
    rw [sameL_not (a := r) (b := q) j (by simpa using h) (by simpa using h') (by simpa using e)]; simp
/-- what Same answers for trees of a depth -/
def SameTo (f d : Nat) : Prop := ∀ A B : Nd, A.dep ≤ d → A.cnt ≤ 4000000000000 → ∀ w, Nin w A → Nin w B → Calls Try.prog f #[A.val, B.val] w fun e w' => e = .returned (.bool (same A B)) ∧ Below w.heap.size w w'
set_option maxRecDepth 100000 in
set_option maxHeartbeats 2000000 in
theorem equalF {d : Nat} (ih : SameTo 8 d) (a a' : Option Addr) (cap cap' : Nat) (ks ks' : List Nd) (w : World) (hd : depL ks ≤ d) (hc : cntL ks ≤ 4000000000000) (hr : Row w a cap ks) (ha : ∀ T ∈ ks, Nin w T) (hr' : Row w a' cap' ks') (ha' : ∀ T ∈ ks', Nin w T) :
    Calls Try.prog 13 #[.slice a ks.length cap, .slice a' ks'.length cap', .func (.func 8) #[] #[]] w fun e w' => e = .returned (.bool (sameL ks ks')) ∧ Below w.heap.size w w' := by
  have hl1 := len_cntL ks
  have IH := Lib.hid ih
  have HR := Lib.hid hr
  have HA := Lib.hid ha
  have HR' := Lib.hid hr'
  have HA' := Lib.hid ha'
  clear ih hr ha hr' ha'
  by_cases hlen : ks.length = ks'.length
  · obtain ⟨V, HV⟩ : ∃ V, Hid (sameL ks ks' = V) := ⟨_, Lib.hid rfl⟩
    rw [HV.out]
    have HL := Lib.hid hlen
    obtain ⟨N, hN⟩ : ∃ N, ks.length = N := ⟨_, rfl⟩
    have hN' : ks'.length = N := by omega
    rw [hN, hN']
    have HN1 := Lib.hid hN
    have HN2 := Lib.hid hN'
    rw [hN] at hl1
    clear hlen hN hN'
    go_enter Try.func13, Try.ntmps13
    go_wp2_with fail
    go_loopw [17] (fun i wr => ∃ j : Nat, j ≤ N ∧ i = .int .i64 (j : Int) ∧ Below w.heap.size w wr ∧ Hid (∀ q (h : q < ks.length) (h' : q < ks'.length), q < j → same ks[q] ks'[q] = true)) (fun i _ => N - (intOf i).toNat)
    case atStart => exact ⟨0, Nat.zero_le _, rfl, Below.refl _ _, Lib.hid (fun q _ _ h => absurd h (Nat.not_lt_zero q))⟩
    case round =>
      obtain ⟨j, hj, rfl, hlo, HS⟩ := hrel
      rename World => WR
      by_cases hjn : j < N
      · have hlt : j < ks.length := by have := HN1.out; omega
        have hlt' : j < ks'.length := by have := HN2.out; omega
        obtain ⟨hcap, hrr⟩ := HR.out
        obtain ⟨hcap', hrr'⟩ := HR'.out
        obtain ⟨b, o, rfl, hf⟩ := hrr (by rintro rfl; simp at hlt)
        obtain ⟨b', o', rfl, hf'⟩ := hrr' (by rintro rfl; simp at hlt')
        have hf := (hf j hlt).below hlo
        have hf' := (hf' j hlt').below hlo
        have hin := (HA.out _ (List.getElem_mem hlt)).keep hlo
        have hin' := (HA'.out _ (List.getElem_mem hlt')).keep hlo
        have hcm := cntL_mem (List.getElem_mem hlt)
        have hdm := depL_mem (List.getElem_mem hlt)
        have hcall := fun wq (hb : Below WR.heap.size WR wq) => IH.out ks[j] ks'[j] (Nat.le_trans hdm hd) (by omega) wq (hin.keep hb) (hin'.keep hb)
        have HN : Hid (same ks[j] ks'[j] = false → V = false) := Lib.hid (fun h => by rw [← HV.out]; exact sameL_not j hlt hlt' h)
        have HS2 : Hid (same ks[j] ks'[j] = true → ∀ q (h : q < ks.length) (h' : q < ks'.length), q < j + 1 → same ks[q] ks'[q] = true) := Lib.hid (fun h q h1 h2 h3 => by
          by_cases hq : q < j
          · exact HS.out q h1 h2 hq
          · obtain rfl : q = j := by omega
            exact h)
        clear HS hin hin' hcm hdm hrr hrr' HA HA' HR HR' IH
        generalize hv : same ks[j] ks'[j] = R at *
        generalize ks[j] = K at *
        generalize ks'[j] = K' at *
        obtain ⟨k1, l1, c1, nm1, tx1, n1, v1, x1, s1, a1, cap1, ks1⟩ := K
        obtain ⟨k2, l2, c2, nm2, tx2, n2, v2, x2, s2, a2, cap2, ks2⟩ := K'
        simp only [Nd.val] at hcall
        have HC := Lib.hid hcall
        clear hcall hv
        obtain ⟨g0, g1, g2, g3, g4, g5, g6, g7, g8, g9⟩ := hf
        obtain ⟨f0, f1, f2, f3, f4, f5, f6, f7, f8, f9⟩ := hf'
        have hjl : (j : Int) < (N : Int) := by omega
        have hj0 : (0 : Int) ≤ (j : Int) := by omega
        have hW := hlo.size
        clear hlt hlt' hf hf' hcap hcap'
        have hbl : b < WR.heap.size := World.block_lt_of_cell? WR _ g0
        have hbl' : b' < WR.heap.size := World.block_lt_of_cell? WR _ f0
        cases R
        · have HVF : Hid (V = false) := Lib.hid (HN.out rfl)
          go_upto_region 7 with fail
          go_wp2_with (refine (HC.out _ (((Below.refl _ _).alloc (Nat.le_refl _) _).alloc (by simp <;> omega) _)).mono ?_; rintro e w3 ⟨rfl, hb3⟩)
          exact bodyPost_ret (v := .bool false) (by simp [results, Try.results13, go_sem]) rfl ⟨by rw [HVF.out], ((hlo.alloc hW _).alloc (by simp <;> omega) _).trans (hb3.mono (by simp <;> omega))⟩
        · have HST := Lib.hid (HS2.out rfl)
          go_upto_region 7 with fail
          go_wp2_with (refine (HC.out _ (((Below.refl _ _).alloc (Nat.le_refl _) _).alloc (by simp <;> omega) _)).mono ?_; rintro e w3 ⟨rfl, hb3⟩)
          go_round
          case rel => exact ⟨j + 1, hjn, rfl, ((hlo.alloc hW _).alloc (by simp <;> omega) _).trans (hb3.mono (by simp <;> omega)), HST⟩
          case measure => simp [intOf] <;> omega
      · obtain rfl : j = N := by omega
        have HT : Hid (V = true) := Lib.hid (by rw [← HV.out]; exact sameL_all HL.out (fun q h h' => HS.out q h h' (by rw [← HN1.out]; exact h)))
        go_wp2_with fail
        go_ret
        exact ⟨by rw [HT.out]; rfl, hlo⟩
  · have hlen' : ((ks.length : Int) == (ks'.length : Int)) = false := beq_eq_false_iff_ne.2 (by omega)
    rw [sameL_len hlen]
    go_enter Try.func13, Try.ntmps13
    go_wp2_with fail
    go_ret
    exact ⟨rfl, Below.refl _ _⟩
theorem ne_toList {a b : ByteArray} (h : ¬ a = b) : ¬ a.toList = b.toList := fun e => h (by
  rw [ByteArray.toList_eq, ByteArray.toList_eq] at e
  cases a; cases b
  simpa [Array.toList_inj] using e)
/-- a compare of two nodes' fields, by the program and the reference -/
theorem same_no {k l c : Int} {nm tx : ByteArray} {n v x : Int} {s : Bool} {a : Option Addr} {cap : Nat} {ks : List Nd} {k' l' c' : Int} {nm' tx' : ByteArray} {n' v' x' : Int} {s' : Bool} {a' : Option Addr} {cap' : Nat} {ks' : List Nd}
    (h : ¬ (k = k' ∧ nm = nm' ∧ tx = tx' ∧ n = n' ∧ v = v' ∧ x = x' ∧ s = s')) : same (.mk k l c nm tx n v x s a cap ks) (.mk k' l' c' nm' tx' n' v' x' s' a' cap' ks') = false := by
  unfold same; simp only [h, decide_false, Bool.false_and]
theorem same_yes {k l c : Int} {nm tx : ByteArray} {n v x : Int} {s : Bool} {a : Option Addr} {cap : Nat} {ks : List Nd} {l' c' : Int} {a' : Option Addr} {cap' : Nat} {ks' : List Nd} :
    same (.mk k l c nm tx n v x s a cap ks) (.mk k l' c' nm tx n v x s a' cap' ks') = sameL ks ks' := by
  unfold same; simp
end Go.Proofs.Ytpjnjcljaoaceaa
