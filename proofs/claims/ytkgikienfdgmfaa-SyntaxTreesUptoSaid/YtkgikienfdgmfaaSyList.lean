/- The reference's walk: a closure that calls itself. -/
import Derived.Test.YtkgikienfdgmfaaSyVis
import Derived.RegionTactic
import Derived.Deep.RegionWith
namespace Go.Proofs.Ytkgikienfdgmfaa
open Go Go.RowKit
set_option linter.unusedVariables false
def listF (p q r : Nat) : Value := .func (.func 10) #[] #[.pointer (some ⟨p, 0, none⟩), .pointer (some ⟨q, 0, none⟩), .pointer (some ⟨r, 0, none⟩)]
set_option maxRecDepth 100000 in
set_option maxHeartbeats 3000000 in
theorem list_any (W0 : World) (B p q r : Nat) (stop : Int) (hB : W0.heap.size ≤ B) (hp : W0.heap.size ≤ p) (hr : r < B) (hrp : r ≠ p) : ∀ (d : Nat) (T : Nd), T.dep ≤ d → Nin W0 T → ∀ (v : Value) (l : List Int) (w : World), Below W0.heap.size W0 w → GS B w p q stop v l → w.cell? ⟨r, 0, none⟩ = some (listF p q r) → l.length + T.cnt ≤ 4000000000000 →
    Calls Try.prog 10 (#[T.val] ++ #[.pointer (some ⟨p, 0, none⟩), .pointer (some ⟨q, 0, none⟩), .pointer (some ⟨r, 0, none⟩)]) w fun e w' => e = .returned (.tuple #[]) ∧ ∃ v', GS B w' p q stop v' (l ++ vis stop T) ∧ Fr B p w w' := by
  intro d
  induction d with
  | zero =>
    intro T h
    obtain ⟨k, ln, c, nm, tx, n, vv, x, s, a, cap, ks⟩ := T
    unfold Nd.dep at h; omega
  | succ d ih =>
    intro T hd hT v l w hb hG hR hl
    obtain ⟨k, ln, c, nm, tx, n, vv, x, s, a, cap, ks⟩ := T
    have hrow := Lib.hid hT.row
    have hall := Lib.hid hT.all
    have hdd : depL ks ≤ d := by unfold Nd.dep at hd; omega
    have hcc : l.length + 1 + cntL ks ≤ 4000000000000 := by unfold Nd.cnt at hl; omega
    have hl1 := len_cntL ks
    have IH := Lib.hid ih
    clear ih hd hT
    obtain ⟨i0, hi, hz0, hz1, hz2⟩ := infoI_parts
    obtain ⟨W1, hW1⟩ : ∃ W, W = w.alloc (.cells #[.int .i64 k, .int .i64 ln, .int .i64 c, .string nm, .string tx, .int .i64 n, .int .u64 vv, .int .u64 x, .bool s, .slice a ks.length cap] 27) := ⟨_, rfl⟩
    have b0 : Below w.heap.size w W1 := by rw [hW1]; exact (Below.refl _ _).alloc (Nat.le_refl _) _
    have n9 : W1.cell? ⟨w.heap.size, 9, none⟩ = some (.slice a ks.length cap) := by rw [hW1]; go_simp
    have n0 : W1.cell? ⟨w.heap.size, 0, none⟩ = some (.int .i64 k) := by rw [hW1]; go_simp
    have i0' : ∀ cur, W1.heap[w.heap.size]? ≠ some (.cells cur 3 (0, 0)) := by
      rw [hW1, heap_alloc_new]
      intro cur e
      simp at e
    have G1 := hG.below b0
    have hpl : p < w.heap.size := World.block_lt_of_cell? w _ hG.cp
    have hBl := hG.hB
    have hpB := hG.pB
    have HR := Lib.hid hR
    have HI := Lib.hid i0'
    have HW := Lib.hid hW1
    obtain ⟨VT, HVT⟩ : ∃ VT, Hid (vis stop (.mk k ln c nm tx n vv x s a cap ks) = VT) := ⟨_, Lib.hid rfl⟩
    rw [HVT.out]
    simp only [Nd.val]
    go_enter Try.func10, Try.ntmps10
    go_upto_region 1 with fail
    rw [← hW1]
    clear HW hW1 hR
    obtain ⟨g0, g1, g2, g3, -, -, -, -⟩ := id G1
    have hz := b0.size
    go_wp2_with (at_builtin; refine wpList_append_own _ rfl _ _ 36 rfl B 3 i0 (.int .i64 0) 1 8 Try.underlying36 hi hz0 hz1 hz2 rfl (by decide) _ _ _ rfl (World.ownsRow.alloc (show W1.ownsRow B 3 1 v l.length (IC l) from g0) _) ⟨W1.heap.size, 0, none⟩ 1 1 [.int .i64 k] rfl rfl ?d1 ?d2 ?d3 ?d4 ?d5 ?_)
    try case d1 =>
      intro q u hq
      match q, hq with
      | 0, hq => simp at hq; subst hq; simp [Addr.add]
    case d2 => first | (intro u hu; simp at hu; subst hu; rfl) | rfl
    case d3 => unfold maxLen; omega
    case d4 => omega
    case d5 => have := G1.hB; simp; omega
    intro v5 w5 hown5 hgr5 _
    have ho : OI B w5 v5 (l ++ [k]) := by unfold OI; rw [IC_app]; simpa using hown5
    clear hown5
    have bA : Below W1.heap.size W1 (W1.alloc (Obj.cells #[Value.int IntKind.i64 k] 3)) := (Below.refl _ _).alloc (Nat.le_refl _) _
    have G2 := G1.below bA
    have hF : Fr B p W1 w5 := (Fr.of_below bA).trans (Fr.of_grown hgr5 G2.own)
    have G3 := G2.push ho hgr5
    have hp5 : p < (W1.alloc (Obj.cells #[Value.int IntKind.i64 k] 3)).heap.size := Nat.lt_of_lt_of_le (Nat.lt_of_lt_of_le hpl b0.size) bA.size
    have hb5 := (Fr.of_grown (p := w5.heap.size) hgr5 G2.own).block p hp5 (by have h1 := hF.size; have h2 : p < w.heap.size := hpl; omega) (.inl hpB)
    have fp5 : w5.frozen? ⟨p, 0, none⟩ = false := (World.frozen?_of_block (a := ⟨p, 0, none⟩) hb5).trans G2.fp
    have cp5 : w5.cell? ⟨p, 0, none⟩ = some v := (World.cell?_of_block (a := ⟨p, 0, none⟩) hb5).trans G2.cp
    have hpn : w.heap.size ≠ p := by omega
    have hE : Fr B p w (w5.setCell ⟨p, 0, none⟩ v5) := ((Fr.of_below b0).trans hF).setp v5
    have hE1 : Fr B p W1 (w5.setCell ⟨p, 0, none⟩ v5) := hF.setp v5
    have m0 := hE1.cell n0 hpn (.inr HI.out)
    have m9 := hE1.cell n9 hpn (.inr HI.out)
    have HI6 : Hid (∀ cur, (w5.setCell ⟨p, 0, none⟩ v5).heap[w.heap.size]? ≠ some (.cells cur 3 (0, 0))) := Lib.hid (fun cur => by rw [hE1.block w.heap.size (World.block_lt_of_cell? W1 _ n0) hpn (.inr HI.out)]; exact HI.out cur)
    have q5 := G3.cq
    obtain ⟨a5, m6, c5, hv5⟩ : ∃ a5 m6 c5, v5 = .slice a5 m6 c5 := by obtain ⟨x1, x2, x3⟩ := ho.form; exact ⟨x1, _, x2, x3⟩
    have HG3 := Lib.hid G3
    have HE := Lib.hid hE
    subst hv5
    clear G3 hE HI G2 hF G1 g0 g1 g2 g3 hG ho hgr5 n0 n9 bA hb5 hE1 i0'
    go_upto_region 2 with fail
    generalize w5.setCell ⟨p, 0, none⟩ _ = W6 at *
    have hb6 : Below W0.heap.size W0 W6 := HE.out.below hb hB hp hb.size
    by_cases hk : k = stop
    · have hvis : vis stop (.mk k ln c nm tx n vv x s a cap ks) = [k] := by unfold vis; rw [if_pos hk]
      have hVT : VT = [k] := HVT.out.symm.trans hvis
      subst hVT
      clear hvis IH hall hrow HVT
      subst hk
      go_wp2_with fail
      go_loopw [5] (fun i wr => i = .int .i64 0 ∧ wr = W6) (fun _ _ => 0)
      case atStart => exact ⟨rfl, rfl⟩
      case round =>
        obtain ⟨rfl, rfl⟩ := hrel
        by_cases hz : ks.length = 0
        · rw [hz] at m9
          go_wp2_with fail
          exact bodyPost_end (v := .tuple #[]) (by simp [results, Try.results10, go_sem]) rfl ⟨rfl, _, HG3.out, HE.out⟩
        · have hz0 : (0 : Int) < (ks.length : Int) := by omega
          go_wp2_with fail
          exact bodyPost_end (v := .tuple #[]) (by simp [results, Try.results10, go_sem]) rfl ⟨rfl, _, HG3.out, HE.out⟩
    · have hvis : vis stop (.mk k ln c nm tx n vv x s a cap ks) = k :: visL stop ks := by unfold vis; rw [if_neg hk]
      have HVS : Hid (VT = k :: visL stop ks) := Lib.hid (HVT.out.symm.trans hvis)
      clear hvis HVT
      have hkb : (k == stop) = false := beq_eq_false_iff_ne.2 hk
      have HR6 : Hid (W6.cell? ⟨r, 0, none⟩ = some (listF p q r)) := Lib.hid (HE.out.cell HR.out hrp (.inl hr))
      go_wp2_with fail
      go_loopw [5] (fun i wr => ∃ j : Nat, j ≤ ks.length ∧ i = .int .i64 (j : Int) ∧ Hid (Below W0.heap.size W0 wr ∧ Fr B p W6 wr ∧ ∃ vj, GS B wr p q stop vj (l ++ k :: visL stop (ks.take j)))) (fun i _ => ks.length - (intOf i).toNat)
      case atStart => exact ⟨0, Nat.zero_le _, rfl, Lib.hid ⟨hb6, Fr.refl _ _ _, _, by simpa [visL] using HG3.out⟩⟩
      case round =>
        obtain ⟨j, hj, rfl, HS⟩ := hrel
        rename World => WR
        obtain ⟨hbr, hFr, vj, hGj⟩ := HS.out
        have r0 := hFr.cell m0 hpn (.inr HI6.out)
        have r9 := hFr.cell m9 hpn (.inr HI6.out)
        have rR := hFr.cell HR6.out hrp (.inl hr)
        have rq := hGj.cq
        clear m0 m9
        by_cases hlt : j < ks.length
        · obtain ⟨hcap, hrr⟩ := hrow.out
          obtain ⟨b, o, rfl, hf⟩ := hrr (by rintro rfl; simp at hlt)
          have hf := (hf j hlt).below hbr
          have hin := hall.out _ (List.getElem_mem hlt)
          have hdm := depL_mem (List.getElem_mem hlt)
          have ect := cntL_take ks j hlt
          have ecl := cntL_take_le ks (j + 1)
          have evl := visL_len stop (ks.take j)
          have hll : (l ++ k :: visL stop (ks.take j)).length + ks[j].cnt ≤ 4000000000000 := by simp; omega
          have hcall := fun w' (hd : Below WR.heap.size WR w') => IH.out ks[j] (Nat.le_trans hdm hdd) hin vj (l ++ k :: visL stop (ks.take j)) w' (hbr.trans (hd.mono hbr.size)) (hGj.below hd) ((hd.cell (p := ⟨r, 0, none⟩) (World.block_lt_of_cell? WR _ rR)).trans rR) hll
          have HJ : Hid (visL stop (ks.take (j + 1)) = visL stop (ks.take j) ++ vis stop ks[j]) := Lib.hid (visL_take stop ks j hlt)
          clear IH hall hrow hrr HS hin hdm ect ecl evl hll hGj
          generalize ks[j] = K at *
          obtain ⟨k', l', c', nm', tx', n', v', x', s', a', cap', ks'⟩ := K
          simp only [Nd.val] at hcall
          have HC := Lib.hid hcall
          have HF := Lib.hid (And.intro hbr hFr)
          obtain ⟨h0, h1, h2, h3, h4, h5, h6, h7, h8, h9⟩ := hf
          have hjl : (j : Int) < (ks.length : Int) := by omega
          have hj0 : (0 : Int) ≤ (j : Int) := by omega
          clear hcall hbr hFr hb6 hb HR HR6 HI6 HE HG3 fp5 cp5 q5
          unfold listF at rR
          go_upto_region 5 with fail
          go_region_with (refine (HC.out _ (by first | exact Below.refl _ _ | exact (Below.refl _ _).drew | exact below_drewN (Below.refl _ _) _)).mono ?_; rintro e w4 ⟨rfl, v4, hG4, hF4⟩)
          all_goals
            obtain ⟨hbr, hFr⟩ := HF.out
            have hw4 : Fr B p WR w4 := (Fr.of_below (by first | exact Below.refl _ _ | exact (Below.refl _ _).drew | exact below_drewN (Below.refl _ _) _)).trans hF4
            have HX : Hid (Below W0.heap.size W0 w4 ∧ Fr B p W6 w4 ∧ ∃ vj, GS B w4 p q stop vj (l ++ k :: visL stop (ks.take (j + 1)))) := Lib.hid ⟨hw4.below hbr hB hp hbr.size, hFr.trans hw4, v4, by rw [HJ.out]; simpa [List.append_assoc] using hG4⟩
            clear hw4 hbr hFr hG4 hF4
            go_wp2_with fail
            go_round
            case rel => exact ⟨j + 1, hlt, rfl, HX⟩
            case measure => simp [intOf] <;> omega
        · obtain rfl : j = ks.length := by omega
          rw [List.take_length] at hGj
          have HX := Lib.hid (And.intro hGj (HE.out.trans hFr))
          clear hGj hFr HS hbr
          go_wp2_with fail
          exact bodyPost_end (v := .tuple #[]) (by simp [results, Try.results10, go_sem]) rfl ⟨rfl, vj, by rw [HVS.out]; exact HX.out.1, HX.out.2⟩
end Go.Proofs.Ytkgikienfdgmfaa
