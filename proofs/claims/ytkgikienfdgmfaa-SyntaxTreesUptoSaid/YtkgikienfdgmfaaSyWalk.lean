/- The program's Walk with the visitor. -/
import Derived.Test.YtkgikienfdgmfaaSyVis
namespace Go.Proofs.Ytkgikienfdgmfaa
open Go Go.RowKit
set_option linter.unusedVariables false
set_option maxRecDepth 100000 in
set_option maxHeartbeats 3000000 in
theorem walk_any (W0 : World) (B p q : Nat) (stop : Int) (hB : W0.heap.size ≤ B) (hp : W0.heap.size ≤ p) : ∀ (d : Nat) (T : Nd), T.dep ≤ d → Nin W0 T → ∀ (v : Value) (l : List Int) (w : World), Below W0.heap.size W0 w → GS B w p q stop v l → l.length + T.cnt ≤ 4000000000000 →
    Calls Try.prog 11 #[T.val, .func (.func 12) #[] #[.pointer (some ⟨p, 0, none⟩), .pointer (some ⟨q, 0, none⟩)]] w fun e w' => e = .returned (.tuple #[]) ∧ ∃ v', GS B w' p q stop v' (l ++ vis stop T) ∧ Fr B p w w' := by
  intro d
  induction d with
  | zero =>
    intro T h
    obtain ⟨k, ln, c, nm, tx, n, vv, x, s, a, cap, ks⟩ := T
    unfold Nd.dep at h; omega
  | succ d ih =>
    intro T hd hT v l w hb hG hl
    obtain ⟨k, ln, c, nm, tx, n, vv, x, s, a, cap, ks⟩ := T
    have hrow := Lib.hid hT.row
    have hall := Lib.hid hT.all
    have hdd : depL ks ≤ d := by unfold Nd.dep at hd; omega
    have hcc : l.length + 1 + cntL ks ≤ 4000000000000 := by unfold Nd.cnt at hl; omega
    have hl1 := len_cntL ks
    have IH := Lib.hid ih
    clear ih hd hT
    obtain ⟨W1, hW1⟩ : ∃ W, W = w.alloc (.cells #[.int .i64 k, .int .i64 ln, .int .i64 c, .string nm, .string tx, .int .i64 n, .int .u64 vv, .int .u64 x, .bool s, .slice a ks.length cap] 27) := ⟨_, rfl⟩
    have b0 : Below w.heap.size w W1 := by rw [hW1]; exact (Below.refl _ _).alloc (Nat.le_refl _) _
    have n0 : W1.cell? ⟨w.heap.size, 9, none⟩ = some (.slice a ks.length cap) := by rw [hW1]; go_simp
    have m0 : W1.cell? ⟨w.heap.size, 0, none⟩ = some (.int .i64 k) := by rw [hW1]; go_simp
    have m1 : W1.cell? ⟨w.heap.size, 1, none⟩ = some (.int .i64 ln) := by rw [hW1]; go_simp
    have m2 : W1.cell? ⟨w.heap.size, 2, none⟩ = some (.int .i64 c) := by rw [hW1]; go_simp
    have m3 : W1.cell? ⟨w.heap.size, 3, none⟩ = some (.string nm) := by rw [hW1]; go_simp
    have m4 : W1.cell? ⟨w.heap.size, 4, none⟩ = some (.string tx) := by rw [hW1]; go_simp
    have m5 : W1.cell? ⟨w.heap.size, 5, none⟩ = some (.int .i64 n) := by rw [hW1]; go_simp
    have m6 : W1.cell? ⟨w.heap.size, 6, none⟩ = some (.int .u64 vv) := by rw [hW1]; go_simp
    have m7 : W1.cell? ⟨w.heap.size, 7, none⟩ = some (.int .u64 x) := by rw [hW1]; go_simp
    have m8 : W1.cell? ⟨w.heap.size, 8, none⟩ = some (.bool s) := by rw [hW1]; go_simp
    have i0' : ∀ cur, W1.heap[w.heap.size]? ≠ some (.cells cur 3 (0, 0)) := by
      rw [hW1, heap_alloc_new]
      intro cur e
      simp at e
    have G1 := hG.below b0
    have hpl : p < w.heap.size := World.block_lt_of_cell? w _ hG.cp
    have hBl := hG.hB
    have hV := visitor (.mk k ln c nm tx n vv x s a cap ks) B p q stop v l W1 G1 (by omega)
    simp only [Nd.val, Nd.kind] at hV
    have HV := Lib.hid hV
    have HI := Lib.hid i0'
    clear hV i0'
    simp only [Nd.val]
    have hrun : ∀ w, (binOp BinOp.eql 39 (Value.func (Fn.func 12) #[] #[.pointer (some ⟨p, 0, none⟩), .pointer (some ⟨q, 0, none⟩)]) Value.nilFunc).run Try.prog w = .ok (.bool false) w := fun _ => by kernel_rfl
    by_cases hk : k = stop
    · have hvis : vis stop (.mk k ln c nm tx n vv x s a cap ks) = [k] := by unfold vis; rw [if_pos hk]
      rw [hvis]
      have HV := Lib.hid (HV.out false ⟨fun _ => rfl, fun _ => hk⟩)
      clear hk hvis
      go_enter Try.func11, Try.ntmps11
      go_upto_region 1 with fail
      rw [← hW1]
      clear hW1
      go_wp2_with (refine HV.out.mono ?_; rintro e w3 ⟨rfl, v3, hG3, hF3⟩)
      exact bodyPost_ret (v := .tuple #[]) (by simp [results, Try.results11, go_sem]) rfl ⟨rfl, v3, hG3, (Fr.of_below b0).trans hF3⟩
    · have hvis : vis stop (.mk k ln c nm tx n vv x s a cap ks) = k :: visL stop ks := by unfold vis; rw [if_neg hk]
      rw [hvis]
      have HV := Lib.hid (HV.out true ⟨fun h => absurd h hk, fun h => by cases h⟩)
      clear hk hvis
      go_enter Try.func11, Try.ntmps11
      go_upto_region 1 with fail
      rw [← hW1]
      clear hW1
      go_wp2_with (refine HV.out.mono ?_; rintro e w3 ⟨rfl, v3, hG3, hF3⟩; have n3 : w3.cell? ⟨w.heap.size, 9, none⟩ = some (.slice a ks.length cap) := hF3.cell n0 (by omega) (.inr HI.out); clear n0 m0 m1 m2 m3 m4 m5 m6 m7 m8)
      have hb3 : Below W0.heap.size W0 w3 := ((Fr.of_below b0).trans hF3).below hb hB hp hb.size
      have hF0 : Fr B p w w3 := (Fr.of_below b0).trans hF3
      go_loopw [17] (fun i wr => ∃ j : Nat, j ≤ ks.length ∧ i = .int .i64 (j : Int) ∧ Hid (Below W0.heap.size W0 wr ∧ Fr B p w wr ∧ ∃ vj, GS B wr p q stop vj (l ++ k :: visL stop (ks.take j)))) (fun i _ => ks.length - (intOf i).toNat)
      case atStart => exact ⟨0, Nat.zero_le _, rfl, Lib.hid ⟨hb3, hF0, v3, by simpa [visL] using hG3⟩⟩
      case round =>
        obtain ⟨j, hj, rfl, HS⟩ := hrel
        rename World => WR
        by_cases hlt : j < ks.length
        · obtain ⟨hbr, hFr, vj, hGj⟩ := HS.out
          obtain ⟨hcap, hrr⟩ := hrow.out
          obtain ⟨b, o, rfl, hf⟩ := hrr (by rintro rfl; simp at hlt)
          have hf := hf j hlt
          have hf := (show NCs W0 b (o + j * 10) ks[j] from hf)
          have hin := hall.out _ (List.getElem_mem hlt)
          have hdm := depL_mem (List.getElem_mem hlt)
          have ect := cntL_take ks j hlt
          have ecl := cntL_take_le ks (j + 1)
          have evl := visL_len stop (ks.take j)
          have hll : (l ++ k :: visL stop (ks.take j)).length + ks[j].cnt ≤ 4000000000000 := by simp; omega
          have hf := hf.below hbr
          have hcall := IH.out ks[j] (Nat.le_trans hdm hdd) hin vj (l ++ k :: visL stop (ks.take j)) _ (hbr.alloc (hbr.size) _) (hGj.below ((Below.refl _ _).alloc (Nat.le_refl _) (Obj.cells ks[j].cells 27))) hll
          have HJ : Hid (visL stop (ks.take (j + 1)) = visL stop (ks.take j) ++ vis stop ks[j]) := Lib.hid (visL_take stop ks j hlt)
          clear IH hall hrow hrr HS hin hdm ect ecl evl hll hGj
          generalize ks[j] = K at *
          obtain ⟨k', l', c', nm', tx', n', v', x', s', a', cap', ks'⟩ := K
          simp only [Nd.val, Nd.cells] at hcall
          have HC := Lib.hid hcall
          have HF := Lib.hid (And.intro hbr hFr)
          obtain ⟨h0, h1, h2, h3, h4, h5, h6, h7, h8, h9⟩ := hf
          have hjl : (j : Int) < (ks.length : Int) := by omega
          have hj0 : (0 : Int) ≤ (j : Int) := by omega
          clear hcall hbr hFr hG hG3 hF3 hb3 hF0 n3 hb
          go_upto_region 5 with fail
          go_wp2_with (refine HC.out.mono ?_; rintro e w4 ⟨rfl, v4, hG4, hF4⟩)
          obtain ⟨hbr, hFr⟩ := HF.out
          have hw4 : Fr B p WR w4 := (Fr.of_below ((Below.refl _ _).alloc (Nat.le_refl _) _)).trans hF4
          have HX : Hid (Below W0.heap.size W0 w4 ∧ Fr B p w w4 ∧ ∃ vj, GS B w4 p q stop vj (l ++ k :: visL stop (ks.take (j + 1)))) := Lib.hid ⟨hw4.below hbr hB hp hbr.size, hFr.trans hw4, v4, by rw [HJ.out]; simpa [List.append_assoc] using hG4⟩
          clear hw4 hbr hFr hG4 hF4
          go_wp2_with fail
          go_round
          case rel => exact ⟨j + 1, hlt, rfl, HX⟩
          case measure => simp [intOf] <;> omega
        · obtain rfl : j = ks.length := by omega
          obtain ⟨hbr, hFr, vj, hGj⟩ := HS.out
          rw [List.take_length] at hGj
          have HX := Lib.hid (And.intro hGj hFr)
          clear hGj hFr HS hbr
          go_wp2_with fail
          exact bodyPost_end (v := .tuple #[]) (by simp [results, Try.results11, go_sem]) rfl ⟨rfl, vj, HX.out.1, HX.out.2⟩
end Go.Proofs.Ytkgikienfdgmfaa
