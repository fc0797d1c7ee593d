/- Read, at texts whose digits stand for some bits each. -/
import Derived.Test.YtgmgmkhcadimjaaDoorApart
namespace Go.Proofs.YtgmgmkhcadimjaaDoor
open Go Go.RowKit
set_option linter.unusedVariables false
/-- a text that is a width, a base with digits of some bits each, and digits that fit -/
structure Spelt (s wd rs : ByteArray) (n : Nat) : Prop where
  r0 : ∃ r0 : ByteArray, Lib.cut s.data.toList (⟨#[39]⟩ : ByteArray).data.toList = (wd.data.toList, r0.data.toList, true) ∧ Lib.trimPrefix r0.data.toList (⟨#[115]⟩ : ByteArray).data.toList = rs.data.toList
  hs : s.size ≤ 1000
  w1 : 0 < wd.size
  w2 : wd[0].toNat ≠ 48
  w3 : allB (fun c => isDig c.toNat) wd = true
  hr : 2 ≤ rs.size
  hwl : wd.size ≤ s.size
  hrl : rs.size ≤ s.size
  b100 : (rs[0]'(by omega)).toNat ≠ 100
  z1 : 1 ≤ dw (rs[0]'(by omega)).toNat
  z2 : dw (rs[0]'(by omega)).toNat ≤ 4
  hd : allB (fun c => digOk (dw (rs[0]'(by omega)).toNat) c.toNat) (rs.extract 1 rs.size) = true
  hn : rwd wd wd.size = n
  h1 : 1 ≤ n
  h2 : n ≤ 64
  hE : ∀ i, i < (rs.extract 1 rs.size).size → rdE n (dw (rs[0]'(by omega)).toNat) (rs.extract 1 rs.size) i = false
set_option maxRecDepth 100000 in
set_option maxHeartbeats 4000000 in
theorem read_digits (s wd rs r0 : ByteArray) (hs : s.size ≤ 1000) (m : Int) (w : World) (hm : w.cell? ⟨0, 0, none⟩ = some (.int .i64 m)) (hw : 0 < w.heap.size)
    (hc : Hid (Lib.cut s.data.toList (⟨#[39]⟩ : ByteArray).data.toList = (wd.data.toList, r0.data.toList, true))) (ht : Hid (Lib.trimPrefix r0.data.toList (⟨#[115]⟩ : ByteArray).data.toList = rs.data.toList))
    (w1 : 0 < wd.size) (w2 : ((wd[0].toNat : Int) == 48) = false) (w3 : Hid (allB (fun c => isDig c.toNat) wd = true)) (hr : 2 ≤ rs.size) (hwl : wd.size ≤ s.size) (hrl : rs.size ≤ s.size)
    (hr0 : 0 < rs.size) (hb : ((rs[0].toNat : Int) == 100) = false) (hz1 : 1 ≤ dw rs[0].toNat) (hz2 : dw rs[0].toNat ≤ 4) (hd : Hid (allB (fun c => digOk (dw rs[0].toNat) c.toNat) (rs.extract 1 rs.size) = true))
    (n : Nat) (hn : Hid (rwd wd wd.size = n)) (h1 : 1 ≤ n) (h2 : n ≤ 64) (dg : ByteArray) (hdg : Hid (rs.extract 1 rs.size = dg)) (dg0 : 0 < dg.size) (dg1 : dg.size ≤ 1000) (size : Nat) (hsz : Hid (dw rs[0].toNat = size)) (sz1 : 1 ≤ size) (sz2 : size ≤ 4)
    (hE : Hid (∀ i, i < dg.size → rdE n size dg i = false)) :
    Calls Tryd.prog 5 #[.string s] w fun e w' => e = .returned (.tuple #[.agg #[.int .i64 n, .int .u64 (U (rdB n size dg dg.size).v), .int .u64 (U (rdB n size dg dg.size).x)], .int .i64 0]) ∧ Below w.heap.size w w' := by
  have hby : rs[0].toNat ≤ 255 := by have := rs[0].toNat_lt; omega
  go_enter Tryd.func5, Tryd.ntmps5
  go_wp2_with fail
  refine (takeApart_ok s wd rs r0 (by omega) m _ (by go_simp) (by simp) hc ht w1 w2 w3 hr hwl hrl hr0 hb hz1 hz2 hd).mono ?_
  rintro e w1 ⟨rfl, hb1⟩
  obtain ⟨hc1, hf1⟩ := bcell hb1
  have z1_0 : w.heap.size < w1.heap.size := bsize hb1 (by first | omega | (simp <;> omega))
  have zz : w.heap.size < w1.heap.size + 1 := by omega
  rw [hn.out, hdg.out]
  go_wp2_with fail
  go_region_with (first | (go_at_call 15; refine (digitWidth_any _ hby _).mono ?_; rintro e w' ⟨rfl, rfl⟩; rw [hsz.out]) | (go_at_call 14; refine (readDigits_ok n size dg h1 h2 sz1 sz2 dg0 dg1 _ hE.out).mono ?_; rintro e w2 ⟨rfl, hb2⟩; obtain ⟨hc2, hf2⟩ := bcell hb2; have z2_0 : w.heap.size < w2.heap.size := bsize hb2 (by first | omega | (simp <;> omega))))
  all_goals
    go_wp2_with fail
    exact bodyPost_ret (v := .tuple #[.agg #[.int .i64 n, .int .u64 (U (rdB n size dg dg.size).v), .int .u64 (U (rdB n size dg dg.size).x)], .int .i64 0]) (by simp [results, Tryd.results5, go_sem, hc1, hc2, z1_0, zz]) rfl ⟨rfl, by (repeat (first | exact Below.refl _ _ | exact Nat.le_refl _ | refine below_drewN ?_ _ | refine Below.drew ?_ | refine Below.alloc ?_ ?_ _ | refine Below.setCell ?_ ?_ _ | refine below_step (by assumption) ?_ ?_)) <;> (first | omega | (simp <;> omega))⟩
theorem read_ok {s wd rs : ByteArray} {n : Nat} (h : Spelt s wd rs n) {B : Nat} (w : World) (hG : Glob B w) :
    Calls Tryd.prog 5 #[.string s] w fun e w' => e = .returned (.tuple #[.agg #[.int .i64 n, .int .u64 (U (rdB n (dw (rs[0]'(by have := h.hr; omega)).toNat) (rs.extract 1 rs.size) (rs.extract 1 rs.size).size).v), .int .u64 (U (rdB n (dw (rs[0]'(by have := h.hr; omega)).toNat) (rs.extract 1 rs.size) (rs.extract 1 rs.size).size).x)], .int .i64 0]) ∧ Below w.heap.size w w' := by
  obtain ⟨m, hm⟩ := hG.mx
  obtain ⟨r0, hc, ht⟩ := h.r0
  have hr := h.hr
  have e : (rs.extract 1 rs.size).size = rs.size - 1 := by simp
  have hl := h.hrl
  have hs := h.hs
  exact read_digits s wd rs r0 h.hs m w hm (Nat.lt_of_lt_of_le hG.pos hG.le) (Lib.hid hc) (Lib.hid ht) h.w1 (beq_eq_false_iff_ne.2 (by have := h.w2; omega)) (Lib.hid h.w3) h.hr h.hwl h.hrl (by omega) (beq_eq_false_iff_ne.2 (by have := h.b100; omega)) h.z1 h.z2 (Lib.hid h.hd)
    n (Lib.hid h.hn) h.h1 h.h2 _ (Lib.hid rfl) (by omega) (by omega) _ (Lib.hid rfl) h.z1 h.z2 (Lib.hid h.hE)
end Go.Proofs.YtgmgmkhcadimjaaDoor
