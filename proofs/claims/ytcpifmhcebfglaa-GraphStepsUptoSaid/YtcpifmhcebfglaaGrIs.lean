/- The value of a literal on a sheet: the reference's Is. -/
import Derived.Test.YtcpifmhcebfglaaMgBe
import Derived.Deep.RegionHeld
namespace Go.Proofs.Ytcpifmhcebfglaa
open Go Go.RowKit Go.Sort
set_option linter.unusedVariables false
/-- a sheet's memory -/
structure SM (g : Gr) (k q : Nat) (v0 v1 v2 v3 v4 : Value) (w0 : World) (D : List Int) (w : World) : Prop where
  x : GX k v0 v1 v2 v3 v4 w
  s : w.cell? ⟨k, 5, none⟩ = some (.slice (some ⟨q, 0, none⟩) (n0L g + g.ands.length) (n0L g + g.ands.length))
  a : Arr 5 (fun n : Int => Value.int .u8 n) q D w
  bel : Below w0.heap.size w0 w
theorem SM.set {g : Gr} {k q : Nat} {v0 v1 v2 v3 v4 : Value} {w0 w : World} {D : List Int} (h : SM g k q v0 v1 v2 v3 v4 w0 D w) (hk : k ≠ q) (hq : w0.heap.size ≤ q) (i : Nat) (n : Int) : SM g k q v0 v1 v2 v3 v4 w0 (D.set i n) (w.setCell ⟨q, i, none⟩ (.int .u8 n)) :=
  ⟨h.x.set hk, (World.cell?_setCell_other _ _ _ _ (fun e => hk (congrArg Addr.block e).symm)).trans h.s, h.a.set i n, h.bel.setCell (p := ⟨q, i, none⟩) hq _⟩
theorem SM.below {g : Gr} {k q : Nat} {v0 v1 v2 v3 v4 : Value} {w0 w w' : World} {D : List Int} (h : SM g k q v0 v1 v2 v3 v4 w0 D w) (hb : Below w.heap.size w w') : SM g k q v0 v1 v2 v3 v4 w0 D w' :=
  ⟨h.x.below hb, (hb.cell (p := ⟨k, 5, none⟩) (World.block_lt_of_cell? w _ h.s)).trans h.s, h.a.below hb, h.bel.trans (hb.mono h.bel.size)⟩
/-- all is as it was but for one block -/
structure Fr (q : Nat) (w w' : World) : Prop where
  os : w'.os = w.os
  tape : w'.tape = w.tape
  output : w'.output = w.output
  size : w.heap.size ≤ w'.heap.size
  blk : ∀ b, b < w.heap.size → b ≠ q → w'.heap[b]? = w.heap[b]?
theorem Fr.refl (q : Nat) (w : World) : Fr q w w := ⟨rfl, rfl, rfl, Nat.le_refl _, fun _ _ _ => rfl⟩
theorem Fr.trans {q : Nat} {w w1 w2 : World} (h : Fr q w w1) (h2 : Fr q w1 w2) : Fr q w w2 := ⟨h2.os.trans h.os, h2.tape.trans h.tape, h2.output.trans h.output, Nat.le_trans h.size h2.size, fun b hb hq => (h2.blk b (by have := h.size; omega) hq).trans (h.blk b hb hq)⟩
theorem Fr.below {q : Nat} {w w1 w2 : World} (h : Fr q w w1) (h2 : Below w1.heap.size w1 w2) : Fr q w w2 := h.trans ⟨h2.os, h2.tape, h2.output, h2.size, fun b hb _ => h2.block b hb⟩
theorem Fr.set {q : Nat} {w w1 : World} (h : Fr q w w1) (i : Nat) (v : Value) : Fr q w (w1.setCell ⟨q, i, none⟩ v) := h.trans ⟨rfl, rfl, rfl, by simp, fun b _ hq => Below.heap_setCell w1 ⟨q, i, none⟩ v b hq⟩
theorem Fr.grown {q : Nat} {w w1 : World} (h : Fr q w w1) : w.grownBy w1 (some q) := ⟨h.os, h.tape, h.output, h.size, fun k hk hq => h.blk k hk (fun e => hq (by rw [e]))⟩
theorem Fr.cell {q : Nat} {w w1 : World} (h : Fr q w w1) {r i : Nat} {v : Value} (hr : r ≠ q) (hc : w.cell? ⟨r, i, none⟩ = some v) : w1.cell? ⟨r, i, none⟩ = some v :=
  (World.cell?_of_block (w := w) (h.blk r (World.block_lt_of_cell? w _ hc) hr)).trans hc
/-- what a call of Is leaves -/
structure SP (g : Gr) (V : List Bool) (D : List Int) (m i : Nat) (E : List Int) : Prop where
  kn : Knows V E m
  kp : Kept D E (i + 1)
  at0 : E[i]! = if V[i]! = true then 2 else 1
  base : ∀ j, j < n0L g → E[j]! ≠ 0
theorem Kept.mono {D E : List Int} {m n : Nat} (h : Kept D E m) (hn : m ≤ n) : Kept D E n := ⟨h.1, fun j hj => h.2 j (by omega)⟩
theorem Kept.trans {D E F : List Int} {m : Nat} (h : Kept D E m) (h2 : Kept E F m) : Kept D F m := ⟨h2.1.trans h.1, fun j hj => (h2.2 j hj).trans (h.2 j hj)⟩
theorem sp_end {g : Gr} {V : List Bool} {D E : List Int} {i m : Nat} (hK : Knows V D m) (hi : i < D.length) (hg : n0L g ≤ i) (hE : Knows V E i) (hk : Kept (D.set i 1) E i) (hb : ∀ j, j < n0L g → E[j]! ≠ 0) (x : Int) (hx : x = if V[i]! = true then 2 else 1) : SP g V D m i (E.set i x) := by
  obtain ⟨h1, h2⟩ := knows_up hK hi hE hk x hx
  have hl : i < E.length := by have := hk.1; rw [List.length_set] at this; omega
  exact ⟨h1, h2, by rw [at_set E i i x hl, if_pos rfl]; exact hx, fun j hj => by rw [at_set E i j x hl, if_neg (by omega)]; exact hb j hj⟩
theorem sp_end1 {g : Gr} {V : List Bool} {D E : List Int} {i m : Nat} (hK : Knows V D m) (hi : i < D.length) (hg : n0L g ≤ i) (hE : Knows V E i) (hk : Kept (D.set i 1) E i) (hb : ∀ j, j < n0L g → E[j]! ≠ 0) (hx : V[i]! = false) : SP g V D m i E := by
  have hl : i < E.length := by have := hk.1; rw [List.length_set] at this; omega
  have h1 : E[i]! = 1 := by rw [hk.2 i (Nat.le_refl _), at_set D i i 1 hi, if_pos rfl]
  have := sp_end hK hi hg hE hk hb 1 (by rw [hx]; rfl)
  have e : E.set i 1 = E := by
    rw [← h1, getElem!_pos E i hl]; exact List.set_getElem_self hl
  rwa [e] at this
theorem kp5 {w w' : World} {p1 p2 p3 p4 p5 : Addr} {v1 v2 v3 v4 v5 : Value} (h : w.cell? p1 = some v1 ∧ w.cell? p2 = some v2 ∧ w.cell? p3 = some v3 ∧ w.cell? p4 = some v4 ∧ w.cell? p5 = some v5) (hb : Below w.heap.size w w') : w'.cell? p1 = some v1 ∧ w'.cell? p2 = some v2 ∧ w'.cell? p3 = some v3 ∧ w'.cell? p4 = some v4 ∧ w'.cell? p5 = some v5 :=
  have e : ∀ p v, w.cell? p = some v → w'.cell? p = some v := fun p v h => (hb.cell (World.block_lt_of_cell? w _ h)).trans h
  ⟨e _ _ h.1, e _ _ h.2.1, e _ _ h.2.2.1, e _ _ h.2.2.2.1, e _ _ h.2.2.2.2⟩
theorem band1 (l : Int) : bits BinOp.and IntKind.i64 l 1 = l % 2 := by
  show IntKind.i64.wrap (((BitVec.ofInt 64 l &&& BitVec.ofInt 64 1).toNat : Nat) : Int) = _
  rw [BitVec.toNat_and, show (BitVec.ofInt 64 1).toNat = 1 from rfl, Nat.and_one_is_mod, BitVec.toNat_ofInt, IntWalk.i64_in _ (by omega)]
  omega
theorem band1_is (l : Int) : (bits BinOp.and IntKind.i64 l 1 == 1) = decide (l % 2 = 1) := by rw [band1]; by_cases h : l % 2 = 1 <;> simp [h]
set_option maxRecDepth 100000 in
set_option maxHeartbeats 16000000 in
theorem is_any (g : Gr) (vg : VG g) (V : List Bool) (hV : V.length = n0L g + g.ands.length) (hVA : ∀ j, j < g.ands.length → V[n0L g + j]! = (litV V g.ands[j]!.1 && litV V g.ands[j]!.2)) (k q : Nat) (v1 v4 : Value) (a c d : Option Addr) (a' c' d' : Nat) (hd' : g.ands.length ≤ d') (w0 : World) (hR : RowAt 2 encN g.ands d w0) (hkq : k ≠ q) (hq : w0.heap.size ≤ q) : ∀ (f : Nat) (l : Int) (m : Nat) (D : List Int) (w : World), ndL l < f → 0 ≤ l → ndL l < n0L g + g.ands.length → ndL l < m → D.length = n0L g + g.ands.length → Knows V D m → (∀ j, j < n0L g → D[j]! ≠ 0) → SM g k q (.slice a g.ins.length a') v1 (.slice c g.regs.length c') (.slice d g.ands.length d') v4 w0 D w →
    Calls Try.prog 181 #[.pointer (some ⟨k, 0, none⟩), .int .i64 l] w fun e w' => ∃ E, e = .returned (.bool (litV V l)) ∧ SP g V D m (ndL l) E ∧ SM g k q (.slice a g.ins.length a') v1 (.slice c g.regs.length c') (.slice d g.ands.length d') v4 w0 E w' ∧ Fr q w w'
  | 0, l, m, D, w, hf, _, _, _, _, _, _, _ => by omega
  | f + 1, l, m, D, w, hf, hl0, hlN, hlm, hD, hK, hB0, S => by
    have ih := is_any g vg V hV hVA k q v1 v4 a c d a' c' d' hd' w0 hR hkq hq f
    have IH := Lib.hid ih
    clear ih
    have HN : n0L g = 1 + g.ins.length + g.regs.length := rfl
    have hi0 : 0 ≤ l / 2 := by omega
    have HNL := Lib.hid (show (l / 2).toNat = ndL l from rfl)
    have hbig : l / 2 < 5000 := by have := vg.ins; have := vg.regs; have := vg.ands; unfold ndL at hlN; omega
    have hi1 : l / 2 < ((n0L g + g.ands.length : Nat) : Int) := by unfold ndL at hlN; omega
    have a1 : w.cell? ⟨q, (l / 2).toNat, none⟩ = some (.int .u8 D[ndL l]!) := S.a.cell (j := ndL l) (by omega)
    have fr : w.frozen? ⟨q, (l / 2).toNat, none⟩ = false := S.a.free _
    have HS := Lib.hid S
    obtain ⟨sx, ss, sa, sb⟩ := id S
    obtain ⟨x0, x1, x2, x3, x4⟩ := id sx
    by_cases h0 : D[ndL l]! = 0
    · rw [h0] at a1
      have hge : n0L g ≤ ndL l := by
        by_cases hh : n0L g ≤ ndL l
        · exact hh
        · exact absurd h0 (hB0 _ (by omega))
      have hlt : ndL l - n0L g < g.ands.length := by omega
      have hlit := vg.lits _ hlt
      have hbl : baseL g = 2 * (1 + (g.ins.length : Int) + (g.regs.length : Int)) := rfl
      have hndl := ndL_int hl0
      have hwa : IntKind.i64.wrap (l / 2 - 1) = l / 2 - 1 := IntWalk.i64_in _ (by omega)
      have hwb : IntKind.i64.wrap (l / 2 - 1 - (g.ins.length : Int)) = l / 2 - 1 - (g.ins.length : Int) := IntWalk.i64_in _ (by have := vg.ins; omega)
      have hwc : IntKind.i64.wrap (l / 2 - 1 - (g.ins.length : Int) - (g.regs.length : Int)) = l / 2 - 1 - (g.ins.length : Int) - (g.regs.length : Int) := IntWalk.i64_in _ (by have := vg.ins; have := vg.regs; omega)
      obtain ⟨bd, od, hdd, hcell⟩ : ∃ bd od, d = some ⟨bd, od, none⟩ ∧ ∀ j, j < g.ands.length → ∀ c x, (encN g.ands[j]!)[c]? = some x → w0.cell? ⟨bd, od + j * 2 + c, none⟩ = some x := hR.pick (by omega)
      subst hdd
      have c0 := hcell _ hlt 0 _ rfl
      have c1 := hcell _ hlt 1 _ rfl
      simp only [Nat.add_zero] at c0
      clear hcell
      have hidx : ((l / 2).toNat - 1 - g.ins.length - g.regs.length) = ndL l - n0L g := by omega
      have hidx0 : 0 ≤ l / 2 - 1 - (g.ins.length : Int) - (g.regs.length : Int) := by omega
      have hidx1 : l / 2 - 1 - (g.ins.length : Int) - (g.regs.length : Int) < (g.ands.length : Int) := by omega
      have hva := hVA _ hlt
      rw [show n0L g + (ndL l - n0L g) = ndL l by omega] at hva
      generalize hp : g.ands[ndL l - n0L g]! = p at c0 c1 hlit hva
      rw [← hidx] at c0 c1
      obtain ⟨p1, p2⟩ := p
      simp only at c0 c1 hlit hva
      have l1 : ndL p1 < ndL l := by unfold ndL; omega
      have l2 : ndL p2 < ndL l := by unfold ndL; omega
      have cb0 := (sb.cell (p := ⟨bd, od + ((l / 2).toNat - 1 - g.ins.length - g.regs.length) * 2, none⟩) (World.block_lt_of_cell? w0 _ c0)).trans c0
      have cb1 := (sb.cell (p := ⟨bd, od + ((l / 2).toNat - 1 - g.ins.length - g.regs.length) * 2 + 1, none⟩) (World.block_lt_of_cell? w0 _ c1)).trans c1
      have HF := Lib.hid (And.intro hlit (And.intro l1 (And.intro l2 (And.intro hlt (And.intro hge (And.intro hK (And.intro hB0 (And.intro hlm (And.intro hlN (And.intro hD hva))))))))))
      have HVV := Lib.hid (And.intro hV hVA)
      have HNN := Lib.hid HN
      generalize hNN : n0L g + g.ands.length = N at ss hi1
      have HNQ := Lib.hid hNN
      clear hNN hlit l1 l2 hlt hge hK hB0 hlm hlN hD hva hV hVA HN hidx hp hbl hndl c0 c1 h0 S
      go_enter Try.func181, Try.ntmps181
      go_upto_region 3 with fail
      go_region_held (fun w' => w'.cell? ⟨k, 0, none⟩ = some (.slice a g.ins.length a') ∧ w'.cell? ⟨k, 2, none⟩ = some (.slice c g.regs.length c') ∧ w'.cell? ⟨k, 3, none⟩ = some (.slice (some ⟨bd, od, none⟩) g.ands.length d') ∧ w'.cell? ⟨bd, od + ((l / 2).toNat - 1 - g.ins.length - g.regs.length) * 2, none⟩ = some (.int .i64 p1) ∧ w'.cell? ⟨bd, od + ((l / 2).toNat - 1 - g.ins.length - g.regs.length) * 2 + 1, none⟩ = some (.int .i64 p2)) (first | exact ⟨x0, x2, x3, cb0, cb1⟩ | (refine kp5 (w := w) ⟨x0, x2, x3, cb0, cb1⟩ ?_; (repeat (first | (with_reducible exact Below.refl _ _) | (with_reducible exact Nat.le_refl _) | refine Below.drew ?_ | refine Below.alloc ?_ ?_ _ | refine Below.setCell ?_ ?_ _)) <;> (first | omega | (simp <;> omega)))) (fail)
      all_goals (
        have b3 : Below w.heap.size w (w.alloc (.cells #[.int .i64 p1, .int .i64 p2] 137)).drew := ((Below.refl _ w).alloc (Nat.le_refl _) _).drew
        have y0 : (w.alloc (.cells #[.int .i64 p1, .int .i64 p2] 137)).drew.cell? ⟨w.heap.size, 0, none⟩ = some (.int .i64 p1) := by go_simp
        have y1 : (w.alloc (.cells #[.int .i64 p1, .int .i64 p2] 137)).drew.cell? ⟨w.heap.size, 1, none⟩ = some (.int .i64 p2) := by go_simp
        have S3 := HS.out.below b3
        have F3 := Lib.hid ((Fr.refl q w).below b3)
        have hrq : w.heap.size ≠ q := by have := sa.lt; omega
        generalize (w.alloc (.cells #[.int .i64 p1, .int .i64 p2] 137)).drew = W3 at b3 y0 y1 S3 F3 ⊢
        generalize hr : w.heap.size = r at y0 y1 hrq ⊢
        clear hr x0 x1 x2 x3 x4 sx ss sa sb a1 fr cb0 cb1 b3
        have HS3 := Lib.hid S3
        obtain ⟨sx, ss, sa, sb⟩ := S3
        have fr3 : W3.frozen? ⟨q, (l / 2).toNat, none⟩ = false := sa.free _
        have a3 : W3.cell? ⟨q, (l / 2).toNat, none⟩ = some (.int .u8 D[ndL l]!) := sa.cell (j := ndL l) (by have := HF.out; omega)
        obtain ⟨x0, x1, x2, x3, x4⟩ := id sx
        rw [HNQ.out] at ss
        go_upto_region 5 with fail
        obtain ⟨hlit, l1, l2, hlt, hge, hK, hB0, hlm, hlN, hD, hva⟩ := HF.out
        have HS4 := Lib.hid (show SM g k q (.slice a g.ins.length a') v1 (.slice c g.regs.length c') (.slice (some ⟨bd, od, none⟩) g.ands.length d') v4 w0 (D.set (ndL l) 1) (W3.setCell ⟨q, (l / 2).toNat, none⟩ (.int .u8 1)) from HS3.out.set hkq hq (l / 2).toNat 1)
        have HF4 := Lib.hid (F3.out.set (l / 2).toNat (.int .u8 1))
        have z0 := (Fr.cell ((Fr.refl q W3).set (l / 2).toNat (.int .u8 1)) hrq y0)
        have z1 := (Fr.cell ((Fr.refl q W3).set (l / 2).toNat (.int .u8 1)) hrq y1)
        have hD1 : (D.set (ndL l) 1).length = n0L g + g.ands.length := by rw [List.length_set]; exact hD
        have hK1 : Knows V (D.set (ndL l) 1) (ndL l) := (hK.mono (by omega)).set' (by omega) 1 (Nat.le_refl _)
        have hB1 : ∀ j, j < n0L g → (D.set (ndL l) 1)[j]! ≠ 0 := fun j hj => by rw [at_set D _ j 1 (by omega), if_neg (by omega)]; exact hB0 j hj
        have HC1 := Lib.hid (fun W hW => IH.out p1 (ndL l) (D.set (ndL l) 1) W (by omega) hlit.1.1 (by omega) l1 hD1 hK1 hB1 hW)
        have HC2 := Lib.hid (fun E W (hP : SP g V (D.set (ndL l) 1) (ndL l) (ndL p1) E) hW => IH.out p2 (ndL l) E W (by omega) hlit.2.1 (by omega) l2 (hP.kp.1.trans hD1) hP.kn hP.base hW)
        have HEa := Lib.hid (fun E (hP : SP g V (D.set (ndL l) 1) (ndL l) (ndL p1) E) (hb : V[ndL l]! = false) => sp_end1 (D := D) (m := m) hK (by omega) hge hP.kn (hP.kp.mono (by omega)) hP.base hb)
        have HEb := Lib.hid (fun E1 E (hP : SP g V (D.set (ndL l) 1) (ndL l) (ndL p1) E1) (hP2 : SP g V E1 (ndL l) (ndL p2) E) (hb : V[ndL l]! = false) => sp_end1 (D := D) (m := m) hK (by omega) hge hP2.kn ((hP.kp.mono (by omega)).trans (hP2.kp.mono (by omega))) hP2.base hb)
        have HEc := Lib.hid (fun E1 E (hP : SP g V (D.set (ndL l) 1) (ndL l) (ndL p1) E1) (hP2 : SP g V E1 (ndL l) (ndL p2) E) (hb : V[ndL l]! = true) => sp_end (D := D) (m := m) hK (by omega) hge hP2.kn ((hP.kp.mono (by omega)).trans (hP2.kp.mono (by omega))) hP2.base 2 (by rw [hb]; rfl))
        have HLN := Lib.hid (show ndL l < D.length by omega)
        have HVA := Lib.hid hva
        clear hlit l1 l2 hlt hge hK hB0 hlm hlN hD hva hD1 hK1 hB1 IH HF HVV HNN HS3 F3 x0 x1 x2 x3 x4 sx ss sa sb a3 fr3 y0 y1
        generalize W3.setCell ⟨q, (l / 2).toNat, none⟩ (.int .u8 1) = W4 at HS4 HF4 z0 z1 ⊢
        cases hb1 : litV V p1 with
        | false =>
          have hv : V[ndL l]! = false := by rw [HVA.out, hb1]; rfl
          rw [hb1] at HC1
          clear HVA HC2 HEb HEc HS hb1
          go_wp2_with fail
          refine (HC1.out _ HS4.out).mono ?_
          rintro e W5 ⟨E1, rfl, hP1, hS5, hF5⟩
          clear HC1 z0 z1
          skip
          obtain ⟨sx, ss, sa, sb⟩ := id hS5
          obtain ⟨x0, x1, x2, x3, x4⟩ := id sx
          rw [HNQ.out] at ss
          have HSP := Lib.hid (HEa.out E1 hP1 hv)
          have a5 : W5.cell? ⟨q, (l / 2).toNat, none⟩ = some (.int .u8 1) := (sa.cell (j := ndL l) (by have := HSP.out.kp.1; have := HLN.out; omega)).trans (by rw [HSP.out.at0, hv]; rfl)
          have HL := Lib.hid (show litV V l = (V[ndL l]! != decide (l % 2 = 1)) from rfl)
          have HVF := Lib.hid (show V[ndL l]! = false from hv)
          have HFF := Lib.hid (HF4.out.trans hF5)
          have HSS := Lib.hid hS5
          clear hS5
          go_wp2_with fail
          go_ret
          exact ⟨E1, ret_bool (by rw [HL.out, HVF.out, ← band1_is]; simp), HSP.out, HSS.out, HFF.out⟩
        | true =>
          rw [hb1] at HC1
          clear HEa HS
          go_wp2_with fail
          refine (HC1.out _ HS4.out).mono ?_
          rintro e W5 ⟨E1, rfl, hP1, hS5, hF5⟩
          have z5 := hF5.cell hrq z1
          clear HC1 z0 z1
          cases hb2 : litV V p2 with
          | false =>
            have hv : V[ndL l]! = false := by rw [HVA.out, hb1, hb2]; rfl
            rw [hb2] at HC2
            clear HVA HEc hb1 hb2
            go_wp2_with fail
            refine (HC2.out E1 _ hP1 hS5).mono ?_
            rintro e W6 ⟨E2, rfl, hP2, hS6, hF6⟩
            clear HC2 z5
            obtain ⟨sx, ss, sa, sb⟩ := id hS6
            obtain ⟨x0, x1, x2, x3, x4⟩ := id sx
            rw [HNQ.out] at ss
            have HSP := Lib.hid (HEb.out E1 E2 hP1 hP2 hv)
            have a5 : W6.cell? ⟨q, (l / 2).toNat, none⟩ = some (.int .u8 1) := (sa.cell (j := ndL l) (by have := HSP.out.kp.1; have := HLN.out; omega)).trans (by rw [HSP.out.at0, hv]; rfl)
            have HL := Lib.hid (show litV V l = (V[ndL l]! != decide (l % 2 = 1)) from rfl)
            have HVF := Lib.hid (show V[ndL l]! = false from hv)
            have HFF := Lib.hid (HF4.out.trans (hF5.trans hF6))
            have HSS := Lib.hid hS6
            clear hS6
            go_wp2_with fail
            go_ret
            exact ⟨E2, ret_bool (by rw [HL.out, HVF.out, ← band1_is]; simp), HSP.out, HSS.out, HFF.out⟩
          | true =>
            have hv : V[ndL l]! = true := by rw [HVA.out, hb1, hb2]; rfl
            rw [hb2] at HC2
            clear HVA HEb hb1 hb2
            go_wp2_with fail
            refine (HC2.out E1 _ hP1 hS5).mono ?_
            rintro e W6 ⟨E2, rfl, hP2, hS6, hF6⟩
            clear HC2 z5
            have HSP := Lib.hid (HEc.out E1 E2 hP1 hP2 hv)
            obtain ⟨sx, ss, sa, sb⟩ := id hS6
            obtain ⟨x0, x1, x2, x3, x4⟩ := id sx
            rw [HNQ.out] at ss
            have fr6 : W6.frozen? ⟨q, (l / 2).toNat, none⟩ = false := sa.free _
            have a6 : W6.cell? ⟨q, (l / 2).toNat, none⟩ = some (.int .u8 E2[ndL l]!) := sa.cell (j := ndL l) (by have := HSP.out.kp.1; rw [List.length_set] at this; have := HLN.out; omega)
            have HS7 := Lib.hid (show SM g k q (.slice a g.ins.length a') v1 (.slice c g.regs.length c') (.slice (some ⟨bd, od, none⟩) g.ands.length d') v4 w0 (E2.set (ndL l) 2) (W6.setCell ⟨q, (l / 2).toNat, none⟩ (.int .u8 2)) from hS6.set hkq hq (l / 2).toNat 2)
            have HF7 := Lib.hid ((HF4.out.trans (hF5.trans hF6)).set (l / 2).toNat (.int .u8 2))
            have HL := Lib.hid (show litV V l = (V[ndL l]! != decide (l % 2 = 1)) from rfl)
            have HVF := Lib.hid hv
            go_upto_region 7 with fail
            clear sx ss sa sb x0 x1 x2 x3 x4 fr6 a6 hS5 hS6 hF5 hF6 hP1 hP2 hv
            generalize W6.setCell ⟨q, (l / 2).toNat, none⟩ (.int .u8 2) = W7 at HS7 HF7 ⊢
            obtain ⟨sx, ss, sa, sb⟩ := id HS7.out
            obtain ⟨x0, x1, x2, x3, x4⟩ := id sx
            rw [HNQ.out] at ss
            have a7 : W7.cell? ⟨q, (l / 2).toNat, none⟩ = some (.int .u8 2) := (sa.cell (j := ndL l) (by have := HSP.out.kp.1; have := HLN.out; omega)).trans (by rw [HSP.out.at0, HVF.out]; rfl)
            go_wp2_with fail
            go_ret
            exact ⟨E2.set (ndL l) 2, ret_bool (by rw [HL.out, HVF.out, ← band1_is]; simp), HSP.out, HS7.out, HF7.out⟩)
    · have hd0 : D[ndL l]! = if V[ndL l]! = true then 2 else 1 := (hK _ hlm).resolve_left h0
      have HSP := Lib.hid (show SP g V D m (ndL l) D from ⟨hK, ⟨rfl, fun _ _ => rfl⟩, hd0, hB0⟩)
      have HL := Lib.hid (show litV V l = (V[ndL l]! != decide (l % 2 = 1)) from rfl)
      rw [hd0] at a1
      generalize n0L g + g.ands.length = N at *
      clear S hD hV hVA hK hB0 HN hlN hlm hd0 h0
      generalize V[ndL l]! = b at a1 HL
      cases b with
      | true =>
        simp only [if_true] at a1
        go_enter Try.func181, Try.ntmps181
        go_wp2_with fail
        go_ret
        exact ⟨D, ret_bool (by rw [HL.out, ← band1_is]; simp), HSP.out, HS.out, Fr.refl _ _⟩
      | false =>
        simp only [Bool.false_eq_true, if_false] at a1
        go_enter Try.func181, Try.ntmps181
        go_wp2_with fail
        go_ret
        exact ⟨D, ret_bool (by rw [HL.out, ← band1_is]; simp), HSP.out, HS.out, Fr.refl _ _⟩
end Go.Proofs.Ytcpifmhcebfglaa
