/- One cycle of a valid graph: the reference's Cycle. -/
import Derived.Test.YtbphhcjepeamcaaGrNs
namespace Go.Proofs.Ytbphhcjepeamcaa
open Go Go.RowKit Go.Sort
set_option linter.unusedVariables false
/-- a sheet that knows only what is so -/
structure SK (g : Gr) (V : List Bool) (k q : Nat) (v0 v1 v2 v3 v4 : Value) (w0 w : World) : Prop where
  all : ∃ E, SM g k q v0 v1 v2 v3 v4 w0 E w ∧ E.length = n0L g + g.ands.length ∧ Knows V E (n0L g + g.ands.length) ∧ ∀ j, j < n0L g → E[j]! ≠ 0
theorem SK.below {g : Gr} {V : List Bool} {k q : Nat} {v0 v1 v2 v3 v4 : Value} {w0 w w' : World} (h : SK g V k q v0 v1 v2 v3 v4 w0 w) (hb : Below w.heap.size w w') : SK g V k q v0 v1 v2 v3 v4 w0 w' := by
  obtain ⟨E, h1, h2⟩ := h.all
  exact ⟨E, h1.below hb, h2⟩
theorem SK.mono {B : Nat} {g : Gr} {V : List Bool} {k q : Nat} {v0 v1 v2 v3 v4 : Value} {w0 w w' : World} (h : SK g V k q v0 v1 v2 v3 v4 w0 w) (hb : Below B w w') (hk : k < B) (hq : q < B) (h0 : w0.heap.size ≤ B) : SK g V k q v0 v1 v2 v3 v4 w0 w' := by
  obtain ⟨E, h1, h2⟩ := h.all
  exact ⟨E, ⟨h1.x.mono hb hk, (hb.cell (p := ⟨k, 5, none⟩) hk).trans h1.s, h1.a.mono hb hq, h1.bel.trans (hb.mono h0)⟩, h2⟩
theorem SK.klt {g : Gr} {V : List Bool} {k q : Nat} {v0 v1 v2 v3 v4 : Value} {w0 w : World} (h : SK g V k q v0 v1 v2 v3 v4 w0 w) : k < w.heap.size := by
  obtain ⟨E, h1, h2⟩ := h.all
  exact h1.x.lt
theorem SK.bel {g : Gr} {V : List Bool} {k q : Nat} {v0 v1 v2 v3 v4 : Value} {w0 w : World} (h : SK g V k q v0 v1 v2 v3 v4 w0 w) : Below w0.heap.size w0 w := by
  obtain ⟨E, h1, h2⟩ := h.all
  exact h1.bel
theorem SK.qlt {g : Gr} {V : List Bool} {k q : Nat} {v0 v1 v2 v3 v4 : Value} {w0 w : World} (h : SK g V k q v0 v1 v2 v3 v4 w0 w) : q < w.heap.size := by
  obtain ⟨E, h1, h2⟩ := h.all
  exact h1.a.lt
theorem is_sk (g : Gr) (vg : VG g) (V : List Bool) (hV : V.length = n0L g + g.ands.length) (hVA : ∀ j, j < g.ands.length → V[n0L g + j]! = (litV V g.ands[j]!.1 && litV V g.ands[j]!.2)) (k q : Nat) (v1 v4 : Value) (a c d : Option Addr) (a' c' d' : Nat) (hd' : g.ands.length ≤ d') (w0 : World) (hR : RowAt 2 encN g.ands d w0) (hkq : k ≠ q) (hq : w0.heap.size ≤ q) (l : Int) (h0 : 0 ≤ l) (h1 : l < allL g) (w : World) (S : SK g V k q (.slice a g.ins.length a') v1 (.slice c g.regs.length c') (.slice d g.ands.length d') v4 w0 w) :
    Calls Try.prog 40 #[.pointer (some ⟨k, 0, none⟩), .int .i64 l] w fun e w' => e = .returned (.bool (litV V l)) ∧ SK g V k q (.slice a g.ins.length a') v1 (.slice c g.regs.length c') (.slice d g.ands.length d') v4 w0 w' ∧ Fr q w w' := by
  obtain ⟨E, s, hl, hk, hb⟩ := S.all
  have hln : ndL l < n0L g + g.ands.length := by
    have hal : allL g = 2 * (1 + (g.ins.length : Int) + (g.regs.length : Int) + (g.ands.length : Int)) := by unfold allL baseL; omega
    unfold ndL n0L; omega
  refine (is_any g vg V hV hVA k q v1 v4 a c d a' c' d' hd' w0 hR hkq hq _ l _ E w hln h0 hln hln hl hk hb s).mono ?_
  rintro e w' ⟨F, rfl, hP, hS, hF⟩
  exact ⟨rfl, ⟨F, hS, hP.kp.1.trans hl, hP.kn, hP.base⟩, hF⟩
theorem one_row {α : Type} [Inhabited α] (f : α → Value) (x : α) (W : World) (t : TypeId) : RowAt 1 (fun x => [f x]) [x] (some ⟨W.heap.size, 0, none⟩) (W.alloc (.cells #[f x] t)) := by
  refine .inr ⟨_, 0, rfl, fun j hj c y hy => ?_⟩
  have hj0 : j = 0 := by simpa using hj
  subst hj0
  match c, hy with
  | 0, hy => simp only [List.getElem?_cons_zero, Option.some.injEq] at hy; subst hy; go_simp
  | c + 1, hy => simp at hy
theorem Own.fr {B : Nat} {t : TypeId} {α : Type} {f : α → Value} {q : Nat} {w w' : World} {v : Value} {l : List α} (h : Own B t f w v l) (hF : Fr q w w') (hq : q < B) : Own B t f w' v l :=
  World.ownsRow.kept (row := some q) h hF.grown (by
    cases hv : v.ownBlock with
    | none => exact .inl rfl
    | some b => exact .inr (fun e => by injection e with e; have := (World.ownsRow.lt h b hv).1; omega))
/-- what a cycle of a graph shows, and what it leads to -/
def shows (g : Gr) (ins st : List Bool) : List Bool := g.outs.map (litV (valsG g (false :: (ins ++ st))))
def nexts (g : Gr) (ins st : List Bool) : List Bool := g.regs.map (fun r => litV (valsG g (false :: (ins ++ st))) r.nx)
set_option maxRecDepth 100000 in
set_option maxHeartbeats 16000000 in
theorem cycle_any (g : Gr) (v vi vs : Value) (ins st : List Bool) (vg : VG g) (hi : ins.length = g.ins.length) (hst : st.length = g.regs.length) (hon : g.outs.length ≤ 4000) (w : World) (hG : GO g v w) (h1 : RowC (fun b => Value.bool b) ins vi w) (h2 : RowC (fun b => Value.bool b) st vs w) : Calls Try.prog 38 #[v, vi, vs] w fun e w' => ∃ vo vn, e = .returned (.tuple #[vo, vn]) ∧ (∃ B, Own B 4 (fun b => Value.bool b) w' vo (shows g ins st)) ∧ (∃ B, Own B 4 (fun b => Value.bool b) w' vn (nexts g ins st)) ∧ Below w.heap.size w w' := by
  have hx : (false :: (ins ++ st)).length = n0L g := by simp only [List.length_cons, List.length_append, hi, hst]; unfold n0L; omega
  have HSH := Lib.hid (show shows g ins st = g.outs.map (litV (valsG g (false :: (ins ++ st)))) from rfl)
  have HNX := Lib.hid (show nexts g ins st = g.regs.map (fun r => litV (valsG g (false :: (ins ++ st))) r.nx) from rfl)
  have hV := valsG_len g _ hx
  have hVA := vals_at g vg _ hx
  have hKn := dSt_knows g (ins ++ st) (by simpa [Nat.add_comm] using hx)
  have hBs := dSt_base g (ins ++ st) (by simpa [Nat.add_comm] using hx)
  have hDl := dSt_len (n0L g + g.ands.length) (ins ++ st) (ins ++ st).length
  generalize valsG g (false :: (ins ++ st)) = V at HSH HNX hV hVA hKn
  obtain ⟨a, b, c, d0, e, a', b', c', d', e', rfl, hC, hA⟩ := hG.all
  have n1 := vg.ins
  have n2 := vg.regs
  have n3 := vg.ands
  go_enter Try.func38, Try.ntmps38
  go_upto_region 1 with fail
  have bel := (Below.refl w.heap.size w).alloc (Nat.le_refl _) (.cells #[.slice a g.ins.length a', .slice b g.outN.length b', .slice c g.regs.length c', .slice d0 g.ands.length d', .slice e g.outs.length e'] 28)
  have X := GX.new w (.slice a g.ins.length a') (.slice b g.outN.length b') (.slice c g.regs.length c') (.slice d0 g.ands.length d') (.slice e g.outs.length e') 28
  have hG0 := hG.below bel
  have h10 := h1.below bel
  have h20 := h2.below bel
  have hA0 := hA.below bel
  generalize w.alloc (.cells #[.slice a g.ins.length a', .slice b g.outN.length b', .slice c g.regs.length c', .slice d0 g.ands.length d', .slice e g.outs.length e'] 28) = W0 at bel X hG0 h10 h20 hA0 ⊢
  generalize hk : w.heap.size = k at X ⊢
  have HK := Lib.hid hk
  clear hk
  have hkw := X.lt
  obtain ⟨x0, x1, x2, x3, x4⟩ := id X
  have HNS := Lib.hid (newSheet_any g _ vi vs ins st vg hi hst W0 hG0 h10 h20)
  clear hG hG0 h1 h2 h10 h20 hA
  go_wp2_with fail
  refine HNS.out.mono ?_
  rintro en W1 ⟨⟨k1, q, sa, sb, sc, sd, se, sa', sb', sc', sd', se', rfl, hkq, hwq, hwk, hA2, hC2, S⟩⟩
  have S1 : SK g V k1 q (.slice sa g.ins.length sa') (.slice sb g.outN.length sb') (.slice sc g.regs.length sc') (.slice sd g.ands.length sd') (.slice se g.outs.length se') W0 W1 := ⟨_, S, hDl, hKn, hBs⟩
  have HI := Lib.hid (fun l h0 h1 W hS => is_sk g vg V hV hVA k1 q (.slice sb g.outN.length sb') (.slice se g.outs.length se') sa sc sd sa' sc' sd' hC2.ands W0 hA2.ands hkq hwq l h0 h1 W hS)
  generalize Value.slice sa g.ins.length sa' = va at S1 HI
  generalize Value.slice sb g.outN.length sb' = vb at S1 HI
  generalize Value.slice sc g.regs.length sc' = vc at S1 HI
  generalize Value.slice sd g.ands.length sd' = vd at S1 HI
  generalize Value.slice se g.outs.length se' = ve at S1 HI
  clear S hDl hKn hBs hV hVA hx HNS hA2 hC2 hi hst
  obtain ⟨i0, hi0, hz0, hz1, hz2⟩ := infoB_parts
  have hq1 : q < W1.heap.size := S1.qlt
  have hown0 : Own W1.heap.size 4 (fun b => Value.bool b) W1 (.slice none 0 0) ([] : List Bool) := World.ownsRow_nil W1 W1.heap.size 4 1
  have hk1 : k1 < W1.heap.size := S1.klt
  have hw1 : W0.heap.size ≤ W1.heap.size := S1.bel.size
  have HX0 := Lib.hid X
  replace X := X.below S1.bel
  have HO := Lib.hid vg.out
  have HX := Lib.hid vg.next
  clear x0 x1 x2 x3 x4
  obtain ⟨x0, x1, x2, x3, x4⟩ := id X
  go_upto_block 0 with fail
  go_wp2_with fail
  go_loopw [6, 20] (fun u i wr => ∃ j : Nat, j ≤ g.outs.length ∧ i = .int .i64 (j : Int) ∧ Hid (Own W1.heap.size 4 (fun b => Value.bool b) wr u ((g.outs.take j).map (litV V))) ∧ Hid (SK g V k1 q va vb vc vd ve W0 wr) ∧ W1.heap.size ≤ wr.heap.size) (fun _ i _ => g.outs.length - (intOf i).toNat)
  case atStart => exact ⟨0, Nat.zero_le _, rfl, Lib.hid hown0, Lib.hid S1, Nat.le_refl _⟩
  case round =>
    obtain ⟨j, hj, rfl, hO, hS, hL⟩ := hrel
    rename World => WR
    clear x0 x1 x2 x3 x4 S1 hown0 X
    have hj0 : (0 : Int) ≤ (j : Int) := by omega
    by_cases hlt : j < g.outs.length
    · have hji : (j : Int) < (g.outs.length : Int) := by omega
      have HT := Lib.hid (show (g.outs.take (j + 1)).map (litV V) = (g.outs.take j).map (litV V) ++ [litV V g.outs[j]!] by rw [tk1 g.outs hlt, List.map_append]; rfl)
      have hr := HO.out g.outs[j]! (by rw [getElem!_pos g.outs j hlt]; exact List.getElem_mem hlt)
      have hML : ((g.outs.take j).map (litV V)).length ≤ 4000 := by simp; omega
      obtain ⟨bb, oo, rfl, hcell⟩ := (hA0.outs.below hS.out.bel).pick (by omega)
      have c0 := hcell j hlt 0 _ rfl
      simp only [Nat.mul_one, Nat.add_zero] at c0
      clear hcell
      have HC := Lib.hid (fun W hW => HI.out g.outs[j]! hr.1 hr.2 W hW)
      generalize g.outs[j]! = l at c0 HC HT
      generalize litV V l = bl at HC HT
      generalize (g.outs.take j).map (litV V) = L at hO HT hML
      obtain ⟨ad, cpv, hv⟩ := hO.out.slice
      subst hv
      go_wp2_with fail
      refine (HC.out _ hS.out).mono ?_
      rintro en W3 ⟨rfl, hS3, hF3⟩
      have O3 := hO.out.fr hF3 hq1
      have O4 := O3.below ((Below.refl _ W3).alloc (Nat.le_refl _) (.cells #[.bool bl] 4))
      have h4 := Nat.le_trans hL hF3.size
      clear c0 hO hS O3
      go_wp2_with (at_builtin; refine wpList_append_row (f := fun b : Bool => Value.bool b) (fun _ => rfl) rfl _ _ 53 rfl W1.heap.size 4 i0 (.bool false) 1 Try.underlying53 hi0 hz0 hz1 hz2 (by decide) _ L rfl O4 (some ⟨W3.heap.size, 0, none⟩) [bl] 1 rfl (fun h => by cases h) (Nat.le_refl _) (one_row (fun b : Bool => Value.bool b) bl W3 4) (show L.length + 1 ≤ maxLen by unfold maxLen; omega) (show (L.length + 1) * 1 ≤ 140737488355328 by omega) (by first | omega | (simp; omega)) ?_)
      intro v5 w5 hO5 hb5
      have b5 : Below W1.heap.size W3 w5 := ((Below.refl _ W3).alloc h4 _).trans hb5
      have HS5 := Lib.hid (hS3.mono b5 hk1 hq1 hw1)
      have h5 := Nat.le_trans h4 b5.size
      have HO5 := Lib.hid (show Own W1.heap.size 4 (fun b => Value.bool b) w5 v5 (L ++ [bl]) from hO5)
      rw [← HT.out] at HO5
      clear hO5 hb5 b5 hS3 hF3 O4 HC
      go_wp2_with fail
      go_roundw
      case rel => exact ⟨j + 1, by omega, by go_num, HO5, HS5, h5⟩
      all_goals first | done | (simp [intOf]; done) | (simp [intOf]; omega)
    · have hji : ¬ (j : Int) < (g.outs.length : Int) := by omega
      have HOo := Lib.hid (show Own W1.heap.size 4 (fun b => Value.bool b) WR _ (shows g ins st) by rw [HSH.out]; have := hO.out; rwa [List.take_of_length_le (by omega)] at this)
      obtain ⟨ad, cpv, hv⟩ := HOo.out.slice
      subst hv
      have X := HX0.out.mono hS.out.bel hkw
      obtain ⟨x0, x1, x2, x3, x4⟩ := id X
      have hsb : ∀ b, (Value.slice ad (shows g ins st).length cpv).ownBlock = some b → b < WR.heap.size := fun b hb => (World.ownsRow.lt HOo.out b hb).2
      have hown0 : Own WR.heap.size 4 (fun b => Value.bool b) WR (.slice none 0 0) ([] : List Bool) := World.ownsRow_nil WR WR.heap.size 4 1
      have hqB : q < WR.heap.size := by omega
      have hkB : k1 < WR.heap.size := by omega
      have hwB : W0.heap.size ≤ WR.heap.size := by omega
      clear hO X
      go_upto_block 2 with fail
      clear x0 x1 x2 x3 x4
      go_wp2_with fail
      have HSB := Lib.hid hsb
      clear hsb
      generalize hB : WR.heap.size = B at hown0 HSB hqB hkB hwB
      have hL := (show B ≤ WR.heap.size by omega)
      clear hB
      go_loopw [7, 34] (fun u i wr => ∃ j : Nat, j ≤ g.regs.length ∧ i = .int .i64 (j : Int) ∧ Hid (Own B 4 (fun b => Value.bool b) wr u ((g.regs.take j).map (fun r => litV V r.nx))) ∧ Hid (SK g V k1 q va vb vc vd ve W0 wr) ∧ Hid (Own W1.heap.size 4 (fun b => Value.bool b) wr (.slice ad (shows g ins st).length cpv) (shows g ins st)) ∧ B ≤ wr.heap.size) (fun _ i _ => g.regs.length - (intOf i).toNat)
      case atStart => exact ⟨0, Nat.zero_le _, rfl, Lib.hid hown0, hS, HOo, hL⟩
      case round =>
        clear hown0 hS HOo hL
        obtain ⟨j, hj, rfl, hO, hS, hOo, hL⟩ := hrel
        rename World => WR
        have hj0 : (0 : Int) ≤ (j : Int) := by omega
        by_cases hlt : j < g.regs.length
        · have hji : (j : Int) < (g.regs.length : Int) := by omega
          have HT := Lib.hid (show (g.regs.take (j + 1)).map (fun r => litV V r.nx) = (g.regs.take j).map (fun r => litV V r.nx) ++ [litV V g.regs[j]!.nx] by rw [tk1 g.regs hlt, List.map_append]; rfl)
          have hr := HX.out g.regs[j]! (by rw [getElem!_pos g.regs j hlt]; exact List.getElem_mem hlt)
          have hML : ((g.regs.take j).map (fun r => litV V r.nx)).length ≤ 4000 := by simp; omega
          obtain ⟨bb, oo, rfl, hcell⟩ := (hA0.regs.below hS.out.bel).pick (by omega)
          have c0 := hcell j hlt 0 _ rfl
          have c1 := hcell j hlt 1 _ rfl
          have c2 := hcell j hlt 2 _ rfl
          simp only [Nat.add_zero] at c0
          clear hcell
          have HC := Lib.hid (fun W hW => HI.out g.regs[j]!.nx hr.1 hr.2 W hW)
          generalize g.regs[j]! = r at c0 c1 c2 HC HT hr
          generalize (g.regs.take j).map (fun r => litV V r.nx) = L at hO HT hML
          have hbl := World.block_lt_of_cell? WR _ c0
          go_upto_region 10 with fail
          have p1 : (WR.alloc (Obj.cells #[Value.string r.nm, Value.int IntKind.i64 r.nx, Value.bool r.it] 89)).cell? ⟨WR.heap.size, 1, none⟩ = some (.int .i64 r.nx) := by go_simp
          have bb3 : Below WR.heap.size WR (WR.alloc (Obj.cells #[Value.string r.nm, Value.int IntKind.i64 r.nx, Value.bool r.it] 89)) := (Below.refl _ WR).alloc (Nat.le_refl _) _
          have O2 := hO.out.below bb3
          have Oo2 := hOo.out.below bb3
          have S2 := hS.out.below bb3
          have hL2 := Nat.le_trans hL bb3.size
          generalize WR.alloc (Obj.cells #[Value.string r.nm, Value.int IntKind.i64 r.nx, Value.bool r.it] 89) = W2 at p1 O2 Oo2 S2 hL2 ⊢
          generalize WR.heap.size = rr at p1 ⊢
          generalize r.nx = l at p1 HC HT hr ⊢
          generalize litV V l = bl at HC HT
          clear c0 c1 c2 hO hS hOo hL hbl bb3
          obtain ⟨ad2, cpv2, hv⟩ := O2.slice
          subst hv
          have HO2 := Lib.hid O2
          have HOo2 := Lib.hid Oo2
          have HS2 := Lib.hid S2
          clear O2 Oo2 S2
          go_wp2_with fail
          refine (HC.out _ HS2.out).mono ?_
          rintro en W3 ⟨rfl, hS3, hF3⟩
          have O3 := HO2.out.fr hF3 hqB
          have Oo3 := HOo2.out.fr hF3 hq1
          have O4 := O3.below ((Below.refl _ W3).alloc (Nat.le_refl _) (.cells #[.bool bl] 4))
          have h4 := Nat.le_trans hL2 hF3.size
          clear p1 O3
          go_wp2_with (at_builtin; refine wpList_append_row2 (f := fun b : Bool => Value.bool b) (fun _ => rfl) rfl _ _ 53 rfl B 4 i0 (.bool false) 1 Try.underlying53 hi0 hz0 hz1 hz2 (by decide) _ L rfl O4 (some ⟨W3.heap.size, 0, none⟩) [bl] 1 rfl (fun h => by cases h) (Nat.le_refl _) (one_row (fun b : Bool => Value.bool b) bl W3 4) (show L.length + 1 ≤ maxLen by unfold maxLen; omega) (show (L.length + 1) * 1 ≤ 140737488355328 by omega) (by first | omega | (simp; omega)) ?_)
          have Oo4 := Oo3.below ((Below.refl _ W3).alloc (Nat.le_refl _) (.cells #[.bool bl] 4))
          intro v5 w5 hO5 hb5 hg5
          have HOo5 := Lib.hid (Oo4.beside O4 HSB.out hg5)
          have b5 : Below B W3 w5 := ((Below.refl _ W3).alloc h4 _).trans hb5
          have HS5 := Lib.hid (hS3.mono b5 hkB hqB hwB)
          have h5 := Nat.le_trans h4 b5.size
          have HO5 := Lib.hid (show Own B 4 (fun b => Value.bool b) w5 v5 (L ++ [bl]) from hO5)
          rw [← HT.out] at HO5
          clear hO5 hb5 hg5 b5 hS3 hF3 O4 Oo3 Oo4 HC HO2 HOo2 HS2
          go_wp2_with fail
          go_roundw
          case rel => exact ⟨j + 1, by omega, by go_num, HO5, HS5, HOo5, h5⟩
          all_goals first | done | (simp [intOf]; done) | (simp [intOf]; omega)
        · have hji : ¬ (j : Int) < (g.regs.length : Int) := by omega
          have HOn := Lib.hid (show Own B 4 (fun b => Value.bool b) WR _ (nexts g ins st) by rw [HNX.out]; have := hO.out; rwa [List.take_of_length_le (by omega)] at this)
          have HBE := Lib.hid (bel.trans (hS.out.bel.mono bel.size))
          go_wp2_with fail
          go_ret2
          exact ⟨_, _, rfl, ⟨_, hOo.out⟩, ⟨_, HOn.out⟩, HBE.out⟩
end Go.Proofs.Ytbphhcjepeamcaa
