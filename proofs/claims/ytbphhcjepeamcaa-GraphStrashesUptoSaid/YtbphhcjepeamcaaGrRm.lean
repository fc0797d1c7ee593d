/- A graph of which only some ands are kept: the reference's Renumbered, its first loop. -/
import Derived.Test.YtbphhcjepeamcaaGrRn
import Derived.Test.YtbphhcjepeamcaaRelC
import Derived.Test.YtbphhcjepeamcaaGrTf
namespace Go.Proofs.Ytbphhcjepeamcaa
open Go Go.RowKit Go.Sort
set_option linter.unusedVariables false
abbrev fV (v : Value) : Value := v
theorem Arr.grown {T t2 : TypeId} {α : Type} {f : α → Value} {q B k n : Nat} {l : List α} {w w' : World} {v : Value} {xs : List Value} (h : Arr T f q l w) (h2 : w.ownsRow B t2 k v n xs) (ht : T ≠ t2) (hg : w.grownBy w' v.ownBlock) : Arr T f q l w' := by
  refine ⟨(hg.block q h.lt (fun e => ?_)).trans h.blk⟩
  rcases h2.2 with ⟨h1, _⟩ | ⟨g, cap, cur, hv, _, hb, _⟩
  · rw [h1] at e; cases e
  · rw [hv] at e
    simp only [Value.ownBlock, Option.some.injEq] at e
    subst e
    rw [h.blk] at hb
    injection hb with e
    injection e with _ e2 _
    exact ht e2
theorem Own.put {T t2 : TypeId} {α β : Type} {f : α → Value} {f2 : β → Value} {q B : Nat} {vs : List α} {l : List β} {w : World} {v : Value} (h : Own B t2 f2 w v l) (A : Arr T f q vs w) (ht : T ≠ t2) (i : Nat) (x : Value) : Own B t2 f2 (w.setCell ⟨q, i, none⟩ x) v l :=
  World.ownsRow.kept (row := some q) h ((Fr.refl q w).set i x).grown (by
    rcases h.2 with ⟨h1, _⟩ | ⟨g, cap, cur, hv, _, hb, _⟩
    · rw [h1]; exact .inl rfl
    · right
      rw [hv]
      intro e
      simp only [Value.ownBlock, Option.some.injEq] at e
      subst e
      rw [A.blk] at hb
      injection hb with e
      injection e with _ e2 _
      exact ht e2)
theorem Fr.below' {q : Nat} {w w1 w2 : World} (h : Fr q w w1) (h2 : Below w.heap.size w1 w2) : Fr q w w2 := ⟨h2.os.trans h.os, h2.tape.trans h.tape, h2.output.trans h.output, Nat.le_trans h.size h2.size, fun b hb hq => (h2.block b hb).trans (h.blk b hb hq)⟩
theorem Arr.alloc (w : World) (vs : List Value) (T : TypeId) : Arr T fV w.heap.size vs (w.alloc (.cells vs.toArray T)) := by
  refine ⟨?_⟩
  have e : (w.alloc (.cells vs.toArray T)).heap[w.heap.size]? = some (.cells vs.toArray T (0, 0)) := by show (w.heap.push _)[w.heap.size]? = _; simp
  rw [e]
  simp [fV]
theorem infoI2 : (Try.prog.info? 3).map (fun i => (i.zero, i.size, i.bytes)) = some (some (.int .i64 0), 1, 8) := by kernel_rfl
theorem infoI2_parts : ∃ i, Try.prog.info? 3 = some i ∧ i.zero = some (.int .i64 0) ∧ i.size = 1 ∧ i.bytes = 8 := by
  have h := infoI2
  cases hi : Try.prog.info? 3 with
  | none => rw [hi] at h; cases h
  | some i =>
    rw [hi] at h
    simp only [Option.map_some, Option.some.injEq, Prod.mk.injEq] at h
    exact ⟨i, rfl, h.1, h.2.1, h.2.2⟩
theorem infoN2 : (Try.prog.info? 110).map (fun i => (i.zero, i.size, i.bytes)) = some (some (.agg #[.int .i64 0, .int .i64 0]), 2, 16) := by kernel_rfl
theorem infoN2_parts : ∃ i, Try.prog.info? 110 = some i ∧ i.zero = some (.agg #[.int .i64 0, .int .i64 0]) ∧ i.size = 2 ∧ i.bytes = 16 := by
  have h := infoN2
  cases hi : Try.prog.info? 110 with
  | none => rw [hi] at h; cases h
  | some i =>
    rw [hi] at h
    simp only [Option.map_some, Option.some.injEq, Prod.mk.injEq] at h
    exact ⟨i, rfl, h.1, h.2.1, h.2.2⟩
theorem kp3 {w w' : World} {p1 p2 p3 : Addr} {v1 v2 v3 : Value} (h : w.cell? p1 = some v1 ∧ w.cell? p2 = some v2 ∧ w.cell? p3 = some v3) (hb : Below w.heap.size w w') : w'.cell? p1 = some v1 ∧ w'.cell? p2 = some v2 ∧ w'.cell? p3 = some v3 :=
  have e : ∀ p v, w.cell? p = some v → w'.cell? p = some v := fun p v h => (hb.cell (World.block_lt_of_cell? w _ h)).trans h
  ⟨e _ _ h.1, e _ _ h.2.1, e _ _ h.2.2⟩
abbrev zG : List Value := [.slice none 0 0, .slice none 0 0, .slice none 0 0, .slice none 0 0, .slice none 0 0]
/-- a new row of one element -/
def FN (cs : List Value) : Fa := fun v w => ∃ b, v = .slice (some ⟨b, 0, none⟩) 1 1 ∧ ∀ (q : Nat) (u : Value), cs[q]? = some u → w.cell? ⟨b, q, none⟩ = some u
theorem fn_sta (cs : List Value) : Sta (FN cs) := fun v w w' ⟨b, h1, h2⟩ hb => ⟨b, h1, fun q u hq => (hb.cell (p := ⟨b, q, none⟩) (World.block_lt_of_cell? w _ (h2 q u hq))).trans (h2 q u hq)⟩
theorem Fr.low {q : Nat} {w w1 w2 : World} (h : Fr q w w1) (hb : Below w.heap.size w1 w2) : Fr q w w2 := ⟨hb.os.trans h.os, hb.tape.trans h.tape, hb.output.trans h.output, Nat.le_trans h.size hb.size, fun b hl hq => (hb.block b hl).trans (h.blk b hl hq)⟩
theorem Fr.under {q B : Nat} {w w1 : World} (h : Fr q w w1) (hq : B ≤ q) (hB : B ≤ w.heap.size) : Below B w w1 := ⟨h.os, h.tape, h.output, h.size, fun b hl => h.blk b (by omega) (by omega)⟩
theorem OwnK.slice4 {B : Nat} {t : TypeId} {k : Nat} {α : Type} {enc : α → List Value} {w : World} {v : Value} {l : List α} (h : OwnK B t k enc w v l) : ∃ ad n cp, v = .slice ad n cp := by
  obtain ⟨ad, cp, h⟩ := h.slice
  exact ⟨ad, _, cp, h⟩
theorem grown_at (w : World) (p : Addr) (v : Value) : w.grownBy (w.setCell p v) (some p.block) :=
  ⟨rfl, rfl, rfl, by simp [World.setCell], fun k _ hne => Below.heap_setCell w p v k (fun e => hne (by rw [e]))⟩
theorem owns_at {w : World} {B : Nat} {t : TypeId} {k : Nat} {v : Value} {n : Nat} {xs : List Value} (h : w.ownsRow B t k v n xs) (p : Addr) (u : Value) (hp : p.block < B) : (w.setCell p u).ownsRow B t k v n xs :=
  World.ownsRow.kept h (grown_at w p u) (by
    cases hv : v.ownBlock with
    | none => exact .inl rfl
    | some b => exact .inr (fun e => by have := (World.ownsRow.lt h b hv).1; simp only [Option.some.injEq] at e; omega))
theorem ownk_nil {B : Nat} {t : TypeId} {k : Nat} {α : Type} {enc : α → List Value} {w : World} {l : List α} {ad : Option Addr} {n cp : Nat} (h : OwnK B t k enc w (.slice ad n cp) l) : ad = none → cp = 0 := fun hn => by
  subst hn
  rcases h.2 with ⟨h1, h0⟩ | ⟨g, cap, cur, hv, _⟩
  · cases h1; rfl
  · cases hv
theorem Arr.fr {t : TypeId} {α : Type} {f : α → Value} {q g : Nat} {l : List α} {w w' : World} (h : Arr t f g l w) (hF : Fr q w w') (hg : g ≠ q) : Arr t f g l w' := ⟨(hF.blk g h.lt hg).trans h.blk⟩
theorem allL_two (g : Gr) : allL g = 2 * ((n0L g : Int) + (g.ands.length : Int)) := by unfold allL baseL n0L; push_cast; omega
theorem infoR2 : (Try.prog.info? 89).map (fun i => (i.zero, i.size, i.bytes)) = some (some (.agg #[.string ⟨#[]⟩, .int .i64 0, .bool false]), 3, 32) := by kernel_rfl
theorem infoR2_parts : ∃ i, Try.prog.info? 89 = some i ∧ i.zero = some (.agg #[.string ⟨#[]⟩, .int .i64 0, .bool false]) ∧ i.size = 3 ∧ i.bytes = 32 := by
  have h := infoR2
  cases hi : Try.prog.info? 89 with
  | none => rw [hi] at h; cases h
  | some i =>
    rw [hi] at h
    simp only [Option.map_some, Option.some.injEq, Prod.mk.injEq] at h
    exact ⟨i, rfl, h.1, h.2.1, h.2.2⟩
def atR (P : List Int) (r : Rg) : Rg := ⟨r.nm, atL P r.nx, r.it⟩
/-- the places of all nodes if some ands are kept -/
def plG (g : Gr) (keep : List Bool) : List Int := plL (n0L g) 0 (n0L g) keep
/-- the graph of which some ands are kept -/
def renG (g : Gr) (keep : List Bool) : Gr := ⟨g.ins, g.outN, g.regs.map (atR (plG g keep)), kL g keep (plG g keep) g.ands.length, g.outs.map (atL (plG g keep))⟩
set_option maxRecDepth 100000 in
set_option maxHeartbeats 16000000 in
theorem ren_any (g : Gr) (v vk : Value) (keep : List Bool) (vg : VG g) (hkl : keep.length = n0L g + g.ands.length) (w : World) (hG : GO g v w) (hK : RowC (fun b => Value.bool b) keep vk w) : Calls Try.prog 63 #[v, vk] w fun e w' => ∃ u vp, e = .returned (.tuple #[u, vp]) ∧ GO (renG g keep) u w' ∧ RowOf 1 encI (plG g keep) vp w' ∧ Below w.heap.size w w' := by
  obtain ⟨a, b, c, d0, e, a', b', c', d', e', rfl, hC, hA⟩ := hG.all
  clear hG
  obtain ⟨ad1, c1, rfl, k1, m1, r1⟩ := hK
  have HKL := Lib.hid hkl
  clear hkl
  have n1 := vg.ins
  have n2 := vg.regs
  have n3 := vg.ands
  go_enter Try.func63, Try.ntmps63
  go_upto_region 1 with fail
  have bel := ((Below.refl w.heap.size w).alloc (Nat.le_refl _) (.cells #[.slice a g.ins.length a', .slice b g.outN.length b', .slice c g.regs.length c', .slice d0 g.ands.length d', .slice e g.outs.length e'] 28))
  have X := GX.new w (.slice a g.ins.length a') (.slice b g.outN.length b') (.slice c g.regs.length c') (.slice d0 g.ands.length d') (.slice e g.outs.length e') 28
  have hsz : (w.alloc (.cells #[.slice a g.ins.length a', .slice b g.outN.length b', .slice c g.regs.length c', .slice d0 g.ands.length d', .slice e g.outs.length e'] 28)).heap.size = w.heap.size + 1 := by simp
  generalize w.alloc (.cells #[.slice a g.ins.length a', .slice b g.outN.length b', .slice c g.regs.length c', .slice d0 g.ands.length d', .slice e g.outs.length e'] 28) = Wa at bel X hsz ⊢
  rw [← hsz]
  generalize hk : w.heap.size = k at X ⊢
  have HK := Lib.hid hk
  have hka : k < Wa.heap.size := by omega
  clear hk hsz
  have ba : Below Wa.heap.size Wa (Wa.alloc (.cells #[.slice none 0 0, .slice none 0 0, .slice none 0 0, .slice none 0 0, .slice none 0 0] 28)) := (Below.refl _ Wa).alloc (Nat.le_refl _) _
  have A4 : Arr 28 fV Wa.heap.size zG (Wa.alloc (.cells #[.slice none 0 0, .slice none 0 0, .slice none 0 0, .slice none 0 0, .slice none 0 0] 28)) := Arr.alloc Wa zG _
  replace X := X.below ba
  replace bel := bel.trans (ba.mono bel.size)
  generalize Wa.alloc (.cells #[.slice none 0 0, .slice none 0 0, .slice none 0 0, .slice none 0 0, .slice none 0 0] 28) = W0 at X bel A4 ba ⊢
  generalize Wa.heap.size = t4 at A4 hka ba ⊢
  clear ba
  obtain ⟨x0, x1, x2, x3, x4⟩ := id X
  have hkw := X.lt
  have ht4 := A4.lt
  go_upto_region 3 with fail
  have O0 : Own W0.heap.size 3 (fun n : Int => Value.int .i64 n) (W0.alloc (.cells #[] 3)) (.slice (some ⟨W0.heap.size, 0, none⟩) 0 0) ([] : List Int) := World.ownsRow_made (base := W0.heap.size) (size := 1) (e := 3) W0 #[] 0 (Nat.le_refl _) (by decide) rfl
  have bb : Below W0.heap.size W0 (W0.alloc (.cells #[] 3)) := (Below.refl _ W0).alloc (Nat.le_refl _) _
  have hs1 : (W0.alloc (.cells #[] 3)).heap.size = W0.heap.size + 1 := by simp
  generalize W0.alloc (.cells #[] 3) = W1 at O0 bb hs1 ⊢
  have A7 : Arr 52 fV W1.heap.size [.slice (some ⟨W0.heap.size, 0, none⟩) 0 0] (W1.alloc (.cells #[.slice (some ⟨W0.heap.size, 0, none⟩) 0 0] 52)) := Arr.alloc W1 [.slice (some ⟨W0.heap.size, 0, none⟩) 0 0] _
  have bc : Below W1.heap.size W1 (W1.alloc (.cells #[.slice (some ⟨W0.heap.size, 0, none⟩) 0 0] 52)) := (Below.refl _ W1).alloc (Nat.le_refl _) _
  rw [← hs1]
  replace O0 := O0.below bc
  have bd : Below W0.heap.size W0 (W1.alloc (.cells #[.slice (some ⟨W0.heap.size, 0, none⟩) 0 0] 52)) := bb.trans (bc.mono (by omega))
  have h17 : W0.heap.size < W1.heap.size := by omega
  clear bb bc hs1 x0 x1 x2 x3 x4
  generalize W1.alloc (.cells #[.slice (some ⟨W0.heap.size, 0, none⟩) 0 0] 52) = W2 at O0 A7 bd ⊢
  generalize W1.heap.size = t7 at A7 h17 ⊢
  obtain ⟨i0, hi0, hz0, hz1, hz2⟩ := infoI2_parts
  have hbs := bd.size
  have hn0 : n0L g = 1 + g.ins.length + g.regs.length := rfl
  have HKN : keep.length ≤ 5000 := by have := HKL.out; omega
  go_upto_block 0 with fail
  go_wp2_with fail
  go_loopw [8, 31] (fun nx i wr => ∃ (j : Nat) (x : Int), j ≤ keep.length ∧ i = .int .i64 (j : Int) ∧ nx = .int .i64 x ∧ 0 ≤ x ∧ x ≤ n0L g + j ∧ Hid (∃ P vp, P.length = j ∧ P ++ plL (n0L g) j x (keep.drop j) = plL (n0L g) 0 (n0L g) keep ∧ Arr 52 fV t7 [vp] wr ∧ Own W0.heap.size 3 (fun n : Int => Value.int .i64 n) wr vp P) ∧ Hid (Below W0.heap.size W0 wr)) (fun _ i _ => keep.length - (intOf i).toNat)
  case atStart => exact ⟨0, (n0L g : Int), Nat.zero_le _, rfl, by go_num, by omega, by omega, Lib.hid ⟨[], _, rfl, rfl, A7, O0⟩, Lib.hid bd⟩
  case round =>
    clear A7 O0 bd hbs
    obtain ⟨j, x, hj, rfl, rfl, hx0, hx1, hP, hB⟩ := hrel
    rename World => WR
    have hj0 : (0 : Int) ≤ (j : Int) := by omega
    obtain ⟨P, vp, hPl, hPe, hPa, hPo⟩ := hP.out
    obtain ⟨ad, cp, hvp⟩ := hPo.slice
    subst hvp
    have HPL := Lib.hid hPl
    have hPL5 : P.length ≤ 5000 := by omega
    clear hP hPl
    by_cases hlt : j < keep.length
    · have hji : (j : Int) < (keep.length : Int) := by omega
      have belR := bel.trans (hB.out.mono bel.size)
      obtain ⟨bb, oo, rfl, hcell⟩ := (r1.below belR).pick (by omega)
      have c0 := hcell j hlt 0 _ rfl
      simp only [Nat.mul_one, Nat.add_zero] at c0
      clear hcell belR
      have a7 : WR.cell? ⟨t7, 0, none⟩ = some (.slice ad P.length cp) := hPa.cell (j := 0) (by simp)
      have f7 : WR.frozen? ⟨t7, 0, none⟩ = false := hPa.free _
      by_cases hjn : j < n0L g
      · have hjm : (j : Int) < 1 + (g.ins.length : Int) + (g.regs.length : Int) := by omega
        cases hkj : keep[j]! with
        | true =>
          rw [hkj] at c0
          have HE := Lib.hid (show (P ++ [(j : Int)]) ++ plL (n0L g) (j + 1) x (keep.drop (j + 1)) = plL (n0L g) 0 (n0L g) keep by rw [← hPe, drop_get keep hlt, List.append_assoc]; congr 1; show _ = plL (n0L g) j x (keep[j]! :: keep.drop (j + 1)); rw [plL]; simp [hjn, hkj])
          have O4 := hPo.below ((Below.refl _ WR).alloc (Nat.le_refl _) (.cells #[.int .i64 (j : Int)] 3))
          have A4' := hPa.below ((Below.refl _ WR).alloc (Nat.le_refl _) (.cells #[.int .i64 (j : Int)] 3))
          have h4 := hB.out.size
          have HB := Lib.hid hB.out
          clear hPo hPa hPe hB
          go_wp2_with (at_builtin; refine wpList_append_row2 (f := fun n : Int => Value.int .i64 n) (fun _ => rfl) rfl _ _ 52 rfl W0.heap.size 3 i0 (.int .i64 0) 8 Try.underlying52 hi0 hz0 hz1 hz2 (by decide) _ P rfl O4 (some ⟨WR.heap.size, 0, none⟩) [(j : Int)] 1 rfl (fun h => by cases h) (Nat.le_refl _) (one_row (fun n : Int => Value.int .i64 n) ((j : Int)) WR 3) (show P.length + 1 ≤ maxLen by unfold maxLen; omega) (show (P.length + 1) * 8 ≤ 140737488355328 by omega) (by first | omega | (simp; omega)) ?_)
          intro v5 w5 hO5 hb5 hg5
          have A5 := A4'.grown O4 (by decide) hg5
          obtain ⟨ad5, cp5, hv5⟩ := hO5.slice
          rw [List.length_append, show ∀ y : Int, [y].length = 1 from fun _ => rfl] at hv5
          subst hv5
          have z5 : w5.cell? ⟨t7, 0, none⟩ = some (.slice ad P.length cp) := A5.cell (j := 0) (by simp)
          have y5 : w5.frozen? ⟨t7, 0, none⟩ = false := A5.free _
          have HO5 := Lib.hid (hO5.put A5 (by decide) 0 (.slice ad5 (P.length + 1) cp5))
          have HA5 := Lib.hid (show Arr 52 fV t7 [.slice ad5 (P.length + 1) cp5] (w5.setCell ⟨t7, 0, none⟩ (.slice ad5 (P.length + 1) cp5)) from A5.set 0 (.slice ad5 (P.length + 1) cp5))
          have HB5 := Lib.hid ((HB.out.trans (((Below.refl _ WR).alloc h4 _).trans hb5)).setCell (p := ⟨t7, 0, none⟩) (show W0.heap.size ≤ t7 by omega) (.slice ad5 (P.length + 1) cp5))
          clear hO5 hb5 hg5 A5 A4' O4 a7 f7
          go_wp2_with fail
          go_roundw
          case rel => exact ⟨j + 1, x, by omega, by go_num, by go_num, by omega, by omega, Lib.hid ⟨P ++ [(j : Int)], _, by simp [HPL.out], HE.out, HA5.out, HO5.out⟩, HB5⟩
          all_goals first | done | (simp [intOf]; done) | (simp [intOf]; omega)
        | false =>
          rw [hkj] at c0
          have HE := Lib.hid (show (P ++ [(j : Int)]) ++ plL (n0L g) (j + 1) x (keep.drop (j + 1)) = plL (n0L g) 0 (n0L g) keep by rw [← hPe, drop_get keep hlt, List.append_assoc]; congr 1; show _ = plL (n0L g) j x (keep[j]! :: keep.drop (j + 1)); rw [plL]; simp [hjn, hkj])
          have O4 := hPo.below ((Below.refl _ WR).alloc (Nat.le_refl _) (.cells #[.int .i64 (j : Int)] 3))
          have A4' := hPa.below ((Below.refl _ WR).alloc (Nat.le_refl _) (.cells #[.int .i64 (j : Int)] 3))
          have h4 := hB.out.size
          have HB := Lib.hid hB.out
          clear hPo hPa hPe hB
          go_wp2_with (at_builtin; refine wpList_append_row2 (f := fun n : Int => Value.int .i64 n) (fun _ => rfl) rfl _ _ 52 rfl W0.heap.size 3 i0 (.int .i64 0) 8 Try.underlying52 hi0 hz0 hz1 hz2 (by decide) _ P rfl O4 (some ⟨WR.heap.size, 0, none⟩) [(j : Int)] 1 rfl (fun h => by cases h) (Nat.le_refl _) (one_row (fun n : Int => Value.int .i64 n) ((j : Int)) WR 3) (show P.length + 1 ≤ maxLen by unfold maxLen; omega) (show (P.length + 1) * 8 ≤ 140737488355328 by omega) (by first | omega | (simp; omega)) ?_)
          intro v5 w5 hO5 hb5 hg5
          have A5 := A4'.grown O4 (by decide) hg5
          obtain ⟨ad5, cp5, hv5⟩ := hO5.slice
          rw [List.length_append, show ∀ y : Int, [y].length = 1 from fun _ => rfl] at hv5
          subst hv5
          have z5 : w5.cell? ⟨t7, 0, none⟩ = some (.slice ad P.length cp) := A5.cell (j := 0) (by simp)
          have y5 : w5.frozen? ⟨t7, 0, none⟩ = false := A5.free _
          have HO5 := Lib.hid (hO5.put A5 (by decide) 0 (.slice ad5 (P.length + 1) cp5))
          have HA5 := Lib.hid (show Arr 52 fV t7 [.slice ad5 (P.length + 1) cp5] (w5.setCell ⟨t7, 0, none⟩ (.slice ad5 (P.length + 1) cp5)) from A5.set 0 (.slice ad5 (P.length + 1) cp5))
          have HB5 := Lib.hid ((HB.out.trans (((Below.refl _ WR).alloc h4 _).trans hb5)).setCell (p := ⟨t7, 0, none⟩) (show W0.heap.size ≤ t7 by omega) (.slice ad5 (P.length + 1) cp5))
          clear hO5 hb5 hg5 A5 A4' O4 a7 f7
          go_wp2_with fail
          go_roundw
          case rel => exact ⟨j + 1, x, by omega, by go_num, by go_num, by omega, by omega, Lib.hid ⟨P ++ [(j : Int)], _, by simp [HPL.out], HE.out, HA5.out, HO5.out⟩, HB5⟩
          all_goals first | done | (simp [intOf]; done) | (simp [intOf]; omega)
      · have hjm : ¬ (j : Int) < 1 + (g.ins.length : Int) + (g.regs.length : Int) := by omega
        cases hkj : keep[j]! with
        | true =>
          rw [hkj] at c0
          have HE := Lib.hid (show (P ++ [x]) ++ plL (n0L g) (j + 1) (x + 1) (keep.drop (j + 1)) = plL (n0L g) 0 (n0L g) keep by rw [← hPe, drop_get keep hlt, List.append_assoc]; congr 1; show _ = plL (n0L g) j x (keep[j]! :: keep.drop (j + 1)); rw [plL]; simp [hjn, hkj])
          have O4 := hPo.below ((Below.refl _ WR).alloc (Nat.le_refl _) (.cells #[.int .i64 x] 3))
          have A4' := hPa.below ((Below.refl _ WR).alloc (Nat.le_refl _) (.cells #[.int .i64 x] 3))
          have h4 := hB.out.size
          have HB := Lib.hid hB.out
          clear hPo hPa hPe hB
          go_wp2_with (at_builtin; refine wpList_append_row2 (f := fun n : Int => Value.int .i64 n) (fun _ => rfl) rfl _ _ 52 rfl W0.heap.size 3 i0 (.int .i64 0) 8 Try.underlying52 hi0 hz0 hz1 hz2 (by decide) _ P rfl O4 (some ⟨WR.heap.size, 0, none⟩) [x] 1 rfl (fun h => by cases h) (Nat.le_refl _) (one_row (fun n : Int => Value.int .i64 n) (x) WR 3) (show P.length + 1 ≤ maxLen by unfold maxLen; omega) (show (P.length + 1) * 8 ≤ 140737488355328 by omega) (by first | omega | (simp; omega)) ?_)
          intro v5 w5 hO5 hb5 hg5
          have A5 := A4'.grown O4 (by decide) hg5
          obtain ⟨ad5, cp5, hv5⟩ := hO5.slice
          rw [List.length_append, show ∀ y : Int, [y].length = 1 from fun _ => rfl] at hv5
          subst hv5
          have z5 : w5.cell? ⟨t7, 0, none⟩ = some (.slice ad P.length cp) := A5.cell (j := 0) (by simp)
          have y5 : w5.frozen? ⟨t7, 0, none⟩ = false := A5.free _
          have HO5 := Lib.hid (hO5.put A5 (by decide) 0 (.slice ad5 (P.length + 1) cp5))
          have HA5 := Lib.hid (show Arr 52 fV t7 [.slice ad5 (P.length + 1) cp5] (w5.setCell ⟨t7, 0, none⟩ (.slice ad5 (P.length + 1) cp5)) from A5.set 0 (.slice ad5 (P.length + 1) cp5))
          have HB5 := Lib.hid ((HB.out.trans (((Below.refl _ WR).alloc h4 _).trans hb5)).setCell (p := ⟨t7, 0, none⟩) (show W0.heap.size ≤ t7 by omega) (.slice ad5 (P.length + 1) cp5))
          clear hO5 hb5 hg5 A5 A4' O4 a7 f7
          go_wp2_with fail
          go_roundw
          case rel => exact ⟨j + 1, (x + 1), by omega, by go_num, by go_num, by omega, by omega, Lib.hid ⟨P ++ [x], _, by simp [HPL.out], HE.out, HA5.out, HO5.out⟩, HB5⟩
          all_goals first | done | (simp [intOf]; done) | (simp [intOf]; omega)
        | false =>
          rw [hkj] at c0
          have HE := Lib.hid (show (P ++ [(-1)]) ++ plL (n0L g) (j + 1) x (keep.drop (j + 1)) = plL (n0L g) 0 (n0L g) keep by rw [← hPe, drop_get keep hlt, List.append_assoc]; congr 1; show _ = plL (n0L g) j x (keep[j]! :: keep.drop (j + 1)); rw [plL]; simp [hjn, hkj])
          have O4 := hPo.below ((Below.refl _ WR).alloc (Nat.le_refl _) (.cells #[.int .i64 (-1)] 3))
          have A4' := hPa.below ((Below.refl _ WR).alloc (Nat.le_refl _) (.cells #[.int .i64 (-1)] 3))
          have h4 := hB.out.size
          have HB := Lib.hid hB.out
          clear hPo hPa hPe hB
          go_wp2_with (at_builtin; refine wpList_append_row2 (f := fun n : Int => Value.int .i64 n) (fun _ => rfl) rfl _ _ 52 rfl W0.heap.size 3 i0 (.int .i64 0) 8 Try.underlying52 hi0 hz0 hz1 hz2 (by decide) _ P rfl O4 (some ⟨WR.heap.size, 0, none⟩) [(-1)] 1 rfl (fun h => by cases h) (Nat.le_refl _) (one_row (fun n : Int => Value.int .i64 n) ((-1)) WR 3) (show P.length + 1 ≤ maxLen by unfold maxLen; omega) (show (P.length + 1) * 8 ≤ 140737488355328 by omega) (by first | omega | (simp; omega)) ?_)
          intro v5 w5 hO5 hb5 hg5
          have A5 := A4'.grown O4 (by decide) hg5
          obtain ⟨ad5, cp5, hv5⟩ := hO5.slice
          rw [List.length_append, show ∀ y : Int, [y].length = 1 from fun _ => rfl] at hv5
          subst hv5
          have z5 : w5.cell? ⟨t7, 0, none⟩ = some (.slice ad P.length cp) := A5.cell (j := 0) (by simp)
          have y5 : w5.frozen? ⟨t7, 0, none⟩ = false := A5.free _
          have HO5 := Lib.hid (hO5.put A5 (by decide) 0 (.slice ad5 (P.length + 1) cp5))
          have HA5 := Lib.hid (show Arr 52 fV t7 [.slice ad5 (P.length + 1) cp5] (w5.setCell ⟨t7, 0, none⟩ (.slice ad5 (P.length + 1) cp5)) from A5.set 0 (.slice ad5 (P.length + 1) cp5))
          have HB5 := Lib.hid ((HB.out.trans (((Below.refl _ WR).alloc h4 _).trans hb5)).setCell (p := ⟨t7, 0, none⟩) (show W0.heap.size ≤ t7 by omega) (.slice ad5 (P.length + 1) cp5))
          clear hO5 hb5 hg5 A5 A4' O4 a7 f7
          go_wp2_with fail
          go_roundw
          case rel => exact ⟨j + 1, x, by omega, by go_num, by go_num, by omega, by omega, Lib.hid ⟨P ++ [(-1)], _, by simp [HPL.out], HE.out, HA5.out, HO5.out⟩, HB5⟩
          all_goals first | done | (simp [intOf]; done) | (simp [intOf]; omega)
    · have hji : ¬ (j : Int) < (keep.length : Int) := by omega
      have HPE := Lib.hid (show P = plL (n0L g) 0 (n0L g) keep by rw [← hPe, List.drop_of_length_le (by omega)]; unfold plL; simp)
      have hRC := hPo.rowC
      have hjl : j = keep.length := by omega
      have hPN := Lib.hid (show P.length = n0L g + g.ands.length by rw [HPL.out, hjl, HKL.out])
      have belR := bel.trans (hB.out.mono bel.size)
      have XR := X.mono hB.out hkw
      have A4R := A4.mono hB.out ht4
      obtain ⟨x0, x1, x2, x3, x4⟩ := id XR
      clear hPe hjl X bel A4
      go_upto_region 15 with fail
      have A12 : Arr 28 fV WR.heap.size [.slice a g.ins.length a', .slice b g.outN.length b', .slice none 0 0, .slice none 0 0, .slice none 0 0] (WR.alloc (.cells #[.slice a g.ins.length a', .slice b g.outN.length b', .slice none 0 0, .slice none 0 0, .slice none 0 0] 28)) := Arr.alloc WR [.slice a g.ins.length a', .slice b g.outN.length b', .slice none 0 0, .slice none 0 0, .slice none 0 0] _
      have b5 : Below WR.heap.size WR (WR.alloc (.cells #[.slice a g.ins.length a', .slice b g.outN.length b', .slice none 0 0, .slice none 0 0, .slice none 0 0] 28)) := (Below.refl _ WR).alloc (Nat.le_refl _) _
      have P5 := hPo.below b5
      have HPB := Lib.hid (show ∀ y ∈ P, -1 ≤ y ∧ y < 100000 from fun y hy => by
        rw [HPE.out] at hy
        have := plL_in (n0L g) keep 0 (n0L g) (by omega) y hy
        have := HKL.out
        omega)
      have hpb : ∀ b, (Value.slice ad P.length cp).ownBlock = some b → b < WR.heap.size := fun b hb => (World.ownsRow.lt hPo b hb).2
      have A75 := hPa.below b5
      have A45 := A4R.below b5
      have X5 := XR.below b5
      have bel5 := belR.trans (b5.mono belR.size)
      have h7 := hPa.lt
      have h4 := A4R.lt
      have hk5 := XR.lt
      have hw5 := belR.size
      clear hPo hPa A4R XR belR x0 x1 x2 x3 x4 b5 hB hRC
      generalize WR.alloc (.cells #[.slice a g.ins.length a', .slice b g.outN.length b', .slice none 0 0, .slice none 0 0, .slice none 0 0] 28) = W5 at A12 P5 A75 A45 X5 bel5 ⊢
      generalize WR.heap.size = t12 at A12 hpb h7 h4 hk5 hw5 ⊢
      have hB2 := A12.lt
      obtain ⟨x0, x1, x2, x3, x4⟩ := id X5
      have HATG := Lib.hid (fun (l : Int) (h0 : 0 ≤ l) (hl : ndL l < P.length) (W : World) (hF : Fr t12 W5 W) (W' : World) (hW : Below W.heap.size W W') => (by
        have a76 := hF.cell (show t7 ≠ t12 by omega) (A75.cell (j := 0) (by simp))
        have P6 : Own W0.heap.size 3 (fun n : Int => Value.int .i64 n) W (.slice ad P.length cp) P := World.ownsRow.kept (row := some t12) P5 hF.grown (by
          cases hb : (Value.slice ad P.length cp).ownBlock with
          | none => exact .inl rfl
          | some b => exact .inr (fun e => by injection e with e; have := hpb b hb; omega))
        exact at_any P (.slice ad P.length cp) t7 hPL5 HPB.out l h0 hl W' ((hW.cell (p := ⟨t7, 0, none⟩) (World.block_lt_of_cell? W _ a76)).trans a76) (P6.below hW).rowC : Calls Try.prog 96 #[.int .i64 l, .pointer (some ⟨t7, 0, none⟩)] W' fun e w' => e = .returned (.int .i64 (atL P l)) ∧ w' = W'))
      have HPO := Lib.hid (fun (W : World) (hF : Fr t12 W5 W) => (World.ownsRow.kept (row := some t12) P5 hF.grown (by
          cases hb : (Value.slice ad P.length cp).ownBlock with
          | none => exact .inl rfl
          | some b => exact .inr (fun e => by injection e with e; have := hpb b hb; omega)) : Own W0.heap.size 3 (fun n : Int => Value.int .i64 n) W (.slice ad P.length cp) P))
      go_upto_block 3 with fail
      clear x0 x1 x2 x3 x4
      go_wp2_with fail
      have hz : OwnK W5.heap.size 110 2 encN W5 (.slice none 0 0) [] := OwnK.nil _ _ _ _ _
      go_loopw [65] (fun i wr => ∃ j : Nat, j ≤ g.ands.length ∧ i = .int .i64 (j : Int) ∧ Hid (∃ v3, Arr 28 fV t12 [.slice a g.ins.length a', .slice b g.outN.length b', .slice none 0 0, v3, .slice none 0 0] wr ∧ OwnK W5.heap.size 110 2 encN wr v3 (kL g keep P j)) ∧ Hid (Fr t12 W5 wr)) (fun i _ => g.ands.length - (intOf i).toNat)
      case atStart => exact ⟨0, Nat.zero_le _, rfl, Lib.hid ⟨_, A12, hz⟩, Lib.hid (Fr.refl _ _)⟩
      case round =>
        clear A12 hz
        obtain ⟨j, hj, rfl, hA3, hF⟩ := hrel
        rename World => WS
        have hj0 : (0 : Int) ≤ (j : Int) := by omega
        obtain ⟨v3, hA3, hO3⟩ := hA3.out
        obtain ⟨ad3, cp3, hv3⟩ := hO3.slice
        subst hv3
        by_cases hlt : j < g.ands.length
        · have hji : (j : Int) < (g.ands.length : Int) := by omega
          obtain ⟨bk, ok, rfl, hcell⟩ := r1.pick (by have := HKL.out; omega)
          have q0 := hcell (n0L g + j) (by have := HKL.out; omega) 0 _ rfl
          simp only [Nat.mul_one, Nat.add_zero] at q0
          clear hcell
          have hbk : bk < w.heap.size := World.block_lt_of_cell? w _ q0
          have q1 := hF.out.cell (show bk ≠ t12 by omega) ((bel5.cell (p := ⟨bk, ok + (n0L g + j), none⟩) hbk).trans q0)
          have hki : 1 + (g.ins.length : Int) + (g.regs.length : Int) + (j : Int) < (keep.length : Int) := by have := HKL.out; omega
          obtain ⟨bd, od, rfl, hcell⟩ := hA.ands.pick (by omega)
          have d1 := hcell j hlt 0 _ rfl
          have d2 := hcell j hlt 1 _ rfl
          simp only [Nat.add_zero] at d1
          clear hcell
          have hbd : bd < w.heap.size := World.block_lt_of_cell? w _ d1
          have e1 := hF.out.cell (show bd ≠ t12 by omega) ((bel5.cell (p := ⟨bd, od + j * 2, none⟩) hbd).trans d1)
          have e2 := hF.out.cell (show bd ≠ t12 by omega) ((bel5.cell (p := ⟨bd, od + j * 2 + 1, none⟩) hbd).trans d2)
          clear q0 d1 d2
          have hlit := vg.lits j hlt
          have hbl : baseL g = 2 * (n0L g : Int) := by unfold baseL n0L; omega
          have hpl := hPN.out
          have HKJ := Lib.hid (show kL g keep P (j + 1) = if keep[n0L g + j]! = true then kL g keep P j ++ [(atL P g.ands[j]!.1, atL P g.ands[j]!.2)] else kL g keep P j from rfl)
          have hkl5 := kL_len g keep P j
          generalize g.ands[j]! = p at e1 e2 hlit HKJ
          obtain ⟨p1, p2⟩ := p
          simp only at e1 e2 hlit HKJ
          have l1 : ndL p1 < P.length := by have := ndL_lt (n := (n0L g : Int) + j) hlit.1.1 (by omega); omega
          have l2 : ndL p2 < P.length := by have := ndL_lt (n := (n0L g : Int) + j) hlit.2.1 (by omega); omega
          have HLT := Lib.hid (And.intro hlit (And.intro l1 l2))
          have hki2 : IntKind.i64.wrap (1 + (g.ins.length : Int) + (g.regs.length : Int) + (j : Int)) = 1 + (g.ins.length : Int) + (g.regs.length : Int) + (j : Int) := IntWalk.i64_in _ (by omega)
          clear hlit hbl l1 l2 hpl
          have hq1 : WS.cell? ⟨bk, ok + (1 + g.ins.length + g.regs.length + j), none⟩ = some (.bool keep[n0L g + j]!) := by rw [← q1]; rfl
          clear q1
          generalize keep[n0L g + j]! = kj at hq1 HKJ
          have hbkS : bk < WS.heap.size := World.block_lt_of_cell? WS _ hq1
          go_upto_region 18 with fail
          have b6 : Below WS.heap.size WS (WS.alloc (.cells #[.int .i64 p1, .int .i64 p2] 110)) := (Below.refl _ WS).alloc (Nat.le_refl _) _
          have y0 : (WS.alloc (.cells #[.int .i64 p1, .int .i64 p2] 110)).cell? ⟨WS.heap.size, 0, none⟩ = some (.int .i64 p1) := by go_simp
          have y1 : (WS.alloc (.cells #[.int .i64 p1, .int .i64 p2] 110)).cell? ⟨WS.heap.size, 1, none⟩ = some (.int .i64 p2) := by go_simp
          have q6 := (b6.cell (p := ⟨bk, ok + (1 + g.ins.length + g.regs.length + j), none⟩) hbkS).trans hq1
          have O6 := hO3.below b6
          have A6 := hA3.below b6
          have F6 := hF.out.below b6
          clear hO3 hA3 hF hq1 e1 e2 hbkS
          generalize WS.alloc (.cells #[.int .i64 p1, .int .i64 p2] 110) = W6 at b6 y0 y1 q6 O6 A6 F6 ⊢
          generalize WS.heap.size = r at y0 y1 ⊢
          clear b6
          cases kj with
          | false =>
            have HO6 := Lib.hid O6
            have HA6 := Lib.hid A6
            have HF6 := Lib.hid F6
            have HK6 := Lib.hid (show kL g keep P (j + 1) = kL g keep P j by rw [HKJ.out, if_neg (by simp)])
            clear O6 A6 F6 HKJ y0 y1
            go_wp2_with fail
            go_roundw
            case rel => exact ⟨j + 1, by omega, by go_num, Lib.hid ⟨_, HA6.out, by rw [HK6.out]; exact HO6.out⟩, HF6⟩
            all_goals first | done | (simp [intOf]; done) | (simp [intOf]; omega)
          | true =>
            have HK6 := Lib.hid (show kL g keep P (j + 1) = kL g keep P j ++ [(atL P p1, atL P p2)] by rw [HKJ.out, if_pos rfl])
            have P6 : Own W0.heap.size 3 (fun n : Int => Value.int .i64 n) W6 (.slice ad P.length cp) P := World.ownsRow.kept (row := some t12) P5 F6.grown (by
              cases hb : (Value.slice ad P.length cp).ownBlock with
              | none => exact .inl rfl
              | some b => exact .inr (fun e => by injection e with e; have := hpb b hb; omega))
            have a76 := F6.cell (show t7 ≠ t12 by omega) (A75.cell (j := 0) (by simp))
            have HAT := Lib.hid (fun (l : Int) (h0 : 0 ≤ l) (hl : ndL l < P.length) (W : World) (hW : Below W6.heap.size W6 W) => at_any P (.slice ad P.length cp) t7 hPL5 HPB.out l h0 hl W ((hW.cell (p := ⟨t7, 0, none⟩) (World.block_lt_of_cell? W6 _ a76)).trans a76) (P6.below hW).rowC)
            have HAT1 := Lib.hid (fun W hW => HAT.out p1 HLT.out.1.1.1 HLT.out.2.1 W hW)
            have HAT2 := Lib.hid (fun W hW => HAT.out p2 HLT.out.1.2.1 HLT.out.2.2 W hW)
            have o12 : W6.cell? ⟨t12, 3, none⟩ = some (.slice ad3 (kL g keep P j).length cp3) := A6.cell (j := 3) (by simp)
            clear HAT P6 a76 HKJ
            generalize atL P p1 = y1' at HAT1 HK6
            generalize atL P p2 = y2' at HAT2 HK6
            generalize kL g keep P j = xs at O6 A6 o12 HK6 hkl5
            have hb6 : W5.heap.size ≤ W6.heap.size := F6.size
            have HA6 := Lib.hid A6
            have HF6 := Lib.hid F6
            obtain ⟨iN, hiN, hzN, hsN, hbN⟩ := infoN2_parts
            have HBW := Lib.hid (fun d os => below_regrown W6 d os)
            have g0 := cell_regrown o12
            have g1 := cell_regrown y0
            have g2 := cell_regrown y1
            go_upto_region 19 with fail
            clear q6 y0 y1
            refine wp_region_rel 12 (by kernel_rfl) (by kernel_rfl) ?_
            simp only [List.take_succ_cons, List.take_zero, List.drop_succ_cons, List.drop_zero]
            (refine rel_fix0 (fun K hK => ?_); go_simp; refine hK _ ?_; clear hK K)
            (refine rel_fix0 (fun K hK => ?_); go_simp; refine hK _ ?_; clear hK K)
            (refine rel_fix0 (fun K hK => ?_); go_simp; refine hK _ ?_; clear hK K)
            (refine rel_fix0 (fun K hK => ?_); go_simp; refine hK _ ?_; clear hK K)
            (refine rel_fix0 (fun K hK => ?_); go_simp; refine hK _ ?_; clear hK K)
            (refine rel_fix0 (fun K hK => ?_); go_simp; apply Exists.intro; refine ⟨fun _ _ => ?_, hK _ ?_⟩; (with_reducible exact ret_fix ((HAT1.out _ (HBW.out _ _)).mono fun _ _ h => ⟨h.1, h.2 ▸ Below.refl _ _⟩)); clear hK K)
            (refine rel_fix0 (fun K hK => ?_); go_simp; refine hK _ ?_; clear hK K)
            (refine rel_fix0 (fun K hK => ?_); go_simp; refine hK _ ?_; clear hK K)
            (refine rel_fix0 (fun K hK => ?_); go_simp; refine hK _ ?_; clear hK K)
            (refine rel_fix0 (fun K hK => ?_); go_simp; apply Exists.intro; refine ⟨fun _ _ => ?_, hK _ ?_⟩; (with_reducible exact ret_fix ((HAT2.out _ (HBW.out _ _)).mono fun _ _ h => ⟨h.1, h.2 ▸ Below.refl _ _⟩)); clear hK K)
            (refine rel_fix0 (fun K hK => ?_); go_simp; refine hK _ ?_; clear hK K)
            refine rel_fact [] (FN [.int .i64 y1', .int .i64 y2']) 87 rfl (by simp [Act.put]) (fn_sta _) (by rfl) (by kernel_rfl) (by kernel_rfl) ?_ ?_
            · intro d os
              simp only [relAll]
              go_simp
              refine ⟨⟨_, rfl, fun q u hq => ?_⟩, (Below.refl _ _).alloc (Nat.le_of_eq Array.size_append.symm) _⟩
              match q, hq with
              | 0, hq => cases hq; show _ = some (Value.int .i64 y1'); go_simp
              | 1, hq => cases hq; show _ = some (Value.int .i64 y2'); go_simp
            refine rel_nil ?_
            intro d os
            simp only [relAll]
            rintro v87 ⟨r87, rfl, hy⟩
            clear g0 g1 g2 o12 HAT1 HAT2
            have hb7 := HBW.out d os
            have O7 := O6.below hb7
            have A7 := A6.below hb7
            have F7 := F6.below hb7
            have hs7 := Nat.le_trans hb6 hb7.size
            generalize grow (redrawn W6 d) os = W7 at hy O7 A7 F7 hs7 ⊢
            refine wpList_append_one (enc := encN) (k := 2) (fun _ => rfl) (by decide) (fun x u hu => by simp at hu; rcases hu with rfl | rfl <;> rfl) rfl _ _ 25 rfl W5.heap.size 110 iN (.agg #[.int .i64 0, .int .i64 0]) 16 Try.underlying25 hiN hzN hsN hbN (by decide) _ xs rfl O7 r87 1 (y1', y2') rfl hy (show xs.length + 1 ≤ maxLen by unfold maxLen; omega) (show (xs.length + 1) * 16 ≤ 140737488355328 by omega) hs7 ?_
            intro v8 w8 O8 hb8 hg8
            have A8 := Arr.mono A7 hb8 hB2
            have F8 := F7.low hb8
            obtain ⟨ad8, n8, cp8, rfl⟩ := OwnK.slice4 O8
            have f8 := A8.free 3
            have o8 : w8.cell? ⟨t12, 3, none⟩ = some _ := A8.cell (j := 3) (by simp)
            have HA8 := Lib.hid (Arr.set A8 3 (.slice ad8 n8 cp8))
            have HF8 := Lib.hid (F8.set 3 (.slice ad8 n8 cp8))
            have HO8 := Lib.hid (owns_at O8 ⟨t12, 3, none⟩ (.slice ad8 n8 cp8) hB2)
            clear hb7 O6 A6 F6 O7 A7 F7 O8 A8 F8 hb8 hg8 hy
            go_wp2_with fail
            go_roundw
            case rel => exact ⟨j + 1, by omega, by go_num, Lib.hid ⟨_, HA8.out, by rw [HK6.out]; exact HO8.out⟩, HF8⟩
            all_goals first | done | (simp [intOf]; done) | (simp [intOf]; omega)
        · obtain rfl : j = g.ands.length := by omega
          have hji : ¬ (g.ands.length : Int) < (g.ands.length : Int) := by omega
          have F1 := hF.out
          clear hF
          have X6 := X5.mono (B := t12) (F1.under (Nat.le_refl _) (Nat.le_of_lt hB2)) hk5
          obtain ⟨x0, x1, x2, x3, x4⟩ := id X6
          go_upto_block 5 with fail
          clear x0 x1 x2 x3 x4
          obtain ⟨iR, hiR, hzR, hsR, hbR⟩ := infoR2_parts
          have hzr : OwnK W5.heap.size 89 3 encR WS (.slice none 0 0) [] := OwnK.nil _ _ _ _ _
          go_wp2_with fail
          go_loopw [94] (fun i wr => ∃ j : Nat, j ≤ g.regs.length ∧ i = .int .i64 (j : Int) ∧ Hid (∃ v2, Arr 28 fV t12 [.slice a g.ins.length a', .slice b g.outN.length b', v2, .slice ad3 (kL g keep P g.ands.length).length cp3, .slice none 0 0] wr ∧ OwnK W5.heap.size 89 3 encR wr v2 ((g.regs.take j).map (atR P)) ∧ OwnK W5.heap.size 110 2 encN wr (.slice ad3 (kL g keep P g.ands.length).length cp3) (kL g keep P g.ands.length)) ∧ Hid (Fr t12 W5 wr)) (fun i _ => g.regs.length - (intOf i).toNat)
          case atStart => exact ⟨0, Nat.zero_le _, rfl, Lib.hid ⟨_, hA3, hzr, hO3⟩, Lib.hid F1⟩
          case round =>
            clear hA3 hzr hO3 F1 X6
            obtain ⟨j, hj, rfl, hZ, hF⟩ := hrel
            rename World => WS
            have hj0 : (0 : Int) ≤ (j : Int) := by omega
            obtain ⟨v2, hA2, hO2, hO3⟩ := hZ.out
            clear hZ
            obtain ⟨ad2, cp2, hv2⟩ := hO2.slice
            subst hv2
            by_cases hlt : j < g.regs.length
            · have hji : (j : Int) < (g.regs.length : Int) := by omega
              obtain ⟨bd, od, rfl, hcell⟩ := hA.regs.pick (by omega)
              have d0 := hcell j hlt 0 _ rfl
              have d1 := hcell j hlt 1 _ rfl
              have d2 := hcell j hlt 2 _ rfl
              simp only [Nat.add_zero] at d0
              clear hcell
              have hbd : bd < w.heap.size := World.block_lt_of_cell? w _ d0
              have e0 := hF.out.cell (show bd ≠ t12 by omega) ((bel5.cell (p := ⟨bd, od + j * 3, none⟩) hbd).trans d0)
              have e1 := hF.out.cell (show bd ≠ t12 by omega) ((bel5.cell (p := ⟨bd, od + j * 3 + 1, none⟩) hbd).trans d1)
              have e2 := hF.out.cell (show bd ≠ t12 by omega) ((bel5.cell (p := ⟨bd, od + j * 3 + 2, none⟩) hbd).trans d2)
              clear d0 d1 d2
              have hlit := vg.next g.regs[j]! (mem1 g.regs hlt)
              rw [allL_two] at hlit
              have HT := Lib.hid (show (g.regs.take (j + 1)).map (atR P) = (g.regs.take j).map (atR P) ++ [atR P g.regs[j]!] by rw [tk1 g.regs hlt, List.map_append]; rfl)
              have hxl : ((g.regs.take j).map (atR P)).length ≤ 4000 := by simp; omega
              generalize g.regs[j]! = rg at e0 e1 e2 hlit HT
              obtain ⟨r0, r1', r2⟩ := rg
              simp only at e0 e1 e2 hlit
              have l1 : ndL r1' < P.length := by have := ndL_lt hlit.1 hlit.2; have := hPN.out; omega
              have HLT := Lib.hid (And.intro hlit.1 l1)
              clear hlit l1
              generalize (g.regs.take j).map (atR P) = xs at hO2 hA2 HT hxl
              go_upto_region 24 with fail
              have b6 : Below WS.heap.size WS (WS.alloc (.cells #[.string r0, .int .i64 r1', .bool r2] 89)) := (Below.refl _ WS).alloc (Nat.le_refl _) _
              have y0 : (WS.alloc (.cells #[.string r0, .int .i64 r1', .bool r2] 89)).cell? ⟨WS.heap.size, 0, none⟩ = some (.string r0) := by go_simp
              have y1 : (WS.alloc (.cells #[.string r0, .int .i64 r1', .bool r2] 89)).cell? ⟨WS.heap.size, 1, none⟩ = some (.int .i64 r1') := by go_simp
              have y2 : (WS.alloc (.cells #[.string r0, .int .i64 r1', .bool r2] 89)).cell? ⟨WS.heap.size, 2, none⟩ = some (.bool r2) := by go_simp
              have O6 := hO2.below b6
              have OY0 := hO3.below b6
              have A6 := hA2.below b6
              have F6 := hF.out.below b6
              clear hO2 hO3 hA2 hF e0 e1 e2
              generalize WS.alloc (.cells #[.string r0, .int .i64 r1', .bool r2] 89) = W6 at b6 y0 y1 y2 O6 OY0 A6 F6 ⊢
              generalize WS.heap.size = r at y0 y1 y2 ⊢
              clear b6
              have HAT1 := Lib.hid (fun W' (hW : Below W6.heap.size W6 W') => HATG.out r1' HLT.out.1 HLT.out.2 W6 F6 W' hW)
              rw [show atR P ⟨r0, r1', r2⟩ = ⟨r0, atL P r1', r2⟩ from rfl] at HT
              generalize atL P r1' = y1' at HAT1 HT
              have o12 : W6.cell? ⟨t12, 2, none⟩ = some (.slice ad2 xs.length cp2) := A6.cell (j := 2) (by simp)
              have hb6 : W5.heap.size ≤ W6.heap.size := F6.size
              have HBW := Lib.hid (fun d os => below_regrown W6 d os)
              have g0 := cell_regrown o12
              have g1 := cell_regrown y0
              have g2 := cell_regrown y1
              have g3 := cell_regrown y2
              clear y0 y1 y2
              refine wp_region_rel 12 (by kernel_rfl) (by kernel_rfl) ?_
              simp only [List.take_succ_cons, List.take_zero, List.drop_succ_cons, List.drop_zero]
              (refine rel_fix0 (fun K hK => ?_); go_simp; refine hK _ ?_; clear hK K)
              (refine rel_fix0 (fun K hK => ?_); go_simp; refine hK _ ?_; clear hK K)
              (refine rel_fix0 (fun K hK => ?_); go_simp; refine hK _ ?_; clear hK K)
              (refine rel_fix0 (fun K hK => ?_); go_simp; refine hK _ ?_; clear hK K)
              (refine rel_fix0 (fun K hK => ?_); go_simp; refine hK _ ?_; clear hK K)
              (refine rel_fix0 (fun K hK => ?_); go_simp; refine hK _ ?_; clear hK K)
              (refine rel_fix0 (fun K hK => ?_); go_simp; refine hK _ ?_; clear hK K)
              (refine rel_fix0 (fun K hK => ?_); go_simp; refine hK _ ?_; clear hK K)
              (refine rel_fix0 (fun K hK => ?_); go_simp; refine hK _ ?_; clear hK K)
              (refine rel_fix0 (fun K hK => ?_); go_simp; apply Exists.intro; refine ⟨fun _ _ => ?_, hK _ ?_⟩; (with_reducible exact ret_fix ((HAT1.out _ (HBW.out _ _)).mono fun _ _ h => ⟨h.1, h.2 ▸ Below.refl _ _⟩)); clear hK K)
              (refine rel_fix0 (fun K hK => ?_); go_simp; refine hK _ ?_; clear hK K)
              refine rel_fact [] (FN [.string r0, .int .i64 y1', .bool r2]) 109 rfl (by simp [Act.put]) (fn_sta _) (by rfl) (by kernel_rfl) (by kernel_rfl) ?_ ?_
              · intro d os
                simp only [relAll]
                go_simp
                refine ⟨⟨_, rfl, fun q u hq => ?_⟩, (Below.refl _ _).alloc (Nat.le_of_eq Array.size_append.symm) _⟩
                match q, hq with
                | 0, hq => cases hq; show _ = some (Value.string r0); go_simp
                | 1, hq => cases hq; show _ = some (Value.int .i64 y1'); go_simp
                | 2, hq => cases hq; show _ = some (Value.bool r2); go_simp
              refine rel_nil ?_
              intro d os
              simp only [relAll]
              rintro v109 ⟨r109, rfl, hy⟩
              clear g0 g1 g2 g3 o12 HAT1
              have hb7 := HBW.out d os
              have O7 := O6.below hb7
              have A7 := A6.below hb7
              have F7 := F6.below hb7
              have hs7 := Nat.le_trans hb6 hb7.size
              have OX0 := OY0.below hb7
              generalize grow (redrawn W6 d) os = W7 at hy O7 A7 F7 hs7 OX0 ⊢
              refine wpList_append_one (enc := encR) (k := 3) (fun _ => rfl) (by decide) (fun x u hu => by simp at hu; rcases hu with rfl | rfl | rfl <;> rfl) rfl _ _ 24 rfl W5.heap.size 89 iR (.agg #[.string ⟨#[]⟩, .int .i64 0, .bool false]) 32 Try.underlying24 hiR hzR hsR hbR (by decide) _ xs rfl O7 r109 1 (⟨r0, y1', r2⟩) rfl hy (show xs.length + 1 ≤ maxLen by unfold maxLen; omega) (show (xs.length + 1) * 32 ≤ 140737488355328 by omega) hs7 ?_
              intro v8 w8 O8 hb8 hg8
              have A8 := Arr.mono A7 hb8 hB2
              have F8 := F7.low hb8
              have OX0 := OX0.kept hg8 (OwnK.tags OX0 O7 (by decide))
              obtain ⟨ad8, n8, cp8, rfl⟩ := OwnK.slice4 O8
              have f8 := A8.free 2
              have o8 : w8.cell? ⟨t12, 2, none⟩ = some _ := A8.cell (j := 2) (by simp)
              have HA8 := Lib.hid (Arr.set A8 2 (.slice ad8 n8 cp8))
              have HF8 := Lib.hid (F8.set 2 (.slice ad8 n8 cp8))
              have HO8 := Lib.hid (owns_at O8 ⟨t12, 2, none⟩ (.slice ad8 n8 cp8) hB2)
              have HX0 := Lib.hid (owns_at OX0 ⟨t12, 2, none⟩ (.slice ad8 n8 cp8) hB2)
              clear hb7 O6 A6 F6 O7 A7 F7 O8 A8 F8 hb8 hg8 hy OX0 OY0
              go_wp2_with fail
              go_roundw
              case rel => exact ⟨j + 1, by omega, by go_num, Lib.hid ⟨_, HA8.out, by rw [HT.out]; exact HO8.out, HX0.out⟩, HF8⟩
              all_goals first | done | (simp [intOf]; done) | (simp [intOf]; omega)
            · obtain rfl : j = g.regs.length := by omega
              have hji : ¬ (g.regs.length : Int) < (g.regs.length : Int) := by omega
              have F1 := hF.out
              clear hF
              rw [List.take_of_length_le (Nat.le_refl _)] at hO2 hA2
              have X6 := X5.mono (B := t12) (F1.under (Nat.le_refl _) (Nat.le_of_lt hB2)) hk5
              obtain ⟨x0, x1, x2, x3, x4⟩ := id X6
              go_upto_block 7 with fail
              clear x0 x1 x2 x3 x4
              obtain ⟨iL, hiL, hzL, hsL, hbL⟩ := infoI_parts
              have hzr : OwnK W5.heap.size 22 1 encI WS (.slice none 0 0) [] := OwnK.nil _ _ _ _ _
              have n4 : g.outs.length ≤ 128 := by have := vg.same; have := vg.outN; omega
              go_wp2_with fail
              go_loopw [116] (fun i wr => ∃ j : Nat, j ≤ g.outs.length ∧ i = .int .i64 (j : Int) ∧ Hid (∃ v4, Arr 28 fV t12 [.slice a g.ins.length a', .slice b g.outN.length b', .slice ad2 (g.regs.map (atR P)).length cp2, .slice ad3 (kL g keep P g.ands.length).length cp3, v4] wr ∧ OwnK W5.heap.size 22 1 encI wr v4 ((g.outs.take j).map (atL P)) ∧ OwnK W5.heap.size 89 3 encR wr (.slice ad2 (g.regs.map (atR P)).length cp2) (g.regs.map (atR P)) ∧ OwnK W5.heap.size 110 2 encN wr (.slice ad3 (kL g keep P g.ands.length).length cp3) (kL g keep P g.ands.length)) ∧ Hid (Fr t12 W5 wr)) (fun i _ => g.outs.length - (intOf i).toNat)
              case atStart => exact ⟨0, Nat.zero_le _, rfl, Lib.hid ⟨_, hA2, hzr, hO2, hO3⟩, Lib.hid F1⟩
              case round =>
                clear hA2 hzr hO2 hO3 F1 X6
                obtain ⟨j, hj, rfl, hZ, hF⟩ := hrel
                rename World => WS
                have hj0 : (0 : Int) ≤ (j : Int) := by omega
                obtain ⟨v4, hA4, hO4, hO2, hO3⟩ := hZ.out
                clear hZ
                obtain ⟨ad4, cp4, hv4⟩ := hO4.slice
                subst hv4
                by_cases hlt : j < g.outs.length
                · have hji : (j : Int) < (g.outs.length : Int) := by omega
                  obtain ⟨bd, od, rfl, hcell⟩ := hA.outs.pick (by omega)
                  have d0 := hcell j hlt 0 _ rfl
                  simp only [Nat.mul_one, Nat.add_zero] at d0
                  clear hcell
                  have hbd : bd < w.heap.size := World.block_lt_of_cell? w _ d0
                  have e0 := hF.out.cell (show bd ≠ t12 by omega) ((bel5.cell (p := ⟨bd, od + j, none⟩) hbd).trans d0)
                  clear d0
                  have hlit := vg.out g.outs[j]! (mem1 g.outs hlt)
                  rw [allL_two] at hlit
                  have HT := Lib.hid (show (g.outs.take (j + 1)).map (atL P) = (g.outs.take j).map (atL P) ++ [atL P g.outs[j]!] by rw [tk1 g.outs hlt, List.map_append]; rfl)
                  have hxl : ((g.outs.take j).map (atL P)).length ≤ 4000 := by simp; omega
                  generalize g.outs[j]! = lt at e0 hlit HT
                  have l1 : ndL lt < P.length := by have := ndL_lt hlit.1 hlit.2; have := hPN.out; omega
                  have HLT := Lib.hid (And.intro hlit.1 l1)
                  clear hlit l1
                  generalize (g.outs.take j).map (atL P) = xs at hO4 hA4 HT hxl
                  go_upto_region 29 with fail
                  have O6 := hO4
                  have OY0 := hO2
                  have OY1 := hO3
                  have A6 := hA4
                  have F6 := hF.out
                  clear hO4 hO2 hO3 hA4 hF e0
                  generalize WS = W6 at O6 OY0 OY1 A6 F6 ⊢
                  have HAT1 := Lib.hid (fun W' (hW : Below W6.heap.size W6 W') => HATG.out lt HLT.out.1 HLT.out.2 W6 F6 W' hW)
                  generalize atL P lt = y1' at HAT1 HT
                  have o12 : W6.cell? ⟨t12, 4, none⟩ = some (.slice ad4 xs.length cp4) := A6.cell (j := 4) (by simp)
                  have hb6 : W5.heap.size ≤ W6.heap.size := F6.size
                  have HBW := Lib.hid (fun d os => below_regrown W6 d os)
                  have g0 := cell_regrown o12
                  refine wp_region_rel 6 (by kernel_rfl) (by kernel_rfl) ?_
                  simp only [List.take_succ_cons, List.take_zero, List.drop_succ_cons, List.drop_zero]
                  (refine rel_fix0 (fun K hK => ?_); go_simp; refine hK _ ?_; clear hK K)
                  (refine rel_fix0 (fun K hK => ?_); go_simp; refine hK _ ?_; clear hK K)
                  (refine rel_fix0 (fun K hK => ?_); go_simp; refine hK _ ?_; clear hK K)
                  (refine rel_fix0 (fun K hK => ?_); go_simp; refine hK _ ?_; clear hK K)
                  (refine rel_fix0 (fun K hK => ?_); go_simp; apply Exists.intro; refine ⟨fun _ _ => ?_, hK _ ?_⟩; (with_reducible exact ret_fix ((HAT1.out _ (HBW.out _ _)).mono fun _ _ h => ⟨h.1, h.2 ▸ Below.refl _ _⟩)); clear hK K)
                  refine rel_fact [] (FN [.int .i64 y1']) 125 rfl (by simp [Act.put]) (fn_sta _) (by rfl) (by kernel_rfl) (by kernel_rfl) ?_ ?_
                  · intro d os
                    simp only [relAll]
                    go_simp
                    refine ⟨⟨_, rfl, fun q u hq => ?_⟩, (Below.refl _ _).alloc (Nat.le_of_eq Array.size_append.symm) _⟩
                    match q, hq with
                    | 0, hq => cases hq; show _ = some (Value.int .i64 y1'); go_simp
                  refine rel_nil ?_
                  intro d os
                  simp only [relAll]
                  rintro v125 ⟨r125, rfl, hy⟩
                  clear g0 o12 HAT1
                  have hb7 := HBW.out d os
                  have O7 := O6.below hb7
                  have A7 := A6.below hb7
                  have F7 := F6.below hb7
                  have hs7 := Nat.le_trans hb6 hb7.size
                  have OX0 := OY0.below hb7
                  have OX1 := OY1.below hb7
                  generalize grow (redrawn W6 d) os = W7 at hy O7 A7 F7 hs7 OX0 OX1 ⊢
                  refine wpList_append_one (enc := encI) (k := 1) (fun _ => rfl) (by decide) (fun x u hu => by simp at hu; rcases hu with rfl; rfl) rfl _ _ 26 rfl W5.heap.size 22 iL (.int .i64 0) 8 Try.underlying26 hiL hzL hsL hbL (by decide) _ xs rfl O7 r125 1 (y1') rfl hy (show xs.length + 1 ≤ maxLen by unfold maxLen; omega) (show (xs.length + 1) * 8 ≤ 140737488355328 by omega) hs7 ?_
                  intro v8 w8 O8 hb8 hg8
                  have A8 := Arr.mono A7 hb8 hB2
                  have F8 := F7.low hb8
                  have OX0 := OX0.kept hg8 (OwnK.tags OX0 O7 (by decide))
                  have OX1 := OX1.kept hg8 (OwnK.tags OX1 O7 (by decide))
                  obtain ⟨ad8, n8, cp8, rfl⟩ := OwnK.slice4 O8
                  have f8 := A8.free 4
                  have o8 : w8.cell? ⟨t12, 4, none⟩ = some _ := A8.cell (j := 4) (by simp)
                  have HA8 := Lib.hid (Arr.set A8 4 (.slice ad8 n8 cp8))
                  have HF8 := Lib.hid (F8.set 4 (.slice ad8 n8 cp8))
                  have HO8 := Lib.hid (owns_at O8 ⟨t12, 4, none⟩ (.slice ad8 n8 cp8) hB2)
                  have HX0 := Lib.hid (owns_at OX0 ⟨t12, 4, none⟩ (.slice ad8 n8 cp8) hB2)
                  have HX1 := Lib.hid (owns_at OX1 ⟨t12, 4, none⟩ (.slice ad8 n8 cp8) hB2)
                  clear hb7 O6 A6 F6 O7 A7 F7 O8 A8 F8 hb8 hg8 hy OX0 OY0 OX1 OY1
                  go_wp2_with fail
                  go_roundw
                  case rel => exact ⟨j + 1, by omega, by go_num, Lib.hid ⟨_, HA8.out, by rw [HT.out]; exact HO8.out, HX0.out, HX1.out⟩, HF8⟩
                  all_goals first | done | (simp [intOf]; done) | (simp [intOf]; omega)
                · obtain rfl : j = g.outs.length := by omega
                  have hji : ¬ (g.outs.length : Int) < (g.outs.length : Int) := by omega
                  rw [List.take_of_length_le (Nat.le_refl _)] at hO4 hA4
                  have F1 := hF.out
                  clear hF
                  have A4S := Arr.fr A45 F1 (show t4 ≠ t12 by omega)
                  have a7S : WS.cell? ⟨t7, 0, none⟩ = some (.slice ad P.length cp) := F1.cell (show t7 ≠ t12 by omega) (A75.cell (j := 0) (by simp))
                  have PS := HPO.out WS F1
                  have hk4 : t4 < WS.heap.size := A4S.lt
                  have hk7 := World.block_lt_of_cell? WS _ a7S
                  have hk12 := hA4.lt
                  have z0 : WS.cell? ⟨t12, 0, none⟩ = some (.slice a g.ins.length a') := hA4.cell (j := 0) (by simp)
                  have z1 : WS.cell? ⟨t12, 1, none⟩ = some (.slice b g.outN.length b') := hA4.cell (j := 1) (by simp)
                  have z2 : WS.cell? ⟨t12, 2, none⟩ = some (.slice ad2 (g.regs.map (atR P)).length cp2) := hA4.cell (j := 2) (by simp)
                  have z3 : WS.cell? ⟨t12, 3, none⟩ = some (.slice ad3 (kL g keep P g.ands.length).length cp3) := hA4.cell (j := 3) (by simp)
                  have z4 : WS.cell? ⟨t12, 4, none⟩ = some (.slice ad4 (g.outs.map (atL P)).length cp4) := hA4.cell (j := 4) (by simp)
                  have f0 := A4S.free 0
                  have f1 := A4S.free 1
                  have f2 := A4S.free 2
                  have f3 := A4S.free 3
                  have f4 := A4S.free 4
                  have q0 : WS.cell? ⟨t4, 0, none⟩ = some (.slice none 0 0) := A4S.cell (j := 0) (by simp)
                  have q1 : WS.cell? ⟨t4, 1, none⟩ = some (.slice none 0 0) := A4S.cell (j := 1) (by simp)
                  have q2 : WS.cell? ⟨t4, 2, none⟩ = some (.slice none 0 0) := A4S.cell (j := 2) (by simp)
                  have q3 : WS.cell? ⟨t4, 3, none⟩ = some (.slice none 0 0) := A4S.cell (j := 3) (by simp)
                  have q4 : WS.cell? ⟨t4, 4, none⟩ = some (.slice none 0 0) := A4S.cell (j := 4) (by simp)
                  generalize hn2 : (g.regs.map (atR P)).length = nn2 at z2
                  generalize hn3 : (kL g keep P g.ands.length).length = nn3 at z3
                  generalize hn4 : (g.outs.map (atL P)).length = nn4 at z4
                  have HN := Lib.hid (And.intro hn2 (And.intro hn3 hn4))
                  clear hn2 hn3 hn4
                  go_upto_region 31 with fail
                  go_region
                  have A9 : Arr 28 fV t4 [.slice a g.ins.length a', .slice b g.outN.length b', .slice ad2 nn2 cp2, .slice ad3 nn3 cp3, .slice ad4 nn4 cp4] ((((((WS.setCell ⟨t4, 0, none⟩ (.slice a g.ins.length a')).setCell ⟨t4, 1, none⟩ (.slice b g.outN.length b')).setCell ⟨t4, 2, none⟩ (.slice ad2 nn2 cp2)).setCell ⟨t4, 3, none⟩ (.slice ad3 nn3 cp3)).setCell ⟨t4, 4, none⟩ (.slice ad4 nn4 cp4)).drew) := ⟨(((((Arr.set A4S 0 (.slice a g.ins.length a')).set 1 (.slice b g.outN.length b')).set 2 (.slice ad2 nn2 cp2)).set 3 (.slice ad3 nn3 cp3)).set 4 (.slice ad4 nn4 cp4)).blk⟩
                  have hw4 : w.heap.size ≤ t4 := by have := HK.out; omega
                  have BW : Below w.heap.size w WS := bel5.trans (F1.under (by omega) bel5.size)
                  have B9 : Below w.heap.size w ((((((WS.setCell ⟨t4, 0, none⟩ (.slice a g.ins.length a')).setCell ⟨t4, 1, none⟩ (.slice b g.outN.length b')).setCell ⟨t4, 2, none⟩ (.slice ad2 nn2 cp2)).setCell ⟨t4, 3, none⟩ (.slice ad3 nn3 cp3)).setCell ⟨t4, 4, none⟩ (.slice ad4 nn4 cp4)).drew) := below_drewN (((((BW.setCell (p := ⟨t4, 0, none⟩) hw4 (.slice a g.ins.length a')).setCell (p := ⟨t4, 1, none⟩) hw4 (.slice b g.outN.length b')).setCell (p := ⟨t4, 2, none⟩) hw4 (.slice ad2 nn2 cp2)).setCell (p := ⟨t4, 3, none⟩) hw4 (.slice ad3 nn3 cp3)).setCell (p := ⟨t4, 4, none⟩) hw4 (.slice ad4 nn4 cp4)) 1
                  have ht45 : t4 < W5.heap.size := by omega
                  have keepO : ∀ {t : TypeId} {k : Nat} {v : Value} {n : Nat} {xs : List Value}, WS.ownsRow W5.heap.size t k v n xs → ((((((WS.setCell ⟨t4, 0, none⟩ (.slice a g.ins.length a')).setCell ⟨t4, 1, none⟩ (.slice b g.outN.length b')).setCell ⟨t4, 2, none⟩ (.slice ad2 nn2 cp2)).setCell ⟨t4, 3, none⟩ (.slice ad3 nn3 cp3)).setCell ⟨t4, 4, none⟩ (.slice ad4 nn4 cp4)).drew).ownsRow W5.heap.size t k v n xs := fun h => owns_at (owns_at (owns_at (owns_at (owns_at h ⟨t4, 0, none⟩ _ ht45) ⟨t4, 1, none⟩ _ ht45) ⟨t4, 2, none⟩ _ ht45) ⟨t4, 3, none⟩ _ ht45) ⟨t4, 4, none⟩ _ ht45
                  have ht40 : t4 < W0.heap.size := ht4
                  have keepP : ((((((WS.setCell ⟨t4, 0, none⟩ (.slice a g.ins.length a')).setCell ⟨t4, 1, none⟩ (.slice b g.outN.length b')).setCell ⟨t4, 2, none⟩ (.slice ad2 nn2 cp2)).setCell ⟨t4, 3, none⟩ (.slice ad3 nn3 cp3)).setCell ⟨t4, 4, none⟩ (.slice ad4 nn4 cp4)).drew).ownsRow W0.heap.size 3 1 (.slice ad P.length cp) P.length (P.map fun n : Int => Value.int .i64 n) := owns_at (owns_at (owns_at (owns_at (owns_at PS ⟨t4, 0, none⟩ _ ht40) ⟨t4, 1, none⟩ _ ht40) ⟨t4, 2, none⟩ _ ht40) ⟨t4, 3, none⟩ _ ht40) ⟨t4, 4, none⟩ _ ht40
                  have GOF : GO (renG g keep) (.agg #[.slice a g.ins.length a', .slice b g.outN.length b', .slice ad2 nn2 cp2, .slice ad3 nn3 cp3, .slice ad4 nn4 cp4]) ((((((WS.setCell ⟨t4, 0, none⟩ (.slice a g.ins.length a')).setCell ⟨t4, 1, none⟩ (.slice b g.outN.length b')).setCell ⟨t4, 2, none⟩ (.slice ad2 nn2 cp2)).setCell ⟨t4, 3, none⟩ (.slice ad3 nn3 cp3)).setCell ⟨t4, 4, none⟩ (.slice ad4 nn4 cp4)).drew) := by
                    have hpl : P = plG g keep := HPE.out
                    subst hpl
                    obtain ⟨m2, m3, m4⟩ := HN.out
                    subst m2 m3 m4
                    obtain ⟨p2, c2', e2, k2, r2⟩ := OwnK.row (k := 3) (enc := encR) (fun _ => rfl) (keepO hO2)
                    obtain ⟨p3, c3', e3, k3, r3⟩ := OwnK.row (k := 2) (enc := encN) (fun _ => rfl) (keepO hO3)
                    obtain ⟨p4, c4', e4, k4, r4⟩ := OwnK.row (k := 1) (enc := encI) (fun _ => rfl) (keepO hO4)
                    cases e2
                    cases e3
                    cases e4
                    exact ⟨⟨a, b, ad2, ad3, ad4, a', b', cp2, cp3, cp4, rfl, ⟨hC.ins, hC.outN, k2, k3, k4, hC.insN, hC.outNN, ownk_nil hO2, ownk_nil hO3, ownk_nil hO4⟩, ⟨hA.ins.below B9, hA.outN.below B9, r2, r3, r4⟩⟩⟩
                  have HPR : RowOf 1 encI (plG g keep) (.slice ad P.length cp) ((((((WS.setCell ⟨t4, 0, none⟩ (.slice a g.ins.length a')).setCell ⟨t4, 1, none⟩ (.slice b g.outN.length b')).setCell ⟨t4, 2, none⟩ (.slice ad2 nn2 cp2)).setCell ⟨t4, 3, none⟩ (.slice ad3 nn3 cp3)).setCell ⟨t4, 4, none⟩ (.slice ad4 nn4 cp4)).drew) := by
                    have hpl : P = plG g keep := HPE.out
                    subst hpl
                    exact Own.row (f := fun n : Int => Value.int .i64 n) keepP
                  clear keepO keepP
                  generalize ((((((WS.setCell ⟨t4, 0, none⟩ (.slice a g.ins.length a')).setCell ⟨t4, 1, none⟩ (.slice b g.outN.length b')).setCell ⟨t4, 2, none⟩ (.slice ad2 nn2 cp2)).setCell ⟨t4, 3, none⟩ (.slice ad3 nn3 cp3)).setCell ⟨t4, 4, none⟩ (.slice ad4 nn4 cp4)).drew) = WF at A9 B9 GOF HPR ⊢
                  have y0 : WF.cell? ⟨t4, 0, none⟩ = some (.slice a g.ins.length a') := A9.cell (j := 0) (by simp)
                  have y1 : WF.cell? ⟨t4, 1, none⟩ = some (.slice b g.outN.length b') := A9.cell (j := 1) (by simp)
                  have y2 : WF.cell? ⟨t4, 2, none⟩ = some (.slice ad2 nn2 cp2) := A9.cell (j := 2) (by simp)
                  have y3 : WF.cell? ⟨t4, 3, none⟩ = some (.slice ad3 nn3 cp3) := A9.cell (j := 3) (by simp)
                  have y4 : WF.cell? ⟨t4, 4, none⟩ = some (.slice ad4 nn4 cp4) := A9.cell (j := 4) (by simp)
                  clear hA4 z0 z1 z2 z3 z4 q0 q1 q2 q3 q4 f0 f1 f2 f3 f4 A4S a7S PS
                  go_wp2_with fail
                  exact bodyPost_ret (v := .tuple #[.agg #[.slice a g.ins.length a', .slice b g.outN.length b', .slice ad2 nn2 cp2, .slice ad3 nn3 cp3, .slice ad4 nn4 cp4], .slice ad P.length cp]) (by simp [results, Try.results63, go_sem, y0, y1, y2, y3, y4]) rfl ⟨_, _, rfl, GOF, HPR, B9⟩
end Go.Proofs.Ytbphhcjepeamcaa
