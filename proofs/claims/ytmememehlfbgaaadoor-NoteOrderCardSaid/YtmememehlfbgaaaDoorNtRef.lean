/- The reference's Sorted. Conditions: the cells of the list. -/
import Derived.Test.YtmememehlfbgaaaDoorNtSortM
import Derived.Test.YtmememehlfbgaaaDoorNtBef
import Derived.Test.YtmememehlfbgaaaDoorRelC
import Derived.Lib.QuietBelow
import Derived.Deep.CutBlock
import Derived.Deep.DeepCutAuto
import Derived.LoopTactic
namespace Go.Proofs.YtmememehlfbgaaaDoor
open Go Go.RowKit Go.Sort Go.Lib
set_option linter.unusedVariables false
/-- the five cells of a message -/
structure F5 (w : World) (bl o : Nat) (x : Nt) : Prop where
  c0 : w.cell? ⟨bl, o, none⟩ = some (.string x.f)
  c1 : w.cell? ⟨bl, o + 1, none⟩ = some (.int .i64 x.l)
  c2 : w.cell? ⟨bl, o + 2, none⟩ = some (.int .i64 x.c)
  c3 : w.cell? ⟨bl, o + 3, none⟩ = some (.int .i64 x.e)
  c4 : w.cell? ⟨bl, o + 4, none⟩ = some (.string x.t)
theorem f5_cell {w w' : World} {p o : Nat} {v : Value} (hb : Below w.heap.size w w') (h : w.cell? ⟨p, o, none⟩ = some v) : w'.cell? ⟨p, o, none⟩ = some v :=
  (hb.cell (p := ⟨p, o, none⟩) (World.block_lt_of_cell? w _ h)).trans h
theorem F5.below {w w' : World} {bl o : Nat} {x : Nt} (h : F5 w bl o x) (hb : Below w.heap.size w w') : F5 w' bl o x :=
  ⟨f5_cell hb h.c0, f5_cell hb h.c1, f5_cell hb h.c2, f5_cell hb h.c3, f5_cell hb h.c4⟩
theorem F5.lt {w : World} {bl o : Nat} {x : Nt} (h : F5 w bl o x) : bl < w.heap.size := World.block_lt_of_cell? w _ h.c0
theorem RR.f5 {w : World} {bl off : Nat} {L : List Nt} (h : RR w bl off L) {j : Nat} (hj : j < L.length) : F5 w bl (off + j * 5) L[j]! :=
  ⟨h j hj 0 (by decide), h j hj 1 (by decide), h j hj 2 (by decide), h j hj 3 (by decide), h j hj 4 (by decide)⟩
theorem own5_slice {w : World} {base : Nat} {e : TypeId} {k : Nat} {v : Value} {n : Nat} {xs : List Value} (h : w.ownsRow base e k v n xs) : ∃ ad cap, v = .slice ad n cap := by
  obtain ⟨_, ⟨rfl, rfl⟩ | ⟨g, cap, cur, rfl, _⟩⟩ := h
  · exact ⟨none, 0, rfl⟩
  · exact ⟨_, cap, rfl⟩
theorem own5_last {w : World} {base m : Nat} {v : Value} {L : List Nt} {T : TypeId} (h : w.ownsRow base T 5 v m (flatN L)) (hn : m = L.length) (h1 : 1 ≤ m) : ∃ g cap, v = .slice (some ⟨g, 0, none⟩) m cap ∧ F5 w g ((m - 1) * 5) L[m - 1]! := by
  have hv : v ≠ .slice none 0 0 := by
    intro e
    obtain ⟨_, ⟨_, h2⟩ | ⟨g, cap, cur, h2, _⟩⟩ := h
    · omega
    · rw [e] at h2; cases h2
  obtain ⟨g, cap, e, _, _, _, hR⟩ := own_rn h hn hv
  have := (hR.rr).f5 (j := m - 1) (by simp; omega)
  rw [Nat.zero_add] at this
  exact ⟨g, cap, e, this⟩
theorem own5_below {w w' : World} {base : Nat} {e : TypeId} {k n : Nat} {v : Value} {xs : List Value} (h : w.ownsRow base e k v n xs) (hb : Below w.heap.size w w') : w'.ownsRow base e k v n xs := own_below h hb
/-- behind the last one that is out -/
def After (L : List Nt) (m j : Nat) : Prop := m = 0 ∨ ltN (kept L)[m - 1]! L[j]! = true
/-- the best so far -/
def Best (L : List Nt) (m i : Nat) (s : Value) : Prop :=
  (s = .int .i64 (-1) ∧ ∀ j, j < i → ¬ After L m j) ∨ ∃ b : Nat, b < i ∧ s = .int .i64 b ∧ After L m b ∧ ∀ j, j < i → After L m j → ltN L[j]! L[b]! = false
theorem best_no {L : List Nt} {m i : Nat} {s : Value} (h : Best L m i s) (hn : ¬ After L m i) : Best L m (i + 1) s := by
  rcases h with ⟨rfl, h⟩ | ⟨b, h1, rfl, h2, h3⟩
  · exact .inl ⟨rfl, fun j hj => by
      rcases Nat.lt_or_ge j i with h4 | h4
      · exact h j h4
      · rw [show j = i by omega]; exact hn⟩
  · exact .inr ⟨b, by omega, rfl, h2, fun j hj ha => by
      rcases Nat.lt_or_ge j i with h4 | h4
      · exact h3 j h4 ha
      · rw [show j = i by omega] at ha; exact absurd ha hn⟩
theorem best_first {L : List Nt} {m i : Nat} (h : ∀ j, j < i → ¬ After L m j) (ha : After L m i) : Best L m (i + 1) (.int .i64 i) :=
  .inr ⟨i, by omega, rfl, ha, fun j hj hj2 => by
    rcases Nat.lt_or_ge j i with h4 | h4
    · exact absurd hj2 (h j h4)
    · rw [show j = i by omega]; exact ltN_self _⟩
theorem best_new {L : List Nt} {m i b : Nat} (ha : After L m i) (h3 : ∀ j, j < i → After L m j → ltN L[j]! L[b]! = false) (hlt : ltN L[i]! L[b]! = true) : Best L m (i + 1) (.int .i64 i) :=
  .inr ⟨i, by omega, rfl, ha, fun j hj hj2 => by
    rcases Nat.lt_or_ge j i with h4 | h4
    · cases e : ltN L[j]! L[i]! with
      | false => rfl
      | true =>
        have := ltN_tr e hlt
        rw [h3 j h4 hj2] at this; cases this
    · rw [show j = i by omega]; exact ltN_self _⟩
theorem best_keep {L : List Nt} {m i b : Nat} (hb : b < i) (h2 : After L m b) (h3 : ∀ j, j < i → After L m j → ltN L[j]! L[b]! = false) (hlt : ltN L[i]! L[b]! = false) : Best L m (i + 1) (.int .i64 b) :=
  .inr ⟨b, by omega, rfl, h2, fun j hj hj2 => by
    rcases Nat.lt_or_ge j i with h4 | h4
    · exact h3 j h4 hj2
    · rw [show j = i by omega]; exact hlt⟩
def slN : Value → Nat
  | .slice _ n _ => n
  | _ => 0
set_option maxHeartbeats 8000000 in
set_option maxRecDepth 100000 in
theorem sorted_ok (bl off cap : Nat) (L : List Nt) (w : World) (hn : L.length ≤ 1000000000) (h1 : 1 ≤ L.length) (hc : RR w bl off L) :
    Calls Tryd.prog 17 #[.slice (some ⟨bl, off, none⟩) L.length cap] w fun e w' => ∃ v, e = .returned v ∧ w'.ownsRow w.heap.size 35 5 v (sortedN L).length (flatN (sortedN L)) ∧ Below w.heap.size w w' := by
  have HC := Lib.hid hc
  clear hc
  obtain ⟨i0, hi, hz0, hz1, hz2⟩ := info_parts infoN
  have HI := Lib.hid hi
  have HZ := Lib.hid (And.intro hz0 (And.intro hz1 hz2))
  clear hi hz0 hz1 hz2
  go_enter Tryd.func17, Tryd.ntmps17
  go_wp2_with fail
  go_loopw [3] (fun s3 wo => ∃ m : Nat, m ≤ 20 ∧ m ≤ (kept L).length ∧ wo.ownsRow w.heap.size 35 5 s3 m (flatN ((kept L).take m)) ∧ Below w.heap.size w wo) (fun s3 _ => 20 - slN s3)
  case atStart => exact ⟨0, by omega, by omega, ⟨rfl, .inl ⟨rfl, rfl⟩⟩, Below.refl _ _⟩
  case round =>
    rename World => wo
    obtain ⟨m, hm, hmk, ho, hlo⟩ := hrel
    have HO := Lib.hid ho
    have HCo := Lib.hid (HC.out.below hlo)
    have HL := Lib.hid hlo
    by_cases hlt : m < 20
    · obtain ⟨ad3, cap3, rfl⟩ := own5_slice ho
      have hlast : 1 ≤ m → ∃ g cap, Value.slice ad3 m cap3 = .slice (some ⟨g, 0, none⟩) m cap ∧ F5 wo g ((m - 1) * 5) (kept L)[m - 1]! := fun h => by
        obtain ⟨g, cap, e, hf⟩ := own5_last HO.out (by rw [List.length_take]; omega) h
        refine ⟨g, cap, e, ?_⟩
        have e2 : ((kept L).take m)[m - 1]! = (kept L)[m - 1]! := by
          rw [getElem!_pos ((kept L).take m) (m - 1) (by rw [List.length_take]; omega), getElem!_pos (kept L) (m - 1) (by omega), List.getElem_take]
        rw [e2] at hf; exact hf
      have HLa := Lib.hid hlast
      have HLt := Lib.hid hlt
      clear ho hlo hlast
      go_upto_block 2 with fail
      simp only [show decide ((m : Int) < 20) = true from decide_eq_true (by omega)]
      go_cut [4] (fun s4 wx => Hid (Best L m L.length s4) ∧ Below wo.heap.size wo wx)
      case first =>
        go_wp2_with fail
        go_loopw [4, 12] (fun s4 s12 wr => ∃ i : Nat, i ≤ L.length ∧ s12 = .int .i64 i ∧ Hid (Best L m i s4) ∧ Below wo.heap.size wo wr) (fun _ s12 _ => L.length - (intOf s12).toNat)
        case atStart => exact ⟨0, by omega, rfl, .inl ⟨rfl, fun j hj => absurd hj (by omega)⟩, Below.refl _ _⟩
        case round =>
          obtain ⟨i, hile, rfl, HB, hlo⟩ := hrel
          by_cases hil : i < L.length
          · clear hlt
            have hcw := (HCo.out.below hlo)
            obtain ⟨x0, x1, x2, x3, x4⟩ := hcw.f5 hil
            obtain ⟨x, hx⟩ : ∃ x, L[i]! = x := ⟨_, rfl⟩
            rw [hx] at x0 x1 x2 x3 x4
            have HX := Lib.hid hx
            have HCw := Lib.hid hcw
            clear hx hcw
            obtain ⟨xf, xl, xc, xe, xt⟩ := x
            simp only at x0 x1 x2 x3 x4
            by_cases m0 : m = 0
            · have hm0 : (m = 0) = True := eq_true m0
              have hA : After L m i := .inl m0
              clear m0
              rcases HB.out with ⟨rfl, hno⟩ | ⟨b, hbi, rfl, ha, hmin⟩
              · have HNo := Lib.hid hno
                clear hno
                go_upto_region 7 with fail
                obtain ⟨W, hW⟩ : ∃ W, W = wr.alloc (Obj.cells #[Value.string xf, Value.int IntKind.i64 xl, Value.int IntKind.i64 xc, Value.int IntKind.i64 xe, Value.string xt] 35) := ⟨_, rfl⟩
                rw [← hW]
                have hb : Below wr.heap.size wr W := by rw [hW]; exact (Below.refl _ _).alloc (Nat.le_refl _) _
                have k0 := cell_regrown (show W.cell? ⟨wr.heap.size, 0, none⟩ = some (.string xf) by rw [hW]; go_simp)
                have k1 := cell_regrown (show W.cell? ⟨wr.heap.size, 1, none⟩ = some (.int .i64 xl) by rw [hW]; go_simp)
                have k2 := cell_regrown (show W.cell? ⟨wr.heap.size, 2, none⟩ = some (.int .i64 xc) by rw [hW]; go_simp)
                have k3 := cell_regrown (show W.cell? ⟨wr.heap.size, 3, none⟩ = some (.int .i64 xe) by rw [hW]; go_simp)
                have k4 := cell_regrown (show W.cell? ⟨wr.heap.size, 4, none⟩ = some (.string xt) by rw [hW]; go_simp)
                clear hW x0 x1 x2 x3 x4
                refine wp_region_rel 25 (by kernel_rfl) (by kernel_rfl) ?_
                simp only [List.take_succ_cons, List.take_zero, List.drop_succ_cons, List.drop_zero]
                (refine rel_fix0 (fun K hK => ?_); go_simp; refine hK _ ?_; clear hK K)
                (refine rel_fix0 (fun K hK => ?_); go_simp; refine hK _ ?_; clear hK K)
                (refine rel_fix0 (fun K hK => ?_); go_simp; refine hK _ ?_; clear hK K)
                (refine rel_fix0 (fun K hK => ?_); go_simp; refine hK _ ?_; clear hK K)
                (refine rel_fix0 (fun K hK => ?_); go_simp; refine hK _ ?_; clear hK K)
                (refine rel_fix0 (fun K hK => ?_); go_simp; refine hK _ ?_; clear hK K)
                (refine rel_fix0 (fun K hK => ?_); go_simp; refine hK _ ?_; clear hK K)
                (refine rel_fix0 (fun K hK => ?_); go_simp; refine hK _ ?_; clear hK K)
                (refine rel_fix0 (fun K hK => ?_); go_simp; refine hK _ ?_; clear hK K)
                (refine rel_fix0 (fun K hK => ?_); go_simp; refine hK _ ?_; clear hK K)
                (refine rel_fix0 (fun K hK => ?_); go_simp; refine hK _ ?_; clear hK K)
                (refine rel_fix0 (fun K hK => ?_); go_simp; refine hK _ ?_; clear hK K)
                (refine rel_fix0 (fun K hK => ?_); go_simp; refine hK _ ?_; clear hK K)
                (refine rel_fix0 (fun K hK => ?_); go_simp; refine hK _ ?_; clear hK K)
                (refine rel_fix0 (fun K hK => ?_); go_simp; refine hK _ ?_; clear hK K)
                (refine rel_fix0 (fun K hK => ?_); go_simp; refine hK _ ?_; clear hK K)
                (refine rel_fix0 (fun K hK => ?_); go_simp; refine hK _ ?_; clear hK K)
                (refine rel_fix0 (fun K hK => ?_); go_simp; refine hK _ ?_; clear hK K)
                (refine rel_fix0 (fun K hK => ?_); go_simp; refine hK _ ?_; clear hK K)
                (refine rel_fix0 (fun K hK => ?_); go_simp; refine hK _ ?_; clear hK K)
                (refine rel_fix0 (fun K hK => ?_); go_simp; refine hK _ ?_; clear hK K)
                (refine rel_fix0 (fun K hK => ?_); go_simp; refine hK _ ?_; clear hK K)
                (refine rel_fix0 (fun K hK => ?_); go_simp; refine hK _ ?_; clear hK K)
                (refine rel_fix0 (fun K hK => ?_); go_simp; refine hK _ ?_; clear hK K)
                (refine rel_fix0 (fun K hK => ?_); go_simp; refine hK _ ?_; clear hK K)
                refine rel_nil ?_
                intro dq osq
                simp only [relAll]
                have hq := hlo.trans ((hb.trans ((below_regrown W dq osq).mono hb.size)).mono hlo.size)
                clear k0 k1 k2 k3 k4
                go_wp2_with fail
                go_roundw
                case rel =>
                  exact ⟨i + 1, by omega, by go_num, best_first HNo.out hA, hq⟩
                case measure => simp [intOf]; omega
              · obtain ⟨y0, y1, y2, y3, y4⟩ := HCw.out.f5 (show b < L.length by omega)
                obtain ⟨y, hy⟩ : ∃ y, L[b]! = y := ⟨_, rfl⟩
                rw [hy] at y0 y1 y2 y3 y4
                have HY := Lib.hid hy
                have HMin := Lib.hid hmin
                have HA := Lib.hid ha
                have hbl : b < L.length := by omega
                clear hy hmin ha
                obtain ⟨yf, yl, yc, ye, yt⟩ := y
                simp only at y0 y1 y2 y3 y4
                cases hr2 : ltN ⟨xf, xl, xc, xe, xt⟩ ⟨yf, yl, yc, ye, yt⟩
                · have HR2 := Lib.hid hr2
                  clear hr2
                  go_upto_region 7 with fail
                  obtain ⟨W, hW⟩ : ∃ W, W = wr.alloc (Obj.cells #[Value.string xf, Value.int IntKind.i64 xl, Value.int IntKind.i64 xc, Value.int IntKind.i64 xe, Value.string xt] 35) := ⟨_, rfl⟩
                  rw [← hW]
                  have hb : Below wr.heap.size wr W := by rw [hW]; exact (Below.refl _ _).alloc (Nat.le_refl _) _
                  have k0 := cell_regrown (show W.cell? ⟨wr.heap.size, 0, none⟩ = some (.string xf) by rw [hW]; go_simp)
                  have k1 := cell_regrown (show W.cell? ⟨wr.heap.size, 1, none⟩ = some (.int .i64 xl) by rw [hW]; go_simp)
                  have k2 := cell_regrown (show W.cell? ⟨wr.heap.size, 2, none⟩ = some (.int .i64 xc) by rw [hW]; go_simp)
                  have k3 := cell_regrown (show W.cell? ⟨wr.heap.size, 3, none⟩ = some (.int .i64 xe) by rw [hW]; go_simp)
                  have k4 := cell_regrown (show W.cell? ⟨wr.heap.size, 4, none⟩ = some (.string xt) by rw [hW]; go_simp)
                  have ky0 := cell_regrown (f5_cell hb y0)
                  have ky1 := cell_regrown (f5_cell hb y1)
                  have ky2 := cell_regrown (f5_cell hb y2)
                  have ky3 := cell_regrown (f5_cell hb y3)
                  have ky4 := cell_regrown (f5_cell hb y4)
                  have cB : ∀ d os, Calls Tryd.prog 12 #[.agg #[.string xf, .int .i64 xl, .int .i64 xc, .int .i64 xe, .string xt], .agg #[.string yf, .int .i64 yl, .int .i64 yc, .int .i64 ye, .string yt]] (grow (redrawn W d) os) (RetF (fun u _ => u = .bool false) (grow (redrawn W d) os)) := fun d os => by rw [← HR2.out]; exact ret_fix (before_ok ⟨xf, xl, xc, xe, xt⟩ ⟨yf, yl, yc, ye, yt⟩ _)
                  clear hW x0 x1 x2 x3 x4
                  clear y0 y1 y2 y3 y4
                  refine wp_region_rel 25 (by kernel_rfl) (by kernel_rfl) ?_
                  simp only [List.take_succ_cons, List.take_zero, List.drop_succ_cons, List.drop_zero]
                  (refine rel_fix0 (fun K hK => ?_); go_simp; refine hK _ ?_; clear hK K)
                  (refine rel_fix0 (fun K hK => ?_); go_simp; refine hK _ ?_; clear hK K)
                  (refine rel_fix0 (fun K hK => ?_); go_simp; refine hK _ ?_; clear hK K)
                  (refine rel_fix0 (fun K hK => ?_); go_simp; refine hK _ ?_; clear hK K)
                  (refine rel_fix0 (fun K hK => ?_); go_simp; refine hK _ ?_; clear hK K)
                  (refine rel_fix0 (fun K hK => ?_); go_simp; refine hK _ ?_; clear hK K)
                  (refine rel_fix0 (fun K hK => ?_); go_simp; refine hK _ ?_; clear hK K)
                  (refine rel_fix0 (fun K hK => ?_); go_simp; refine hK _ ?_; clear hK K)
                  (refine rel_fix0 (fun K hK => ?_); go_simp; refine hK _ ?_; clear hK K)
                  (refine rel_fix0 (fun K hK => ?_); go_simp; refine hK _ ?_; clear hK K)
                  (refine rel_fix0 (fun K hK => ?_); go_simp; refine hK _ ?_; clear hK K)
                  (refine rel_fix0 (fun K hK => ?_); go_simp; refine hK _ ?_; clear hK K)
                  (refine rel_fix0 (fun K hK => ?_); go_simp; refine hK _ ?_; clear hK K)
                  (refine rel_fix0 (fun K hK => ?_); go_simp; refine hK _ ?_; clear hK K)
                  (refine rel_fix0 (fun K hK => ?_); go_simp; refine hK _ ?_; clear hK K)
                  (refine rel_fix0 (fun K hK => ?_); go_simp; refine hK _ ?_; clear hK K)
                  (refine rel_fix0 (fun K hK => ?_); go_simp; refine hK _ ?_; clear hK K)
                  (refine rel_fix0 (fun K hK => ?_); go_simp; refine hK _ ?_; clear hK K)
                  (refine rel_fix0 (fun K hK => ?_); go_simp; refine hK _ ?_; clear hK K)
                  (refine rel_fix0 (fun K hK => ?_); go_simp; refine hK _ ?_; clear hK K)
                  (refine rel_fix0 (fun K hK => ?_); go_simp; refine hK _ ?_; clear hK K)
                  (refine rel_fix0 (fun K hK => ?_); go_simp; refine hK _ ?_; clear hK K)
                  (refine rel_fix0 (fun K hK => ?_); go_simp; apply Exists.intro; refine ⟨fun _ _ => ?_, hK _ ?_⟩; (with_reducible exact cB _ _); clear hK K)
                  (refine rel_fix0 (fun K hK => ?_); go_simp; refine hK _ ?_; clear hK K)
                  (refine rel_fix0 (fun K hK => ?_); go_simp; refine hK _ ?_; clear hK K)
                  refine rel_nil ?_
                  intro dq osq
                  simp only [relAll]
                  have hq := hlo.trans ((hb.trans ((below_regrown W dq osq).mono hb.size)).mono hlo.size)
                  clear k0 k1 k2 k3 k4 ky0 ky1 ky2 ky3 ky4 cB
                  go_wp2_with fail
                  go_roundw
                  case rel =>
                    exact ⟨i + 1, by omega, by go_num, best_keep hbi HA.out HMin.out (by rw [HX.out, HY.out]; exact HR2.out), hq⟩
                  case measure => simp [intOf]; omega
                · have HR2 := Lib.hid hr2
                  clear hr2
                  go_upto_region 7 with fail
                  obtain ⟨W, hW⟩ : ∃ W, W = wr.alloc (Obj.cells #[Value.string xf, Value.int IntKind.i64 xl, Value.int IntKind.i64 xc, Value.int IntKind.i64 xe, Value.string xt] 35) := ⟨_, rfl⟩
                  rw [← hW]
                  have hb : Below wr.heap.size wr W := by rw [hW]; exact (Below.refl _ _).alloc (Nat.le_refl _) _
                  have k0 := cell_regrown (show W.cell? ⟨wr.heap.size, 0, none⟩ = some (.string xf) by rw [hW]; go_simp)
                  have k1 := cell_regrown (show W.cell? ⟨wr.heap.size, 1, none⟩ = some (.int .i64 xl) by rw [hW]; go_simp)
                  have k2 := cell_regrown (show W.cell? ⟨wr.heap.size, 2, none⟩ = some (.int .i64 xc) by rw [hW]; go_simp)
                  have k3 := cell_regrown (show W.cell? ⟨wr.heap.size, 3, none⟩ = some (.int .i64 xe) by rw [hW]; go_simp)
                  have k4 := cell_regrown (show W.cell? ⟨wr.heap.size, 4, none⟩ = some (.string xt) by rw [hW]; go_simp)
                  have ky0 := cell_regrown (f5_cell hb y0)
                  have ky1 := cell_regrown (f5_cell hb y1)
                  have ky2 := cell_regrown (f5_cell hb y2)
                  have ky3 := cell_regrown (f5_cell hb y3)
                  have ky4 := cell_regrown (f5_cell hb y4)
                  have cB : ∀ d os, Calls Tryd.prog 12 #[.agg #[.string xf, .int .i64 xl, .int .i64 xc, .int .i64 xe, .string xt], .agg #[.string yf, .int .i64 yl, .int .i64 yc, .int .i64 ye, .string yt]] (grow (redrawn W d) os) (RetF (fun u _ => u = .bool true) (grow (redrawn W d) os)) := fun d os => by rw [← HR2.out]; exact ret_fix (before_ok ⟨xf, xl, xc, xe, xt⟩ ⟨yf, yl, yc, ye, yt⟩ _)
                  clear hW x0 x1 x2 x3 x4
                  clear y0 y1 y2 y3 y4
                  refine wp_region_rel 25 (by kernel_rfl) (by kernel_rfl) ?_
                  simp only [List.take_succ_cons, List.take_zero, List.drop_succ_cons, List.drop_zero]
                  (refine rel_fix0 (fun K hK => ?_); go_simp; refine hK _ ?_; clear hK K)
                  (refine rel_fix0 (fun K hK => ?_); go_simp; refine hK _ ?_; clear hK K)
                  (refine rel_fix0 (fun K hK => ?_); go_simp; refine hK _ ?_; clear hK K)
                  (refine rel_fix0 (fun K hK => ?_); go_simp; refine hK _ ?_; clear hK K)
                  (refine rel_fix0 (fun K hK => ?_); go_simp; refine hK _ ?_; clear hK K)
                  (refine rel_fix0 (fun K hK => ?_); go_simp; refine hK _ ?_; clear hK K)
                  (refine rel_fix0 (fun K hK => ?_); go_simp; refine hK _ ?_; clear hK K)
                  (refine rel_fix0 (fun K hK => ?_); go_simp; refine hK _ ?_; clear hK K)
                  (refine rel_fix0 (fun K hK => ?_); go_simp; refine hK _ ?_; clear hK K)
                  (refine rel_fix0 (fun K hK => ?_); go_simp; refine hK _ ?_; clear hK K)
                  (refine rel_fix0 (fun K hK => ?_); go_simp; refine hK _ ?_; clear hK K)
                  (refine rel_fix0 (fun K hK => ?_); go_simp; refine hK _ ?_; clear hK K)
                  (refine rel_fix0 (fun K hK => ?_); go_simp; refine hK _ ?_; clear hK K)
                  (refine rel_fix0 (fun K hK => ?_); go_simp; refine hK _ ?_; clear hK K)
                  (refine rel_fix0 (fun K hK => ?_); go_simp; refine hK _ ?_; clear hK K)
                  (refine rel_fix0 (fun K hK => ?_); go_simp; refine hK _ ?_; clear hK K)
                  (refine rel_fix0 (fun K hK => ?_); go_simp; refine hK _ ?_; clear hK K)
                  (refine rel_fix0 (fun K hK => ?_); go_simp; refine hK _ ?_; clear hK K)
                  (refine rel_fix0 (fun K hK => ?_); go_simp; refine hK _ ?_; clear hK K)
                  (refine rel_fix0 (fun K hK => ?_); go_simp; refine hK _ ?_; clear hK K)
                  (refine rel_fix0 (fun K hK => ?_); go_simp; refine hK _ ?_; clear hK K)
                  (refine rel_fix0 (fun K hK => ?_); go_simp; refine hK _ ?_; clear hK K)
                  (refine rel_fix0 (fun K hK => ?_); go_simp; apply Exists.intro; refine ⟨fun _ _ => ?_, hK _ ?_⟩; (with_reducible exact cB _ _); clear hK K)
                  (refine rel_fix0 (fun K hK => ?_); go_simp; refine hK _ ?_; clear hK K)
                  (refine rel_fix0 (fun K hK => ?_); go_simp; refine hK _ ?_; clear hK K)
                  refine rel_nil ?_
                  intro dq osq
                  simp only [relAll]
                  have hq := hlo.trans ((hb.trans ((below_regrown W dq osq).mono hb.size)).mono hlo.size)
                  clear k0 k1 k2 k3 k4 ky0 ky1 ky2 ky3 ky4 cB
                  go_wp2_with fail
                  go_roundw
                  case rel =>
                    exact ⟨i + 1, by omega, by go_num, best_new hA HMin.out (by rw [HX.out, HY.out]; exact HR2.out), hq⟩
                  case measure => simp [intOf]; omega
            · have hm0 : (m = 0) = False := eq_false m0
              have hm1 : 1 ≤ m := by omega
              obtain ⟨q, hqm⟩ : ∃ q, m - 1 = q := ⟨_, rfl⟩
              have hw : IntKind.i64.wrap ((m : Int) - 1) = (q : Int) := by
                rw [← hqm]
                have := HLt.out
                unfold IntKind.wrap
                simp [IntKind.bits, IntKind.signed]
                omega
              have hql : q < m := by omega
              obtain ⟨gg, capg, ge, hf⟩ := HLa.out hm1
              injection ge with ge1 ge2 ge3
              subst ge1 ge3
              rw [hqm] at hf
              obtain ⟨z0, z1, z2, z3, z4⟩ := hf.below hlo
              obtain ⟨z, hz⟩ : ∃ z, (kept L)[q]! = z := ⟨_, rfl⟩
              rw [hz] at z0 z1 z2 z3 z4
              have HZz := Lib.hid hz
              have hAf : ∀ j, After L m j ↔ ltN z L[j]! = true := fun j => by
                unfold After
                rw [hqm, hz]
                exact ⟨fun h => h.resolve_left m0, fun h => .inr h⟩
              have HAf := Lib.hid hAf
              have HQm := Lib.hid hqm
              clear hz hAf hf m0 hqm
              obtain ⟨zf, zl, zc, ze, zt⟩ := z
              simp only at z0 z1 z2 z3 z4
              cases hr1 : ltN ⟨zf, zl, zc, ze, zt⟩ ⟨xf, xl, xc, xe, xt⟩
              · have HR1 := Lib.hid hr1
                have hN : ¬ After L m i := fun h => by
                  have := (HAf.out i).1 h
                  rw [HX.out, HR1.out] at this; cases this
                clear hr1
                go_upto_region 7 with fail
                obtain ⟨W, hW⟩ : ∃ W, W = wr.alloc (Obj.cells #[Value.string xf, Value.int IntKind.i64 xl, Value.int IntKind.i64 xc, Value.int IntKind.i64 xe, Value.string xt] 35) := ⟨_, rfl⟩
                rw [← hW]
                have hb : Below wr.heap.size wr W := by rw [hW]; exact (Below.refl _ _).alloc (Nat.le_refl _) _
                have k0 := cell_regrown (show W.cell? ⟨wr.heap.size, 0, none⟩ = some (.string xf) by rw [hW]; go_simp)
                have k1 := cell_regrown (show W.cell? ⟨wr.heap.size, 1, none⟩ = some (.int .i64 xl) by rw [hW]; go_simp)
                have k2 := cell_regrown (show W.cell? ⟨wr.heap.size, 2, none⟩ = some (.int .i64 xc) by rw [hW]; go_simp)
                have k3 := cell_regrown (show W.cell? ⟨wr.heap.size, 3, none⟩ = some (.int .i64 xe) by rw [hW]; go_simp)
                have k4 := cell_regrown (show W.cell? ⟨wr.heap.size, 4, none⟩ = some (.string xt) by rw [hW]; go_simp)
                have kz0 := cell_regrown (f5_cell hb z0)
                have kz1 := cell_regrown (f5_cell hb z1)
                have kz2 := cell_regrown (f5_cell hb z2)
                have kz3 := cell_regrown (f5_cell hb z3)
                have kz4 := cell_regrown (f5_cell hb z4)
                have cA : ∀ d os, Calls Tryd.prog 12 #[.agg #[.string zf, .int .i64 zl, .int .i64 zc, .int .i64 ze, .string zt], .agg #[.string xf, .int .i64 xl, .int .i64 xc, .int .i64 xe, .string xt]] (grow (redrawn W d) os) (RetF (fun u _ => u = .bool false) (grow (redrawn W d) os)) := fun d os => by rw [← HR1.out]; exact ret_fix (before_ok ⟨zf, zl, zc, ze, zt⟩ ⟨xf, xl, xc, xe, xt⟩ _)
                clear hW x0 x1 x2 x3 x4
                clear z0 z1 z2 z3 z4
                refine wp_region_rel 25 (by kernel_rfl) (by kernel_rfl) ?_
                simp only [List.take_succ_cons, List.take_zero, List.drop_succ_cons, List.drop_zero]
                (refine rel_fix0 (fun K hK => ?_); go_simp; refine hK _ ?_; clear hK K)
                (refine rel_fix0 (fun K hK => ?_); go_simp; refine hK _ ?_; clear hK K)
                (refine rel_fix0 (fun K hK => ?_); go_simp; refine hK _ ?_; clear hK K)
                (refine rel_fix0 (fun K hK => ?_); go_simp; refine hK _ ?_; clear hK K)
                (refine rel_fix0 (fun K hK => ?_); go_simp; refine hK _ ?_; clear hK K)
                (refine rel_fix0 (fun K hK => ?_); go_simp; refine hK _ ?_; clear hK K)
                (refine rel_fix0 (fun K hK => ?_); go_simp; refine hK _ ?_; clear hK K)
                (refine rel_fix0 (fun K hK => ?_); go_simp; refine hK _ ?_; clear hK K)
                (refine rel_fix0 (fun K hK => ?_); go_simp; refine hK _ ?_; clear hK K)
                (refine rel_fix0 (fun K hK => ?_); go_simp; refine hK _ ?_; clear hK K)
                (refine rel_fix0 (fun K hK => ?_); go_simp; refine hK _ ?_; clear hK K)
                (refine rel_fix0 (fun K hK => ?_); go_simp; apply Exists.intro; refine ⟨fun _ _ => ?_, hK _ ?_⟩; (with_reducible exact cA _ _); clear hK K)
                (refine rel_fix0 (fun K hK => ?_); go_simp; refine hK _ ?_; clear hK K)
                (refine rel_fix0 (fun K hK => ?_); go_simp; refine hK _ ?_; clear hK K)
                (refine rel_fix0 (fun K hK => ?_); go_simp; refine hK _ ?_; clear hK K)
                (refine rel_fix0 (fun K hK => ?_); go_simp; refine hK _ ?_; clear hK K)
                (refine rel_fix0 (fun K hK => ?_); go_simp; refine hK _ ?_; clear hK K)
                (refine rel_fix0 (fun K hK => ?_); go_simp; refine hK _ ?_; clear hK K)
                (refine rel_fix0 (fun K hK => ?_); go_simp; refine hK _ ?_; clear hK K)
                (refine rel_fix0 (fun K hK => ?_); go_simp; refine hK _ ?_; clear hK K)
                (refine rel_fix0 (fun K hK => ?_); go_simp; refine hK _ ?_; clear hK K)
                (refine rel_fix0 (fun K hK => ?_); go_simp; refine hK _ ?_; clear hK K)
                (refine rel_fix0 (fun K hK => ?_); go_simp; refine hK _ ?_; clear hK K)
                (refine rel_fix0 (fun K hK => ?_); go_simp; refine hK _ ?_; clear hK K)
                (refine rel_fix0 (fun K hK => ?_); go_simp; refine hK _ ?_; clear hK K)
                refine rel_nil ?_
                intro dq osq
                simp only [relAll]
                have hq := hlo.trans ((hb.trans ((below_regrown W dq osq).mono hb.size)).mono hlo.size)
                clear k0 k1 k2 k3 k4 kz0 kz1 kz2 kz3 kz4 cA
                go_wp2_with fail
                go_roundw
                case rel =>
                  exact ⟨i + 1, by omega, by go_num, best_no HB.out hN, hq⟩
                case measure => simp [intOf]; omega
              · have HR1 := Lib.hid hr1
                have hA : After L m i := (HAf.out i).2 (by rw [HX.out]; exact HR1.out)
                clear hr1
                rcases HB.out with ⟨rfl, hno⟩ | ⟨b, hbi, rfl, ha, hmin⟩
                · have HNo := Lib.hid hno
                  clear hno
                  go_upto_region 7 with fail
                  obtain ⟨W, hW⟩ : ∃ W, W = wr.alloc (Obj.cells #[Value.string xf, Value.int IntKind.i64 xl, Value.int IntKind.i64 xc, Value.int IntKind.i64 xe, Value.string xt] 35) := ⟨_, rfl⟩
                  rw [← hW]
                  have hb : Below wr.heap.size wr W := by rw [hW]; exact (Below.refl _ _).alloc (Nat.le_refl _) _
                  have k0 := cell_regrown (show W.cell? ⟨wr.heap.size, 0, none⟩ = some (.string xf) by rw [hW]; go_simp)
                  have k1 := cell_regrown (show W.cell? ⟨wr.heap.size, 1, none⟩ = some (.int .i64 xl) by rw [hW]; go_simp)
                  have k2 := cell_regrown (show W.cell? ⟨wr.heap.size, 2, none⟩ = some (.int .i64 xc) by rw [hW]; go_simp)
                  have k3 := cell_regrown (show W.cell? ⟨wr.heap.size, 3, none⟩ = some (.int .i64 xe) by rw [hW]; go_simp)
                  have k4 := cell_regrown (show W.cell? ⟨wr.heap.size, 4, none⟩ = some (.string xt) by rw [hW]; go_simp)
                  have kz0 := cell_regrown (f5_cell hb z0)
                  have kz1 := cell_regrown (f5_cell hb z1)
                  have kz2 := cell_regrown (f5_cell hb z2)
                  have kz3 := cell_regrown (f5_cell hb z3)
                  have kz4 := cell_regrown (f5_cell hb z4)
                  have cA : ∀ d os, Calls Tryd.prog 12 #[.agg #[.string zf, .int .i64 zl, .int .i64 zc, .int .i64 ze, .string zt], .agg #[.string xf, .int .i64 xl, .int .i64 xc, .int .i64 xe, .string xt]] (grow (redrawn W d) os) (RetF (fun u _ => u = .bool true) (grow (redrawn W d) os)) := fun d os => by rw [← HR1.out]; exact ret_fix (before_ok ⟨zf, zl, zc, ze, zt⟩ ⟨xf, xl, xc, xe, xt⟩ _)
                  clear hW x0 x1 x2 x3 x4
                  clear z0 z1 z2 z3 z4
                  refine wp_region_rel 25 (by kernel_rfl) (by kernel_rfl) ?_
                  simp only [List.take_succ_cons, List.take_zero, List.drop_succ_cons, List.drop_zero]
                  (refine rel_fix0 (fun K hK => ?_); go_simp; refine hK _ ?_; clear hK K)
                  (refine rel_fix0 (fun K hK => ?_); go_simp; refine hK _ ?_; clear hK K)
                  (refine rel_fix0 (fun K hK => ?_); go_simp; refine hK _ ?_; clear hK K)
                  (refine rel_fix0 (fun K hK => ?_); go_simp; refine hK _ ?_; clear hK K)
                  (refine rel_fix0 (fun K hK => ?_); go_simp; refine hK _ ?_; clear hK K)
                  (refine rel_fix0 (fun K hK => ?_); go_simp; refine hK _ ?_; clear hK K)
                  (refine rel_fix0 (fun K hK => ?_); go_simp; refine hK _ ?_; clear hK K)
                  (refine rel_fix0 (fun K hK => ?_); go_simp; refine hK _ ?_; clear hK K)
                  (refine rel_fix0 (fun K hK => ?_); go_simp; refine hK _ ?_; clear hK K)
                  (refine rel_fix0 (fun K hK => ?_); go_simp; refine hK _ ?_; clear hK K)
                  (refine rel_fix0 (fun K hK => ?_); go_simp; refine hK _ ?_; clear hK K)
                  (refine rel_fix0 (fun K hK => ?_); go_simp; apply Exists.intro; refine ⟨fun _ _ => ?_, hK _ ?_⟩; (with_reducible exact cA _ _); clear hK K)
                  (refine rel_fix0 (fun K hK => ?_); go_simp; refine hK _ ?_; clear hK K)
                  (refine rel_fix0 (fun K hK => ?_); go_simp; refine hK _ ?_; clear hK K)
                  (refine rel_fix0 (fun K hK => ?_); go_simp; refine hK _ ?_; clear hK K)
                  (refine rel_fix0 (fun K hK => ?_); go_simp; refine hK _ ?_; clear hK K)
                  (refine rel_fix0 (fun K hK => ?_); go_simp; refine hK _ ?_; clear hK K)
                  (refine rel_fix0 (fun K hK => ?_); go_simp; refine hK _ ?_; clear hK K)
                  (refine rel_fix0 (fun K hK => ?_); go_simp; refine hK _ ?_; clear hK K)
                  (refine rel_fix0 (fun K hK => ?_); go_simp; refine hK _ ?_; clear hK K)
                  (refine rel_fix0 (fun K hK => ?_); go_simp; refine hK _ ?_; clear hK K)
                  (refine rel_fix0 (fun K hK => ?_); go_simp; refine hK _ ?_; clear hK K)
                  (refine rel_fix0 (fun K hK => ?_); go_simp; refine hK _ ?_; clear hK K)
                  (refine rel_fix0 (fun K hK => ?_); go_simp; refine hK _ ?_; clear hK K)
                  (refine rel_fix0 (fun K hK => ?_); go_simp; refine hK _ ?_; clear hK K)
                  refine rel_nil ?_
                  intro dq osq
                  simp only [relAll]
                  have hq := hlo.trans ((hb.trans ((below_regrown W dq osq).mono hb.size)).mono hlo.size)
                  clear k0 k1 k2 k3 k4 kz0 kz1 kz2 kz3 kz4 cA
                  go_wp2_with fail
                  go_roundw
                  case rel =>
                    exact ⟨i + 1, by omega, by go_num, best_first HNo.out hA, hq⟩
                  case measure => simp [intOf]; omega
                · obtain ⟨y0, y1, y2, y3, y4⟩ := HCw.out.f5 (show b < L.length by omega)
                  obtain ⟨y, hy⟩ : ∃ y, L[b]! = y := ⟨_, rfl⟩
                  rw [hy] at y0 y1 y2 y3 y4
                  have HY := Lib.hid hy
                  have HMin := Lib.hid hmin
                  have HA := Lib.hid ha
                  have hbl : b < L.length := by omega
                  clear hy hmin ha
                  obtain ⟨yf, yl, yc, ye, yt⟩ := y
                  simp only at y0 y1 y2 y3 y4
                  cases hr2 : ltN ⟨xf, xl, xc, xe, xt⟩ ⟨yf, yl, yc, ye, yt⟩
                  · have HR2 := Lib.hid hr2
                    clear hr2
                    go_upto_region 7 with fail
                    obtain ⟨W, hW⟩ : ∃ W, W = wr.alloc (Obj.cells #[Value.string xf, Value.int IntKind.i64 xl, Value.int IntKind.i64 xc, Value.int IntKind.i64 xe, Value.string xt] 35) := ⟨_, rfl⟩
                    rw [← hW]
                    have hb : Below wr.heap.size wr W := by rw [hW]; exact (Below.refl _ _).alloc (Nat.le_refl _) _
                    have k0 := cell_regrown (show W.cell? ⟨wr.heap.size, 0, none⟩ = some (.string xf) by rw [hW]; go_simp)
                    have k1 := cell_regrown (show W.cell? ⟨wr.heap.size, 1, none⟩ = some (.int .i64 xl) by rw [hW]; go_simp)
                    have k2 := cell_regrown (show W.cell? ⟨wr.heap.size, 2, none⟩ = some (.int .i64 xc) by rw [hW]; go_simp)
                    have k3 := cell_regrown (show W.cell? ⟨wr.heap.size, 3, none⟩ = some (.int .i64 xe) by rw [hW]; go_simp)
                    have k4 := cell_regrown (show W.cell? ⟨wr.heap.size, 4, none⟩ = some (.string xt) by rw [hW]; go_simp)
                    have kz0 := cell_regrown (f5_cell hb z0)
                    have kz1 := cell_regrown (f5_cell hb z1)
                    have kz2 := cell_regrown (f5_cell hb z2)
                    have kz3 := cell_regrown (f5_cell hb z3)
                    have kz4 := cell_regrown (f5_cell hb z4)
                    have ky0 := cell_regrown (f5_cell hb y0)
                    have ky1 := cell_regrown (f5_cell hb y1)
                    have ky2 := cell_regrown (f5_cell hb y2)
                    have ky3 := cell_regrown (f5_cell hb y3)
                    have ky4 := cell_regrown (f5_cell hb y4)
                    have cA : ∀ d os, Calls Tryd.prog 12 #[.agg #[.string zf, .int .i64 zl, .int .i64 zc, .int .i64 ze, .string zt], .agg #[.string xf, .int .i64 xl, .int .i64 xc, .int .i64 xe, .string xt]] (grow (redrawn W d) os) (RetF (fun u _ => u = .bool true) (grow (redrawn W d) os)) := fun d os => by rw [← HR1.out]; exact ret_fix (before_ok ⟨zf, zl, zc, ze, zt⟩ ⟨xf, xl, xc, xe, xt⟩ _)
                    have cB : ∀ d os, Calls Tryd.prog 12 #[.agg #[.string xf, .int .i64 xl, .int .i64 xc, .int .i64 xe, .string xt], .agg #[.string yf, .int .i64 yl, .int .i64 yc, .int .i64 ye, .string yt]] (grow (redrawn W d) os) (RetF (fun u _ => u = .bool false) (grow (redrawn W d) os)) := fun d os => by rw [← HR2.out]; exact ret_fix (before_ok ⟨xf, xl, xc, xe, xt⟩ ⟨yf, yl, yc, ye, yt⟩ _)
                    clear hW x0 x1 x2 x3 x4
                    clear z0 z1 z2 z3 z4
                    clear y0 y1 y2 y3 y4
                    refine wp_region_rel 25 (by kernel_rfl) (by kernel_rfl) ?_
                    simp only [List.take_succ_cons, List.take_zero, List.drop_succ_cons, List.drop_zero]
                    (refine rel_fix0 (fun K hK => ?_); go_simp; refine hK _ ?_; clear hK K)
                    (refine rel_fix0 (fun K hK => ?_); go_simp; refine hK _ ?_; clear hK K)
                    (refine rel_fix0 (fun K hK => ?_); go_simp; refine hK _ ?_; clear hK K)
                    (refine rel_fix0 (fun K hK => ?_); go_simp; refine hK _ ?_; clear hK K)
                    (refine rel_fix0 (fun K hK => ?_); go_simp; refine hK _ ?_; clear hK K)
                    (refine rel_fix0 (fun K hK => ?_); go_simp; refine hK _ ?_; clear hK K)
                    (refine rel_fix0 (fun K hK => ?_); go_simp; refine hK _ ?_; clear hK K)
                    (refine rel_fix0 (fun K hK => ?_); go_simp; refine hK _ ?_; clear hK K)
                    (refine rel_fix0 (fun K hK => ?_); go_simp; refine hK _ ?_; clear hK K)
                    (refine rel_fix0 (fun K hK => ?_); go_simp; refine hK _ ?_; clear hK K)
                    (refine rel_fix0 (fun K hK => ?_); go_simp; refine hK _ ?_; clear hK K)
                    (refine rel_fix0 (fun K hK => ?_); go_simp; apply Exists.intro; refine ⟨fun _ _ => ?_, hK _ ?_⟩; (with_reducible exact cA _ _); clear hK K)
                    (refine rel_fix0 (fun K hK => ?_); go_simp; refine hK _ ?_; clear hK K)
                    (refine rel_fix0 (fun K hK => ?_); go_simp; refine hK _ ?_; clear hK K)
                    (refine rel_fix0 (fun K hK => ?_); go_simp; refine hK _ ?_; clear hK K)
                    (refine rel_fix0 (fun K hK => ?_); go_simp; refine hK _ ?_; clear hK K)
                    (refine rel_fix0 (fun K hK => ?_); go_simp; refine hK _ ?_; clear hK K)
                    (refine rel_fix0 (fun K hK => ?_); go_simp; refine hK _ ?_; clear hK K)
                    (refine rel_fix0 (fun K hK => ?_); go_simp; refine hK _ ?_; clear hK K)
                    (refine rel_fix0 (fun K hK => ?_); go_simp; refine hK _ ?_; clear hK K)
                    (refine rel_fix0 (fun K hK => ?_); go_simp; refine hK _ ?_; clear hK K)
                    (refine rel_fix0 (fun K hK => ?_); go_simp; refine hK _ ?_; clear hK K)
                    (refine rel_fix0 (fun K hK => ?_); go_simp; apply Exists.intro; refine ⟨fun _ _ => ?_, hK _ ?_⟩; (with_reducible exact cB _ _); clear hK K)
                    (refine rel_fix0 (fun K hK => ?_); go_simp; refine hK _ ?_; clear hK K)
                    (refine rel_fix0 (fun K hK => ?_); go_simp; refine hK _ ?_; clear hK K)
                    refine rel_nil ?_
                    intro dq osq
                    simp only [relAll]
                    have hq := hlo.trans ((hb.trans ((below_regrown W dq osq).mono hb.size)).mono hlo.size)
                    clear k0 k1 k2 k3 k4 kz0 kz1 kz2 kz3 kz4 ky0 ky1 ky2 ky3 ky4 cA cB
                    go_wp2_with fail
                    go_roundw
                    case rel =>
                      exact ⟨i + 1, by omega, by go_num, best_keep hbi HA.out HMin.out (by rw [HX.out, HY.out]; exact HR2.out), hq⟩
                    case measure => simp [intOf]; omega
                  · have HR2 := Lib.hid hr2
                    clear hr2
                    go_upto_region 7 with fail
                    obtain ⟨W, hW⟩ : ∃ W, W = wr.alloc (Obj.cells #[Value.string xf, Value.int IntKind.i64 xl, Value.int IntKind.i64 xc, Value.int IntKind.i64 xe, Value.string xt] 35) := ⟨_, rfl⟩
                    rw [← hW]
                    have hb : Below wr.heap.size wr W := by rw [hW]; exact (Below.refl _ _).alloc (Nat.le_refl _) _
                    have k0 := cell_regrown (show W.cell? ⟨wr.heap.size, 0, none⟩ = some (.string xf) by rw [hW]; go_simp)
                    have k1 := cell_regrown (show W.cell? ⟨wr.heap.size, 1, none⟩ = some (.int .i64 xl) by rw [hW]; go_simp)
                    have k2 := cell_regrown (show W.cell? ⟨wr.heap.size, 2, none⟩ = some (.int .i64 xc) by rw [hW]; go_simp)
                    have k3 := cell_regrown (show W.cell? ⟨wr.heap.size, 3, none⟩ = some (.int .i64 xe) by rw [hW]; go_simp)
                    have k4 := cell_regrown (show W.cell? ⟨wr.heap.size, 4, none⟩ = some (.string xt) by rw [hW]; go_simp)
                    have kz0 := cell_regrown (f5_cell hb z0)
                    have kz1 := cell_regrown (f5_cell hb z1)
                    have kz2 := cell_regrown (f5_cell hb z2)
                    have kz3 := cell_regrown (f5_cell hb z3)
                    have kz4 := cell_regrown (f5_cell hb z4)
                    have ky0 := cell_regrown (f5_cell hb y0)
                    have ky1 := cell_regrown (f5_cell hb y1)
                    have ky2 := cell_regrown (f5_cell hb y2)
                    have ky3 := cell_regrown (f5_cell hb y3)
                    have ky4 := cell_regrown (f5_cell hb y4)
                    have cA : ∀ d os, Calls Tryd.prog 12 #[.agg #[.string zf, .int .i64 zl, .int .i64 zc, .int .i64 ze, .string zt], .agg #[.string xf, .int .i64 xl, .int .i64 xc, .int .i64 xe, .string xt]] (grow (redrawn W d) os) (RetF (fun u _ => u = .bool true) (grow (redrawn W d) os)) := fun d os => by rw [← HR1.out]; exact ret_fix (before_ok ⟨zf, zl, zc, ze, zt⟩ ⟨xf, xl, xc, xe, xt⟩ _)
                    have cB : ∀ d os, Calls Tryd.prog 12 #[.agg #[.string xf, .int .i64 xl, .int .i64 xc, .int .i64 xe, .string xt], .agg #[.string yf, .int .i64 yl, .int .i64 yc, .int .i64 ye, .string yt]] (grow (redrawn W d) os) (RetF (fun u _ => u = .bool true) (grow (redrawn W d) os)) := fun d os => by rw [← HR2.out]; exact ret_fix (before_ok ⟨xf, xl, xc, xe, xt⟩ ⟨yf, yl, yc, ye, yt⟩ _)
                    clear hW x0 x1 x2 x3 x4
                    clear z0 z1 z2 z3 z4
                    clear y0 y1 y2 y3 y4
                    refine wp_region_rel 25 (by kernel_rfl) (by kernel_rfl) ?_
                    simp only [List.take_succ_cons, List.take_zero, List.drop_succ_cons, List.drop_zero]
                    (refine rel_fix0 (fun K hK => ?_); go_simp; refine hK _ ?_; clear hK K)
                    (refine rel_fix0 (fun K hK => ?_); go_simp; refine hK _ ?_; clear hK K)
                    (refine rel_fix0 (fun K hK => ?_); go_simp; refine hK _ ?_; clear hK K)
                    (refine rel_fix0 (fun K hK => ?_); go_simp; refine hK _ ?_; clear hK K)
                    (refine rel_fix0 (fun K hK => ?_); go_simp; refine hK _ ?_; clear hK K)
                    (refine rel_fix0 (fun K hK => ?_); go_simp; refine hK _ ?_; clear hK K)
                    (refine rel_fix0 (fun K hK => ?_); go_simp; refine hK _ ?_; clear hK K)
                    (refine rel_fix0 (fun K hK => ?_); go_simp; refine hK _ ?_; clear hK K)
                    (refine rel_fix0 (fun K hK => ?_); go_simp; refine hK _ ?_; clear hK K)
                    (refine rel_fix0 (fun K hK => ?_); go_simp; refine hK _ ?_; clear hK K)
                    (refine rel_fix0 (fun K hK => ?_); go_simp; refine hK _ ?_; clear hK K)
                    (refine rel_fix0 (fun K hK => ?_); go_simp; apply Exists.intro; refine ⟨fun _ _ => ?_, hK _ ?_⟩; (with_reducible exact cA _ _); clear hK K)
                    (refine rel_fix0 (fun K hK => ?_); go_simp; refine hK _ ?_; clear hK K)
                    (refine rel_fix0 (fun K hK => ?_); go_simp; refine hK _ ?_; clear hK K)
                    (refine rel_fix0 (fun K hK => ?_); go_simp; refine hK _ ?_; clear hK K)
                    (refine rel_fix0 (fun K hK => ?_); go_simp; refine hK _ ?_; clear hK K)
                    (refine rel_fix0 (fun K hK => ?_); go_simp; refine hK _ ?_; clear hK K)
                    (refine rel_fix0 (fun K hK => ?_); go_simp; refine hK _ ?_; clear hK K)
                    (refine rel_fix0 (fun K hK => ?_); go_simp; refine hK _ ?_; clear hK K)
                    (refine rel_fix0 (fun K hK => ?_); go_simp; refine hK _ ?_; clear hK K)
                    (refine rel_fix0 (fun K hK => ?_); go_simp; refine hK _ ?_; clear hK K)
                    (refine rel_fix0 (fun K hK => ?_); go_simp; refine hK _ ?_; clear hK K)
                    (refine rel_fix0 (fun K hK => ?_); go_simp; apply Exists.intro; refine ⟨fun _ _ => ?_, hK _ ?_⟩; (with_reducible exact cB _ _); clear hK K)
                    (refine rel_fix0 (fun K hK => ?_); go_simp; refine hK _ ?_; clear hK K)
                    (refine rel_fix0 (fun K hK => ?_); go_simp; refine hK _ ?_; clear hK K)
                    refine rel_nil ?_
                    intro dq osq
                    simp only [relAll]
                    have hq := hlo.trans ((hb.trans ((below_regrown W dq osq).mono hb.size)).mono hlo.size)
                    clear k0 k1 k2 k3 k4 kz0 kz1 kz2 kz3 kz4 ky0 ky1 ky2 ky3 ky4 cA cB
                    go_wp2_with fail
                    go_roundw
                    case rel =>
                      exact ⟨i + 1, by omega, by go_num, best_new hA HMin.out (by rw [HX.out, HY.out]; exact HR2.out), hq⟩
                    case measure => simp [intOf]; omega
          · obtain rfl : i = L.length := by omega
            go_wp2_with fail
            go_meet
            exact ⟨HB, hlo⟩
      case rest =>
        obtain ⟨HB, hb⟩ := hcut
        have HOx := Lib.hid (own5_below HO.out hb)
        have HLx := Lib.hid (HL.out.trans (hb.mono HL.out.size))
        rcases HB.out with ⟨rfl, hno⟩ | ⟨b, hbl, rfl, ha, hmin⟩
        · have e := kept_end L m hmk hno
          have HE : Hid (sortedN L = (kept L).take m) := by unfold sortedN; rw [List.take_of_length_le (by omega), List.take_of_length_le (by omega)]; exact Lib.hid rfl
          clear hno
          go_wp2_with fail
          go_ret
          have el : (sortedN L).length = m := by rw [HE.out, List.length_take]; omega
          rw [el, HE.out]
          exact ⟨_, rfl, HOx.out, HLx.out⟩
        · obtain ⟨hm2, ek⟩ := kept_next L m b hbl hmk ha hmin
          obtain ⟨x0, x1, x2, x3, x4⟩ := (HCo.out.below hb).f5 hbl
          obtain ⟨x, hx⟩ : ∃ x, L[b]! = x := ⟨_, rfl⟩
          rw [hx] at x0 x1 x2 x3 x4 ek
          have HEk := Lib.hid ek
          clear hx ha hmin ek
          obtain ⟨xf, xl, xc, xe, xt⟩ := x
          simp only at x0 x1 x2 x3 x4
          obtain ⟨hz0, hz1, hz2⟩ := HZ.out
          go_wp2_with (at_builtin; refine wpList_append_own _ rfl _ _ 32 rfl w.heap.size 35 i0 _ 5 56 Tryd.underlying32 HI.out hz0 hz1 hz2 rfl (by decide) _ _ _ rfl (own5_below HOx.out ((Below.refl _ _).alloc (Nat.le_refl _) _)) ⟨wc.heap.size, 0, none⟩ 1 1 (encN ⟨xf, xl, xc, xe, xt⟩) rfl ?d1 ?d2 ?d3 ?d4 ?d5 ?d6 ?_)
          case d1 => rfl
          case d2 =>
            intro j u hj
            rw [Addr.add_lit]
            have hjl : j < 5 := (List.getElem?_eq_some_iff.1 hj).1
            match j, hjl with
            | 0, _ => injection hj with hj; subst hj; go_simp
            | 1, _ => injection hj with hj; subst hj; go_simp
            | 2, _ => injection hj with hj; subst hj; go_simp
            | 3, _ => injection hj with hj; subst hj; go_simp
            | 4, _ => injection hj with hj; subst hj; go_simp
            | j + 5, h => exact absurd h (by omega)
          case d3 => exact encN_one _
          case d4 => unfold maxLen; omega
          case d5 => omega
          case d6 => have := HLx.out.size; simp; omega
          intro v' w1 hown hgrow hnil
          have hlow : Below w.heap.size w w1 := (HLx.out.alloc HLx.out.size _).grown hgrow (by have := HLx.out.size; simp; omega) (by
            intro k hk
            obtain ⟨_, ⟨h1, _⟩ | ⟨g, cp, cur, h1, h2, _⟩⟩ := HOx.out
            · rw [h1] at hk; simp [Value.ownBlock] at hk
            · rw [h1] at hk; simp [Value.ownBlock] at hk; omega)
          clear x0 x1 x2 x3 x4 hnil hgrow
          have HOwn := Lib.hid hown
          clear hown
          go_wp2_with fail
          go_roundw
          case rel =>
            refine ⟨m + 1, by omega, by omega, ?_, hlow⟩
            have e2 : flatN ((kept L).take (m + 1)) = flatN ((kept L).take m) ++ encN ⟨xf, xl, xc, xe, xt⟩ := by
              rw [List.take_add_one, show (kept L)[m]? = some ⟨xf, xl, xc, xe, xt⟩ by rw [List.getElem?_eq_getElem hm2, ← HEk.out, getElem!_pos (kept L) m hm2]]
              unfold flatN
              simp
            rw [e2]; exact HOwn.out
          case measure =>
            obtain ⟨ad5, cap5, rfl⟩ := own5_slice HOwn.out
            simp [slN]; omega
    · have HE : Hid (sortedN L = (kept L).take m) := by unfold sortedN; rw [show m = 20 by omega]; exact Lib.hid rfl
      obtain ⟨ad3, cap3, rfl⟩ := own5_slice HO.out
      clear ho hlo
      go_wp2_with fail
      go_ret
      have el : (sortedN L).length = m := by rw [HE.out, List.length_take]; omega
      rw [el, HE.out]
      exact ⟨_, rfl, HO.out, HL.out⟩
end Go.Proofs.YtmememehlfbgaaaDoor
