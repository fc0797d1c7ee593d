/- slices.Compact at []api.Note. Conditions: the cells of the row. -/
import Derived.Test.YtmememehlfbgaaaDoorNtRow
import Derived.Deep.LoopGhost
import Derived.Deep.CutBlock
import Derived.Deep.DeepCutAuto
import Derived.LoopTactic
namespace Go.Proofs.YtmememehlfbgaaaDoor
open Go Go.RowKit Go.Sort Go.Lib
set_option linter.unusedVariables false
instance : DecidableEq Nt := fun x y =>
  if h : x.f = y.f ∧ x.l = y.l ∧ x.c = y.c ∧ x.e = y.e ∧ x.t = y.t then isTrue (by cases x; cases y; simp at h; simp [h]) else isFalse (fun e => h (by subst e; exact ⟨rfl, rfl, rfl, rfl, rfl⟩))
theorem toList_eq (a b : ByteArray) : (a.toList == b.toList) = decide (a = b) := by
  rw [ByteArray.toList_eq, ByteArray.toList_eq]
  by_cases h : a = b
  · subst h; simp
  · rw [decide_eq_false h, beq_eq_false_iff_ne]
    exact fun e => h (bytes_ext e)
theorem RN.five {w : World} {blk off : Nat} {d : Array Nt} (h : RN w blk off d) {j : Nat} (hj : j < d.size) {x : Nt} (hx : d[j]! = x) :
    w.cell? ⟨blk, off + j * 5, none⟩ = some (.string x.f) ∧ w.cell? ⟨blk, off + j * 5 + 1, none⟩ = some (.int .i64 x.l) ∧ w.cell? ⟨blk, off + j * 5 + 2, none⟩ = some (.int .i64 x.c) ∧ w.cell? ⟨blk, off + j * 5 + 3, none⟩ = some (.int .i64 x.e) ∧ w.cell? ⟨blk, off + j * 5 + 4, none⟩ = some (.string x.t) := by
  subst hx
  exact ⟨(h j hj 0 (by decide)).1, (h j hj 1 (by decide)).1, (h j hj 2 (by decide)).1, (h j hj 3 (by decide)).1, (h j hj 4 (by decide)).1⟩
theorem RN.soft {w : World} {blk off : Nat} {d : Array Nt} (h : RN w blk off d) {j : Nat} (hj : j < d.size) :
    w.frozen? ⟨blk, off + j * 5, none⟩ = false ∧ w.frozen? ⟨blk, off + j * 5 + 1, none⟩ = false ∧ w.frozen? ⟨blk, off + j * 5 + 2, none⟩ = false ∧ w.frozen? ⟨blk, off + j * 5 + 3, none⟩ = false ∧ w.frozen? ⟨blk, off + j * 5 + 4, none⟩ = false :=
  ⟨(h j hj 0 (by decide)).2, (h j hj 1 (by decide)).2, (h j hj 2 (by decide)).2, (h j hj 3 (by decide)).2, (h j hj 4 (by decide)).2⟩
theorem setCells_low {b p : Nat} : ∀ (vs : List Value) (w : World) (o : Nat), p < o → (w.setCells b o vs).cell? ⟨b, p, none⟩ = w.cell? ⟨b, p, none⟩
  | [], w, o, h => rfl
  | v :: r, w, o, h => by
    rw [World.setCells, setCells_low r _ (o + 1) (by omega)]
    exact World.cell?_setCell_other _ _ _ _ (fun e => by injection e with e1 e2; omega)
theorem setCells_below {B b : Nat} (hB : B ≤ b) : ∀ (vs : List Value) (w0 w : World) (o : Nat), Below B w0 w → Below B w0 (w.setCells b o vs)
  | [], w0, w, o, h => h
  | v :: r, w0, w, o, h => by
    rw [World.setCells]
    exact setCells_below hB r w0 _ (o + 1) (h.setCell hB _)
theorem RN.put {w : World} {blk off : Nat} {d : Array Nt} (h : RN w blk off d) {k : Nat} (hk : k < d.size) (u : Nt) :
    RN (((((w.setCell ⟨blk, off + k * 5, none⟩ (.string u.f)).setCell ⟨blk, off + k * 5 + 1, none⟩ (.int .i64 u.l)).setCell ⟨blk, off + k * 5 + 2, none⟩ (.int .i64 u.c)).setCell ⟨blk, off + k * 5 + 3, none⟩ (.int .i64 u.e)).setCell ⟨blk, off + k * 5 + 4, none⟩ (.string u.t)) blk off (d.setIfInBounds k u) := by
  intro j hj c hc
  have hj' : j < d.size := by simpa using hj
  refine ⟨?_, by have := (h j hj' c hc).2; simpa using this⟩
  by_cases e : j = k
  · subst e
    obtain ⟨x0, x1, x2, x3, x4⟩ := h.five hj' rfl
    have eu : (d.setIfInBounds j u)[j]! = u := getElem!_set_same d j u hj'
    rw [eu]
    match c, hc with
    | 0, _ => show _ = some (Value.string u.f); go_simp
    | 1, _ => show _ = some (Value.int .i64 u.l); go_simp
    | 2, _ => show _ = some (Value.int .i64 u.c); go_simp
    | 3, _ => show _ = some (Value.int .i64 u.e); go_simp
    | 4, _ => show _ = some (Value.string u.t); go_simp
    | c + 5, h => exact absurd h (by omega)
  · rw [getElem!_set_other d k j u e, ← (h j hj' c hc).1]
    have hne : ∀ i, i < 5 → (⟨blk, off + k * 5 + i, none⟩ : Addr) ≠ ⟨blk, off + j * 5 + c, none⟩ := fun i hi ee => by
      injection ee with _ e2
      rcases Nat.lt_or_ge j k with hl | hl
      · have := Nat.mul_le_mul_right 5 (show j + 1 ≤ k from hl); omega
      · have := Nat.mul_le_mul_right 5 (show k + 1 ≤ j by omega); omega
    have hne0 := hne 0 (by decide)
    rw [Nat.add_zero] at hne0
    rw [World.cell?_setCell_other _ _ _ _ (hne 4 (by decide)), World.cell?_setCell_other _ _ _ _ (hne 3 (by decide)), World.cell?_setCell_other _ _ _ _ (hne 2 (by decide)), World.cell?_setCell_other _ _ _ _ (hne 1 (by decide)), World.cell?_setCell_other _ _ _ _ hne0]
def zN : Value := .agg #[.string ⟨#[]⟩, .int .i64 0, .int .i64 0, .int .i64 0, .string ⟨#[]⟩]
theorem zero_N (w : World) : (zeroValue 35).run Tryd.prog w = .ok zN w := by kernel_rfl
theorem run_clearN (w : World) (ty : TypeId) (b o n c : Nat) (hn : 0 < n) (hc : ∀ j, j < n * 5 → (w.cell? ⟨b, o + j, none⟩).isSome = true) (hf : ∀ j, j < n * 5 → w.frozen? ⟨b, o + j, none⟩ = false) :
    (Builtin.clear_ #[32] ty #[.slice (some ⟨b, o, none⟩) n c]).run Tryd.prog w = .ok (.tuple #[]) (w.setCells b o (Builtin.zeroCells zN.cells n).toList) := by
  have hl : (Builtin.zeroCells zN.cells n).toList.length = n * 5 := by simp [Builtin.zeroCells, zN, Value.cells]
  have h1 : ∀ v ∈ (Builtin.zeroCells zN.cells n).toList, v.oneCell' = true := by
    intro v hv
    simp only [Builtin.zeroCells, Array.toList_map, List.mem_map] at hv
    obtain ⟨i, _, rfl⟩ := hv
    have : i % zN.cells.size < 5 := Nat.mod_lt _ (by decide)
    generalize i % zN.cells.size = c at this
    match c, this with
    | 0, _ => rfl
    | 1, _ => rfl
    | 2, _ => rfl
    | 3, _ => rfl
    | 4, _ => rfl
    | c + 5, h => exact absurd h (by omega)
  have hst := run_storeCells_cells (P := Tryd.prog) b o (Builtin.zeroCells zN.cells n).toList 0 w (by rw [hl]; simpa using hc) (by rw [hl]; simpa using hf) h1
  simp only [Nat.add_zero] at hst
  obtain ⟨m, rfl⟩ : ∃ m, n = m + 1 := ⟨n - 1, by omega⟩
  unfold zN at hst ⊢
  simp [Builtin.clear_, run_underlying Tryd.underlying32, hst]
theorem eqIn_N (x y : Nt) (w : World) : (Op.equalIn 10000 35 (.agg #[.string x.f, .int .i64 x.l, .int .i64 x.c, .int .i64 x.e, .string x.t]) (.agg #[.string y.f, .int .i64 y.l, .int .i64 y.c, .int .i64 y.e, .string y.t])).run Tryd.prog w = .ok (decide (x = y)) w := by
  have u1 := Tryd.underlying9
  have u2 := Tryd.underlying3
  have u3 := Tryd.underlying26
  have hS : Tryd.prog.underlying 35 = some (.struct (Tryd.prog.fieldsOf 35)) := by kernel_rfl
  have hp : Tryd.prog.stoodInHeld 35 = false := by kernel_rfl
  rw [show (10000 : Nat) = 9999 + 1 from rfl, run_equalIn_agg w 9999 35 _ _ hS hp]
  simp only [Program.fieldsOf, Tryd.underlying35]
  go_simp
  have e : (x = y) = (x.f = y.f ∧ x.l = y.l ∧ x.c = y.c ∧ x.e = y.e ∧ x.t = y.t) := by
    cases x; cases y; simp
  have t1 : (x.f.toList = y.f.toList) = (x.f = y.f) := by
    rw [ByteArray.toList_eq, ByteArray.toList_eq]; exact propext ⟨bytes_ext, fun h => by rw [h]⟩
  have t2 : (x.t.toList = y.t.toList) = (x.t = y.t) := by
    rw [ByteArray.toList_eq, ByteArray.toList_eq]; exact propext ⟨bytes_ext, fun h => by rw [h]⟩
  simp only [e, t1, t2]
  by_cases g1 : x.f = y.f <;> by_cases g2 : x.l = y.l <;> by_cases g3 : x.c = y.c <;> by_cases g4 : x.e = y.e <;> by_cases g5 : x.t = y.t <;> simp [g1, g2, g3, g4, g5]
set_option maxHeartbeats 4000000 in
set_option maxRecDepth 100000 in
theorem compact_ok (blk off cap B : Nat) (d : Array Nt) (w : World) (hR : RN w blk off d) (hB : B ≤ blk) (hsz : d.size ≤ 1000000000000) (hcap : d.size ≤ cap) :
    Calls Tryd.prog 44 #[.slice (some ⟨blk, off, none⟩) d.size cap] w fun e w' => e = .returned (.slice (some ⟨blk, off, none⟩) (compactUpTo d d.size).length cap) ∧ RR w' blk off (compactUpTo d d.size) ∧ Below B w w' := by
  have HR := Lib.hid hR
  clear hR
  have mixed : Tryd.prog.follows .mixedOrders = true := by kernel_rfl
  by_cases h2 : d.size < 2
  · go_enter Tryd.func44, Tryd.ntmps44
    go_wp2_with fail
    go_ret
    have e := compactUpTo_all d d.size (fun j hj => keeps_lt_one d j (by omega))
    rw [range_map_get] at e
    exact ⟨by rw [e]; simp, by rw [e]; exact HR.out.rr, Below.refl _ _⟩
  · go_enter Tryd.func44, Tryd.ntmps44
    go_wp2_with fail
    go_loopg [3] d.size (fun g s3 wr => ∃ k q : Nat, 1 ≤ k ∧ k ≤ d.size ∧ d.size - k ≤ g ∧ s3 = .int .i64 k ∧ wr = w.drewN q ∧ Hid (∀ j, j < k → keeps d j = true))
    case atStart => exact ⟨1, 0, Nat.le_refl _, by omega, by omega, rfl, rfl, keeps_lt_one d⟩
    case round =>
      obtain ⟨k, q, hk1, hk, hg, rfl, rfl, hall⟩ := hrel
      by_cases hlt : k < d.size
      · obtain ⟨m, rfl⟩ : ∃ m, k = m + 1 := ⟨k - 1, by omega⟩
        obtain ⟨x, hx⟩ : ∃ x, d[m + 1]! = x := ⟨_, rfl⟩
        obtain ⟨y, hy⟩ : ∃ y, d[m]! = y := ⟨_, rfl⟩
        obtain ⟨x0, x1, x2, x3, x4⟩ := HR.out.five hlt hx
        obtain ⟨y0, y1, y2, y3, y4⟩ := HR.out.five (show m < d.size by omega) hy
        have HX := Lib.hid hx
        have HY := Lib.hid hy
        clear hx hy
        obtain ⟨xf, xl, xc, xe, xt⟩ := x
        obtain ⟨yf, yl, yc, ye, yt⟩ := y
        simp only at x0 x1 x2 x3 x4 y0 y1 y2 y3 y4
        by_cases hdup : (⟨xf, xl, xc, xe, xt⟩ : Nt) = ⟨yf, yl, yc, ye, yt⟩
        · have qe : ∀ w, (Op.equalIn 10000 35 (.agg #[.string xf, .int .i64 xl, .int .i64 xc, .int .i64 xe, .string xt]) (.agg #[.string yf, .int .i64 yl, .int .i64 yc, .int .i64 ye, .string yt])).run Tryd.prog w = .ok true w := fun w => by
            rw [eqIn_N ⟨xf, xl, xc, xe, xt⟩ ⟨yf, yl, yc, ye, yt⟩, decide_eq_true hdup]
          have HD := Lib.hid hdup
          clear hdup
          go_wp2_with fail
          go_region_o
          go_wp2_with fail
          clear x0 x1 x2 x3 x4 y0 y1 y2 y3 y4 qe
          have hb0 : Below B w (w.drewN (q + 1)) := below_drewN (Below.refl _ _) _
          have HR1 := Lib.hid (HR.out.below (w' := w.drewN (q + 1)) (below_drewN (Below.refl _ _) _))
          generalize w.drewN (q + 1) = W1 at hb0 HR1 ⊢
          have HB1 := Lib.hid hb0
          clear hb0
          go_loopg [3, 5] d.size (fun g s3 s5 wr => ∃ (kk p : Nat) (dk : Array Nt), s3 = .int .i64 kk ∧ s5 = .int .i64 (p + 1 : Nat) ∧ m + 1 + (p + 1) ≤ d.size ∧ d.size - (m + 1 + (p + 1)) ≤ g ∧ Hid (RN wr blk off dk ∧ Below B w wr ∧ CompInv d (m + 1 + (p + 1)) kk dk))
          case atStart => exact ⟨m + 1, 0, d, rfl, by go_num, by omega, by omega, HR1.out, HB1.out, CompInv.start hall.out (keeps_neg (by omega) (by rw [HX.out, show m + 1 - 1 = m from rfl, HY.out]; exact HD.out))⟩
          case round =>
            obtain ⟨kk, p, dk, rfl, rfl, hle, hg2, hI⟩ := hrel
            have hkk := hI.out.2.2.lt
            have hds := hI.out.2.2.size
            by_cases hlt2 : m + 1 + (p + 1) < d.size
            · obtain ⟨u, hu⟩ : ∃ u, d[m + 1 + (p + 1)]! = u := ⟨_, rfl⟩
              obtain ⟨v, hv⟩ : ∃ v, d[m + 1 + p]! = v := ⟨_, rfl⟩
              obtain ⟨x0, x1, x2, x3, x4⟩ := hI.out.1.five (show m + 1 + (p + 1) < dk.size by omega) ((hI.out.2.2.high _ (by omega)).trans hu)
              obtain ⟨y0, y1, y2, y3, y4⟩ := hI.out.1.five (show m + 1 + p < dk.size by omega) ((hI.out.2.2.high _ (by omega)).trans hv)
              rw [show off + (m + 1 + (p + 1)) * 5 = off + (m + 1) * 5 + (p + 1) * 5 by omega] at x0 x1 x2 x3 x4
              rw [show off + (m + 1 + p) * 5 = off + (m + 1) * 5 + p * 5 by omega] at y0 y1 y2 y3 y4
              have HU := Lib.hid hu
              have HV := Lib.hid hv
              clear hu hv
              obtain ⟨uf, ul, uc, ue, ut⟩ := u
              obtain ⟨vf, vl, vc, ve, vt⟩ := v
              simp only at x0 x1 x2 x3 x4 y0 y1 y2 y3 y4
              by_cases huv : (⟨uf, ul, uc, ue, ut⟩ : Nt) = ⟨vf, vl, vc, ve, vt⟩
              · have qe : ∀ w, (Op.equalIn 10000 35 (.agg #[.string uf, .int .i64 ul, .int .i64 uc, .int .i64 ue, .string ut]) (.agg #[.string vf, .int .i64 vl, .int .i64 vc, .int .i64 ve, .string vt])).run Tryd.prog w = .ok true w := fun w => by
                  rw [eqIn_N ⟨uf, ul, uc, ue, ut⟩ ⟨vf, vl, vc, ve, vt⟩, decide_eq_true huv]
                go_wp2_with fail
                go_region_o
                go_wp2_with fail
                go_roundg (d.size - (m + 1 + (p + 1 + 1)))
                case measure => omega
                case rel => exact ⟨kk, p + 1, dk, rfl, by go_num, by omega, by omega, hI.out.1.below (Below.refl _ _).drew, hI.out.2.1.drew, hI.out.2.2.skip (keeps_neg (by omega) (by rw [HU.out, show m + 1 + (p + 1) - 1 = m + 1 + p from rfl, HV.out]; exact huv))⟩
              · have qe : ∀ w, (Op.equalIn 10000 35 (.agg #[.string uf, .int .i64 ul, .int .i64 uc, .int .i64 ue, .string ut]) (.agg #[.string vf, .int .i64 vl, .int .i64 vc, .int .i64 ve, .string vt])).run Tryd.prog w = .ok false w := fun w => by
                  rw [eqIn_N ⟨uf, ul, uc, ue, ut⟩ ⟨vf, vl, vc, ve, vt⟩, decide_eq_false huv]
                obtain ⟨o, ho⟩ : ∃ o, dk[kk]! = o := ⟨_, rfl⟩
                obtain ⟨z0, z1, z2, z3, z4⟩ := hI.out.1.five (show kk < dk.size by omega) ho
                obtain ⟨s0, s1, s2, s3, s4⟩ := hI.out.1.soft (show kk < dk.size by omega)
                clear ho
                obtain ⟨of, ol, oc, oe, ot⟩ := o
                simp only at z0 z1 z2 z3 z4
                go_wp2_with fail
                go_region_o
                go_wp2_with fail
                go_roundg (d.size - (m + 1 + (p + 1 + 1)))
                case measure => omega
                case rel =>
                  refine ⟨kk + 1, p + 1, dk.setIfInBounds kk ⟨uf, ul, uc, ue, ut⟩, by go_num, by go_num, by omega, by omega, (hI.out.1.below (Below.refl _ _).drew).put (show kk < dk.size by omega) ⟨uf, ul, uc, ue, ut⟩, (((((hI.out.2.1.drew).setCell hB _).setCell hB _).setCell hB _).setCell hB _).setCell hB _, ?_⟩
                  have hk := hI.out.2.2.keep hlt2 (keeps_pos (by rw [HU.out, show m + 1 + (p + 1) - 1 = m + 1 + p from rfl, HV.out]; exact huv))
                  rw [HU.out] at hk
                  exact hk
            · have hend : m + 1 + (p + 1) = d.size := by omega
              have hC := hI.out.2.2
              rw [hend] at hC
              have HC := Lib.hid hC
              obtain ⟨Z, hcl⟩ : ∃ Z : List Value, ∀ ty, (Builtin.clear_ #[32] ty #[.slice (some ⟨blk, off + kk * 5, none⟩) (d.size - kk) (cap - kk)]).run Tryd.prog wr = .ok (.tuple #[]) (wr.setCells blk (off + kk * 5) Z) :=
                ⟨_, fun ty => run_clearN wr ty blk (off + kk * 5) (d.size - kk) _ (by omega) (fun j hj => by
                  have := (hI.out.1 (kk + j / 5) (by omega) (j % 5) (Nat.mod_lt _ (by decide))).1
                  rw [show off + kk * 5 + j = off + (kk + j / 5) * 5 + j % 5 by omega, this]; rfl) (fun j hj => by
                  rw [show off + kk * 5 + j = off + (kk + j / 5) * 5 + j % 5 by omega]
                  exact (hI.out.1 (kk + j / 5) (by omega) (j % 5) (Nat.mod_lt _ (by decide))).2)⟩
              clear hC
              go_wp2_with fail
              go_ret
              have hlen := HC.out.len
              refine ⟨by rw [hlen]; rfl, fun j hj c hc => ?_, setCells_below hB _ _ _ _ hI.out.2.1⟩
              rw [hlen] at hj
              have := Nat.mul_le_mul_right 5 (show j + 1 ≤ kk from hj)
              rw [setCells_low _ _ _ (by omega), (hI.out.1 j (by omega) c hc).1]
              have hl := HC.out.low j hj
              have e : (compactUpTo d d.size)[j]! = dk[j]! := by rw [getElem!_def (c := compactUpTo d d.size) (i := j), hl]
              rw [e]
        · have qe : ∀ w, (Op.equalIn 10000 35 (.agg #[.string xf, .int .i64 xl, .int .i64 xc, .int .i64 xe, .string xt]) (.agg #[.string yf, .int .i64 yl, .int .i64 yc, .int .i64 ye, .string yt])).run Tryd.prog w = .ok false w := fun w => by
            rw [eqIn_N ⟨xf, xl, xc, xe, xt⟩ ⟨yf, yl, yc, ye, yt⟩, decide_eq_false hdup]
          go_wp2_with fail
          go_region_o
          go_wp2_with fail
          go_roundg (d.size - (m + 1 + 1))
          case measure => omega
          case rel =>
            refine ⟨m + 1 + 1, q + 1, by omega, by omega, Nat.le_refl _, by go_num, rfl, fun j hj => ?_⟩
            by_cases e : j = m + 1
            · subst e
              exact keeps_pos (by rw [HX.out, show m + 1 - 1 = m from rfl, HY.out]; exact hdup)
            · exact hall.out j (by omega)
      · obtain rfl : k = d.size := by omega
        go_wp2_with fail
        go_ret
        have e := compactUpTo_all d d.size hall.out
        rw [range_map_get] at e
        exact ⟨by rw [e]; simp, by rw [e]; exact (HR.out.below (below_drewN (Below.refl _ _) _)).rr, below_drewN (Below.refl _ _) _⟩
end Go.Proofs.YtmememehlfbgaaaDoor
