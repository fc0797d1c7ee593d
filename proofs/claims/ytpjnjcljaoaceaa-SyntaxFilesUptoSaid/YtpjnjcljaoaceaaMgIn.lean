/- A tree that came in: its nodes.
   A file that came in: its nodes, with their numbers. -/
import Derived.Test.YtpjnjcljaoaceaaSyTree
import Derived.Test.YtpjnjcljaoaceaaRows
import Derived.ProofKit
import Derived.OpenShut
import Derived.Deep.Fields
import Derived.Deep.Slices
import Derived.SizedLaws
import Derived.ChangeMaps5
import Derived.Test.YtpjnjcljaoaceaaSyChk
namespace Go.Proofs.Ytpjnjcljaoaceaa
open Go Go.ChangeShapes Go.WideShapes Go.ChangeAt Go.RowKit Go.ChangeMaps
set_option linter.unusedVariables false
theorem list_choose {α : Type} {P : Nat → α → Prop} : ∀ n : Nat, (∀ i, i < n → ∃ r, P i r) → ∃ l : List α, l.length = n ∧ ∀ i (h : i < l.length), P i l[i]
  | 0, _ => ⟨[], rfl, fun i h => by simp at h⟩
  | n + 1, h => by
    obtain ⟨l, hl, hp⟩ := list_choose n (fun i hi => h i (by omega))
    obtain ⟨r, hr⟩ := h n (by omega)
    refine ⟨l ++ [r], by simp [hl], fun i hi => ?_⟩
    by_cases e : i < l.length
    · rw [List.getElem_append_left e]; exact hp i e
    · have : i = n := by simp at hi; omega
      subst this
      rw [List.getElem_append_right (by omega)]
      simpa [hl] using hr
theorem bulk_pos {H : Type} (d : DataW H) : 1 ≤ Rows.uptoBulk d := by
  cases d with
  | lit l => cases l <;> simp [Rows.uptoBulk]
  | nil => simp [Rows.uptoBulk]
  | ptr d => simp [Rows.uptoBulk]
  | slice elems spare => simp [Rows.uptoBulk]
  | agg parts => simp [Rows.uptoBulk]
  | iface t d => simp [Rows.uptoBulk]
  | map entries => simp [Rows.uptoBulk]
  | held h => simp [Rows.uptoBulk]
theorem cntL_bulk {H : Type} : ∀ (ks : List Nd) (ds : List (DataW H)), ks.length = ds.length → (∀ i (h : i < ks.length) (h' : i < ds.length), ks[i].cnt ≤ Rows.uptoBulk ds[i]) → cntL ks ≤ Rows.uptoBulkAll ds
  | [], _, _, _ => by simp [cntL]
  | k :: ks, [], h, _ => by simp at h
  | k :: ks, d :: ds, h, hp => by
    have h0 := hp 0 (by simp) (by simp)
    have hr := cntL_bulk ks ds (by simpa using h) (fun i h1 h2 => by have := hp (i + 1) (by simpa using h1) (by simpa using h2); simpa using this)
    simp only [List.getElem_cons_zero] at h0
    simp only [cntL, Rows.uptoBulkAll]
    omega
set_option maxRecDepth 100000 in
/-- a vector's cells -/
theorem num_of_cells {H : Type} {enc : TypeId × Value → H} {W : World} {sp : Nat → Bool} {hh : Bool} {fuel : Nat} {cs : List Value} {x : DataW H × List MemPlace} (h3 : cs.length = 3) (hf : DataW.trod enc Try.prog W 0 sp hh fuel 32 cs = some x) :
    ∃ n v q : Int, cs = [.int .i64 n, .int .u64 v, .int .u64 q] := by
  have c3 : Try.prog.cellsOf 3 = 1 := by kernel_rfl
  have c6 : Try.prog.cellsOf 30 = 1 := by kernel_rfl
  obtain ⟨xs, n, _, hx, _, hlen, hg⟩ := DataW.trod_struct Try.underlying32 hf
  match cs, h3, xs, hlen, hg with
  | [v0, v1, v2], _, [y0, y1, y2], _, hg =>
    have g0 := hg 0 _ rfl
    have g1 := hg 1 _ rfl
    have g2 := hg 2 _ rfl
    simp [c3] at g0
    simp [c6] at g1
    simp [c6] at g2
    obtain ⟨a, e0, _, s0⟩ := DataW.trod_int Try.underlying3 g0
    obtain ⟨b, e1, _, s1⟩ := DataW.trod_int Try.underlying30 g1
    obtain ⟨c, e2, _, s2⟩ := DataW.trod_int Try.underlying30 g2
    simp at e0 e1 e2
    subst e0 e1 e2
    exact ⟨a, b, c, rfl⟩
set_option maxRecDepth 100000 in
/-- a node's cells, and all that lies below it -/
theorem node_of_cells {H : Type} {enc : TypeId × Value → H} {W : World} {sp : Nat → Bool} {hh : Bool} : ∀ (fuel : Nat) (cs : List Value) (x : DataW H × List MemPlace), cs.length = 10 → DataW.trod enc Try.prog W 0 sp hh fuel 34 cs = some x →
    ∃ T : Nd, cs = T.cells.toList ∧ Nin W T ∧ T.cnt ≤ Rows.uptoBulk x.1 := by
  intro fuel
  induction fuel using Nat.strongRecOn with
  | ind fuel ih =>
  intro cs x h10 hf
  have c3 : Try.prog.cellsOf 3 = 1 := by kernel_rfl
  have c9 : Try.prog.cellsOf 9 = 1 := by kernel_rfl
  have c4 : Try.prog.cellsOf 4 = 1 := by kernel_rfl
  have cb : Try.prog.cellsOf 32 = 3 := by kernel_rfl
  have ck : Try.prog.cellsOf 22 = 1 := by kernel_rfl
  have cn : Try.prog.cellsOf 34 = 10 := by kernel_rfl
  obtain ⟨xs, n, hfu, hx, _, hlen, hg⟩ := DataW.trod_struct Try.underlying34 hf
  match cs, h10, xs, hlen, hg, hx with
  | [v0, v1, v2, v3, v4, v5, v6, v7, v8, v9], _, [y0, y1, y2, y3, y4, y5, y6, y7], _, hg, hx =>
    have g0 := hg 0 _ rfl
    have g1 := hg 1 _ rfl
    have g2 := hg 2 _ rfl
    have g3 := hg 3 _ rfl
    have g4 := hg 4 _ rfl
    have g5 := hg 5 _ rfl
    have g6 := hg 6 _ rfl
    have g7 := hg 7 _ rfl
    simp [c3] at g0
    simp [c3] at g1
    simp [c3] at g2
    simp [c9] at g3
    simp [c9] at g4
    simp [cb] at g5
    simp [c4] at g6
    simp [ck] at g7
    obtain ⟨a0, e0, _, _⟩ := DataW.trod_int Try.underlying3 g0
    obtain ⟨a1, e1, _, _⟩ := DataW.trod_int Try.underlying3 g1
    obtain ⟨a2, e2, _, _⟩ := DataW.trod_int Try.underlying3 g2
    obtain ⟨a3, e3, _, _⟩ := DataW.trod_string Try.underlying9 g3
    obtain ⟨a4, e4, _, _⟩ := DataW.trod_string Try.underlying9 g4
    obtain ⟨a5, a6, a7, e5⟩ := num_of_cells rfl g5
    obtain ⟨a8, e8, _⟩ := DataW.trod_bool Try.underlying4 g6
    simp at e0 e1 e2 e3 e4 e5 e8
    obtain ⟨e5, e6, e7⟩ := e5
    subst e0 e1 e2 e3 e4 e5 e6 e7 e8
    have hbulk : ∀ c : Nat, c ≤ Rows.uptoBulk y7.1 → 1 + c ≤ Rows.uptoBulk x.1 := by
      intro c hc
      rw [hx]
      simp only [List.map_cons, List.map_nil, Rows.uptoBulk, Rows.uptoBulkAll]
      omega
    rcases DataW.trod_slice Try.underlying22 g7 with ⟨hcs, _⟩ | ⟨ad, l, c, elems, rest, m, hm, hcs, hy, _, hl, _, hle, hel, _, _⟩
    · simp at hcs
      subst hcs
      exact ⟨.mk a0 a1 a2 a3 a4 a5 a6 a7 a8 none 0 [], rfl, .mk ⟨Nat.le_refl _, fun h => absurd rfl h⟩ (fun T h => by cases h), by have := hbulk 0 (Nat.zero_le _); simpa [Nd.cnt, cntL] using this⟩
    · simp at hcs
      subst hcs
      rw [cn] at hel
      have each : ∀ i, i < l → ∃ T : Nd, (∀ j, j < 10 → W.cell? ((ad.add (i * 10)).add j) = T.cells.toList[j]?) ∧ Nin W T ∧ ∃ e, elems[i]? = some e ∧ T.cnt ≤ Rows.uptoBulk e.1 := by
        intro i hi
        have h1 := hel i hi
        rw [List.getElem?_eq_getElem (by omega), Option.bind_eq_some_iff] at h1
        obtain ⟨cs, hc, ht⟩ := h1
        obtain ⟨_, hcl, hat⟩ := World.cells?_some hc
        obtain ⟨T, hT, hN, hC⟩ := ih m (by omega) cs _ hcl ht
        subst hT
        exact ⟨T, hat, hN, _, List.getElem?_eq_getElem (by omega), hC⟩
      obtain ⟨ks, hks, hp⟩ := list_choose l each
      subst hks
      refine ⟨.mk a0 a1 a2 a3 a4 a5 a6 a7 a8 (some ad) c ks, rfl, .mk ⟨hl, fun hne => ?_⟩ (fun T hT => ?_), ?_⟩
      · obtain ⟨b, o, s⟩ := ad
        have h0 : 0 < ks.length := List.length_pos_iff.2 hne
        have hs : s = none := by
          have q := (hp 0 h0).1 0 (by decide)
          have e : (ks[0]).cells.toList[0]? = some ((ks[0]).cells.toList[0]'(by generalize ks[0] = T; cases T; simp [Nd.cells])) := List.getElem?_eq_getElem _
          rw [e] at q
          simpa [Addr.add] using World.cell?_spot q
        subst hs
        refine ⟨b, o, rfl, fun j hj => ?_⟩
        have q := (hp j hj).1
        generalize ks[j] = T at q
        obtain ⟨k, ln, cc, nm, tx, nn, v, xx, s, a, cap, kk⟩ := T
        have hadd : ∀ q, (⟨b, o, none⟩ : Addr).add q = ⟨b, o + q, none⟩ := fun q => Addr.add_lit _ _ _
        have hadd2 : ∀ q, (⟨b, o + j * 10, none⟩ : Addr).add q = ⟨b, o + j * 10 + q, none⟩ := fun q => Addr.add_lit _ _ _
        simp only [hadd, hadd2] at q
        exact ⟨q 0 (by decide), q 1 (by decide), q 2 (by decide), q 3 (by decide), q 4 (by decide), q 5 (by decide), q 6 (by decide), q 7 (by decide), q 8 (by decide), q 9 (by decide)⟩
      · obtain ⟨i, hi, rfl⟩ := List.getElem_of_mem hT
        exact (hp i hi).2.1
      · refine hbulk _ ?_
        have hy1 : y7.1 = .slice (elems.map (·.1)) (rest.map (·.1)) := by rw [hy]
        rw [hy1]
        have := cntL_bulk ks (elems.map (·.1)) (by simp [hle]) (fun i h1 h2 => by
          obtain ⟨e, he, hc⟩ := (hp i h1).2.2
          have : elems[i]? = some elems[i] := List.getElem?_eq_getElem (by omega)
          rw [this] at he
          have he' := Option.some.inj he
          rw [← he'] at hc
          simpa using hc)
        simp only [Rows.uptoBulk]
        omega
theorem open_node {H : Type} {enc : TypeId × Value → H} {W : World} {sp : Nat → Bool} {hh : Bool} {b0 : Nat} {v : Value} {d : DataW H} {p : List MemPlace} (hv : Value.okWide Try.prog W .any b0 34 v) (h : DataW.Trod enc Try.prog W 0 sp hh 34 v d p) :
    ∃ T : Nd, v = T.val ∧ Nin W T ∧ T.cnt ≤ Rows.uptoBulk d := by
  obtain ⟨cs, rfl, hsz⟩ := okWide_struct Try.underlying34 hv
  have h10 : Try.prog.cellsOf 34 = 10 := by kernel_rfl
  rw [h10] at hsz
  obtain ⟨fuel, hf⟩ := h
  obtain ⟨T, hT, hN, hC⟩ := node_of_cells fuel cs.toList _ (by simpa using hsz) hf
  refine ⟨T, ?_, hN, hC⟩
  obtain ⟨k, ln, cc, nm, tx, nn, vv, xx, s, a, cap, kk⟩ := T
  obtain ⟨l⟩ := cs
  simp only at hT
  subst hT
  rfl
end Go.Proofs.Ytpjnjcljaoaceaa
namespace Go.Proofs.Ytpjnjcljaoaceaa
open Go Go.ChangeShapes Go.WideShapes Go.ChangeAt Go.RowKit Go.ChangeMaps
set_option linter.unusedVariables false
theorem u64_wf {n : Int} (h : (Lit.int .u64 n).wf = true) : 0 ≤ n ∧ n < 18446744073709551616 := by
  have h1 : (decide (IntKind.u64.min ≤ n) && decide (n ≤ IntKind.u64.max)) = true := h
  rw [Bool.and_eq_true, decide_eq_true_eq, decide_eq_true_eq] at h1
  have e1 : IntKind.u64.min = 0 := by decide
  have e2 : IntKind.u64.max = 18446744073709551615 := by decide
  rw [e1, e2] at h1
  omega
set_option maxRecDepth 100000 in
/-- a vector's cells -/
theorem num_of_cells2 {H : Type} {enc : TypeId × Value → H} {W : World} {sp : Nat → Bool} {hh : Bool} {fuel : Nat} {cs : List Value} {x : DataW H × List MemPlace} (h3 : cs.length = 3) (hf : DataW.trod enc Try.prog W 0 sp hh fuel 32 cs = some x) :
    ∃ n v q : Int, cs = [.int .i64 n, .int .u64 v, .int .u64 q] ∧ (0 ≤ v ∧ v < 18446744073709551616) ∧ (0 ≤ q ∧ q < 18446744073709551616) := by
  have c3 : Try.prog.cellsOf 3 = 1 := by kernel_rfl
  have c6 : Try.prog.cellsOf 30 = 1 := by kernel_rfl
  obtain ⟨xs, n, _, hx, _, hlen, hg⟩ := DataW.trod_struct Try.underlying32 hf
  match cs, h3, xs, hlen, hg with
  | [v0, v1, v2], _, [y0, y1, y2], _, hg =>
    have g0 := hg 0 _ rfl
    have g1 := hg 1 _ rfl
    have g2 := hg 2 _ rfl
    simp [c3] at g0
    simp [c6] at g1
    simp [c6] at g2
    obtain ⟨a, e0, _, s0⟩ := DataW.trod_int Try.underlying3 g0
    obtain ⟨b, e1, _, s1⟩ := DataW.trod_int Try.underlying30 g1
    obtain ⟨c, e2, _, s2⟩ := DataW.trod_int Try.underlying30 g2
    simp at e0 e1 e2
    subst e0 e1 e2
    exact ⟨a, b, c, rfl, u64_wf s1, u64_wf s2⟩
set_option maxRecDepth 100000 in
/-- a node's cells, and all that lies below it -/
theorem node_of_cells2 {H : Type} {enc : TypeId × Value → H} {W : World} {sp : Nat → Bool} {hh : Bool} : ∀ (fuel : Nat) (cs : List Value) (x : DataW H × List MemPlace), cs.length = 10 → DataW.trod enc Try.prog W 0 sp hh fuel 34 cs = some x →
    ∃ T : Nd, cs = T.cells.toList ∧ Nin W T ∧ T.cnt ≤ Rows.uptoBulk x.1 ∧ Nu T := by
  intro fuel
  induction fuel using Nat.strongRecOn with
  | ind fuel ih =>
  intro cs x h10 hf
  have c3 : Try.prog.cellsOf 3 = 1 := by kernel_rfl
  have c9 : Try.prog.cellsOf 9 = 1 := by kernel_rfl
  have c4 : Try.prog.cellsOf 4 = 1 := by kernel_rfl
  have cb : Try.prog.cellsOf 32 = 3 := by kernel_rfl
  have ck : Try.prog.cellsOf 22 = 1 := by kernel_rfl
  have cn : Try.prog.cellsOf 34 = 10 := by kernel_rfl
  obtain ⟨xs, n, hfu, hx, _, hlen, hg⟩ := DataW.trod_struct Try.underlying34 hf
  match cs, h10, xs, hlen, hg, hx with
  | [v0, v1, v2, v3, v4, v5, v6, v7, v8, v9], _, [y0, y1, y2, y3, y4, y5, y6, y7], _, hg, hx =>
    have g0 := hg 0 _ rfl
    have g1 := hg 1 _ rfl
    have g2 := hg 2 _ rfl
    have g3 := hg 3 _ rfl
    have g4 := hg 4 _ rfl
    have g5 := hg 5 _ rfl
    have g6 := hg 6 _ rfl
    have g7 := hg 7 _ rfl
    simp [c3] at g0
    simp [c3] at g1
    simp [c3] at g2
    simp [c9] at g3
    simp [c9] at g4
    simp [cb] at g5
    simp [c4] at g6
    simp [ck] at g7
    obtain ⟨a0, e0, _, _⟩ := DataW.trod_int Try.underlying3 g0
    obtain ⟨a1, e1, _, _⟩ := DataW.trod_int Try.underlying3 g1
    obtain ⟨a2, e2, _, _⟩ := DataW.trod_int Try.underlying3 g2
    obtain ⟨a3, e3, _, _⟩ := DataW.trod_string Try.underlying9 g3
    obtain ⟨a4, e4, _, _⟩ := DataW.trod_string Try.underlying9 g4
    obtain ⟨a5, a6, a7, e5, ⟨u0, u1⟩, ⟨u2, u3⟩⟩ := num_of_cells2 rfl g5
    obtain ⟨a8, e8, _⟩ := DataW.trod_bool Try.underlying4 g6
    simp at e0 e1 e2 e3 e4 e5 e8
    obtain ⟨e5, e6, e7⟩ := e5
    subst e0 e1 e2 e3 e4 e5 e6 e7 e8
    have hbulk : ∀ c : Nat, c ≤ Rows.uptoBulk y7.1 → 1 + c ≤ Rows.uptoBulk x.1 := by
      intro c hc
      rw [hx]
      simp only [List.map_cons, List.map_nil, Rows.uptoBulk, Rows.uptoBulkAll]
      omega
    rcases DataW.trod_slice Try.underlying22 g7 with ⟨hcs, _⟩ | ⟨ad, l, c, elems, rest, m, hm, hcs, hy, _, hl, _, hle, hel, _, _⟩
    · simp at hcs
      subst hcs
      exact ⟨.mk a0 a1 a2 a3 a4 a5 a6 a7 a8 none 0 [], rfl, .mk ⟨Nat.le_refl _, fun h => absurd rfl h⟩ (fun T h => by cases h), by have := hbulk 0 (Nat.zero_le _); simpa [Nd.cnt, cntL] using this, .mk u0 u1 u2 u3 (fun T h => by cases h)⟩
    · simp at hcs
      subst hcs
      rw [cn] at hel
      have each : ∀ i, i < l → ∃ T : Nd, (∀ j, j < 10 → W.cell? ((ad.add (i * 10)).add j) = T.cells.toList[j]?) ∧ Nin W T ∧ Nu T ∧ ∃ e, elems[i]? = some e ∧ T.cnt ≤ Rows.uptoBulk e.1 := by
        intro i hi
        have h1 := hel i hi
        rw [List.getElem?_eq_getElem (by omega), Option.bind_eq_some_iff] at h1
        obtain ⟨cs, hc, ht⟩ := h1
        obtain ⟨_, hcl, hat⟩ := World.cells?_some hc
        obtain ⟨T, hT, hN, hC, hU⟩ := ih m (by omega) cs _ hcl ht
        subst hT
        exact ⟨T, hat, hN, hU, _, List.getElem?_eq_getElem (by omega), hC⟩
      obtain ⟨ks, hks, hp⟩ := list_choose l each
      subst hks
      refine ⟨.mk a0 a1 a2 a3 a4 a5 a6 a7 a8 (some ad) c ks, rfl, .mk ⟨hl, fun hne => ?_⟩ (fun T hT => ?_), ?_, .mk u0 u1 u2 u3 (fun T hT => ?_)⟩
      · obtain ⟨b, o, s⟩ := ad
        have h0 : 0 < ks.length := List.length_pos_iff.2 hne
        have hs : s = none := by
          have q := (hp 0 h0).1 0 (by decide)
          have e : (ks[0]).cells.toList[0]? = some ((ks[0]).cells.toList[0]'(by generalize ks[0] = T; cases T; simp [Nd.cells])) := List.getElem?_eq_getElem _
          rw [e] at q
          simpa [Addr.add] using World.cell?_spot q
        subst hs
        refine ⟨b, o, rfl, fun j hj => ?_⟩
        have q := (hp j hj).1
        generalize ks[j] = T at q
        obtain ⟨k, ln, cc, nm, tx, nn, v, xx, s, a, cap, kk⟩ := T
        have hadd : ∀ q, (⟨b, o, none⟩ : Addr).add q = ⟨b, o + q, none⟩ := fun q => Addr.add_lit _ _ _
        have hadd2 : ∀ q, (⟨b, o + j * 10, none⟩ : Addr).add q = ⟨b, o + j * 10 + q, none⟩ := fun q => Addr.add_lit _ _ _
        simp only [hadd, hadd2] at q
        exact ⟨q 0 (by decide), q 1 (by decide), q 2 (by decide), q 3 (by decide), q 4 (by decide), q 5 (by decide), q 6 (by decide), q 7 (by decide), q 8 (by decide), q 9 (by decide)⟩
      · obtain ⟨i, hi, rfl⟩ := List.getElem_of_mem hT
        exact (hp i hi).2.1
      · refine hbulk _ ?_
        have hy1 : y7.1 = .slice (elems.map (·.1)) (rest.map (·.1)) := by rw [hy]
        rw [hy1]
        have := cntL_bulk ks (elems.map (·.1)) (by simp [hle]) (fun i h1 h2 => by
          obtain ⟨e, he, hc⟩ := (hp i h1).2.2.2
          have : elems[i]? = some elems[i] := List.getElem?_eq_getElem (by omega)
          rw [this] at he
          have he' := Option.some.inj he
          rw [← he'] at hc
          simpa using hc)
        simp only [Rows.uptoBulk]
        omega
      · obtain ⟨i, hi, rfl⟩ := List.getElem_of_mem hT
        exact (hp i hi).2.2.1
/-- a file: its items -/
theorem open_file {H : Type} {enc : TypeId × Value → H} {W : World} {sp : Nat → Bool} {hh : Bool} {b0 : Nat} {v : Value} {d : DataW H} {p : List MemPlace} (hv : Value.okWide Try.prog W .any b0 25 v) (h : DataW.Trod enc Try.prog W 0 sp hh 25 v d p) :
    ∃ (a : Option Addr) (cap : Nat) (ks : List Nd) (q : Value), v = .agg #[.slice a ks.length cap, q] ∧ Row W a cap ks ∧ (∀ T ∈ ks, Nin W T ∧ Nu T) ∧ cntL ks ≤ Rows.uptoBulk d := by
  obtain ⟨cs, rfl, hsz⟩ := okWide_struct Try.underlying25 hv
  have h2 : Try.prog.cellsOf 25 = 2 := by kernel_rfl
  rw [h2] at hsz
  obtain ⟨fuel, hf⟩ := h
  have ck : Try.prog.cellsOf 22 = 1 := by kernel_rfl
  have cn : Try.prog.cellsOf 34 = 10 := by kernel_rfl
  obtain ⟨xs, n, hfu, hx, _, hlen, hg⟩ := DataW.trod_struct Try.underlying25 hf
  obtain ⟨l⟩ := cs
  try simp only at hg hx hlen
  match l, hsz, xs, hlen, hg, hx with
  | [v0, v1], _, [y0, y1], _, hg, hx =>
    have g0 := hg 0 _ rfl
    simp [ck] at g0
    have hbulk : ∀ c : Nat, c ≤ Rows.uptoBulk y0.1 → c ≤ Rows.uptoBulk d := by
      intro c hc
      have hd := congrArg Prod.fst hx
      simp only at hd
      rw [hd]
      simp only [List.map_cons, List.map_nil, Rows.uptoBulk, Rows.uptoBulkAll]
      omega
    rcases DataW.trod_slice Try.underlying22 g0 with ⟨hcs, _⟩ | ⟨ad, l, c, elems, rest, m, hm, hcs, hy, _, hl, _, hle, hel, _, _⟩
    · have hc2 : [v0] = [Value.slice none 0 0] := hcs
      simp at hc2
      subst hc2
      exact ⟨none, 0, [], v1, rfl, ⟨Nat.le_refl _, fun h => absurd rfl h⟩, (fun T h => by cases h), by simp [cntL]⟩
    · have hc2 : [v0] = [Value.slice (some ad) l c] := hcs
      simp at hc2
      subst hc2
      rw [cn] at hel
      have each : ∀ i, i < l → ∃ T : Nd, (∀ j, j < 10 → W.cell? ((ad.add (i * 10)).add j) = T.cells.toList[j]?) ∧ Nin W T ∧ Nu T ∧ ∃ e, elems[i]? = some e ∧ T.cnt ≤ Rows.uptoBulk e.1 := by
        intro i hi
        have h1 := hel i hi
        rw [List.getElem?_eq_getElem (by omega), Option.bind_eq_some_iff] at h1
        obtain ⟨cs, hc, ht⟩ := h1
        obtain ⟨_, hcl, hat⟩ := World.cells?_some hc
        obtain ⟨T, hT, hN, hC, hU⟩ := node_of_cells2 m cs _ hcl ht
        subst hT
        exact ⟨T, hat, hN, hU, _, List.getElem?_eq_getElem (by omega), hC⟩
      obtain ⟨ks, hks, hp⟩ := list_choose l each
      subst hks
      refine ⟨some ad, c, ks, v1, rfl, ⟨hl, fun hne => ?_⟩, (fun T hT => ?_), ?_⟩
      · obtain ⟨b, o, s⟩ := ad
        have h0 : 0 < ks.length := List.length_pos_iff.2 hne
        have hs : s = none := by
          have q := (hp 0 h0).1 0 (by decide)
          have e : (ks[0]).cells.toList[0]? = some ((ks[0]).cells.toList[0]'(by generalize ks[0] = T; cases T; simp [Nd.cells])) := List.getElem?_eq_getElem _
          rw [e] at q
          simpa [Addr.add] using World.cell?_spot q
        subst hs
        refine ⟨b, o, rfl, fun j hj => ?_⟩
        have q := (hp j hj).1
        generalize ks[j] = T at q
        obtain ⟨k, ln, cc, nm, tx, nn, v, xx, s, a, cap, kk⟩ := T
        have hadd : ∀ q, (⟨b, o, none⟩ : Addr).add q = ⟨b, o + q, none⟩ := fun q => Addr.add_lit _ _ _
        have hadd2 : ∀ q, (⟨b, o + j * 10, none⟩ : Addr).add q = ⟨b, o + j * 10 + q, none⟩ := fun q => Addr.add_lit _ _ _
        simp only [hadd, hadd2] at q
        exact ⟨q 0 (by decide), q 1 (by decide), q 2 (by decide), q 3 (by decide), q 4 (by decide), q 5 (by decide), q 6 (by decide), q 7 (by decide), q 8 (by decide), q 9 (by decide)⟩
      · obtain ⟨i, hi, rfl⟩ := List.getElem_of_mem hT
        exact ⟨(hp i hi).2.1, (hp i hi).2.2.1⟩
      · refine hbulk _ ?_
        have hy1 : y0.1 = .slice (elems.map (·.1)) (rest.map (·.1)) := by rw [hy]
        rw [hy1]
        have := cntL_bulk ks (elems.map (·.1)) (by simp [hle]) (fun i h1 h2 => by
          obtain ⟨e, he, hc⟩ := (hp i h1).2.2.2
          have : elems[i]? = some elems[i] := List.getElem?_eq_getElem (by omega)
          rw [this] at he
          have he' := Option.some.inj he
          rw [← he'] at hc
          simpa using hc)
        simp only [Rows.uptoBulk]
        omega
end Go.Proofs.Ytpjnjcljaoaceaa
