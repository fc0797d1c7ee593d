/- A source that came in: its text and its lines; and the wrap for a row that lists variables. -/
import Derived.Test.YtplbnjpojjcnlabGreatDoorWhLaw
import Derived.Test.YtplbnjpojjcnlabGreatDoorRows
import Derived.ProofKit
import Derived.LaidMore
import Derived.LaidLaws
import Derived.OpenShut
import Derived.Stop.Joined
import Derived.Stop.LaidErr
import Derived.Shelf.Vars
import Derived.ChangeOld
import Derived.SizedLaws
import Derived.Deep.Fields
import Derived.Deep.Slices
import Derived.ChangeMaps5
namespace Go.Proofs.YtplbnjpojjcnlabGreatDoor
open Go Go.ChangeShapes Go.WideShapes Go.ChangeAt Go.RowKit Go.ChangeMaps
set_option linter.unusedVariables false
theorem own : ownKnob Tryz.prog.godebug = none := by kernel_rfl
theorem laidOut : laidOutB Tryz.prog = true := by kernel_rfl
/-- the wrap of a row that lists variables, the world's shape kept -/
theorem wrap_laid {H : Type} {enc : TypeId × Value → H} {a : Assume} {C : Checked} {os : Os} {f : FuncId} {fn : Func} {s : ChangeSpec} {conds : List PathCond} {apart fresh handsOn again : Bool} {X : World → Array Value → Prop}
    (hX : ∀ (w w' : World) (args : Array Value), w.heap = w'.heap → X w args → X w' args)
    (own : ownKnob C.prog.godebug = none) (started : os.Started) (noInit : C.prog.inits.idxOf? f = none) (hfn : C.prog.funcs[f]? = some fn)
    (witness : ∃ (w : World) (tape : Tape) (i : Input), w.os = os ∧ (w.forCall tape i).Shaped C.prog ∧ i.vars = [] ∧ Input.okWide C.prog (w.forCall tape i) .any w.heap.size f i ∧
      ((s.pre enc C.prog fn conds apart (w.forCall tape i).memory i.args ∧ X (w.forCall tape i).memory i.args) ∧ sizedMet enc C.prog fn (OpenSpec.ofChange s) apart (w.forCall tape i).memory i.args) ∧ a.holds C.prog (lone (Frame.enter C.prog f i.args .normal) [] (w.forCall tape i)))
    (contract : ∀ (W : World) (base : Nat) (args : Array Value) (ds gs : List (DataW H)) (before : List MemPlace),
      (∀ (j : Nat) t v, fn.params[j]? = some t → args[j]? = some v → Value.okWide C.prog W .any base t v) →
      DataW.Whole enc C.prog fn.params.toList s.vars apart W args.toList ds gs before →
      (DataW.weightsEach C.prog (fn.params.toList ++ s.plain.varTypes C.prog) (ds ++ gs)).all (· ≤ reachBytes) = true → X W args → W.ShapedOpen C.prog →
      Calls C.prog f args W fun e W' => ∃ v, e = .returned v ∧ s.post enc C.prog fn apart fresh handsOn again W args v W') :
    ReturnsInHanded a C os f .any (fun w args => (s.pre enc C.prog fn conds apart w args ∧ X w args) ∧ sizedMet enc C.prog fn (OpenSpec.ofChange s) apart w args) (s.post enc C.prog fn apart fresh handsOn again) := by
  refine returnsInHanded_of_calls own started noInit witness ?_
  intro w tape i _ hsh _ hok hpre _
  obtain ⟨_, _, _, fn', hfn', _, _, _, _, hval⟩ := hok
  have e : fn' = fn := Option.some.inj (hfn'.symm.trans hfn)
  subst e
  obtain ⟨⟨⟨ds, gs, before, hw, _⟩, hx⟩, hz⟩ := hpre
  have hw' := DataW.Whole.of_heap (w' := w.forCall tape i) (by rfl) hw
  refine (contract (w.forCall tape i) w.heap.size i.args ds gs before hval hw' (hz.weights hw) (hX _ _ _ (by rfl) hx) hsh).mono fun e W' ⟨v, he, hp⟩ => ?_
  subst he
  exact ChangeSpec.post_blind hp
/-- what the row lists -/
def laidP : List (String × DataW Unit) := [("unicode/utf8.acceptRanges", Rows.laid_unicode_utf8_acceptRanges), ("maskwright/note.words", Rows.laid_maskwright_note_words), ("unicode/utf8.first", Rows.laid_unicode_utf8_first)]
set_option maxRecDepth 100000 in
/-- an origin's cells in memory -/
theorem origin_of_cells {H : Type} {enc : TypeId × Value → H} {W : World} {sp : Nat → Bool} {hh : Bool} {fuel : Nat} {cs : List Value} {x : DataW H × List MemPlace} (h3 : cs.length = 3) (hf : DataW.trod enc Tryz.prog W 0 sp hh fuel 29 cs = some x) :
    ∃ o : Og, cs = [.string o.f, .int .i64 o.l, .bool o.w] := by
  have c9 : Tryz.prog.cellsOf 9 = 1 := by kernel_rfl
  have c3 : Tryz.prog.cellsOf 3 = 1 := by kernel_rfl
  have c4 : Tryz.prog.cellsOf 4 = 1 := by kernel_rfl
  obtain ⟨xs, n, _, hx, _, hlen, hg⟩ := DataW.trod_struct Tryz.underlying29 hf
  match cs, h3, xs, hlen, hg with
  | [v0, v1, v2], _, [y0, y1, y2], _, hg =>
    have g0 := hg 0 _ rfl
    have g1 := hg 1 _ rfl
    have g2 := hg 2 _ rfl
    simp [c9] at g0
    simp [c3] at g1
    simp [c4] at g2
    obtain ⟨f, e0, _, _⟩ := DataW.trod_string Tryz.underlying9 g0
    obtain ⟨a, e1, _, _⟩ := DataW.trod_int Tryz.underlying3 g1
    obtain ⟨b, e2, _⟩ := DataW.trod_bool Tryz.underlying4 g2
    simp at e0 e1 e2
    subst e0 e1 e2
    exact ⟨⟨f, a, b⟩, rfl⟩
set_option maxRecDepth 100000 in
set_option maxHeartbeats 1000000 in
/-- a source that came in -/
theorem source_of_trod {H : Type} {enc : TypeId × Value → H} {W : World} {hh : Bool} {b0 : Nat} {v : Value} {d : DataW H} {p : List MemPlace} {ts : List TypeId} {ds : List (DataW H)}
    (hv : Value.okWide Tryz.prog W .any b0 24 v) (h : DataW.Trod enc Tryz.prog W 0 (fun _ => true) hh 24 v d p) (hsz : (DataW.weightsEach Tryz.prog (24 :: ts) (d :: ds)).all (· ≤ reachBytes) = true) :
    ∃ (t : ByteArray) (a : Option Addr) (len cap : Nat), v = .agg #[.string t, .slice a len cap] ∧ (len = 0 ∨ ∃ (b off : Nat) (L : List Og), a = some ⟨b, off, none⟩ ∧ L.length = len ∧ L.length ≤ 5000000000000 ∧ ∀ j, j < L.length → OC W b (off + j * 3) L[j]!) := by
  obtain ⟨cs, rfl, hsz5⟩ := okWide_struct Tryz.underlying24 hv
  have h2 : Tryz.prog.cellsOf 24 = 2 := by kernel_rfl
  have c9 : Tryz.prog.cellsOf 9 = 1 := by kernel_rfl
  have c22 : Tryz.prog.cellsOf 22 = 1 := by kernel_rfl
  rw [h2] at hsz5
  obtain ⟨fuel, hf⟩ := h
  obtain ⟨xs, n, _, hx, _, hlen, hg⟩ := DataW.trod_struct Tryz.underlying24 hf
  obtain ⟨l⟩ := cs
  match l, hsz5, xs, hlen, hg, hx with
  | [v0, v1], _, [y0, y1], _, hg, hx =>
    have g0 := hg 0 _ rfl
    have g1 := hg 1 _ rfl
    simp [Value.cells, c9] at g0
    simp [Value.cells, c22] at g1
    obtain ⟨t, e0, _, _⟩ := DataW.trod_string Tryz.underlying9 g0
    simp at e0
    subst e0
    rcases DataW.trod_slice Tryz.underlying22 g1 with ⟨hcs, _⟩ | ⟨x, len0, cap0, elems, rest, m, _, hcs, hy, _, hl, hm, hle, hel, _, _⟩
    · simp at hcs
      subst hcs
      exact ⟨t, none, 0, 0, rfl, .inl rfl⟩
    · simp at hcs
      subst hcs
      refine ⟨t, some x, len0, cap0, rfl, ?_⟩
      by_cases hz : len0 = 0
      · exact .inl hz
      have h8 : Tryz.prog.bytesOf 29 = 32 := by kernel_rfl
      have h5 : Tryz.prog.cellsOf 29 = 3 := by kernel_rfl
      have hr := reachBytes_lt
      have e3 : (2 : Nat) ^ 47 = 140737488355328 := by decide
      have hw : (elems.length + rest.length) * 32 ≤ reachBytes := by
        have := List.all_eq_true.1 hsz _ (DataW.weights_mem_each (j := 0) (t := 24) rfl rfl ((elems.length + rest.length) * Tryz.prog.bytesOf 29) (by
          have hd : d = .agg [y0.1, y1.1] := by simp at hx; exact hx.1
          have hy1 : y1.1 = DataW.slice (elems.map (·.1)) (rest.map (·.1)) := by rw [hy]
          rw [hd, hy1]
          simp [DataW.weights, DataW.weightsEach, Tryz.underlying24, Tryz.underlying22]))
        rw [h8] at this
        simpa using this
      rw [h5] at hel
      have each : ∀ i, i < len0 → ∃ r : Og, W.cell? (x.add (i * 3)) = some (.string r.f) ∧ W.cell? ((x.add (i * 3)).add 1) = some (.int .i64 r.l) ∧ W.cell? ((x.add (i * 3)).add 2) = some (.bool r.w) := by
        intro i hi
        have h1 := hel i hi
        rw [List.getElem?_eq_getElem (by omega), Option.bind_eq_some_iff] at h1
        obtain ⟨cs, hc, ht⟩ := h1
        obtain ⟨_, hcl, hat⟩ := World.cells?_some hc
        obtain ⟨r, rfl⟩ := origin_of_cells hcl ht
        refine ⟨r, ?_, ?_, ?_⟩
        · have := hat 0 (by omega)
          simpa [Addr.add] using this
        · exact hat 1 (by omega)
        · exact hat 2 (by omega)
      let f : Nat → Og := fun i => if h : i < len0 then Classical.choose (each i h) else default
      obtain ⟨bl, off, spot⟩ := x
      have hspot : spot = none := by
        obtain ⟨r0, q0, _⟩ := each 0 (by omega)
        simpa [Addr.add] using World.cell?_spot q0
      subst hspot
      refine .inr ⟨bl, off, (List.range len0).map f, rfl, by simp, by simp; omega, fun j hj => ?_⟩
      have hj' : j < len0 := by simpa using hj
      have e : ((List.range len0).map f)[j]! = Classical.choose (each j hj') := by
        rw [getElem!_pos _ j hj, List.getElem_map, List.getElem_range]
        exact dif_pos hj'
      rw [e]
      obtain ⟨k0, k1, k2⟩ := Classical.choose_spec (each j hj')
      generalize Classical.choose (each j hj') = r at k0 k1 k2
      have hadd : ∀ q, (⟨bl, off, none⟩ : Addr).add q = ⟨bl, off + q, none⟩ := fun q => Addr.add_lit _ _ _
      rw [hadd] at k0 k1 k2
      exact ⟨k0, by simpa [Addr.add] using k1, by simpa [Addr.add] using k2⟩
/-- the law: at every source and every two numbers -/
theorem places_any (t : ByteArray) (a : Option Addr) (len cap : Nat) (line col : Int) (W : World) (hin : len = 0 ∨ ∃ (b off : Nat) (L : List Og), a = some ⟨b, off, none⟩ ∧ L.length = len ∧ L.length ≤ 5000000000000 ∧ ∀ j, j < L.length → OC W b (off + j * 3) L[j]!) :
    Calls Tryz.prog 3 #[.agg #[.string t, .slice a len cap], .int .i64 line, .int .i64 col] W fun e w' => e = .returned (.bool true) ∧ Below W.heap.size W w' := by
  rcases hin with rfl | ⟨b, off, L, rfl, rfl, hn, hR⟩
  · exact law_zero t a cap line col W
  by_cases h1 : line < 1
  · exact law_low t _ _ cap line col hn h1 W
  by_cases h2 : (L.length : Int) + 1 < line
  · exact law_high t _ _ cap line col hn h2 W
  obtain ⟨k, hk⟩ := Int.eq_ofNat_of_zero_le (show 0 ≤ line - 1 by omega)
  obtain rfl : line = (k : Int) + 1 := by omega
  by_cases h3 : k < L.length
  · exact law_mid t b off cap k col L W h3 hn hR
  by_cases h0 : L.length = 0
  · rw [h0]; exact law_zero t _ cap _ col W
  obtain ⟨m, rfl⟩ : ∃ m, k = m + 1 := ⟨k - 1, by omega⟩
  have hm : L.length = m + 1 := by omega
  rw [hm, show ((m + 1 : Nat) : Int) + 1 = (m : Int) + 2 by omega]
  exact law_last t b off cap m col L W hm hn hR
end Go.Proofs.YtplbnjpojjcnlabGreatDoor
