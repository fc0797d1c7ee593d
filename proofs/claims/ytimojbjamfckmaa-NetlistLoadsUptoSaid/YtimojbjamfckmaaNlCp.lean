/- The program's Copy (package netlist): the same netlist in rows of the call's own. Condition: the sizes of a netlist that came in. -/
import Derived.Test.YtimojbjamfckmaaNlB
import Derived.Test.YtimojbjamfckmaaNlSm
namespace Go.Proofs.Ytimojbjamfckmaa
open Go Go.RowKit Go.Sort
set_option linter.unusedVariables false
abbrev gV (v : Value) : Value := v
/-- a graph in a block that is written -/
abbrev BG (k : Nat) (v0 v1 v2 v3 v4 : Value) (w : World) : Prop := Arr 27 gV k [v0, v1, v2, v3, v4] w
theorem BG.gx {k : Nat} {v0 v1 v2 v3 v4 : Value} {w : World} (h : BG k v0 v1 v2 v3 v4 w) : GX k v0 v1 v2 v3 v4 w :=
  ⟨Arr.cell (j := 0) h (by simp), Arr.cell (j := 1) h (by simp), Arr.cell (j := 2) h (by simp), Arr.cell (j := 3) h (by simp), Arr.cell (j := 4) h (by simp)⟩
abbrev put5 (w : World) (k : Nat) (u0 u1 u2 u3 u4 : Value) : World := ((((w.setCell ⟨k, 0, none⟩ u0).setCell ⟨k, 1, none⟩ u1).setCell ⟨k, 2, none⟩ u2).setCell ⟨k, 3, none⟩ u3).setCell ⟨k, 4, none⟩ u4
theorem BG.all {k : Nat} {v0 v1 v2 v3 v4 : Value} {w : World} (h : BG k v0 v1 v2 v3 v4 w) (u0 u1 u2 u3 u4 : Value) : BG k u0 u1 u2 u3 u4 (put5 w k u0 u1 u2 u3 u4) :=
  ((((Arr.set h 0 u0).set 1 u1).set 2 u2).set 3 u3).set 4 u4
theorem BG.set3 {k : Nat} {v0 v1 v2 v3 v4 : Value} {w : World} (h : BG k v0 v1 v2 v3 v4 w) (u : Value) : BG k v0 v1 v2 u v4 (w.setCell ⟨k, 3, none⟩ u) := Arr.set h 3 u
theorem put5_below {k : Nat} {w0 w : World} (h : Below k w0 w) (u0 u1 u2 u3 u4 : Value) : Below k w0 (put5 w k u0 u1 u2 u3 u4) :=
  ((((h.setCell (Nat.le_refl _) u0).setCell (Nat.le_refl _) u1).setCell (Nat.le_refl _) u2).setCell (Nat.le_refl _) u3).setCell (Nat.le_refl _) u4
theorem b5_mono {k q : Nat} {w0 w : World} (h : Below q w0 w) (hq : q ≤ k) (u0 u1 u2 u3 u4 : Value) : Below q w0 (put5 w k u0 u1 u2 u3 u4) :=
  ((((h.setCell hq u0).setCell hq u1).setCell hq u2).setCell hq u3).setCell hq u4
theorem Arr.allocV (w : World) (l : List Value) (t : TypeId) : Arr t gV w.heap.size l (w.alloc (.cells l.toArray t)) := ⟨by
  show (w.heap.push _)[w.heap.size]? = _
  simp⟩
theorem grown_put (w : World) (p : Addr) (v : Value) : w.grownBy (w.setCell p v) (some p.block) :=
  ⟨rfl, rfl, rfl, by simp [World.setCell], fun k _ hne => Below.heap_setCell w p v k (fun e => hne (by rw [e]))⟩
theorem OwnK.set {B : Nat} {t : TypeId} {k : Nat} {α : Type} {enc : α → List Value} {w : World} {v : Value} {l : List α} (h : OwnK B t k enc w v l) (p : Addr) (u : Value) (hp : p.block < B) : OwnK B t k enc (w.setCell p u) v l :=
  World.ownsRow.kept h (grown_put w p u) (by
    cases hv : v.ownBlock with
    | none => exact .inl rfl
    | some b => exact .inr (fun e => by have := (World.ownsRow.lt h b hv).1; simp only [Option.some.injEq] at e; omega))
theorem OwnK.put5 {B : Nat} {t : TypeId} {k : Nat} {α : Type} {enc : α → List Value} {w : World} {v : Value} {l : List α} (h : OwnK B t k enc w v l) (q : Nat) (u0 u1 u2 u3 u4 : Value) (hq : q < B) : OwnK B t k enc (put5 w q u0 u1 u2 u3 u4) v l :=
  ((((OwnK.set h ⟨q, 0, none⟩ u0 hq).set ⟨q, 1, none⟩ u1 hq).set ⟨q, 2, none⟩ u2 hq).set ⟨q, 3, none⟩ u3 hq).set ⟨q, 4, none⟩ u4 hq
theorem OwnK.sl {B : Nat} {t : TypeId} {k : Nat} {α : Type} {enc : α → List Value} {w : World} {v : Value} {l : List α} (h : OwnK B t k enc w v l) : ∃ ad n cp, v = .slice ad n cp := by
  obtain ⟨ad, cp, h⟩ := h.slice
  exact ⟨ad, _, cp, h⟩
theorem ownk_sta (B : Nat) (t : TypeId) (k : Nat) {α : Type} (enc : α → List Value) (l : List α) : Sta (fun v w => OwnK B t k enc w v l) := fun v w w' h hb => h.below hb
theorem RowAt.put {α : Type} [Inhabited α] {k : Nat} {enc : α → List Value} {l : List α} {ad : Option Addr} {w : World} (h : RowAt k enc l ad w) (p : Addr) (u : Value) (hne : ∀ a, ad = some a → a.block ≠ p.block) : RowAt k enc l ad (w.setCell p u) := by
  rcases h with h | ⟨b, o, h1, h2⟩
  · exact .inl h
  · have hb := hne _ h1
    have e : ∀ t, (w.setCell p u).cell? ⟨b, t, none⟩ = w.cell? ⟨b, t, none⟩ := fun t => World.cell?_setCell_other _ _ _ _ (fun e => hb (congrArg Addr.block e).symm)
    refine .inr ⟨b, o, h1, fun j hj c x hx => ?_⟩
    rw [e]
    exact h2 j hj c x hx
theorem GaIn.put {g : Ga} {w : World} (h : GaIn g w) (p : Addr) (u : Value) (hne : ∀ a, g.ad = some a → a.block ≠ p.block) : GaIn g (w.setCell p u) := ⟨h.row.put p u hne, h.cap, h.nil⟩
theorem GaIn.put5 {g : Ga} {w : World} (h : GaIn g w) (q : Nat) (u0 u1 u2 u3 u4 : Value) (hne : ∀ a, g.ad = some a → a.block ≠ q) : GaIn g (put5 w q u0 u1 u2 u3 u4) :=
  ((((h.put ⟨q, 0, none⟩ u0 hne).put ⟨q, 1, none⟩ u1 hne).put ⟨q, 2, none⟩ u2 hne).put ⟨q, 3, none⟩ u3 hne).put ⟨q, 4, none⟩ u4 hne
theorem set_getA {α : Type} [Inhabited α] (V : List α) (k j : Nat) (x : α) (hk : k < V.length) (hj : j < V.length) : (V.set k x)[j]! = if j = k then x else V[j]! := by
  rw [getElem!_pos _ j (by simpa using hj), getElem!_pos V j hj, List.getElem_set]
  by_cases e : k = j
  · rw [if_pos e, if_pos e.symm]
  · rw [if_neg e, if_neg (fun h => e h.symm)]
theorem flat_setG : ∀ (L : List Ga) (j : Nat), j < L.length → ∀ (ad : Option Addr) (cp : Nat), (L.flatMap encGa).set (j * 3 + 2) (.slice ad L[j]!.ins.length cp) = (L.set j ⟨L[j]!.cell, L[j]!.tab, L[j]!.ins, ad, cp⟩).flatMap encGa
  | [], j, h, _, _ => by simp at h
  | x :: L, 0, _, ad, cp => by simp [List.flatMap_cons]
  | x :: L, j + 1, h, ad, cp => by
    have ih := flat_setG L j (by simpa using h) ad cp
    have e : (x :: L)[j + 1]! = L[j]! := by simp
    rw [e, List.flatMap_cons, List.set_cons_succ, List.flatMap_cons, ← ih, show (j + 1) * 3 + 2 = (j * 3 + 2) + 1 + 1 + 1 by omega]
    rfl
theorem map_setG (L : List Ga) (j : Nat) (hj : j < L.length) (ad : Option Addr) (cp : Nat) : (L.set j ⟨L[j]!.cell, L[j]!.tab, L[j]!.ins, ad, cp⟩).map gc = L.map gc := by
  apply List.ext_getElem (by simp)
  intro i h1 h2
  rw [List.getElem_map, List.getElem_map, List.getElem_set]
  split
  · rename_i e
    subst e
    rw [getElem!_pos L j hj]
    rfl
  · rfl
theorem ownsRow_below {B : Nat} {t : TypeId} {k : Nat} {w w' : World} {v : Value} {n : Nat} {l : List Value} (h : w.ownsRow B t k v n l) (hb : Below w.heap.size w w') : w'.ownsRow B t k v n l :=
  World.ownsRow.kept (row := none) h ⟨hb.os, hb.tape, hb.output, hb.size, fun k hk _ => hb.block k hk⟩ (by cases v.ownBlock <;> simp)
/-- the gates so far: those before j have rows of their own -/
structure CpL (B0 : Nat) (n : Nl) (ob : Option Nat) (j : Nat) (L : List Ga) (wr : World) : Prop where
  len : L.length = n.gates.length
  same : L.map gc = n.gates.map gc
  done : ∀ i, i < j → GaIn L[i]! wr ∧ ∀ a, L[i]!.ad = some a → B0 ≤ a.block ∧ some a.block ≠ ob
  rest : ∀ i, j ≤ i → i < n.gates.length → L[i]! = n.gates[i]!
/-- a netlist with the same content as another -/
structure SameC (m n : Nl) : Prop where
  ins : m.ins = n.ins
  outN : m.outN = n.outN
  flops : m.flops = n.flops
  gates : m.gates.map gc = n.gates.map gc
  outs : m.outs = n.outs
theorem SameC.same {m n : Nl} (h : SameC m n) : sameNl m n = true := by
  unfold sameNl
  rw [decide_eq_true h.ins, decide_eq_true h.outN, decide_eq_true h.flops, decide_eq_true h.gates, decide_eq_true h.outs]
  rfl
theorem SameC.small {m n : Nl} (h : SameC m n) (sg : SmN n) : SmN m := by
  have hl : m.gates.length = n.gates.length := by have := congrArg List.length h.gates; simpa using this
  refine ⟨by rw [h.ins]; exact sg.ins, by rw [h.outN]; exact sg.outN, by rw [h.flops]; exact sg.flops, by rw [hl]; exact sg.gates, by rw [h.outs]; exact sg.outs, by rw [h.ins, h.outN, h.flops, hl, h.outs]; exact sg.all, by rw [h.ins]; exact sg.insT, by rw [h.outN]; exact sg.outT, by rw [h.flops]; exact sg.flopT, fun j hj => ?_⟩
  have hj2 : j < n.gates.length := by omega
  have e : (m.gates.map gc)[j]! = (n.gates.map gc)[j]! := by rw [h.gates]
  rw [getElem!_pos _ j (by simpa using hj), getElem!_pos _ j (by simpa using hj2), List.getElem_map, List.getElem_map] at e
  have e2 : m.gates[j].ins = n.gates[j].ins := congrArg (fun x => x.2.2) e
  have := sg.gateI j hj2
  rw [getElem!_pos n.gates j hj2] at this
  rw [getElem!_pos m.gates j hj, e2]
  exact this
set_option maxRecDepth 100000 in
set_option maxHeartbeats 16000000 in
theorem copyN_any (n : Nl) (v : Value) (sg : SmN n) (w : World) (hG : NO n v w) : Calls Try.prog 22 #[v] w fun e w' => ∃ u m, e = .returned u ∧ NO m u w' ∧ SameC m n ∧ Below w.heap.size w w' := by
  have hG0 := hG
  obtain ⟨a, b, c, d0, e, a', b', c', d', e', rfl, hC, hA⟩ := hG.all
  clear hG
  have s1 := sg.ins
  have s2 := sg.outN
  have s3 := sg.flops
  have s4 := sg.gates
  have s5 := sg.outs
  go_enter Try.func22, Try.ntmps22
  go_upto_region 1 with fail
  have bel := ((Below.refl w.heap.size w).alloc (Nat.le_refl _) (.cells #[.slice a n.ins.length a', .slice b n.outN.length b', .slice c n.flops.length c', .slice d0 n.gates.length d', .slice e n.outs.length e'] 27)).alloc (by simp) (.cells #[.slice none 0 0, .slice none 0 0, .slice none 0 0, .slice none 0 0, .slice none 0 0] 27)
  have X := (GX.new w (.slice a n.ins.length a') (.slice b n.outN.length b') (.slice c n.flops.length c') (.slice d0 n.gates.length d') (.slice e n.outs.length e') 27).below ((Below.refl _ _).alloc (Nat.le_refl _) (.cells #[.slice none 0 0, .slice none 0 0, .slice none 0 0, .slice none 0 0, .slice none 0 0] 27))
  have Y : BG (w.heap.size + 1) (.slice none 0 0) (.slice none 0 0) (.slice none 0 0) (.slice none 0 0) (.slice none 0 0) ((w.alloc (.cells #[.slice a n.ins.length a', .slice b n.outN.length b', .slice c n.flops.length c', .slice d0 n.gates.length d', .slice e n.outs.length e'] 27)).alloc (.cells #[.slice none 0 0, .slice none 0 0, .slice none 0 0, .slice none 0 0, .slice none 0 0] 27)) := by
    have := Arr.allocV (w.alloc (.cells #[.slice a n.ins.length a', .slice b n.outN.length b', .slice c n.flops.length c', .slice d0 n.gates.length d', .slice e n.outs.length e'] 27)) [.slice none 0 0, .slice none 0 0, .slice none 0 0, .slice none 0 0, .slice none 0 0] 27
    rwa [show (w.alloc (.cells #[.slice a n.ins.length a', .slice b n.outN.length b', .slice c n.flops.length c', .slice d0 n.gates.length d', .slice e n.outs.length e'] 27)).heap.size = w.heap.size + 1 by simp] at this
  have hsz : w.heap.size + 1 < ((w.alloc (.cells #[.slice a n.ins.length a', .slice b n.outN.length b', .slice c n.flops.length c', .slice d0 n.gates.length d', .slice e n.outs.length e'] 27)).alloc (.cells #[.slice none 0 0, .slice none 0 0, .slice none 0 0, .slice none 0 0, .slice none 0 0] 27)).heap.size := by simp
  generalize (w.alloc (.cells #[.slice a n.ins.length a', .slice b n.outN.length b', .slice c n.flops.length c', .slice d0 n.gates.length d', .slice e n.outs.length e'] 27)).alloc (.cells #[.slice none 0 0, .slice none 0 0, .slice none 0 0, .slice none 0 0, .slice none 0 0] 27) = W0 at bel X Y hsz ⊢
  generalize hk : w.heap.size = k at X Y hsz bel ⊢
  have HK := Lib.hid hk
  clear hk
  have hkW : k ≤ W0.heap.size := by omega
  obtain ⟨x0, x1, x2, x3, x4⟩ := id X
  have HA := Lib.hid (fun W (hb : Below W0.heap.size W0 W) => hA.below (show Below w.heap.size w W by rw [HK.out]; exact bel.trans (hb.mono hkW)))
  have H1 := Lib.hid (cloneNG_any n.gates _ W0 (by omega) (RowOf.mk hC.gates (HA.out _ (Below.refl _ _)).gates))
  have HX := Lib.hid (fun W (hb : Below W0.heap.size W0 W) => X.below hb)
  have HY := Lib.hid (fun W (hb : Below W0.heap.size W0 W) => Arr.below Y hb)
  have HBEL := Lib.hid bel
  have HC := Lib.hid hC
  have HSZ := Lib.hid hsz
  have HSG := Lib.hid sg
  clear hA hG0 hC sg X Y bel hsz
  go_upto_region 2 with (first | (go_at_call 81; refine H1.out.mono ?_; rintro ee W1 ⟨u, rfl, O1, B1⟩))
  obtain ⟨adg, cpg, hu⟩ := O1.slice
  subst hu
  clear x0 x1 x2 x3 x4 H1
  go_upto_block 0 with fail
  generalize hob : (Value.slice adg n.gates.length cpg).ownBlock = ob
  have HOB := Lib.hid hob
  clear hob
  go_wp2_with fail
  go_loopw [11] (fun i wr => ∃ j : Nat, j ≤ n.gates.length ∧ i = .int .i64 (j : Int) ∧ Hid (∃ L, CpL W0.heap.size n ob j L wr ∧ OwnK W0.heap.size 82 3 encGa wr (.slice adg n.gates.length cpg) L) ∧ Hid (Below W0.heap.size W0 wr)) (fun i _ => n.gates.length - (intOf i).toNat)
  case atStart => exact ⟨0, Nat.zero_le _, rfl, Lib.hid ⟨n.gates, ⟨rfl, rfl, fun i hi => by omega, fun i _ _ => rfl⟩, O1⟩, Lib.hid B1⟩
  case round =>
    clear O1 B1
    obtain ⟨j, hj, rfl, hL, hB⟩ := hrel
    rename World => WR
    have hj0 : (0 : Int) ≤ (j : Int) := by omega
    obtain ⟨L, hCL, hO⟩ := hL.out
    by_cases hlt : j < n.gates.length
    · have hji : (j : Int) < (n.gates.length : Int) := by omega
      have hLl := hCL.len
      have hLj := hCL.rest j (Nat.le_refl _) hlt
      have hg6 := HSG.out.gateI j hlt
      have hI := (HA.out _ hB.out).each j hlt
      have hform : ∃ q, adg = some ⟨q, 0, none⟩ := by
        rcases hO.2 with ⟨h1, h0⟩ | ⟨q, c9, cur, hv, _⟩
        · omega
        · injection hv with e1 _ _
          exact ⟨q, e1⟩
      obtain ⟨q, hq⟩ := hform
      subst hq
      have hqo : ob = some q := HOB.out.symm
      have hqlt := World.ownsRow.lt hO q rfl
      have hcell : ∀ i, i < L.length → ∀ c x, (encGa L[i]!)[c]? = some x → WR.cell? ⟨q, i * 3 + c, none⟩ = some x := by
        obtain ⟨ad9, cp9, e1, _, e3⟩ := (OwnK.row (enc := encGa) (k := 3) (fun _ => rfl) hO).open'
        injection e1 with e11 _ _
        rw [← e11] at e3
        obtain ⟨b9, o9, e4, e5⟩ := e3.pick (by omega)
        injection e4 with e4
        injection e4 with e6 e7 _
        subst e6 e7
        intro i hi c x hx
        have := e5 i hi c x hx
        rwa [Nat.zero_add] at this
      have c0 := hcell j (by omega) 0 _ rfl
      have c1 := hcell j (by omega) 1 _ rfl
      have c2 := hcell j (by omega) 2 _ rfl
      have hO9 : WR.ownsRow W0.heap.size 82 3 (.slice (some ⟨q, 0, none⟩) n.gates.length cpg) n.gates.length (L.flatMap encGa) := by
        have := hO
        unfold OwnK at this
        rwa [hLl] at this
      have HO9 := Lib.hid hO9
      simp only [Nat.add_zero, Nat.zero_add] at c0 c1 c2
      have HST := Lib.hid (fun (W : World) (hb : Below WR.heap.size WR W) (an : Option Addr) (cn : Nat) => show OwnK W0.heap.size 82 3 encGa (W.setCell ⟨q, j * 3 + 2, none⟩ (.slice an L[j]!.ins.length cn)) (.slice (some ⟨q, 0, none⟩) n.gates.length cpg) (L.set j ⟨L[j]!.cell, L[j]!.tab, L[j]!.ins, an, cn⟩) by
        have h9 := (World.ownsRow.stored (ownsRow_below hO9 hb) (j * 3 + 2) (.slice an L[j]!.ins.length cn)).1
        unfold OwnK
        rw [List.length_set, ← flat_setG L j (by omega) an cn, hLl]
        exact h9)
      have HLJ := Lib.hid hLj
      rw [hLj] at c0 c1 c2
      rw [hLj] at HST
      clear hcell hL
      have HGJ := Lib.hid (show ∀ y, y = n.gates[j]! → L[j]! = y from fun y e => by rw [HLJ.out, e])
      generalize hy0 : n.gates[j]! = y at c0 c1 c2 hI hg6 HST
      have HYE := Lib.hid (HGJ.out y hy0.symm)
      clear HLJ HGJ hy0 hLj
      obtain ⟨y0, y1, y2, y3, y4⟩ := y
      obtain ⟨hr, hcp, hnl⟩ := hI
      simp only at c0 c1 c2 hr hcp hnl hg6 HST
      have hB5 := hB.out
      have HCL := Lib.hid hCL
      have HOO := Lib.hid hO
      clear hB hCL hO
      go_upto_region 5 with fail
      have bA := (Below.refl WR.heap.size WR).alloc (Nat.le_refl _) (.cells #[.int .i64 y0, .int .u64 (U y1), .slice y3 y2.length y4] 82)
      have z2 : (WR.alloc (.cells #[.int .i64 y0, .int .u64 (U y1), .slice y3 y2.length y4] 82)).cell? ⟨WR.heap.size, 2, none⟩ = some (.slice y3 y2.length y4) := by go_simp

      generalize WR.alloc (.cells #[.int .i64 y0, .int .u64 (U y1), .slice y3 y2.length y4] 82) = WH at z2 bA ⊢
      generalize WR.heap.size = q10 at z2 ⊢
      have hB6 := hB5.trans (bA.mono hB5.size)
      have hr6 := hr.below bA
      have HBA := Lib.hid bA
      clear c0 c1 c2 hr
      have H2 := Lib.hid (cloneNJ_any y2 (.slice y3 y2.length y4) WH (by omega) (RowOf.mk hcp hr6))
      go_wp2_with (first | (go_at_call 82; refine H2.out.mono ?_; rintro ee WC ⟨un, rfl, On, hbn⟩; obtain ⟨an, cn, hun, hcn, hnn, Rn⟩ := On.rowCN lenNJ; subst hun; have hbC := HBA.out.trans (hbn.mono HBA.out.size); have OC := ownsRow_below HO9.out hbC; have f9 := World.ownsRow.frozenAt OC (j * 3 + 2); have k9 : WC.cell? ⟨q, j * 3 + 2, none⟩ = some (.slice L[j]!.ad L[j]!.ins.length L[j]!.cp) := (World.ownsRow.cellAt OC (j * 3 + 2) (by omega)).trans ((flat_get lenNG L j 2 (by have := HCL.out.len; omega) (by decide)).trans rfl)))
      refine ⟨⟨j + 1, by omega, rfl, Lib.hid ⟨L.set j ⟨y0, y1, y2, an, cn⟩, ?_, ?_⟩, Lib.hid ?_⟩, by simp [intOf]; omega⟩
      · have hbC := HBA.out.trans (hbn.mono HBA.out.size)
        have hLl := HCL.out.len
        have hqW : q < WH.heap.size := Nat.lt_of_lt_of_le hqlt.2 HBA.out.size
        have hab : ∀ a, an = some a → WH.heap.size ≤ a.block := fun a ha => by
          subst ha
          exact (World.ownsRow.lt On a.block rfl).1
        have hWW : W0.heap.size ≤ WH.heap.size := Nat.le_trans hB5.size HBA.out.size
        refine ⟨by rw [List.length_set]; exact hLl, ?_, fun i hi => ?_, fun i hi hi2 => ?_⟩
        · have h9 := map_setG L j (by omega) an cn
          rw [HYE.out] at h9
          exact h9.trans HCL.out.same
        · rw [set_getA L j i _ (by omega) (by omega)]
          by_cases e : i = j
          · rw [if_pos e]
            refine ⟨⟨Rn.put _ _ (fun a ha => ?_), hcn, hnn⟩, fun a ha => ?_⟩
            · have := hab a ha
              show a.block ≠ q
              omega
            · have := hab a ha
              rw [hqo]
              refine ⟨by omega, fun e => ?_⟩
              injection e with e
              omega
          · rw [if_neg e]
            obtain ⟨d1, d2⟩ := HCL.out.done i (by omega)
            refine ⟨(d1.below hbC).put _ _ (fun a ha => ?_), d2⟩
            have := (d2 a ha).2
            rw [hqo] at this
            exact fun e => this (congrArg some e)
        · rw [set_getA L j i _ (by omega) (by omega), if_neg (by omega)]
          exact HCL.out.rest i (by omega) hi2
      · exact HST.out WC (HBA.out.trans (hbn.mono HBA.out.size)) an cn
      · exact (hB6.trans (hbn.mono (Nat.le_trans hB5.size HBA.out.size))).setCell hqlt.1 _
    · have hje : j = n.gates.length := by omega
      subst hje
      have hB5 := hB.out
      have hs5 := hB5.size
      have hHA5 := fun W (hb : Below WR.heap.size WR W) => HA.out W (hB5.trans (hb.mono hB5.size))
      have HA5 := Lib.hid hHA5
      have HSZ5 := Lib.hid (show k + 1 < WR.heap.size from Nat.lt_of_lt_of_le HSZ.out hs5)
      have HHB := Lib.hid (HBEL.out.trans (hB5.mono hkW))
      have hkW5 : k ≤ WR.heap.size := Nat.le_trans hkW hs5
      obtain ⟨x0, x1, x2, x3, x4⟩ := HX.out WR hB5
      have HY5 := Lib.hid (HY.out WR hB5)
      have HCL := Lib.hid hCL
      have HOO := Lib.hid hO
      have HS5 := Lib.hid hs5
      clear hj0 hj hlt hL hB hCL hO hHA5 hB5 hs5
      go_upto_region 7 with fail
      have HBW := Lib.hid (fun d os => below_regrown WR d os)
      have C0 := Lib.hid (fun W (hb : Below WR.heap.size WR W) => (cloneNT_any n.ins _ W (by have := HSG.out.ins; omega) (RowOf.mk HC.out.ins (HA5.out W hb).ins)).mono fun ee w' ⟨u, q1, q2, q3⟩ => (⟨u, q1, World.ownsRow.mono q2 hb.size, q3⟩ : ∃ u, ee = Ending.returned u ∧ OwnK WR.heap.size 9 1 encT w' u n.ins ∧ Below W.heap.size W w'))
      have C1 := Lib.hid (fun W (hb : Below WR.heap.size WR W) => (cloneNT_any n.outN _ W (by have := HSG.out.outN; omega) (RowOf.mk HC.out.outN (HA5.out W hb).outN)).mono fun ee w' ⟨u, q1, q2, q3⟩ => (⟨u, q1, World.ownsRow.mono q2 hb.size, q3⟩ : ∃ u, ee = Ending.returned u ∧ OwnK WR.heap.size 9 1 encT w' u n.outN ∧ Below W.heap.size W w'))
      have C2 := Lib.hid (fun W (hb : Below WR.heap.size WR W) => (cloneNF_any n.flops _ W (by have := HSG.out.flops; omega) (RowOf.mk HC.out.flops (HA5.out W hb).flops)).mono fun ee w' ⟨u, q1, q2, q3⟩ => (⟨u, q1, World.ownsRow.mono q2 hb.size, q3⟩ : ∃ u, ee = Ending.returned u ∧ OwnK WR.heap.size 84 5 encFl w' u n.flops ∧ Below W.heap.size W w'))
      have C3 := Lib.hid (fun W (hb : Below WR.heap.size WR W) => (cloneNJ_any n.outs _ W (by have := HSG.out.outs; omega) (RowOf.mk HC.out.outs (HA5.out W hb).outs)).mono fun ee w' ⟨u, q1, q2, q3⟩ => (⟨u, q1, World.ownsRow.mono q2 hb.size, q3⟩ : ∃ u, ee = Ending.returned u ∧ OwnK WR.heap.size 3 1 encI w' u n.outs ∧ Below W.heap.size W w'))
      have g0 := cell_regrown x0
      have g1 := cell_regrown x1
      have g2 := cell_regrown x2
      have g3 := cell_regrown x3
      have g4 := cell_regrown x4
      clear x0 x1 x2 x3 x4
      refine wp_region_rel 13 (by kernel_rfl) (by kernel_rfl) ?_
      simp only [List.take_succ_cons, List.take_zero, List.drop_succ_cons, List.drop_zero]
      (refine rel_fix0 (fun K hK => ?_); go_simp; refine hK _ ?_; clear hK K)
      (refine rel_fix0 (fun K hK => ?_); go_simp; refine hK _ ?_; clear hK K)
      refine rel_fact [] (fun v w => OwnK (WR.heap.size) 9 1 encT w v n.ins) 26 rfl (by simp [Act.put]) (ownk_sta _ _ _ _ _) (by rfl) (by kernel_rfl) (by kernel_rfl) ?_ ?_
      · intro d os
        simp only [relAll]
        go_simp
        exact ret_fact (C0.out _ (HBW.out _ _))
      (refine rel_fix (by kernel_rfl) (by kernel_rfl) (fun K hK => ?_); go_simp; refine hK _ ?_; clear hK K)
      (refine rel_fix (by kernel_rfl) (by kernel_rfl) (fun K hK => ?_); go_simp; refine hK _ ?_; clear hK K)
      refine rel_fact [] (fun v w => OwnK (WR.heap.size) 9 1 encT w v n.outN) 29 rfl (by simp [Act.put]) (ownk_sta _ _ _ _ _) (by rfl) (by kernel_rfl) (by kernel_rfl) ?_ ?_
      · intro d os
        simp only [relAll]
        go_simp
        exact ret_fact (C1.out _ (HBW.out _ _))
      (refine rel_fix (by kernel_rfl) (by kernel_rfl) (fun K hK => ?_); go_simp; refine hK _ ?_; clear hK K)
      (refine rel_fix (by kernel_rfl) (by kernel_rfl) (fun K hK => ?_); go_simp; refine hK _ ?_; clear hK K)
      refine rel_fact [] (fun v w => OwnK (WR.heap.size) 84 5 encFl w v n.flops) 32 rfl (by simp [Act.put]) (ownk_sta _ _ _ _ _) (by rfl) (by kernel_rfl) (by kernel_rfl) ?_ ?_
      · intro d os
        simp only [relAll]
        go_simp
        exact ret_fact (C2.out _ (HBW.out _ _))
      (refine rel_fix (by kernel_rfl) (by kernel_rfl) (fun K hK => ?_); go_simp; refine hK _ ?_; clear hK K)
      (refine rel_fix (by kernel_rfl) (by kernel_rfl) (fun K hK => ?_); go_simp; refine hK _ ?_; clear hK K)
      (refine rel_fix (by kernel_rfl) (by kernel_rfl) (fun K hK => ?_); go_simp; refine hK _ ?_; clear hK K)
      refine rel_fact [] (fun v w => OwnK (WR.heap.size) 3 1 encI w v n.outs) 36 rfl (by simp [Act.put]) (ownk_sta _ _ _ _ _) (by rfl) (by kernel_rfl) (by kernel_rfl) ?_ ?_
      · intro d os
        simp only [relAll]
        go_simp
        exact ret_fact (C3.out _ (HBW.out _ _))
      refine rel_nil ?_
      intro d os
      simp only [relAll]
      rintro v36 o36 v32 o32 v29 o29 v26 o26
      clear g0 g1 g2 g3 g4 C0 C1 C2 C3
      have hb := HBW.out d os
      have Y := Arr.below HY5.out hb
      have B2 := HHB.out.trans (hb.mono hkW5)
      have hs2 := hb.size
      have OG := HOO.out.below hb
      have HGA := Lib.hid (fun i (hi : i < n.gates.length) => (HCL.out.done i hi).1.below hb)
      clear hb HBW
      generalize grow (redrawn WR d) os = W2 at Y B2 hs2 o36 o32 o29 o26 OG HGA ⊢
      obtain ⟨ad26, cp26, hv26⟩ := OwnK.slice o26
      obtain ⟨ad29, cp29, hv29⟩ := OwnK.slice o29
      obtain ⟨ad32, cp32, hv32⟩ := OwnK.slice o32
      obtain ⟨ad36, cp36, hv36⟩ := OwnK.slice o36
      subst hv26 hv29 hv32 hv36
      have q0 := Arr.free Y 0
      have q1 := Arr.free Y 1
      have q2 := Arr.free Y 2
      have q3 := Arr.free Y 3
      have q4 := Arr.free Y 4
      have lk := Arr.lt Y
      obtain ⟨y0, y1, y2, y3, y4⟩ := id (BG.gx Y)
      have hkb : k + 1 < WR.heap.size := HSZ5.out
      have hkb0 : k + 1 < W0.heap.size := HSZ.out
      have HP0 := Lib.hid (o26.put5 (k + 1) (.slice ad26 n.ins.length cp26) (.slice ad29 n.outN.length cp29) (.slice ad32 n.flops.length cp32) (.slice adg n.gates.length cpg) (.slice ad36 n.outs.length cp36) hkb)
      have HP1 := Lib.hid (o29.put5 (k + 1) (.slice ad26 n.ins.length cp26) (.slice ad29 n.outN.length cp29) (.slice ad32 n.flops.length cp32) (.slice adg n.gates.length cpg) (.slice ad36 n.outs.length cp36) hkb)
      have HP2 := Lib.hid (o32.put5 (k + 1) (.slice ad26 n.ins.length cp26) (.slice ad29 n.outN.length cp29) (.slice ad32 n.flops.length cp32) (.slice adg n.gates.length cpg) (.slice ad36 n.outs.length cp36) hkb)
      have HP3 := Lib.hid (OG.put5 (k + 1) (.slice ad26 n.ins.length cp26) (.slice ad29 n.outN.length cp29) (.slice ad32 n.flops.length cp32) (.slice adg n.gates.length cpg) (.slice ad36 n.outs.length cp36) hkb0)
      have HP4 := Lib.hid (o36.put5 (k + 1) (.slice ad26 n.ins.length cp26) (.slice ad29 n.outN.length cp29) (.slice ad32 n.flops.length cp32) (.slice adg n.gates.length cpg) (.slice ad36 n.outs.length cp36) hkb)
      have HGP := Lib.hid (fun i (hi : i < n.gates.length) => (HGA.out i hi).put5 (k + 1) (.slice ad26 n.ins.length cp26) (.slice ad29 n.outN.length cp29) (.slice ad32 n.flops.length cp32) (.slice adg n.gates.length cpg) (.slice ad36 n.outs.length cp36) (fun a ha => by have := ((HCL.out.done i hi).2 a ha).1; omega))
      have HBP := Lib.hid (b5_mono B2 (Nat.le_succ k) (.slice ad26 n.ins.length cp26) (.slice ad29 n.outN.length cp29) (.slice ad32 n.flops.length cp32) (.slice adg n.gates.length cpg) (.slice ad36 n.outs.length cp36))
      have HYP := Lib.hid (BG.gx (BG.all Y (.slice ad26 n.ins.length cp26) (.slice ad29 n.outN.length cp29) (.slice ad32 n.flops.length cp32) (.slice adg n.gates.length cpg) (.slice ad36 n.outs.length cp36)))
      clear o26 o29 o32 o36 OG B2 Y hs2 HGA
      go_wp2_with fail
      have hg := HYP.out
      have hll : L.length = n.gates.length := HCL.out.len
      have NOF : NO ⟨n.ins, n.outN, n.flops, L, n.outs⟩ (.agg #[.slice ad26 n.ins.length cp26, .slice ad29 n.outN.length cp29, .slice ad32 n.flops.length cp32, .slice adg n.gates.length cpg, .slice ad36 n.outs.length cp36]) (put5 W2 (k + 1) (.slice ad26 n.ins.length cp26) (.slice ad29 n.outN.length cp29) (.slice ad32 n.flops.length cp32) (.slice adg n.gates.length cpg) (.slice ad36 n.outs.length cp36)) := by
        obtain ⟨_, _, e0, c0, m0, r0⟩ := HP0.out.rowCN lenNT
        obtain ⟨_, _, e1, c1, m1, r1⟩ := HP1.out.rowCN lenNT
        obtain ⟨_, _, e2, c2, m2, r2⟩ := HP2.out.rowCN lenNF
        obtain ⟨_, _, e3, c3, m3, r3⟩ := HP3.out.rowCN lenNG
        obtain ⟨_, _, e4, c4, m4, r4⟩ := HP4.out.rowCN lenNJ
        cases e0
        cases e1
        cases e2
        cases e4
        injection e3 with f1 f2 f3
        subst f1 f3
        refine ⟨⟨_, _, _, _, _, _, _, _, _, _, by rw [← hll], ⟨c0, c1, c2, c3, c4, m0, m1, m2, m3, m4⟩, ⟨r0, r1, r2, r3, r4, fun j hj => HGP.out j (by rw [← hll]; exact hj)⟩⟩⟩
      have BF : Below w.heap.size w (put5 W2 (k + 1) (.slice ad26 n.ins.length cp26) (.slice ad29 n.outN.length cp29) (.slice ad32 n.flops.length cp32) (.slice adg n.gates.length cpg) (.slice ad36 n.outs.length cp36)) := by rw [HK.out]; exact HBP.out
      unfold put5 at hg NOF BF
      generalize ((((W2.setCell ⟨k + 1, 0, none⟩ (.slice ad26 n.ins.length cp26)).setCell ⟨k + 1, 1, none⟩ (.slice ad29 n.outN.length cp29)).setCell ⟨k + 1, 2, none⟩ (.slice ad32 n.flops.length cp32)).setCell ⟨k + 1, 3, none⟩ (.slice adg n.gates.length cpg)).setCell ⟨k + 1, 4, none⟩ (.slice ad36 n.outs.length cp36) = WF at hg NOF BF ⊢
      obtain ⟨z0, z1, z2, z3, z4⟩ := hg
      clear y0 y1 y2 y3 y4 q0 q1 q2 q3 q4 HP0 HP1 HP2 HP3 HP4 HYP HBP
      exact bodyPost_ret (v := .agg #[.slice ad26 n.ins.length cp26, .slice ad29 n.outN.length cp29, .slice ad32 n.flops.length cp32, .slice adg n.gates.length cpg, .slice ad36 n.outs.length cp36]) (by simp [results, Try.results22, go_sem, z0, z1, z2, z3, z4]) rfl ⟨_, _, rfl, NOF, ⟨rfl, rfl, rfl, HCL.out.same, rfl⟩, BF⟩
end Go.Proofs.Ytimojbjamfckmaa
