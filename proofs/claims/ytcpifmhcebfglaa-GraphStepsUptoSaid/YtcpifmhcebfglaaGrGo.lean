/- The roots and the initial state of a graph, the names of inputs and registers: the reference. -/
import Derived.Test.YtcpifmhcebfglaaGrNf
import Derived.Laws.AppendOwnNone
namespace Go.Proofs.Ytcpifmhcebfglaa
open Go Go.RowKit
set_option linter.unusedVariables false
/-- an owned row -/
def Own (B : Nat) (t : TypeId) {α : Type} (f : α → Value) (w : World) (v : Value) (l : List α) : Prop := w.ownsRow B t 1 v l.length (l.map f)
theorem Own.below {B : Nat} {t : TypeId} {α : Type} {f : α → Value} {w w' : World} {v : Value} {l : List α} (h : Own B t f w v l) (hb : Below w.heap.size w w') : Own B t f w' v l :=
  World.ownsRow.kept (row := none) h ⟨hb.os, hb.tape, hb.output, hb.size, fun k hk _ => hb.block k hk⟩ (by cases v.ownBlock <;> simp)
theorem Own.slice {B : Nat} {t : TypeId} {α : Type} {f : α → Value} {w : World} {v : Value} {l : List α} (h : Own B t f w v l) : ∃ ad cp, v = .slice ad l.length cp := by
  rcases h.2 with ⟨h1, h0⟩ | ⟨g, cap, cur, hv, _⟩
  · exact ⟨none, 0, by rw [h1, h0]⟩
  · exact ⟨_, _, hv⟩
theorem Own.row {B : Nat} {t : TypeId} {α : Type} [Inhabited α] {f : α → Value} {w : World} {v : Value} {l : List α} (h : Own B t f w v l) : RowOf 1 (fun x => [f x]) l v w := by
  have hh := h
  rcases h.2 with ⟨h1, h0⟩ | ⟨g, cap, cur, hv, hb, hg, hc, _⟩
  · exact ⟨none, 0, by rw [h1, h0], by omega, .inl h0⟩
  · subst hv
    refine ⟨_, cap, rfl, hc, .inr ⟨g, 0, rfl, fun j hj c x hx => ?_⟩⟩
    have := World.ownsRow.cellAt hh j (by omega)
    match c, hx with
    | 0, hx =>
      simp only [List.getElem?_cons_zero, Option.some.injEq] at hx
      subst hx
      simp only [Nat.mul_one, Nat.add_zero, Nat.zero_add]
      rw [this, List.getElem?_map, List.getElem?_eq_getElem hj, getElem!_pos l j hj]; rfl
    | c + 1, hx => simp at hx
theorem infoI : (Try.prog.info? 67).map (fun i => (i.zero, i.size, i.bytes)) = some (some (.int .i64 0), 1, 8) := by kernel_rfl
theorem infoI_parts : ∃ i, Try.prog.info? 67 = some i ∧ i.zero = some (.int .i64 0) ∧ i.size = 1 ∧ i.bytes = 8 := by
  have h := infoI
  cases hi : Try.prog.info? 67 with
  | none => rw [hi] at h; cases h
  | some i =>
    rw [hi] at h
    simp only [Option.map_some, Option.some.injEq, Prod.mk.injEq] at h
    exact ⟨i, rfl, h.1, h.2.1, h.2.2⟩
theorem infoB : (Try.prog.info? 4).map (fun i => (i.zero, i.size, i.bytes)) = some (some (.bool false), 1, 1) := by kernel_rfl
theorem infoB_parts : ∃ i, Try.prog.info? 4 = some i ∧ i.zero = some (.bool false) ∧ i.size = 1 ∧ i.bytes = 1 := by
  have h := infoB
  cases hi : Try.prog.info? 4 with
  | none => rw [hi] at h; cases h
  | some i =>
    rw [hi] at h
    simp only [Option.map_some, Option.some.injEq, Prod.mk.injEq] at h
    exact ⟨i, rfl, h.1, h.2.1, h.2.2⟩
theorem infoT : (Try.prog.info? 9).map (fun i => (i.zero, i.size, i.bytes)) = some (some (.string ⟨#[]⟩), 1, 16) := by kernel_rfl
theorem infoT_parts : ∃ i, Try.prog.info? 9 = some i ∧ i.zero = some (.string ⟨#[]⟩) ∧ i.size = 1 ∧ i.bytes = 16 := by
  have h := infoT
  cases hi : Try.prog.info? 9 with
  | none => rw [hi] at h; cases h
  | some i =>
    rw [hi] at h
    simp only [Option.map_some, Option.some.injEq, Prod.mk.injEq] at h
    exact ⟨i, rfl, h.1, h.2.1, h.2.2⟩
def goalsL (g : Gr) : List Int := g.outs ++ g.regs.map (·.nx)
set_option maxRecDepth 100000 in
set_option maxHeartbeats 1600000 in
theorem goals_any (g : Gr) (v : Value) (hn0 : g.ins.length ≤ 4000000000) (hn1 : g.outs.length ≤ 4000000000) (hn2 : g.regs.length ≤ 4000000000) (w : World) (hG : GO g v w) : Calls Try.prog 139 #[v] w fun e w' => ∃ v, e = .returned v ∧ Own (w.heap.size + 1) 67 (fun n => Value.int .i64 n) w' v (goalsL g) ∧ Below w.heap.size w w' := by
  obtain ⟨i0, hi, hz0, hz1, hz2⟩ := infoI_parts
  obtain ⟨a, b, c, d, e, a', b', c', d', e', rfl, hC, hA⟩ := hG.all
  go_enter Try.func139, Try.ntmps139
  go_upto_region 2 with fail
  have bel := (Below.refl w.heap.size w).alloc (Nat.le_refl _) (.cells #[.slice a g.ins.length a', .slice b g.outN.length b', .slice c g.regs.length c', .slice d g.ands.length d', .slice e g.outs.length e'] 31)
  have X := GX.new w (.slice a g.ins.length a') (.slice b g.outN.length b') (.slice c g.regs.length c') (.slice d g.ands.length d') (.slice e g.outs.length e') 31
  have hR := hA.regs.below bel
  have hsz : w.heap.size + 1 ≤ (w.alloc (.cells #[.slice a g.ins.length a', .slice b g.outN.length b', .slice c g.regs.length c', .slice d g.ands.length d', .slice e g.outs.length e'] 31)).heap.size := by simp
  have hO := hA.outs.below bel
  generalize w.alloc (.cells #[.slice a g.ins.length a', .slice b g.outN.length b', .slice c g.regs.length c', .slice d g.ands.length d', .slice e g.outs.length e'] 31) = W0 at bel X hR hsz hO ⊢
  generalize hk : w.heap.size = k at X ⊢
  have HK := Lib.hid hk
  clear hk
  have hkk : k < w.heap.size + 1 := by have := HK.out; omega
  have hkw := X.lt
  obtain ⟨x0, x1, x2, x3, x4⟩ := id X
  go_cut [3] (fun s3 wx => Own (w.heap.size + 1) 67 (fun n => Value.int .i64 n) wx s3 g.outs ∧ Below (w.heap.size + 1) W0 wx)
  case first =>
    cases e with
    | none =>
      have h0 : Hid (g.outs.length = 0) := Lib.hid (by have := hC.outs; have := hC.outsN rfl; omega)
      have h1 := hC.outsN rfl
      subst h1
      have h2 : Hid (g.outs = []) := Lib.hid (List.eq_nil_of_length_eq_zero h0.out)
      have hown0 := World.ownsRow_nil W0 (w.heap.size + 1) 67 1
      go_wp2_with (at_builtin; refine wpList_append_own_none rfl _ _ 29 rfl (w.heap.size + 1) 67 i0 1 Try.underlying29 hi _ _ _ rfl (hown0) (show Value.slice none g.outs.length 0 = Value.slice none 0 0 by rw [h0.out]) ?_)
      all_goals go_wp2_with fail
      go_meet
      exact ⟨by rw [h2.out]; exact hown0, Below.refl _ _⟩
    | some e =>
      have hne := hC.outs
      have hown0 := World.ownsRow_nil W0 (w.heap.size + 1) 67 1
      go_wp2_with (at_builtin; refine wpList_append_own _ rfl _ _ 29 rfl (w.heap.size + 1) 67 i0 (.int .i64 0) 1 8 Try.underlying29 hi hz0 hz1 hz2 rfl (by decide) _ _ _ rfl (hown0) e g.outs.length e' (g.outs.map (fun n => Value.int .i64 n)) rfl (by simp) ?d1 ?d2 ?d3 ?d4 ?d5 ?_)
      case d1 =>
        rcases hO with h0 | ⟨bb, oo, he, hcell⟩
        · intro j u hj
          rw [List.eq_nil_of_length_eq_zero h0] at hj
          simp at hj
        · cases he
          intro j u hj
          rw [List.getElem?_map] at hj
          cases hq : g.outs[j]? with
          | none => rw [hq] at hj; cases hj
          | some q =>
            rw [hq] at hj
            cases hj
            obtain ⟨hlt, rfl⟩ := List.getElem?_eq_some_iff.1 hq
            have := hcell j hlt 0 _ rfl
            rw [getElem!_pos g.outs j hlt] at this
            rw [show (⟨bb, oo, none⟩ : Addr).add j = ⟨bb, oo + j, none⟩ from Addr.add_lit _ _ _]
            have hbb := World.block_lt_of_cell? W0 _ this
            first | (simpa using this) | (go_simp; simpa using this)
      case d2 => intro u hu; obtain ⟨n, _, rfl⟩ := List.mem_map.1 hu; rfl
      case d3 => unfold maxLen; omega
      case d4 => omega
      case d5 => first | omega | (simp; omega)
      intro v5 w5 hown5 hgr5 _
      have hown6 : Own (w.heap.size + 1) 67 (fun n => Value.int .i64 n) w5 v5 g.outs := by
        unfold Own
        simpa using hown5
      have hb5 : Below (w.heap.size + 1) W0 w5 := (Below.refl _ W0).grown hgr5 hsz (fun q hq => by cases hq)
      clear hown5 hgr5
      go_wp2_with fail
      go_meet
      exact ⟨hown6, hb5⟩
  case rest =>
    obtain ⟨own1, b1⟩ := hcut
    replace X := X.mono b1 hkk
    replace bel := bel.trans (b1.mono (by omega))
    replace hsz := Nat.le_trans hsz b1.size
    replace hR := hA.regs.below bel
    clear x0 x1 x2 x3 x4 b1 hO hkw
    obtain ⟨x0, x1, x2, x3, x4⟩ := id X
    go_upto_block 0 with fail
    clear x0 x1 x2 x3 x4
    go_wp2_with fail
    go_loopw [3, 13] (fun u i wr => ∃ j : Nat, j ≤ g.regs.length ∧ i = .int .i64 (j : Int) ∧ Hid (Own (w.heap.size + 1) 67 (fun n => Value.int .i64 n) wr u (g.outs ++ (g.regs.take j).map (·.nx))) ∧ Hid (Below w.heap.size w wr) ∧ w.heap.size + 1 ≤ wr.heap.size) (fun _ i _ => g.regs.length - (intOf i).toNat)
    case atStart => exact ⟨0, Nat.zero_le _, rfl, Lib.hid (by simpa using own1), Lib.hid bel, hsz⟩
    case round =>
      obtain ⟨j, hj, rfl, hO, hB, hS⟩ := hrel
      rename World => WR
      have hj0 : (0 : Int) ≤ (j : Int) := by omega
      by_cases hlt : j < g.regs.length
      · have hji : (j : Int) < (g.regs.length : Int) := by omega
        have HN : Hid (g.outs ++ (g.regs.take (j + 1)).map (·.nx) = (g.outs ++ (g.regs.take j).map (·.nx)) ++ [g.regs[j]!.nx]) := Lib.hid (by rw [tk1 _ hlt, List.map_append, List.append_assoc]; rfl)
        have HL : (g.outs ++ (g.regs.take j).map (·.nx)).length ≤ 9000000000 := by simp; omega
        obtain ⟨bb, oo, rfl, hcell⟩ := (hA.regs.below hB.out).pick (by omega)
        have c0 := hcell j hlt 0 _ rfl
        have c1 := hcell j hlt 1 _ rfl
        have c2 := hcell j hlt 2 _ rfl
        simp only [Nat.add_zero] at c0
        generalize g.outs ++ (g.regs.take j).map (·.nx) = L at HN HL hO
        generalize g.regs[j]! = r at c0 c1 c2 HN
        clear hcell
        have hbl := World.block_lt_of_cell? WR _ c0
        go_upto_region 6 with fail
        have p1 : (WR.alloc (Obj.cells #[Value.string r.nm, Value.int IntKind.i64 r.nx, Value.bool r.it] 128)).cell? ⟨WR.heap.size, 1, none⟩ = some (.int .i64 r.nx) := by go_simp
        have O2 := hO.out.below ((Below.refl _ WR).alloc (Nat.le_refl _) (Obj.cells #[Value.string r.nm, Value.int IntKind.i64 r.nx, Value.bool r.it] 128))
        have b2 := hB.out.alloc hB.out.size (Obj.cells #[Value.string r.nm, Value.int IntKind.i64 r.nx, Value.bool r.it] 128)
        have s2 : w.heap.size + 1 ≤ (WR.alloc (Obj.cells #[Value.string r.nm, Value.int IntKind.i64 r.nx, Value.bool r.it] 128)).heap.size := by simp; omega
        generalize WR.alloc (Obj.cells #[Value.string r.nm, Value.int IntKind.i64 r.nx, Value.bool r.it] 128) = W3 at p1 O2 b2 s2 ⊢
        generalize WR.heap.size = q at p1 ⊢
        generalize r.nx = x at p1 HN ⊢
        clear c0 c1 c2 hO hB hS hbl
        obtain ⟨ad, cpv, rfl⟩ := O2.slice
        have O3 := O2.below ((Below.refl _ W3).alloc (Nat.le_refl _) (Obj.cells #[.int .i64 x] 67))
        clear O2
        go_wp2_with (at_builtin; refine wpList_append_own _ rfl _ _ 29 rfl (w.heap.size + 1) 67 i0 (.int .i64 0) 1 8 Try.underlying29 hi hz0 hz1 hz2 rfl (by decide) _ _ _ rfl (show (W3.alloc (Obj.cells #[.int .i64 x] 67)).ownsRow (w.heap.size + 1) 67 1 _ L.length (L.map (fun n => Value.int .i64 n)) from O3) ⟨W3.heap.size, 0, none⟩ 1 1 [.int .i64 x] rfl rfl ?e1 ?e2 ?e3 ?e4 ?e5 ?_)
        try case e1 =>
          intro q u hq
          match q, hq with
          | 0, hq => simp at hq; subst hq; simp [Addr.add]
        case e2 => first | (intro u hu; simp at hu; subst hu; rfl) | rfl
        case e3 => unfold maxLen; omega
        case e4 => omega
        case e5 => simp; omega
        intro v5 w5 hown5 hgr5 _
        have hown6 : Own (w.heap.size + 1) 67 (fun n => Value.int .i64 n) w5 v5 (L ++ [x]) := by
          unfold Own
          simpa using hown5
        have hb5 : Below (w.heap.size + 1) W3 w5 := ((Below.refl _ W3).alloc s2 _).grown hgr5 (by simp; omega) (fun q hq => (World.ownsRow.lt O3 q hq).1)
        have b5 := b2.trans (hb5.mono (by omega))
        have s5 := Nat.le_trans s2 hb5.size
        rw [← HN.out] at hown6
        clear hown5 hgr5 O3 hb5 b2
        have HO6 := Lib.hid hown6
        have HB6 := Lib.hid b5
        clear hown6 b5
        go_wp2_with fail
        go_roundw
        case rel => exact ⟨j + 1, by omega, by go_num, HO6, HB6, s5⟩
        case measure => first | done | (simp [intOf]; done) | (simp [intOf]; omega)
      · have hji : ¬ (j : Int) < (g.regs.length : Int) := by omega
        have HF : Hid (Own (w.heap.size + 1) 67 (fun n => Value.int .i64 n) WR _ (goalsL g)) := Lib.hid (by
          have := hO.out
          rw [List.take_of_length_le (by omega)] at this
          exact this)
        go_wp2_with fail
        go_ret
        exact ⟨_, rfl, HF.out, hB.out⟩
def beginL (g : Gr) : List Bool := g.regs.map (·.it)
set_option maxRecDepth 100000 in
set_option maxHeartbeats 1600000 in
theorem begin_any (g : Gr) (v : Value) (hn0 : g.ins.length ≤ 4000000000) (hn1 : g.outs.length ≤ 4000000000) (hn2 : g.regs.length ≤ 4000000000) (w : World) (hG : GO g v w) : Calls Try.prog 136 #[v] w fun e w' => ∃ v, e = .returned v ∧ Own (w.heap.size + 1) 4 (fun n => Value.bool n) w' v (beginL g) ∧ Below w.heap.size w w' := by
  obtain ⟨i0, hi, hz0, hz1, hz2⟩ := infoB_parts
  obtain ⟨a, b, c, d, e, a', b', c', d', e', rfl, hC, hA⟩ := hG.all
  go_enter Try.func136, Try.ntmps136
  go_upto_region 2 with fail
  have bel := (Below.refl w.heap.size w).alloc (Nat.le_refl _) (.cells #[.slice a g.ins.length a', .slice b g.outN.length b', .slice c g.regs.length c', .slice d g.ands.length d', .slice e g.outs.length e'] 31)
  have X := GX.new w (.slice a g.ins.length a') (.slice b g.outN.length b') (.slice c g.regs.length c') (.slice d g.ands.length d') (.slice e g.outs.length e') 31
  have hR := hA.regs.below bel
  have hsz : w.heap.size + 1 ≤ (w.alloc (.cells #[.slice a g.ins.length a', .slice b g.outN.length b', .slice c g.regs.length c', .slice d g.ands.length d', .slice e g.outs.length e'] 31)).heap.size := by simp
  generalize w.alloc (.cells #[.slice a g.ins.length a', .slice b g.outN.length b', .slice c g.regs.length c', .slice d g.ands.length d', .slice e g.outs.length e'] 31) = W0 at bel X hR hsz ⊢
  generalize hk : w.heap.size = k at X ⊢
  have HK := Lib.hid hk
  clear hk
  have hkk : k < w.heap.size + 1 := by have := HK.out; omega
  have hkw := X.lt
  obtain ⟨x0, x1, x2, x3, x4⟩ := id X
  have own1 : Own (w.heap.size + 1) 4 (fun n => Value.bool n) W0 (.slice none 0 0) [] := World.ownsRow_nil _ _ _ _
  go_upto_block 0 with fail
  clear x0 x1 x2 x3 x4
  go_wp2_with fail
  go_loopw [3, 9] (fun u i wr => ∃ j : Nat, j ≤ g.regs.length ∧ i = .int .i64 (j : Int) ∧ Hid (Own (w.heap.size + 1) 4 (fun n => Value.bool n) wr u ((g.regs.take j).map (·.it))) ∧ Hid (Below w.heap.size w wr) ∧ w.heap.size + 1 ≤ wr.heap.size) (fun _ i _ => g.regs.length - (intOf i).toNat)
  case atStart => exact ⟨0, Nat.zero_le _, rfl, Lib.hid (by simpa using own1), Lib.hid bel, hsz⟩
  case round =>
    obtain ⟨j, hj, rfl, hO, hB, hS⟩ := hrel
    rename World => WR
    have hj0 : (0 : Int) ≤ (j : Int) := by omega
    by_cases hlt : j < g.regs.length
    · have hji : (j : Int) < (g.regs.length : Int) := by omega
      have HN : Hid ((g.regs.take (j + 1)).map (·.it) = ((g.regs.take j).map (·.it)) ++ [g.regs[j]!.it]) := Lib.hid (by rw [tk1 _ hlt, List.map_append]; rfl)
      have HL : ((g.regs.take j).map (·.it)).length ≤ 9000000000 := by simp; omega
      obtain ⟨bb, oo, rfl, hcell⟩ := (hA.regs.below hB.out).pick (by omega)
      have c0 := hcell j hlt 0 _ rfl
      have c1 := hcell j hlt 1 _ rfl
      have c2 := hcell j hlt 2 _ rfl
      simp only [Nat.add_zero] at c0
      generalize (g.regs.take j).map (·.it) = L at HN HL hO
      generalize g.regs[j]! = r at c0 c1 c2 HN
      clear hcell
      have hbl := World.block_lt_of_cell? WR _ c0
      go_upto_region 5 with fail
      have p1 : (WR.alloc (Obj.cells #[Value.string r.nm, Value.int IntKind.i64 r.nx, Value.bool r.it] 128)).cell? ⟨WR.heap.size, 2, none⟩ = some (.bool r.it) := by go_simp
      have O2 := hO.out.below ((Below.refl _ WR).alloc (Nat.le_refl _) (Obj.cells #[Value.string r.nm, Value.int IntKind.i64 r.nx, Value.bool r.it] 128))
      have b2 := hB.out.alloc hB.out.size (Obj.cells #[Value.string r.nm, Value.int IntKind.i64 r.nx, Value.bool r.it] 128)
      have s2 : w.heap.size + 1 ≤ (WR.alloc (Obj.cells #[Value.string r.nm, Value.int IntKind.i64 r.nx, Value.bool r.it] 128)).heap.size := by simp; omega
      generalize WR.alloc (Obj.cells #[Value.string r.nm, Value.int IntKind.i64 r.nx, Value.bool r.it] 128) = W3 at p1 O2 b2 s2 ⊢
      generalize WR.heap.size = q at p1 ⊢
      generalize r.it = x at p1 HN ⊢
      clear c0 c1 c2 hO hB hS hbl
      obtain ⟨ad, cpv, rfl⟩ := O2.slice
      have O3 := O2.below ((Below.refl _ W3).alloc (Nat.le_refl _) (Obj.cells #[.bool x] 4))
      clear O2
      go_wp2_with (at_builtin; refine wpList_append_own _ rfl _ _ 40 rfl (w.heap.size + 1) 4 i0 (.bool false) 1 1 Try.underlying40 hi hz0 hz1 hz2 rfl (by decide) _ _ _ rfl (show (W3.alloc (Obj.cells #[.bool x] 4)).ownsRow (w.heap.size + 1) 4 1 _ L.length (L.map (fun n => Value.bool n)) from O3) ⟨W3.heap.size, 0, none⟩ 1 1 [.bool x] rfl rfl ?e1 ?e2 ?e3 ?e4 ?e5 ?_)
      try case e1 =>
        intro q u hq
        match q, hq with
        | 0, hq => simp at hq; subst hq; simp [Addr.add]
      case e2 => first | (intro u hu; simp at hu; subst hu; rfl) | rfl
      case e3 => unfold maxLen; omega
      case e4 => omega
      case e5 => simp; omega
      intro v5 w5 hown5 hgr5 _
      have hown6 : Own (w.heap.size + 1) 4 (fun n => Value.bool n) w5 v5 (L ++ [x]) := by
        unfold Own
        simpa using hown5
      have hb5 : Below (w.heap.size + 1) W3 w5 := ((Below.refl _ W3).alloc s2 _).grown hgr5 (by simp; omega) (fun q hq => (World.ownsRow.lt O3 q hq).1)
      have b5 := b2.trans (hb5.mono (by omega))
      have s5 := Nat.le_trans s2 hb5.size
      rw [← HN.out] at hown6
      clear hown5 hgr5 O3 hb5 b2
      have HO6 := Lib.hid hown6
      have HB6 := Lib.hid b5
      clear hown6 b5
      go_wp2_with fail
      go_roundw
      case rel => exact ⟨j + 1, by omega, by go_num, HO6, HB6, s5⟩
      case measure => first | done | (simp [intOf]; done) | (simp [intOf]; omega)
    · have hji : ¬ (j : Int) < (g.regs.length : Int) := by omega
      have HF : Hid (Own (w.heap.size + 1) 4 (fun n => Value.bool n) WR _ (beginL g)) := Lib.hid (by
        have := hO.out
        rw [List.take_of_length_le (by omega)] at this
        exact this)
      go_wp2_with fail
      go_ret
      exact ⟨_, rfl, HF.out, hB.out⟩
def regNamesL (g : Gr) : List ByteArray := g.ins ++ g.regs.map (·.nm)
set_option maxRecDepth 100000 in
set_option maxHeartbeats 1600000 in
theorem regNames_any (g : Gr) (v : Value) (hn0 : g.ins.length ≤ 4000000000) (hn1 : g.outs.length ≤ 4000000000) (hn2 : g.regs.length ≤ 4000000000) (w : World) (hG : GO g v w) : Calls Try.prog 132 #[v] w fun e w' => ∃ v, e = .returned v ∧ Own (w.heap.size + 1) 9 (fun n => Value.string n) w' v (regNamesL g) ∧ Below w.heap.size w w' := by
  obtain ⟨i0, hi, hz0, hz1, hz2⟩ := infoT_parts
  obtain ⟨a, b, c, d, e, a', b', c', d', e', rfl, hC, hA⟩ := hG.all
  go_enter Try.func132, Try.ntmps132
  go_upto_region 1 with fail
  have bel := (Below.refl w.heap.size w).alloc (Nat.le_refl _) (.cells #[.slice a g.ins.length a', .slice b g.outN.length b', .slice c g.regs.length c', .slice d g.ands.length d', .slice e g.outs.length e'] 31)
  have X := GX.new w (.slice a g.ins.length a') (.slice b g.outN.length b') (.slice c g.regs.length c') (.slice d g.ands.length d') (.slice e g.outs.length e') 31
  have hR := hA.regs.below bel
  have hsz : w.heap.size + 1 ≤ (w.alloc (.cells #[.slice a g.ins.length a', .slice b g.outN.length b', .slice c g.regs.length c', .slice d g.ands.length d', .slice e g.outs.length e'] 31)).heap.size := by simp
  have hO := hA.ins.below bel
  generalize w.alloc (.cells #[.slice a g.ins.length a', .slice b g.outN.length b', .slice c g.regs.length c', .slice d g.ands.length d', .slice e g.outs.length e'] 31) = W0 at bel X hR hsz hO ⊢
  generalize hk : w.heap.size = k at X ⊢
  have HK := Lib.hid hk
  clear hk
  have hkk : k < w.heap.size + 1 := by have := HK.out; omega
  have hkw := X.lt
  obtain ⟨x0, x1, x2, x3, x4⟩ := id X
  go_cut [3] (fun s3 wx => Own (w.heap.size + 1) 9 (fun n => Value.string n) wx s3 g.ins ∧ Below (w.heap.size + 1) W0 wx)
  case first =>
    cases a with
    | none =>
      have h0 : Hid (g.ins.length = 0) := Lib.hid (by have := hC.ins; have := hC.insN rfl; omega)
      have h1 := hC.insN rfl
      subst h1
      have h2 : Hid (g.ins = []) := Lib.hid (List.eq_nil_of_length_eq_zero h0.out)
      have hown0 := World.ownsRow_made (base := w.heap.size + 1) (size := 1) (e := 9) W0 #[] 0 hsz (by decide) rfl
      go_wp2_with (at_builtin; refine wpList_append_own_none rfl _ _ 26 rfl (w.heap.size + 1) 9 i0 1 Try.underlying26 hi _ _ _ rfl (hown0) (show Value.slice none g.ins.length 0 = Value.slice none 0 0 by rw [h0.out]) ?_)
      all_goals go_wp2_with fail
      go_meet
      exact ⟨by rw [h2.out]; exact hown0, (Below.refl _ W0).alloc hsz _⟩
    | some e =>
      have hne := hC.ins
      have hown0 := World.ownsRow_made (base := w.heap.size + 1) (size := 1) (e := 9) W0 #[] 0 hsz (by decide) rfl
      go_wp2_with (at_builtin; refine wpList_append_own _ rfl _ _ 26 rfl (w.heap.size + 1) 9 i0 (.string ⟨#[]⟩) 1 16 Try.underlying26 hi hz0 hz1 hz2 rfl (by decide) _ _ _ rfl (hown0) e g.ins.length a' (g.ins.map (fun n => Value.string n)) rfl (by simp) ?d1 ?d2 ?d3 ?d4 ?d5 ?_)
      case d1 =>
        rcases hO with h0 | ⟨bb, oo, he, hcell⟩
        · intro j u hj
          rw [List.eq_nil_of_length_eq_zero h0] at hj
          simp at hj
        · cases he
          intro j u hj
          rw [List.getElem?_map] at hj
          cases hq : g.ins[j]? with
          | none => rw [hq] at hj; cases hj
          | some q =>
            rw [hq] at hj
            cases hj
            obtain ⟨hlt, rfl⟩ := List.getElem?_eq_some_iff.1 hq
            have := hcell j hlt 0 _ rfl
            rw [getElem!_pos g.ins j hlt] at this
            rw [show (⟨bb, oo, none⟩ : Addr).add j = ⟨bb, oo + j, none⟩ from Addr.add_lit _ _ _]
            have hbb := World.block_lt_of_cell? W0 _ this
            first | (simpa using this) | (go_simp; simpa using this)
      case d2 => intro u hu; obtain ⟨n, _, rfl⟩ := List.mem_map.1 hu; rfl
      case d3 => unfold maxLen; omega
      case d4 => omega
      case d5 => first | omega | (simp; omega)
      intro v5 w5 hown5 hgr5 _
      have hown6 : Own (w.heap.size + 1) 9 (fun n => Value.string n) w5 v5 g.ins := by
        unfold Own
        simpa using hown5
      have hb5 : Below (w.heap.size + 1) W0 w5 := ((Below.refl _ W0).alloc hsz _).grown hgr5 (by simp; omega) (fun q hq => (World.ownsRow.lt hown0 q hq).1)
      clear hown5 hgr5
      go_wp2_with fail
      go_meet
      exact ⟨hown6, hb5⟩
  case rest =>
    obtain ⟨own1, b1⟩ := hcut
    replace X := X.mono b1 hkk
    replace bel := bel.trans (b1.mono (by omega))
    replace hsz := Nat.le_trans hsz b1.size
    replace hR := hA.regs.below bel
    clear x0 x1 x2 x3 x4 b1 hO hkw
    obtain ⟨x0, x1, x2, x3, x4⟩ := id X
    go_upto_block 0 with fail
    clear x0 x1 x2 x3 x4
    go_wp2_with fail
    go_loopw [3, 13] (fun u i wr => ∃ j : Nat, j ≤ g.regs.length ∧ i = .int .i64 (j : Int) ∧ Hid (Own (w.heap.size + 1) 9 (fun n => Value.string n) wr u (g.ins ++ (g.regs.take j).map (·.nm))) ∧ Hid (Below w.heap.size w wr) ∧ w.heap.size + 1 ≤ wr.heap.size) (fun _ i _ => g.regs.length - (intOf i).toNat)
    case atStart => exact ⟨0, Nat.zero_le _, rfl, Lib.hid (by simpa using own1), Lib.hid bel, hsz⟩
    case round =>
      obtain ⟨j, hj, rfl, hO, hB, hS⟩ := hrel
      rename World => WR
      have hj0 : (0 : Int) ≤ (j : Int) := by omega
      by_cases hlt : j < g.regs.length
      · have hji : (j : Int) < (g.regs.length : Int) := by omega
        have HN : Hid (g.ins ++ (g.regs.take (j + 1)).map (·.nm) = (g.ins ++ (g.regs.take j).map (·.nm)) ++ [g.regs[j]!.nm]) := Lib.hid (by rw [tk1 _ hlt, List.map_append, List.append_assoc]; rfl)
        have HL : (g.ins ++ (g.regs.take j).map (·.nm)).length ≤ 9000000000 := by simp; omega
        obtain ⟨bb, oo, rfl, hcell⟩ := (hA.regs.below hB.out).pick (by omega)
        have c0 := hcell j hlt 0 _ rfl
        have c1 := hcell j hlt 1 _ rfl
        have c2 := hcell j hlt 2 _ rfl
        simp only [Nat.add_zero] at c0
        generalize g.ins ++ (g.regs.take j).map (·.nm) = L at HN HL hO
        generalize g.regs[j]! = r at c0 c1 c2 HN
        clear hcell
        have hbl := World.block_lt_of_cell? WR _ c0
        go_upto_region 5 with fail
        have p1 : (WR.alloc (Obj.cells #[Value.string r.nm, Value.int IntKind.i64 r.nx, Value.bool r.it] 128)).cell? ⟨WR.heap.size, 0, none⟩ = some (.string r.nm) := by go_simp
        have O2 := hO.out.below ((Below.refl _ WR).alloc (Nat.le_refl _) (Obj.cells #[Value.string r.nm, Value.int IntKind.i64 r.nx, Value.bool r.it] 128))
        have b2 := hB.out.alloc hB.out.size (Obj.cells #[Value.string r.nm, Value.int IntKind.i64 r.nx, Value.bool r.it] 128)
        have s2 : w.heap.size + 1 ≤ (WR.alloc (Obj.cells #[Value.string r.nm, Value.int IntKind.i64 r.nx, Value.bool r.it] 128)).heap.size := by simp; omega
        generalize WR.alloc (Obj.cells #[Value.string r.nm, Value.int IntKind.i64 r.nx, Value.bool r.it] 128) = W3 at p1 O2 b2 s2 ⊢
        generalize WR.heap.size = q at p1 ⊢
        generalize r.nm = x at p1 HN ⊢
        clear c0 c1 c2 hO hB hS hbl
        obtain ⟨ad, cpv, rfl⟩ := O2.slice
        have O3 := O2.below ((Below.refl _ W3).alloc (Nat.le_refl _) (Obj.cells #[.string x] 9))
        clear O2
        go_wp2_with (at_builtin; refine wpList_append_own _ rfl _ _ 26 rfl (w.heap.size + 1) 9 i0 (.string ⟨#[]⟩) 1 16 Try.underlying26 hi hz0 hz1 hz2 rfl (by decide) _ _ _ rfl (show (W3.alloc (Obj.cells #[.string x] 9)).ownsRow (w.heap.size + 1) 9 1 _ L.length (L.map (fun n => Value.string n)) from O3) ⟨W3.heap.size, 0, none⟩ 1 1 [.string x] rfl rfl ?e1 ?e2 ?e3 ?e4 ?e5 ?_)
        try case e1 =>
          intro q u hq
          match q, hq with
          | 0, hq => simp at hq; subst hq; simp [Addr.add]
        case e2 => first | (intro u hu; simp at hu; subst hu; rfl) | rfl
        case e3 => unfold maxLen; omega
        case e4 => omega
        case e5 => simp; omega
        intro v5 w5 hown5 hgr5 _
        have hown6 : Own (w.heap.size + 1) 9 (fun n => Value.string n) w5 v5 (L ++ [x]) := by
          unfold Own
          simpa using hown5
        have hb5 : Below (w.heap.size + 1) W3 w5 := ((Below.refl _ W3).alloc s2 _).grown hgr5 (by simp; omega) (fun q hq => (World.ownsRow.lt O3 q hq).1)
        have b5 := b2.trans (hb5.mono (by omega))
        have s5 := Nat.le_trans s2 hb5.size
        rw [← HN.out] at hown6
        clear hown5 hgr5 O3 hb5 b2
        have HO6 := Lib.hid hown6
        have HB6 := Lib.hid b5
        clear hown6 b5
        go_wp2_with fail
        go_roundw
        case rel => exact ⟨j + 1, by omega, by go_num, HO6, HB6, s5⟩
        case measure => first | done | (simp [intOf]; done) | (simp [intOf]; omega)
      · have hji : ¬ (j : Int) < (g.regs.length : Int) := by omega
        have HF : Hid (Own (w.heap.size + 1) 9 (fun n => Value.string n) WR _ (regNamesL g)) := Lib.hid (by
          have := hO.out
          rw [List.take_of_length_le (by omega)] at this
          exact this)
        go_wp2_with fail
        go_ret
        exact ⟨_, rfl, HF.out, hB.out⟩
end Go.Proofs.Ytcpifmhcebfglaa
