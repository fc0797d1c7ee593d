/- What a graph shows in each cycle: the reference's Played. -/
import Derived.Test.YtcpifmhcebfglaaMgCo
import Derived.Test.YtcpifmhcebfglaaMgNs
namespace Go.Proofs.Ytcpifmhcebfglaa
open Go Go.RowKit Go.Sort
set_option linter.unusedVariables false
abbrev f3 (x : Option Addr × Nat × Nat) : Value := .slice x.1 x.2.1 x.2.2
theorem infoSb : (Try.prog.info? 40).map (fun i => (i.zero, i.size, i.bytes)) = some (some (.slice none 0 0), 1, 24) := by kernel_rfl
theorem infoSb_parts : ∃ i, Try.prog.info? 40 = some i ∧ i.zero = some (.slice none 0 0) ∧ i.size = 1 ∧ i.bytes = 24 := by
  have h := infoSb
  cases hi : Try.prog.info? 40 with
  | none => rw [hi] at h; cases h
  | some i =>
    rw [hi] at h
    simp only [Option.map_some, Option.some.injEq, Prod.mk.injEq] at h
    exact ⟨i, rfl, h.1, h.2.1, h.2.2⟩
def stL (g : Gr) (st : List Bool) (l : List (List Bool)) : List Bool := l.foldl (fun s i => nexts g i s) st
def playL (g : Gr) : List Bool → List (List Bool) → List (List Bool)
  | _, [] => []
  | st, i :: l => shows g i st :: playL g (nexts g i st) l
theorem stL_snoc (g : Gr) (st : List Bool) (l : List (List Bool)) (i : List Bool) : stL g st (l ++ [i]) = nexts g i (stL g st l) := by unfold stL; rw [List.foldl_append]; rfl
theorem playL_snoc (g : Gr) (i : List Bool) : ∀ (l : List (List Bool)) (st : List Bool), playL g st (l ++ [i]) = playL g st l ++ [shows g i (stL g st l)]
  | [], st => rfl
  | x :: l, st => by
    show shows g x st :: playL g (nexts g x st) (l ++ [i]) = _
    rw [playL_snoc g i l]; rfl
theorem playL_len (g : Gr) : ∀ (l : List (List Bool)) (st : List Bool), (playL g st l).length = l.length
  | [], _ => rfl
  | x :: l, st => congrArg (· + 1) (playL_len g l _)
theorem stL_len (g : Gr) (st : List Bool) (h : st.length = g.regs.length) : ∀ (l : List (List Bool)), (stL g st l).length = g.regs.length := fun l => by
  rcases List.eq_nil_or_concat l with rfl | ⟨l', i, rfl⟩
  · exact h
  · rw [List.concat_eq_append, stL_snoc]; unfold nexts; simp
/-- rows of two types do not meet -/
theorem Own.tags {B B2 : Nat} {t t2 : TypeId} {α β : Type} {f : α → Value} {f2 : β → Value} {w : World} {v v2 : Value} {l : List α} {l2 : List β} (h : Own B t f w v l) (h2 : Own B2 t2 f2 w v2 l2) (ht : t ≠ t2) : v.ownBlock = none ∨ v.ownBlock ≠ v2.ownBlock := by
  rcases h.2 with ⟨h1, _⟩ | ⟨g, cap, cur, hv, _, hg, _⟩
  · rw [h1]; exact .inl rfl
  · rcases h2.2 with ⟨h1', _⟩ | ⟨g2, cap2, cur2, hv2, _, hg2, _⟩
    · right; rw [hv, h1']; intro e; cases e
    · right; rw [hv, hv2]; intro e
      simp only [Value.ownBlock, Option.some.injEq] at e
      subst e
      rw [hg] at hg2
      injection hg2 with e
      injection e with _ e2 _
      exact ht e2
theorem Own.apart {B B2 : Nat} {t t2 : TypeId} {α β : Type} {f : α → Value} {f2 : β → Value} {w w' : World} {v v2 : Value} {l : List α} {l2 : List β} (h : Own B t f w v l) (h2 : Own B2 t2 f2 w v2 l2) (ht : t ≠ t2) (hg : w.grownBy w' v2.ownBlock) : Own B t f w' v l :=
  World.ownsRow.kept h hg (h.tags h2 ht)
theorem RowAt.mapped {α : Type} [Inhabited α] {f : α → Value} {l : List α} {ad : Option Addr} {w : World} (h : RowAt 1 (fun x => [f x]) l ad w) : RowAt 1 (fun v => [v]) (l.map f) ad w := by
  rcases h with h | ⟨b, o, h1, h2⟩
  · exact .inl (by simpa using h)
  · refine .inr ⟨b, o, h1, fun j hj c x hx => h2 j (by simpa using hj) c x ?_⟩
    have hj' : j < l.length := by simpa using hj
    rw [show (l.map f)[j]! = f l[j]! by rw [getElem!_pos _ j hj, List.getElem_map, getElem!_pos l j hj']] at hx
    exact hx
/-- the rows so far -/
def Rows (xs : List (Option Addr × Nat × Nat)) (l : List (List Bool)) (w : World) : Prop := ∀ k, k < l.length → ∃ B, Own B 4 (fun b => Value.bool b) w (f3 xs[k]!) l[k]!
theorem Rows.below {xs : List (Option Addr × Nat × Nat)} {l : List (List Bool)} {w w' : World} (h : Rows xs l w) (hb : Below w.heap.size w w') : Rows xs l w' := fun k hk => (h k hk).elim fun B o => ⟨B, o.below hb⟩
theorem Rows.apart {xs : List (Option Addr × Nat × Nat)} {l : List (List Bool)} {w w' : World} (h : Rows xs l w) {B2 : Nat} {t2 : TypeId} {β : Type} {f2 : β → Value} {v2 : Value} {l2 : List β} (h2 : Own B2 t2 f2 w v2 l2) (ht : 4 ≠ t2) (hg : w.grownBy w' v2.ownBlock) : Rows xs l w' := fun k hk => (h k hk).elim fun B o => ⟨B, o.apart h2 ht hg⟩
theorem Rows.snoc {xs : List (Option Addr × Nat × Nat)} {l : List (List Bool)} {w : World} (h : Rows xs l w) (hx : xs.length = l.length) {x : Option Addr × Nat × Nat} {r : List Bool} (hr : ∃ B, Own B 4 (fun b => Value.bool b) w (f3 x) r) : Rows (xs ++ [x]) (l ++ [r]) w := fun k hk => by
  by_cases hkl : k < l.length
  · rw [getElem!_pos _ k (by simp; omega), getElem!_pos (l ++ [r]) k hk, List.getElem_append_left hkl, List.getElem_append_left (by omega), ← getElem!_pos xs k (by omega), ← getElem!_pos l k hkl]
    exact h k hkl
  · have hk' : k = l.length := by simp at hk; omega
    rw [getElem!_pos _ k (by simp; omega), getElem!_pos (l ++ [r]) k hk, List.getElem_append_right (by omega), List.getElem_append_right (by omega)]
    simpa [hk', hx] using hr
theorem Rows.tr {xs : List (Option Addr × Nat × Nat)} {l : List (List Bool)} {w : World} (h : Rows xs l w) (hx : xs.length = l.length) {B : Nat} {v : Value} (ho : Own B 40 f3 w v xs) : TR l v w := by
  obtain ⟨ad, cap, hv, hc, hn, hr⟩ := ho.rowC
  rw [hx] at hv hc
  exact ⟨ad, cap, xs.map f3, hv, hc, hn, by simpa using hx, hr.mapped, fun j hj => by
    obtain ⟨B', o⟩ := h j hj
    rw [show (xs.map f3)[j]! = f3 xs[j]! by rw [getElem!_pos _ j (by simp; omega), List.getElem_map, getElem!_pos xs j (by omega)]]
    exact o.rowC⟩
set_option maxRecDepth 100000 in
set_option maxHeartbeats 16000000 in
theorem played_any (g : Gr) (v vt : Value) (l : List (List Bool)) (vg : VG g) (hon : g.outs.length ≤ 4000) (hln : l.length ≤ 64) (hll : ∀ r ∈ l, r.length = g.ins.length) (w : World) (hG : GO g v w) (hT : TR l vt w) : Calls Try.prog 60 #[v, vt] w fun e w' => ∃ vo, e = .returned vo ∧ TR (playL g (beginL g) l) vo w' ∧ Below w.heap.size w w' := by
  obtain ⟨a, b, c, d0, e, a', b', c', d', e', rfl, hC, hA⟩ := hG.all
  have n1 := vg.ins
  have n2 := vg.regs
  have n3 := vg.ands
  have hbl : (beginL g).length = g.regs.length := by unfold beginL; simp
  obtain ⟨ad1, c1, vs, rfl, k1, m1, hvl, r1, hrow⟩ := hT
  go_enter Try.func60, Try.ntmps60
  go_upto_region 1 with fail
  have bel := (Below.refl w.heap.size w).alloc (Nat.le_refl _) (.cells #[.slice a g.ins.length a', .slice b g.outN.length b', .slice c g.regs.length c', .slice d0 g.ands.length d', .slice e g.outs.length e'] 31)
  have X := GX.new w (.slice a g.ins.length a') (.slice b g.outN.length b') (.slice c g.regs.length c') (.slice d0 g.ands.length d') (.slice e g.outs.length e') 31
  have hG0 := hG.below bel
  generalize w.alloc (.cells #[.slice a g.ins.length a', .slice b g.outN.length b', .slice c g.regs.length c', .slice d0 g.ands.length d', .slice e g.outs.length e'] 31) = W0 at bel X hG0 ⊢
  generalize hk : w.heap.size = k at X ⊢
  have HK := Lib.hid hk
  clear hk
  have hkw := X.lt
  obtain ⟨x0, x1, x2, x3, x4⟩ := id X
  have HBG := Lib.hid (begin_any g _ (by omega) (by omega) (by omega) W0 hG0)
  clear hG0
  go_wp2_with fail
  refine HBG.out.mono ?_
  rintro en W1 ⟨v1, rfl, hO1, hb1⟩
  have HR1 := Lib.hid hO1.rowC
  clear hO1 HBG
  replace X := X.below hb1
  replace bel := bel.trans (hb1.mono bel.size)
  have hkW : k < W1.heap.size := X.lt
  have HG := Lib.hid hG
  clear hG x0 x1 x2 x3 x4 hb1
  obtain ⟨i0, hi0, hz0, hz1, hz2⟩ := infoSb_parts
  have hown0 : Own W1.heap.size 40 f3 W1 (.slice none 0 0) ([] : List (Option Addr × Nat × Nat)) := World.ownsRow_nil W1 W1.heap.size 40 1
  go_upto_block 0 with fail
  go_wp2_with fail
  go_loopw [5, 6, 15] (fun s u i wr => ∃ j : Nat, j ≤ l.length ∧ i = .int .i64 (j : Int) ∧ Hid (∃ xs, xs.length = j ∧ Own W1.heap.size 40 f3 wr u xs ∧ Rows xs (playL g (beginL g) (l.take j)) wr) ∧ Hid (RowC (fun b => Value.bool b) (stL g (beginL g) (l.take j)) s wr) ∧ Hid (Below W1.heap.size W1 wr)) (fun _ _ i _ => l.length - (intOf i).toNat)
  case atStart => exact ⟨0, Nat.zero_le _, rfl, Lib.hid ⟨[], rfl, hown0, fun k hk => by cases hk⟩, HR1, Lib.hid (Below.refl _ _)⟩
  case round =>
    clear hown0 HR1
    obtain ⟨j, hj, rfl, hO, hR, hB⟩ := hrel
    rename World => WR
    have hj0 : (0 : Int) ≤ (j : Int) := by omega
    obtain ⟨xs, hxl, hOx, hRw⟩ := hO.out
    by_cases hlt : j < l.length
    · have hji : (j : Int) < (l.length : Int) := by omega
      have HTP := Lib.hid (show playL g (beginL g) (l.take (j + 1)) = playL g (beginL g) (l.take j) ++ [shows g l[j]! (stL g (beginL g) (l.take j))] by rw [tk1 l hlt]; exact playL_snoc g _ _ _)
      have HTS := Lib.hid (show stL g (beginL g) (l.take (j + 1)) = nexts g l[j]! (stL g (beginL g) (l.take j)) by rw [tk1 l hlt]; exact stL_snoc g _ _ _)
      have hlj := hll l[j]! (by rw [getElem!_pos l j hlt]; exact List.getElem_mem hlt)
      have hsl := stL_len g (beginL g) hbl (l.take j)
      have HPL := Lib.hid (show (playL g (beginL g) (l.take j)).length = j by rw [playL_len, List.length_take]; omega)
      have belR := Lib.hid (bel.trans (hB.out.mono bel.size))
      have XR := X.mono hB.out hkW
      obtain ⟨x0, x1, x2, x3, x4⟩ := id XR
      have hrj := (hrow j hlt).below belR.out
      obtain ⟨bb, oo, rfl, hcell⟩ := (r1.below belR.out).pick (by omega)
      have c0 := hcell j (by omega) 0 _ rfl
      simp only [Nat.mul_one, Nat.add_zero] at c0
      obtain ⟨adj, cpj, hvj, _⟩ := id hrj
      rw [hvj] at c0
      have HC := Lib.hid (cycle_any g _ vs[j]! _ l[j]! (stL g (beginL g) (l.take j)) vg hlj hsl hon WR (HG.out.below belR.out) hrj hR.out)
      rw [hvj] at HC
      have hxl64 : xs.length ≤ 64 := by omega
      obtain ⟨adx, cpx, hux⟩ := hOx.slice
      subst hux
      obtain ⟨ads, cps, hus, _⟩ := id hR.out
      subst hus
      have HO0 := Lib.hid (And.intro hOx (And.intro hRw hxl))
      have hB' := hB.out.size
      clear hrj hcell hvj hlj hsl hR hOx hRw hxl hO X bel
      generalize stL g (beginL g) (l.take j) = sj at HTP HTS HC ⊢
      generalize playL g (beginL g) (l.take j) = pj at HTP HPL HO0
      generalize l[j]! = ij at HTP HTS HC c0
      go_wp2_with fail
      refine HC.out.mono ?_
      rintro en W3 ⟨vo, vn, rfl, ⟨B1, hOo⟩, ⟨B2, hOn⟩, hb3⟩
      obtain ⟨ado, cpo, hvo⟩ := hOo.slice
      subst hvo
      obtain ⟨adn, cpn, hvn⟩ := hOn.slice
      subst hvn
      obtain ⟨hOx, hRw, hxl⟩ := HO0.out
      have ba : Below W3.heap.size W3 (W3.alloc (.cells #[.slice ado (shows g ij sj).length cpo] 40)) := (Below.refl _ W3).alloc (Nat.le_refl _) _
      have O4 := (hOx.below hb3).below ba
      have R4 := Lib.hid ((hRw.below hb3).below ba)
      have Oo4 := Lib.hid (hOo.below ba)
      have On4 := Lib.hid (hOn.below ba)
      have h3 := Nat.le_trans hB' hb3.size
      have B4 := Lib.hid (hB.out.trans ((hb3.mono hB').trans (ba.mono h3)))
      have hxl2 := Lib.hid hxl
      clear x0 x1 x2 x3 x4 XR c0 hOx hRw hOo hOn hxl HO0 hB HC
      go_wp2_with (at_builtin; refine wpList_append_row2 (f := f3) (fun _ => rfl) rfl _ _ 33 rfl W1.heap.size 40 i0 (.slice none 0 0) 24 Try.underlying33 hi0 hz0 hz1 hz2 (by decide) _ xs rfl O4 (some ⟨W3.heap.size, 0, none⟩) [(ado, (shows g ij sj).length, cpo)] 1 rfl (fun h => by cases h) (Nat.le_refl _) (one_row f3 (ado, (shows g ij sj).length, cpo) W3 40) (show xs.length + 1 ≤ maxLen by unfold maxLen; omega) (show (xs.length + 1) * 24 ≤ 140737488355328 by omega) (by first | omega | (simp; omega)) ?_)
      intro v5 w5 hO5 hb5 hg5
      have HN5 := Lib.hid (show RowC (fun b => Value.bool b) (stL g (beginL g) (l.take (j + 1))) (.slice adn (nexts g ij sj).length cpn) w5 by rw [HTS.out]; exact (On4.out.apart O4 (by decide) hg5).rowC)
      have HR5 := Lib.hid ((R4.out.apart O4 (by decide) hg5).snoc (x := (ado, (shows g ij sj).length, cpo)) (r := shows g ij sj) (by rw [hxl2.out, HPL.out]) ⟨B1, Oo4.out.apart O4 (by decide) hg5⟩)
      have HB5 := Lib.hid (B4.out.trans hb5)
      have HO5 := Lib.hid hO5
      rw [← HTP.out] at HR5
      clear hO5 hb5 hg5 O4 R4 Oo4 On4 B4 hb3 ba
      go_wp2_with fail
      go_roundw
      case rel => exact ⟨j + 1, by omega, by go_num, Lib.hid ⟨_, by simp [hxl2.out], HO5.out, HR5.out⟩, HN5, HB5⟩
      all_goals first | done | (simp [intOf]; done) | (simp [intOf]; omega)
    · have hji : ¬ (j : Int) < (l.length : Int) := by omega
      have HF := Lib.hid (show TR (playL g (beginL g) l) _ WR from by
        have h1 := hRw
        rw [List.take_of_length_le (by omega)] at h1
        exact h1.tr (by rw [playL_len]; omega) hOx)
      have HBE := Lib.hid (bel.trans (hB.out.mono bel.size))
      go_wp2_with fail
      go_ret
      exact ⟨_, rfl, HF.out, HBE.out⟩
end Go.Proofs.Ytcpifmhcebfglaa
