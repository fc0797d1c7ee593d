/- What a netlist shows in each cycle: the reference's NetBegin and NetPlayed. Condition: the netlist is valid. -/
import Derived.Test.YtimojbjamfckmaaNlNo
import Derived.Test.YtimojbjamfckmaaNlE
namespace Go.Proofs.Ytimojbjamfckmaa
open Go Go.RowKit Go.Sort
set_option linter.unusedVariables false
abbrev f3 (x : Option Addr × Nat × Nat) : Value := .slice x.1 x.2.1 x.2.2
theorem infoSb : (Try.prog.info? 42).map (fun i => (i.zero, i.size, i.bytes)) = some (some (.slice none 0 0), 1, 24) := by kernel_rfl
theorem infoSb_parts : ∃ i, Try.prog.info? 42 = some i ∧ i.zero = some (.slice none 0 0) ∧ i.size = 1 ∧ i.bytes = 24 := by
  have h := infoSb
  cases hi : Try.prog.info? 42 with
  | none => rw [hi] at h; cases h
  | some i =>
    rw [hi] at h
    simp only [Option.map_some, Option.some.injEq, Prod.mk.injEq] at h
    exact ⟨i, rfl, h.1, h.2.1, h.2.2⟩
def stN (n : Nl) (st : List Bool) (l : List (List Bool)) : List Bool := l.foldl (fun s i => stepN n i s) st
def playN (n : Nl) : List Bool → List (List Bool) → List (List Bool)
  | _, [] => []
  | st, i :: l => showN n i st :: playN n (stepN n i st) l
theorem stN_snoc (n : Nl) (st : List Bool) (l : List (List Bool)) (i : List Bool) : stN n st (l ++ [i]) = stepN n i (stN n st l) := by unfold stN; rw [List.foldl_append]; rfl
theorem playN_snoc (n : Nl) (i : List Bool) : ∀ (l : List (List Bool)) (st : List Bool), playN n st (l ++ [i]) = playN n st l ++ [showN n i (stN n st l)]
  | [], st => rfl
  | x :: l, st => by
    show showN n x st :: playN n (stepN n x st) (l ++ [i]) = _
    rw [playN_snoc n i l]; rfl
theorem playN_len (n : Nl) : ∀ (l : List (List Bool)) (st : List Bool), (playN n st l).length = l.length
  | [], _ => rfl
  | x :: l, st => congrArg (· + 1) (playN_len n l _)
theorem stN_len (n : Nl) (st : List Bool) (h : st.length = n.flops.length) : ∀ (l : List (List Bool)), (stN n st l).length = n.flops.length := fun l => by
  rcases List.eq_nil_or_concat l with rfl | ⟨l', i, rfl⟩
  · exact h
  · rw [List.concat_eq_append, stN_snoc]; unfold stepN nextB; simp
/-- rows of two types do not meet -/
theorem Own.tags {B B2 : Nat} {t t2 : TypeId} {α β : Type} {f : α → Value} {f2 : β → Value} {w : World} {v v2 : Value} {l : List α} {l2 : List β} (h : Own B t f w v l) (h2 : Own B2 t2 f2 w v2 l2) (ht : t ≠ t2) : v.ownBlock = none ∨ v.ownBlock ≠ v2.ownBlock := by
  rcases h.2 with ⟨h1, _⟩ | ⟨g, cap, cur, hv, _, hg, _⟩
  · rw [h1]; exact .inl rfl
  · rcases h2.2 with ⟨h1', _⟩ | ⟨g2, cap2, cur2, hv2, _, hg2, _⟩
    · right; rw [hv, h1']; intro e; cases e
    · right; rw [hv, hv2]; intro e
      simp only [Value.ownBlock, Option.some.injEq] at e
      subst e
      rw [hg] at hg2
      injection hg2 with e
      injection e with _ e2 _
      exact ht e2
theorem Own.apart {B B2 : Nat} {t t2 : TypeId} {α β : Type} {f : α → Value} {f2 : β → Value} {w w' : World} {v v2 : Value} {l : List α} {l2 : List β} (h : Own B t f w v l) (h2 : Own B2 t2 f2 w v2 l2) (ht : t ≠ t2) (hg : w.grownBy w' v2.ownBlock) : Own B t f w' v l :=
  World.ownsRow.kept h hg (h.tags h2 ht)
theorem RowAt.mapped {α : Type} [Inhabited α] {f : α → Value} {l : List α} {ad : Option Addr} {w : World} (h : RowAt 1 (fun x => [f x]) l ad w) : RowAt 1 (fun v => [v]) (l.map f) ad w := by
  rcases h with h | ⟨b, o, h1, h2⟩
  · exact .inl (by simpa using h)
  · refine .inr ⟨b, o, h1, fun j hj c x hx => h2 j (by simpa using hj) c x ?_⟩
    have hj' : j < l.length := by simpa using hj
    rw [show (l.map f)[j]! = f l[j]! by rw [getElem!_pos _ j hj, List.getElem_map, getElem!_pos l j hj']] at hx
    exact hx
/-- the rows so far -/
def Rows (xs : List (Option Addr × Nat × Nat)) (l : List (List Bool)) (w : World) : Prop := ∀ k, k < l.length → ∃ B, Own B 4 (fun b => Value.bool b) w (f3 xs[k]!) l[k]!
theorem Rows.below {xs : List (Option Addr × Nat × Nat)} {l : List (List Bool)} {w w' : World} (h : Rows xs l w) (hb : Below w.heap.size w w') : Rows xs l w' := fun k hk => (h k hk).elim fun B o => ⟨B, o.below hb⟩
theorem Rows.apart {xs : List (Option Addr × Nat × Nat)} {l : List (List Bool)} {w w' : World} (h : Rows xs l w) {B2 : Nat} {t2 : TypeId} {β : Type} {f2 : β → Value} {v2 : Value} {l2 : List β} (h2 : Own B2 t2 f2 w v2 l2) (ht : 4 ≠ t2) (hg : w.grownBy w' v2.ownBlock) : Rows xs l w' := fun k hk => (h k hk).elim fun B o => ⟨B, o.apart h2 ht hg⟩
theorem Rows.snoc {xs : List (Option Addr × Nat × Nat)} {l : List (List Bool)} {w : World} (h : Rows xs l w) (hx : xs.length = l.length) {x : Option Addr × Nat × Nat} {r : List Bool} (hr : ∃ B, Own B 4 (fun b => Value.bool b) w (f3 x) r) : Rows (xs ++ [x]) (l ++ [r]) w := fun k hk => by
  by_cases hkl : k < l.length
  · rw [getElem!_pos _ k (by simp; omega), getElem!_pos (l ++ [r]) k hk, List.getElem_append_left hkl, List.getElem_append_left (by omega), ← getElem!_pos xs k (by omega), ← getElem!_pos l k hkl]
    exact h k hkl
  · have hk' : k = l.length := by simp at hk; omega
    rw [getElem!_pos _ k (by simp; omega), getElem!_pos (l ++ [r]) k hk, List.getElem_append_right (by omega), List.getElem_append_right (by omega)]
    simpa [hk', hx] using hr
theorem Rows.tr {xs : List (Option Addr × Nat × Nat)} {l : List (List Bool)} {w : World} (h : Rows xs l w) (hx : xs.length = l.length) {B : Nat} {v : Value} (ho : Own B 42 f3 w v xs) : TR l v w := by
  obtain ⟨ad, cap, hv, hc, hn, hr⟩ := ho.rowC
  rw [hx] at hv hc
  exact ⟨ad, cap, xs.map f3, hv, hc, hn, by simpa using hx, hr.mapped, fun j hj => by
    obtain ⟨B', o⟩ := h j hj
    rw [show (xs.map f3)[j]! = f3 xs[j]! by rw [getElem!_pos _ j (by simp; omega), List.getElem_map, getElem!_pos xs j (by omega)]]
    exact o.rowC⟩
set_option maxRecDepth 100000 in
set_option maxHeartbeats 8000000 in
theorem netBegin_any (n : Nl) (v : Value) (sg : SmN n) (w : World) (hG : NO n v w) : Calls Try.prog 38 #[v] w fun e w' => ∃ u, e = .returned u ∧ Own w.heap.size 4 (fun b => Value.bool b) w' u (beginN n) ∧ Below w.heap.size w w' := by
  have hG0 := hG
  obtain ⟨a, b, c, d0, e, a', b', c', d', e', rfl, hC, hA⟩ := hG.all
  clear hG
  have s3 := sg.flops
  go_enter Try.func38, Try.ntmps38
  go_upto_region 2 with fail
  have bel := (Below.refl w.heap.size w).alloc (Nat.le_refl _) (.cells #[.slice a n.ins.length a', .slice b n.outN.length b', .slice c n.flops.length c', .slice d0 n.gates.length d', .slice e n.outs.length e'] 27)
  have X := GX.new w (.slice a n.ins.length a') (.slice b n.outN.length b') (.slice c n.flops.length c') (.slice d0 n.gates.length d') (.slice e n.outs.length e') 27
  generalize w.alloc (.cells #[.slice a n.ins.length a', .slice b n.outN.length b', .slice c n.flops.length c', .slice d0 n.gates.length d', .slice e n.outs.length e'] 27) = W0 at bel X ⊢
  generalize hk : w.heap.size = k at X ⊢
  have HK := Lib.hid hk
  clear hk
  obtain ⟨x0, x1, x2, x3, x4⟩ := id X
  have HX := Lib.hid (fun W (hb : Below W0.heap.size W0 W) => X.below hb)
  have HA := Lib.hid (fun W (hb : Below W0.heap.size W0 W) => hA.below (bel.trans (hb.mono bel.size)))
  have HBEL := Lib.hid bel
  obtain ⟨i0, ihi, ihz, ihs, ihb⟩ := infoMB_parts
  have O1 : OwnK W0.heap.size 4 1 encB W0 (.slice none 0 0) ([] : List Bool) := OwnK.nil _ _ _ _ _
  clear X hA hG0 hC bel
  go_upto_block 0 with fail
  clear x0 x1 x2 x3 x4
  go_wp2_with fail
  go_loopw [3, 9] (fun u i wr => ∃ j : Nat, j ≤ n.flops.length ∧ i = .int .i64 (j : Int) ∧ Hid (OwnK W0.heap.size 4 1 encB wr u ((n.flops.take j).map (·.it))) ∧ Hid (Below W0.heap.size W0 wr)) (fun _ i _ => n.flops.length - (intOf i).toNat)
  case atStart => exact ⟨0, Nat.zero_le _, rfl, Lib.hid O1, Lib.hid (Below.refl _ _)⟩
  case round =>
    clear O1
    obtain ⟨j, hj, rfl, hO, hB⟩ := hrel
    rename World => WF
    have hj0 : (0 : Int) ≤ (j : Int) := by omega
    by_cases hlt : j < n.flops.length
    · have hji : (j : Int) < (n.flops.length : Int) := by omega
      have HT := Lib.hid (show (n.flops.take (j + 1)).map (·.it) = (n.flops.take j).map (·.it) ++ [n.flops[j]!.it] by rw [tk1 _ hlt, List.map_append]; rfl)
      have HL : ((n.flops.take j).map (·.it)).length ≤ 9000000 := by rw [List.length_map, List.length_take]; omega
      obtain ⟨bb, oo, hdd, hcell⟩ := (HA.out _ hB.out).flops.pick (by omega)
      subst hdd
      have c0 := hcell j hlt 0 _ rfl
      have c1 := hcell j hlt 1 _ rfl
      have c2 := hcell j hlt 2 _ rfl
      have c3 := hcell j hlt 3 _ rfl
      have c4 := hcell j hlt 4 _ rfl
      simp only [Nat.add_zero] at c0
      clear hcell
      generalize (n.flops.take j).map (·.it) = L at HT HL hO
      generalize n.flops[j]! = r at c0 c1 c2 c3 c4 HT
      obtain ⟨r0, r1, r2, r3, r4⟩ := r
      simp only at c0 c1 c2 c3 c4 HT
      obtain ⟨ad, cp, hv⟩ := hO.out.slice
      subst hv
      have hB5 := hB.out
      have hO5 := hO.out
      clear hB hO
      go_upto_region 5 with fail
      have bA := (Below.refl WF.heap.size WF).alloc (Nat.le_refl _) (.cells #[.string r0, .int .i64 r1, .int .i64 r2, .int .i64 r3, .bool r4] 84)
      have z4 : (WF.alloc (.cells #[.string r0, .int .i64 r1, .int .i64 r2, .int .i64 r3, .bool r4] 84)).cell? ⟨WF.heap.size, 4, none⟩ = some (.bool r4) := by go_simp

      generalize WF.alloc (.cells #[.string r0, .int .i64 r1, .int .i64 r2, .int .i64 r3, .bool r4] 84) = WS at z4 bA ⊢
      generalize WF.heap.size = q10 at z4 ⊢
      have hB6 := hB5.trans (bA.mono hB5.size)
      have hO6 := hO5.below bA
      clear c0 c1 c2 c3 c4 bA hB5 hO5
      have bB := (Below.refl _ WS).alloc (Nat.le_refl _) (.cells #[.bool r4] 4)
      have hs8 := hB6.size
      have hs9 := Nat.le_trans hs8 bB.size
      have O4 := hO6.below bB
      have hy := newB WS r4
      go_wp2_with (at_builtin; refine wpList_append_one (enc := encB) (k := 1) (fun _ => rfl) (by decide) (fun x u hu => by simp at hu; rcases hu with rfl; rfl) rfl _ _ 42 rfl (W0.heap.size) 4 i0 (.bool false) 1 Try.underlying42 ihi ihz ihs ihb (by decide) _ L rfl O4 WS.heap.size 1 (r4) rfl hy (show L.length + 1 ≤ maxLen by unfold maxLen; omega) (show (L.length + 1) * 1 ≤ 140737488355328 by omega) (by first | omega | (simp; omega)) ?_)
      intro v5 w5 O5 hb5 hg5
      have HO5 := Lib.hid O5
      have HB5 := Lib.hid (hB6.trans ((bB.mono hB6.size).trans hb5))
      clear O5 hb5 hg5 O4 hy hB6 bB hO6 z4
      go_wp2_with fail
      go_roundw
      case rel => exact ⟨j + 1, by omega, by go_num, (by rw [HT.out]; exact HO5), HB5⟩
      all_goals first | done | (simp [intOf]; done) | (simp [intOf]; omega)
    · have hji : ¬ (j : Int) < (n.flops.length : Int) := by omega
      have hO2 := hO.out
      rw [List.take_of_length_le (by omega)] at hO2
      have HO2 := Lib.hid (hO2.mono1 HBEL.out.size).ownN
      have HB2 := Lib.hid (HBEL.out.trans (hB.out.mono HBEL.out.size))
      clear hO hB hO2
      go_wp2_with fail
      go_ret
      exact ⟨_, rfl, HO2.out, HB2.out⟩
set_option maxRecDepth 100000 in
set_option maxHeartbeats 16000000 in
theorem netPlayed_any (n : Nl) (v vt : Value) (l : List (List Bool)) (vg : VN n) (sg : SmN n) (hln : l.length ≤ 64) (hll : ∀ r ∈ l, r.length = n.ins.length) (w : World) (hG : NO n v w) (hT : TR l vt w) : Calls Try.prog 41 #[v, vt] w fun e w' => ∃ vo, e = .returned vo ∧ TR (playN n (beginN n) l) vo w' ∧ Below w.heap.size w w' := by
  obtain ⟨a, b, c, d0, e, a', b', c', d', e', rfl, hC, hA⟩ := hG.all
  have n1 := vg.ins
  have n2 := vg.flops
  have n3 := vg.gates
  have hbl : (beginN n).length = n.flops.length := by unfold beginN; simp
  obtain ⟨ad1, c1, vs, rfl, k1, m1, hvl, r1, hrow⟩ := hT
  go_enter Try.func41, Try.ntmps41
  go_upto_region 1 with fail
  have bel := (Below.refl w.heap.size w).alloc (Nat.le_refl _) (.cells #[.slice a n.ins.length a', .slice b n.outN.length b', .slice c n.flops.length c', .slice d0 n.gates.length d', .slice e n.outs.length e'] 27)
  have X := GX.new w (.slice a n.ins.length a') (.slice b n.outN.length b') (.slice c n.flops.length c') (.slice d0 n.gates.length d') (.slice e n.outs.length e') 27
  have hG0 := hG.below bel
  generalize w.alloc (.cells #[.slice a n.ins.length a', .slice b n.outN.length b', .slice c n.flops.length c', .slice d0 n.gates.length d', .slice e n.outs.length e'] 27) = W0 at bel X hG0 ⊢
  generalize hk : w.heap.size = k at X ⊢
  have HK := Lib.hid hk
  clear hk
  have hkw := X.lt
  obtain ⟨x0, x1, x2, x3, x4⟩ := id X
  have HBG := Lib.hid (netBegin_any n _ sg W0 hG0)
  clear hG0
  go_wp2_with fail
  refine HBG.out.mono ?_
  rintro en W1 ⟨v1, rfl, hO1, hb1⟩
  have HR1 := Lib.hid hO1.rowC
  clear hO1 HBG
  replace X := X.below hb1
  replace bel := bel.trans (hb1.mono bel.size)
  have hkW : k < W1.heap.size := X.lt
  have HG := Lib.hid hG
  clear hG x0 x1 x2 x3 x4 hb1
  obtain ⟨i0, hi0, hz0, hz1, hz2⟩ := infoSb_parts
  have hown0 : Own W1.heap.size 42 f3 W1 (.slice none 0 0) ([] : List (Option Addr × Nat × Nat)) := World.ownsRow_nil W1 W1.heap.size 42 1
  go_upto_block 0 with fail
  go_wp2_with fail
  go_loopw [5, 6, 15] (fun s u i wr => ∃ j : Nat, j ≤ l.length ∧ i = .int .i64 (j : Int) ∧ Hid (∃ xs, xs.length = j ∧ Own W1.heap.size 42 f3 wr u xs ∧ Rows xs (playN n (beginN n) (l.take j)) wr) ∧ Hid (RowC (fun b => Value.bool b) (stN n (beginN n) (l.take j)) s wr) ∧ Hid (Below W1.heap.size W1 wr)) (fun _ _ i _ => l.length - (intOf i).toNat)
  case atStart => exact ⟨0, Nat.zero_le _, rfl, Lib.hid ⟨[], rfl, hown0, fun k hk => by cases hk⟩, HR1, Lib.hid (Below.refl _ _)⟩
  case round =>
    clear hown0 HR1
    obtain ⟨j, hj, rfl, hO, hR, hB⟩ := hrel
    rename World => WR
    have hj0 : (0 : Int) ≤ (j : Int) := by omega
    obtain ⟨xs, hxl, hOx, hRw⟩ := hO.out
    by_cases hlt : j < l.length
    · have hji : (j : Int) < (l.length : Int) := by omega
      have HTP := Lib.hid (show playN n (beginN n) (l.take (j + 1)) = playN n (beginN n) (l.take j) ++ [showN n l[j]! (stN n (beginN n) (l.take j))] by rw [tk1 l hlt]; exact playN_snoc n _ _ _)
      have HTS := Lib.hid (show stN n (beginN n) (l.take (j + 1)) = stepN n l[j]! (stN n (beginN n) (l.take j)) by rw [tk1 l hlt]; exact stN_snoc n _ _ _)
      have hlj := hll l[j]! (by rw [getElem!_pos l j hlt]; exact List.getElem_mem hlt)
      have hsl := stN_len n (beginN n) hbl (l.take j)
      have HPL := Lib.hid (show (playN n (beginN n) (l.take j)).length = j by rw [playN_len, List.length_take]; omega)
      have belR := Lib.hid (bel.trans (hB.out.mono bel.size))
      have XR := X.mono hB.out hkW
      obtain ⟨x0, x1, x2, x3, x4⟩ := id XR
      have hrj := (hrow j hlt).below belR.out
      obtain ⟨bb, oo, rfl, hcell⟩ := (r1.below belR.out).pick (by omega)
      have c0 := hcell j (by omega) 0 _ rfl
      simp only [Nat.mul_one, Nat.add_zero] at c0
      obtain ⟨adj, cpj, hvj, _⟩ := id hrj
      rw [hvj] at c0
      have HC := Lib.hid (netCycleO_any n _ l[j]! (stN n (beginN n) (l.take j)) vs[j]! _ vg hlj hsl WR (HG.out.below belR.out) hrj hR.out)
      rw [hvj] at HC
      have hxl64 : xs.length ≤ 64 := by omega
      obtain ⟨adx, cpx, hux⟩ := hOx.slice
      subst hux
      obtain ⟨ads, cps, hus, _⟩ := id hR.out
      subst hus
      have HO0 := Lib.hid (And.intro hOx (And.intro hRw hxl))
      have hB' := hB.out.size
      clear hrj hcell hvj hlj hsl hR hOx hRw hxl hO X bel
      generalize stN n (beginN n) (l.take j) = sj at HTP HTS HC ⊢
      generalize playN n (beginN n) (l.take j) = pj at HTP HPL HO0
      generalize l[j]! = ij at HTP HTS HC c0
      go_wp2_with fail
      refine HC.out.mono ?_
      rintro en W3 ⟨vo, vn, rfl, ⟨B1, hOo⟩, ⟨B2, hOn⟩, hb3⟩
      obtain ⟨ado, cpo, hvo⟩ := hOo.slice
      subst hvo
      obtain ⟨adn, cpn, hvn⟩ := hOn.slice
      subst hvn
      obtain ⟨hOx, hRw, hxl⟩ := HO0.out
      have ba : Below W3.heap.size W3 (W3.alloc (.cells #[.slice ado (showN n ij sj).length cpo] 42)) := (Below.refl _ W3).alloc (Nat.le_refl _) _
      have O4 := (hOx.below hb3).below ba
      have R4 := Lib.hid ((hRw.below hb3).below ba)
      have Oo4 := Lib.hid (hOo.below ba)
      have On4 := Lib.hid (hOn.below ba)
      have h3 := Nat.le_trans hB' hb3.size
      have B4 := Lib.hid (hB.out.trans ((hb3.mono hB').trans (ba.mono h3)))
      have hxl2 := Lib.hid hxl
      clear x0 x1 x2 x3 x4 XR c0 hOx hRw hOo hOn hxl HO0 hB HC
      go_wp2_with (at_builtin; refine wpList_append_row2 (f := f3) (fun _ => rfl) rfl _ _ 55 rfl W1.heap.size 42 i0 (.slice none 0 0) 24 Try.underlying55 hi0 hz0 hz1 hz2 (by decide) _ xs rfl O4 (some ⟨W3.heap.size, 0, none⟩) [(ado, (showN n ij sj).length, cpo)] 1 rfl (fun h => by cases h) (Nat.le_refl _) (one_row f3 (ado, (showN n ij sj).length, cpo) W3 42) (show xs.length + 1 ≤ maxLen by unfold maxLen; omega) (show (xs.length + 1) * 24 ≤ 140737488355328 by omega) (by first | omega | (simp; omega)) ?_)
      intro v5 w5 hO5 hb5 hg5
      have HN5 := Lib.hid (show RowC (fun b => Value.bool b) (stN n (beginN n) (l.take (j + 1))) (.slice adn (stepN n ij sj).length cpn) w5 by rw [HTS.out]; exact (On4.out.apart O4 (by decide) hg5).rowC)
      have HR5 := Lib.hid ((R4.out.apart O4 (by decide) hg5).snoc (x := (ado, (showN n ij sj).length, cpo)) (r := showN n ij sj) (by rw [hxl2.out, HPL.out]) ⟨B1, Oo4.out.apart O4 (by decide) hg5⟩)
      have HB5 := Lib.hid (B4.out.trans hb5)
      have HO5 := Lib.hid hO5
      rw [← HTP.out] at HR5
      clear hO5 hb5 hg5 O4 R4 Oo4 On4 B4 hb3 ba
      go_wp2_with fail
      go_roundw
      case rel => exact ⟨j + 1, by omega, by go_num, Lib.hid ⟨_, by simp [hxl2.out], HO5.out, HR5.out⟩, HN5, HB5⟩
      all_goals first | done | (simp [intOf]; done) | (simp [intOf]; omega)
    · have hji : ¬ (j : Int) < (l.length : Int) := by omega
      have HF := Lib.hid (show TR (playN n (beginN n) l) _ WR from by
        have h1 := hRw
        rw [List.take_of_length_le (by omega)] at h1
        exact h1.tr (by rw [playN_len]; omega) hOx)
      have HBE := Lib.hid (bel.trans (hB.out.mono bel.size))
      go_wp2_with fail
      go_ret
      exact ⟨_, rfl, HF.out, HBE.out⟩
end Go.Proofs.Ytimojbjamfckmaa
