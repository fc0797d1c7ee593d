/- The program's Run (package netlist). Condition: rows of at most 4,000,000,000 elements. -/
import Derived.Test.YtimojbjamfckmaaNlE
import Derived.Test.YtimojbjamfckmaaNlPd
namespace Go.Proofs.Ytimojbjamfckmaa
open Go Go.RowKit Go.Sort
set_option linter.unusedVariables false
abbrev gV (v : Value) : Value := v
theorem grown_put (w : World) (p : Addr) (v : Value) : w.grownBy (w.setCell p v) (some p.block) :=
  ⟨rfl, rfl, rfl, by simp [World.setCell], fun k _ hne => Below.heap_setCell w p v k (fun e => hne (by rw [e]))⟩
theorem OwnK.set {B : Nat} {t : TypeId} {k : Nat} {α : Type} {enc : α → List Value} {w : World} {v : Value} {l : List α} (h : OwnK B t k enc w v l) (p : Addr) (u : Value) (hp : p.block < B) : OwnK B t k enc (w.setCell p u) v l :=
  World.ownsRow.kept h (grown_put w p u) (by
    cases hv : v.ownBlock with
    | none => exact .inl rfl
    | some b => exact .inr (fun e => by have := (World.ownsRow.lt h b hv).1; simp only [Option.some.injEq] at e; omega))
theorem ownk_sta (B : Nat) (t : TypeId) (k : Nat) {α : Type} (enc : α → List Value) (l : List α) : Sta (fun v w => OwnK B t k enc w v l) := fun v w w' h hb => h.below hb
set_option maxRecDepth 100000 in
set_option maxHeartbeats 16000000 in
theorem sampledO_any (n : Nl) (v : Value) (V st : List (BitVec 64)) (vv vs : Value) (vn : VN n) (hVL : V.length = netsN n) (hs1 : st.length = n.flops.length) (w : World) (hG : NO n v w) (h1 : RowOf 1 encW V vv w) (h2 : RowOf 1 encW st vs w) : Calls Try.prog 88 #[v, vv, vs] w fun e w' => ∃ vo vx, e = .returned (.tuple #[vo, vx]) ∧ RowC (fun b => Value.int .u64 (U b)) (pickL V n.outs) vo w' ∧ OwnK w.heap.size 29 1 encW w' vx (nextW n V st n.flops.length) ∧ Below w.heap.size w w' := by
  have hG0 := hG
  obtain ⟨a, b, c, d0, e, a', b', c', d', e', rfl, hC, hA⟩ := hG.all
  clear hG
  obtain ⟨av, cv, rfl, hcv, RV⟩ := h1.open'
  obtain ⟨az, cz, rfl, hcz, RS⟩ := h2.open'
  have n1 := vn.ins
  have n3 := vn.flops
  have n4 := vn.gates
  have n5 : n.outs.length ≤ 128 := by have := vn.same; have := vn.outN; omega
  have HVI := Lib.hid (show ∀ j, j < n.flops.length → (0 ≤ n.flops[j]!.d ∧ n.flops[j]!.d < (V.length : Int)) ∧ (0 ≤ n.flops[j]!.en ∧ n.flops[j]!.en < (V.length : Int)) from fun j hj => by rw [hVL]; exact ⟨vn.d j hj, vn.en j hj⟩)
  have HOI := Lib.hid (show ∀ x ∈ n.outs, 0 ≤ x ∧ x < (V.length : Int) from fun x hx => by rw [hVL]; exact vn.out x hx)
  have HSL := Lib.hid hs1
  clear hVL hs1
  go_enter Try.func88, Try.ntmps88
  go_upto_region 1 with fail
  have bel := (Below.refl w.heap.size w).alloc (Nat.le_refl _) (.cells #[.slice a n.ins.length a', .slice b n.outN.length b', .slice c n.flops.length c', .slice d0 n.gates.length d', .slice e n.outs.length e'] 27)
  have X := GX.new w (.slice a n.ins.length a') (.slice b n.outN.length b') (.slice c n.flops.length c') (.slice d0 n.gates.length d') (.slice e n.outs.length e') 27
  generalize w.alloc (.cells #[.slice a n.ins.length a', .slice b n.outN.length b', .slice c n.flops.length c', .slice d0 n.gates.length d', .slice e n.outs.length e'] 27) = W0 at bel X ⊢
  generalize hk : w.heap.size = k at X ⊢
  have HK := Lib.hid hk
  clear hk
  obtain ⟨x0, x1, x2, x3, x4⟩ := id X
  have HX := Lib.hid (fun W (hb : Below W0.heap.size W0 W) => X.below hb)
  have HA := Lib.hid (fun W (hb : Below W0.heap.size W0 W) => hA.below (bel.trans (hb.mono bel.size)))
  have HRV := Lib.hid (fun W (hb : Below W0.heap.size W0 W) => RV.below (bel.trans (hb.mono bel.size)))
  have HRS := Lib.hid (fun W (hb : Below W0.heap.size W0 W) => RS.below (bel.trans (hb.mono bel.size)))
  have HBEL := Lib.hid bel
  have HC := Lib.hid hC
  obtain ⟨i0, ihi, ihz, ihs, ihb⟩ := infoMU_parts
  have O1 : OwnK W0.heap.size 29 1 encW W0 (.slice none 0 0) (nextW n V st 0) := OwnK.nil _ _ _ _ _
  clear X hA hG0 hC bel RV RS h1 h2
  go_upto_block 0 with fail
  clear x0 x1 x2 x3 x4
  go_wp2_with fail
  go_loopw [7, 13] (fun u i wr => ∃ j : Nat, j ≤ n.flops.length ∧ i = .int .i64 (j : Int) ∧ Hid (OwnK W0.heap.size 29 1 encW wr u (nextW n V st j)) ∧ Hid (Below W0.heap.size W0 wr)) (fun _ i _ => n.flops.length - (intOf i).toNat)
  case atStart => exact ⟨0, Nat.zero_le _, rfl, Lib.hid O1, Lib.hid (Below.refl _ _)⟩
  case round =>
    clear O1
    obtain ⟨j, hj, rfl, hO, hB⟩ := hrel
    rename World => WF
    have hj0 : (0 : Int) ≤ (j : Int) := by omega
    by_cases hlt : j < n.flops.length
    · have hji : (j : Int) < (n.flops.length : Int) := by omega
      have hjs : (j : Int) < (st.length : Int) := by have := HSL.out; omega
      have HT := Lib.hid (nextW_succ n V st j)
      have HL : (nextW n V st j).length ≤ 100000 := by unfold nextW; rw [List.length_map, List.length_range]; omega
      obtain ⟨⟨hd0, hd1⟩, he0, he1⟩ := HVI.out j hlt
      have hB1 := hB.out
      obtain ⟨bb, oo, hdd, hcell⟩ := (HA.out _ hB1).flops.pick (by omega)
      subst hdd
      have c0 := hcell j hlt 0 _ rfl
      have c1 := hcell j hlt 1 _ rfl
      have c2 := hcell j hlt 2 _ rfl
      have c3 := hcell j hlt 3 _ rfl
      have c4 := hcell j hlt 4 _ rfl
      simp only [Nat.add_zero] at c0
      clear hcell
      generalize n.flops[j]! = r at c0 c1 c2 c3 c4 HT hd0 hd1 he0 he1
      obtain ⟨r0, r1, r2, r3, r4⟩ := r
      simp only at c0 c1 c2 c3 c4 hd0 hd1 he0 he1
      generalize nextW n V st j = L at hO HT HL
      obtain ⟨ad, cp, hv⟩ := hO.out.slice
      subst hv
      have hO5 := hO.out
      clear hB hO
      go_upto_region 4 with fail
      have bA := (Below.refl WF.heap.size WF).alloc (Nat.le_refl _) (.cells #[.string r0, .int .i64 r1, .int .i64 r2, .int .i64 r3, .bool r4] 84)
      have z0 : (WF.alloc (.cells #[.string r0, .int .i64 r1, .int .i64 r2, .int .i64 r3, .bool r4] 84)).cell? ⟨WF.heap.size, 0, none⟩ = some (.string r0) := by go_simp
      have z1 : (WF.alloc (.cells #[.string r0, .int .i64 r1, .int .i64 r2, .int .i64 r3, .bool r4] 84)).cell? ⟨WF.heap.size, 1, none⟩ = some (.int .i64 r1) := by go_simp
      have z2 : (WF.alloc (.cells #[.string r0, .int .i64 r1, .int .i64 r2, .int .i64 r3, .bool r4] 84)).cell? ⟨WF.heap.size, 2, none⟩ = some (.int .i64 r2) := by go_simp
      have z3 : (WF.alloc (.cells #[.string r0, .int .i64 r1, .int .i64 r2, .int .i64 r3, .bool r4] 84)).cell? ⟨WF.heap.size, 3, none⟩ = some (.int .i64 r3) := by go_simp
      have z4 : (WF.alloc (.cells #[.string r0, .int .i64 r1, .int .i64 r2, .int .i64 r3, .bool r4] 84)).cell? ⟨WF.heap.size, 4, none⟩ = some (.bool r4) := by go_simp

      generalize WF.alloc (.cells #[.string r0, .int .i64 r1, .int .i64 r2, .int .i64 r3, .bool r4] 84) = WS at z0 z1 z2 z3 z4 bA ⊢
      generalize WF.heap.size = q10 at z0 z1 z2 z3 z4 ⊢
      have hB6 := hB1.trans (bA.mono hB1.size)
      have hO6 := hO5.below bA
      obtain ⟨b4, o4, hdd, hcell⟩ := (HRV.out _ hB6).pick (by omega)
      subst hdd
      have v0 := hcell r3.toNat (by omega) 0 _ rfl
      have v1 := hcell r2.toNat (by omega) 0 _ rfl
      simp only [Nat.mul_one, Nat.add_zero] at v0 v1
      clear hcell
      obtain ⟨b5, o5, hdd, hcell⟩ := (HRS.out _ hB6).pick (by omega)
      subst hdd
      have v2 := hcell j (by omega) 0 _ rfl
      simp only [Nat.mul_one, Nat.add_zero] at v2
      clear hcell c0 c1 c2 c3 c4 bA hO5 hB1
      have HT2 := Lib.hid (show takeW V ⟨r0, r1, r2, r3, r4⟩ st[j]! = (V[r3.toNat]! &&& V[r2.toNat]!) ||| (~~~ V[r3.toNat]! &&& st[j]!) from rfl)
      generalize takeW V ⟨r0, r1, r2, r3, r4⟩ st[j]! = z at HT HT2
      generalize V[r3.toNat]! = e1 at v0 HT2
      generalize V[r2.toNat]! = e2 at v1 HT2
      generalize st[j]! = e3 at v2 HT2
      have hn : bits BinOp.xor IntKind.u64 IntKind.u64.max (U e1) = U (~~~ e1) := notU2 e1
      have HBS := Lib.hid (fun d os => below_regrown WS d os)
      have g1 := cell_regrown z2
      have g2 := cell_regrown z3
      have g3 := cell_regrown v0
      have g4 := cell_regrown v1
      have g5 := cell_regrown v2
      clear z0 z1 z2 z3 z4 v0 v1 v2
      refine wp_region_rel 25 (by kernel_rfl) (by kernel_rfl) ?_
      simp only [List.take_succ_cons, List.take_zero, List.drop_succ_cons, List.drop_zero]
      (refine rel_fix0 (fun K hK => ?_); go_simp; refine hK _ ?_; clear hK K)
      (refine rel_fix0 (fun K hK => ?_); go_simp; refine hK _ ?_; clear hK K)
      (refine rel_fix0 (fun K hK => ?_); go_simp; refine hK _ ?_; clear hK K)
      (refine rel_fix0 (fun K hK => ?_); go_simp; refine hK _ ?_; clear hK K)
      (refine rel_fix0 (fun K hK => ?_); go_simp; refine hK _ ?_; clear hK K)
      (refine rel_fix0 (fun K hK => ?_); go_simp; refine hK _ ?_; clear hK K)
      (refine rel_fix0 (fun K hK => ?_); go_simp; refine hK _ ?_; clear hK K)
      (refine rel_fix0 (fun K hK => ?_); go_simp; refine hK _ ?_; clear hK K)
      (refine rel_fix0 (fun K hK => ?_); go_simp; refine hK _ ?_; clear hK K)
      (refine rel_fix0 (fun K hK => ?_); go_simp; refine hK _ ?_; clear hK K)
      (refine rel_fix0 (fun K hK => ?_); go_simp; refine hK _ ?_; clear hK K)
      (refine rel_fix0 (fun K hK => ?_); go_simp; refine hK _ ?_; clear hK K)
      (refine rel_fix0 (fun K hK => ?_); go_simp; refine hK _ ?_; clear hK K)
      (refine rel_fix0 (fun K hK => ?_); go_simp; refine hK _ ?_; clear hK K)
      (refine rel_fix0 (fun K hK => ?_); go_simp; refine hK _ ?_; clear hK K)
      (refine rel_fix0 (fun K hK => ?_); go_simp; refine hK _ ?_; clear hK K)
      (refine rel_fix0 (fun K hK => ?_); go_simp; refine hK _ ?_; clear hK K)
      (refine rel_fix0 (fun K hK => ?_); go_simp; refine hK _ ?_; clear hK K)
      (refine rel_fix0 (fun K hK => ?_); go_simp; refine hK _ ?_; clear hK K)
      (refine rel_fix0 (fun K hK => ?_); go_simp; refine hK _ ?_; clear hK K)
      (refine rel_fix0 (fun K hK => ?_); go_simp; refine hK _ ?_; clear hK K)
      (refine rel_fix0 (fun K hK => ?_); go_simp; refine hK _ ?_; clear hK K)
      (refine rel_fix0 (fun K hK => ?_); go_simp; refine hK _ ?_; clear hK K)
      (refine rel_fix0 (fun K hK => ?_); go_simp; refine hK _ ?_; clear hK K)
      refine rel_fact [] (FK [.int .u64 (U ((e1 &&& e2) ||| (~~~ e1 &&& e3)))]) 42 rfl (by simp [Act.put]) (fk_sta _) (by rfl) (by kernel_rfl) (by kernel_rfl) ?_ ?_
      · intro d os
        simp only [relAll]
        go_simp
        refine ⟨⟨_, rfl, fun q u hq => ?_⟩, (Below.refl _ _).alloc (Nat.le_of_eq (by simp)) _⟩
        match q, hq with
        | 0, hq => cases hq; go_simp; rw [show (if IntKind.u64.signed = true then (-1 : Int) else IntKind.u64.max) = 18446744073709551615 from rfl, notU2, U_and, U_or]
      refine rel_nil ?_
      intro d os
      simp only [relAll]
      rintro v42 ⟨r42, rfl, hy⟩
      have hb5 := HBS.out d os
      have O7 := hO6.below hb5
      have B7 := hB6.trans (hb5.mono hB6.size)
      have hs7 := B7.size
      rw [← HT2.out] at hy
      clear g1 g2 g3 g4 g5 HBS hO6 hB6 hb5 HT2 hn
      generalize grow (redrawn WS d) os = W7 at hy O7 B7 hs7 ⊢
      refine wpList_append_one (enc := encW) (k := 1) (fun _ => rfl) (by decide) (fun x u hu => by simp at hu; rcases hu with rfl; rfl) rfl _ _ 40 rfl (W0.heap.size) 29 i0 (.int .u64 0) 8 Try.underlying40 ihi ihz ihs ihb (by decide) _ L rfl O7 r42 1 z rfl hy (show L.length + 1 ≤ maxLen by unfold maxLen; omega) (show (L.length + 1) * 8 ≤ 140737488355328 by omega) (by first | omega | (simp; omega)) ?_
      intro v8 w8 O8 hb8 hg8
      have HO8 := Lib.hid O8
      have HB8 := Lib.hid (B7.trans hb8)
      rw [← HT.out] at HO8
      clear O7 B7 O8 hb8 hg8 hy
      go_wp2_with fail
      go_roundw
      case rel => exact ⟨j + 1, by omega, by go_num, HO8, HB8⟩
      all_goals first | done | (simp [intOf]; done) | (simp [intOf]; omega)
    · have hji : ¬ (j : Int) < (n.flops.length : Int) := by omega
      have hO2 := hO.out
      rw [show j = n.flops.length by omega] at hO2
      obtain ⟨ao, co, eo⟩ := hO2.slice
      subst eo
      have hB2 := hB.out
      have HPK := Lib.hid (pickedW_any V n.outs _ _ (by omega) HOI.out WF (RowOf.mk hcv (HRV.out _ hB2)) (RowOf.mk HC.out.outs (HA.out _ hB2).outs))
      clear hO hB
      obtain ⟨x0, x1, x2, x3, x4⟩ := HX.out _ hB2
      go_wp2_with (first | (go_at_call 127; refine HPK.out.mono ?_; rintro ee w1 ⟨q1, rfl, A1, hq1, hb1⟩))
      go_ret2
      exact ⟨_, _, rfl, A1.rowc _ (by unfold pickL; exact List.length_map _), (hO2.below hb1).mono1 HBEL.out.size, HBEL.out.trans ((hB2.trans (hb1.mono hB2.size)).mono HBEL.out.size)⟩
def runNE (n : Nl) (l : List (List Bool)) : Int := if faultN n = 0 then tfL l n.ins.length else faultN n
def runNR (n : Nl) (l : List (List Bool)) : List (List Bool) := if runNE n l = 0 then playN n (beginN n) l else []
theorem rows_same {n : Nat} : ∀ {l : List (List Bool)}, tfR n l = 0 → ∀ r ∈ l, r.length = n
  | [], _, r, hr => by cases hr
  | x :: l, h, r, hr => by
    unfold tfR at h
    split at h
    · rename_i hx
      rcases List.mem_cons.1 hr with rfl | hr
      · exact hx
      · exact rows_same h r hr
    · omega
theorem Arr.ownK {t : TypeId} {α : Type} {f : α → Value} {g B : Nat} {l : List α} {w : World} (h : Arr t f g l w) (hB : B ≤ g) (hl : l.length ≤ maxLen) : OwnK B t 1 (fun x => [f x]) w (.slice (some ⟨g, 0, none⟩) l.length l.length) l := by
  unfold OwnK
  rw [flat_oneN]
  exact ⟨by simp, .inr ⟨g, l.length, (l.map f).toArray, rfl, hB, h.blk, Nat.le_refl _, hl, by simp, by simp [List.take_of_length_le]⟩⟩
theorem OwnK.rC {B : Nat} {t : TypeId} {α : Type} [Inhabited α] {f : α → Value} {w : World} {v : Value} {l : List α} (h : OwnK B t 1 (fun x => [f x]) w v l) : RowC f l v w := h.ownN.rowC
theorem TRnil (w : World) : TR [] (.slice none 0 0) w := ⟨none, 0, [], rfl, Nat.le_refl _, fun _ => rfl, rfl, .inl rfl, fun j hj => by simp at hj⟩
/-- rows that the call made, one for each cycle, in blocks behind q -/
def RowsA (q : Nat) (P : List (List Bool)) (vs : List Value) (w : World) : Prop := ∀ i, i < P.length → ∃ b, vs[i]! = .slice (some ⟨b, 0, none⟩) P[i]!.length P[i]!.length ∧ q < b ∧ Arr 4 (fun b => Value.bool b) b P[i]! w
theorem RowsA.below {q : Nat} {P : List (List Bool)} {vs : List Value} {w w' : World} (h : RowsA q P vs w) (hb : Below w.heap.size w w') : RowsA q P vs w' := fun i hi => (h i hi).elim fun b ⟨h1, h2, h3⟩ => ⟨b, h1, h2, h3.below hb⟩
theorem RowsA.set {q : Nat} {P : List (List Bool)} {vs : List Value} {w : World} (h : RowsA q P vs w) (j : Nat) (hj : P.length = j) (hv : j < vs.length) {b : Nat} {r : List Bool} (hq : q < b) (A : Arr 4 (fun b => Value.bool b) b r w) : RowsA q (P ++ [r]) (vs.set j (.slice (some ⟨b, 0, none⟩) r.length r.length)) (w.setCell ⟨q, j, none⟩ (.slice (some ⟨b, 0, none⟩) r.length r.length)) := fun i hi => by
  by_cases e : i = j
  · subst e
    refine ⟨b, ?_, hq, ?_⟩
    · rw [getElem!_pos (vs.set i _) i (by simpa using hv), List.getElem_set_self, getElem!_pos (P ++ [r]) i hi, List.getElem_append_right (by omega)]
      simp [hj]
    · rw [getElem!_pos (P ++ [r]) i hi, List.getElem_append_right (by omega)]
      simp only [hj, Nat.sub_self, List.getElem_cons_zero]
      exact A.other (by show b ≠ q; omega)
  · have hi2 : i < P.length := by simp at hi; omega
    obtain ⟨b2, h1, h2, h3⟩ := h i hi2
    have e1 : (P ++ [r])[i]! = P[i]! := by rw [getElem!_pos _ i hi, getElem!_pos P i hi2, List.getElem_append_left hi2]
    refine ⟨b2, ?_, h2, ?_⟩
    · rw [e1, ← h1]
      by_cases hv2 : i < vs.length
      · rw [getElem!_pos (vs.set j _) i (by simpa using hv2), getElem!_pos vs i hv2, List.getElem_set_ne (fun e2 => e e2.symm)]
      · rw [getElem!_neg (vs.set j _) i (by simpa using hv2), getElem!_neg vs i hv2]
    · rw [e1]
      exact h3.other (by show b2 ≠ q; omega)
theorem RowsA.tr {q : Nat} {P : List (List Bool)} {vs : List Value} {w : World} (h : RowsA q P vs w) (hl : vs.length = P.length) (A : Arr 42 gV q vs w) : TR P (.slice (some ⟨q, 0, none⟩) P.length P.length) w := by
  refine ⟨_, _, vs, rfl, Nat.le_refl _, (fun h => by cases h), hl, .inr ⟨q, 0, rfl, fun j hj c x hx => ?_⟩, fun j hj => ?_⟩
  · match c, hx with
    | 0, hx =>
      simp only [List.getElem?_cons_zero, Option.some.injEq] at hx
      subst hx
      simpa using A.cell hj
    | c + 1, hx => simp at hx
  · obtain ⟨b, h1, _, h3⟩ := h j hj
    rw [h1]
    exact h3.rowc _ rfl
/-- the state of the registers as words -/
structure StW (n : Nl) (l : List (List Bool)) (q j : Nat) (u : Value) (w : World) : Prop where
  all : ∃ (B : Nat) (S : List (BitVec 64)), q < B ∧ S.length = n.flops.length ∧ S.map (bitK 0) = stN n (beginN n) (l.take j) ∧ OwnK B 29 1 encW w u S
theorem StW.below {n : Nl} {l : List (List Bool)} {q j : Nat} {u : Value} {w w' : World} (h : StW n l q j u w) (hb : Below w.heap.size w w') : StW n l q j u w' := by
  obtain ⟨B, S, h1, h2, h3, h4⟩ := h.all
  exact ⟨⟨B, S, h1, h2, h3, h4.below hb⟩⟩
/-- two rows of words -/
def WP (B : Nat) (O N : List (BitVec 64)) : Fa := fun v w => ∃ vo vn, v = .tuple #[vo, vn] ∧ RowOf 1 encW O vo w ∧ OwnK B 29 1 encW w vn N
theorem wp_sta (B : Nat) (O N : List (BitVec 64)) : Sta (WP B O N) := fun v w w' ⟨vo, vn, h1, h2, h3⟩ hb => ⟨vo, vn, h1, h2.below hb, h3.below hb⟩
set_option maxRecDepth 100000 in
set_option maxHeartbeats 16000000 in
theorem runN_any (n : Nl) (v : Value) (l : List (List Bool)) (vt : Value) (sg : SmN n) (hn : l.length ≤ 4000000000) (w : World) (hG : NO n v w) (hT : TR l vt w) : Calls Try.prog 36 #[v, vt] w fun e w' => ∃ vl, e = .returned (.tuple #[vl, .int .i64 (runNE n l)]) ∧ TR (runNR n l) vl w' ∧ Below w.heap.size w w' := by
  have hG0 := hG
  obtain ⟨a, b, c, d0, e, a', b', c', d', e', rfl, hC, hA⟩ := hG.all
  clear hG
  obtain ⟨ad, cpt, ws, rfl, hct, hnt, hwl, RT, hTj⟩ := hT
  go_enter Try.func36, Try.ntmps36
  go_upto_region 1 with fail
  have bel := (Below.refl w.heap.size w).alloc (Nat.le_refl _) (.cells #[.slice a n.ins.length a', .slice b n.outN.length b', .slice c n.flops.length c', .slice d0 n.gates.length d', .slice e n.outs.length e'] 27)
  have X := GX.new w (.slice a n.ins.length a') (.slice b n.outN.length b') (.slice c n.flops.length c') (.slice d0 n.gates.length d') (.slice e n.outs.length e') 27
  generalize w.alloc (.cells #[.slice a n.ins.length a', .slice b n.outN.length b', .slice c n.flops.length c', .slice d0 n.gates.length d', .slice e n.outs.length e'] 27) = W0 at bel X ⊢
  generalize hk : w.heap.size = k at X ⊢
  have HK := Lib.hid hk
  clear hk
  obtain ⟨x0, x1, x2, x3, x4⟩ := id X
  have H0 := Lib.hid (form_any n _ sg W0 (hG0.below bel))
  by_cases hz : faultN n = 0
  rotate_left
  · have HR : Hid (runNE n l = faultN n) := Lib.hid (if_neg hz)
    have HR2 : Hid (runNR n l = []) := Lib.hid (if_neg (by rw [HR.out]; exact hz))
    generalize hf : faultN n = f at H0 hz
    have HFF := Lib.hid hf
    clear hf
    have hz2 : (f == 0) = false := beq_eq_false_iff_ne.2 hz
    go_wp2_with (first | (go_at_call 18; refine H0.out.mono ?_; rintro ee w1 ⟨rfl, hb1⟩))
    go_ret2
    exact ⟨_, by rw [HR.out, HFF.out]; rfl, by rw [HR2.out]; exact TRnil _, bel.trans (hb1.mono bel.size)⟩
  have vg := vn_of hz
  have HR : Hid (runNE n l = tfL l n.ins.length) := Lib.hid (if_pos hz)
  rw [hz] at H0
  clear hz
  go_upto_region 4 with (first | (go_at_call 18; refine H0.out.mono ?_; rintro ee W1 ⟨rfl, hb1⟩))
  have bel1 := bel.trans (hb1.mono bel.size)
  have X1 := X.below hb1
  clear x0 x1 x2 x3 x4 X hb1 bel H0
  by_cases hl64 : 64 < l.length
  · have q1 : (64 : Int) < (l.length : Int) := by omega
    have HE := Lib.hid (show runNE n l = 3 by rw [HR.out]; unfold tfL; rw [if_pos hl64])
    have HR2 : Hid (runNR n l = []) := Lib.hid (if_neg (by rw [HE.out]; decide))
    clear hl64
    go_wp2_with fail
    go_ret2
    exact ⟨_, by rw [HE.out]; rfl, by rw [HR2.out]; exact TRnil _, bel1⟩
  have q1 : ¬ (64 : Int) < (l.length : Int) := by omega
  have HE0 := Lib.hid (show runNE n l = tfR n.ins.length l by rw [HR.out]; unfold tfL; rw [if_neg hl64])
  clear HR
  have HX := Lib.hid (fun W (hb : Below W1.heap.size W1 W) => X1.below hb)
  have HTV := Lib.hid (fun W (hb : Below W1.heap.size W1 W) => RT.below (bel1.trans (hb.mono bel1.size)))
  have HTJ := Lib.hid (fun j (hj : j < l.length) W (hb : Below W1.heap.size W1 W) => (hTj j hj).below (bel1.trans (hb.mono bel1.size)))
  have HG := Lib.hid (fun W (hb : Below W1.heap.size W1 W) => hG0.below (bel1.trans (hb.mono bel1.size)))
  have HBEL := Lib.hid bel1
  have HWL := Lib.hid hwl
  clear hA hG0 hC RT hTj X1 bel1 hwl
  go_upto_block 0 with fail
  go_wp2_with fail
  go_loopw [25] (fun i wr => ∃ j : Nat, j ≤ l.length ∧ i = .int .i64 (j : Int) ∧ Hid (tfR n.ins.length l = tfR n.ins.length (l.drop j)) ∧ wr = W1) (fun i _ => l.length - (intOf i).toNat)
  case atStart => exact ⟨0, Nat.zero_le _, rfl, Lib.hid rfl, rfl⟩
  case round =>
    obtain ⟨j, hj, rfl, hE, hww⟩ := hrel
    have hw2 := hww.symm
    clear hww
    subst hw2
    have hj0 : (0 : Int) ≤ (j : Int) := by omega
    by_cases hlt : j < l.length
    · have hji : (j : Int) < (l.length : Int) := by omega
      obtain ⟨bb, oo, hdd, hcell⟩ := (HTV.out W1 (Below.refl _ _)).pick (by rw [HWL.out]; omega)
      subst hdd
      have c0 := hcell j (by rw [HWL.out]; exact hlt) 0 _ rfl
      simp only [Nat.mul_one, Nat.add_zero] at c0
      obtain ⟨ad2, cp2, hv2, _, _, _⟩ := HTJ.out j hlt W1 (Below.refl _ _)
      rw [hv2] at c0
      have HQ := Lib.hid (show tfR n.ins.length l = if l[j]!.length = n.ins.length then tfR n.ins.length (l.drop (j + 1)) else 20 by rw [hE.out, drop_get l hlt]; rfl)
      clear hcell hv2 hE
      generalize l[j]!.length = nn at c0 HQ
      obtain ⟨x0, x1, x2, x3, x4⟩ := HX.out W1 (Below.refl _ _)
      by_cases p1 : nn = n.ins.length
      · have q5 : ((nn : Int) == (n.ins.length : Int)) = true := beq_iff_eq.2 (by omega)
        have q6 : ((nn : Int) != (n.ins.length : Int)) = false := by simp [bne, q5]
        rw [if_pos p1] at HQ
        clear p1
        go_wp2_with fail
        go_roundw
        case rel => exact ⟨j + 1, by omega, by go_num, HQ, by first | rfl | trivial⟩
        all_goals first | done | (simp [intOf]; done) | (simp [intOf]; omega)
      · have q5 : ((nn : Int) == (n.ins.length : Int)) = false := beq_eq_false_iff_ne.2 (by omega)
        have q6 : ¬ (nn : Int) = (n.ins.length : Int) := by omega
        have HE := Lib.hid (show runNE n l = 20 by rw [HE0.out, HQ.out, if_neg p1])
        have HR2 : Hid (runNR n l = []) := Lib.hid (if_neg (by rw [HE.out]; decide))
        clear p1
        go_wp2_with fail
        go_ret2
        exact ⟨_, by rw [HE.out]; rfl, by rw [HR2.out]; exact TRnil _, HBEL.out⟩
    · have hji : ¬ (j : Int) < (l.length : Int) := by omega
      have htf : tfR n.ins.length l = 0 := by rw [hE.out, List.drop_of_length_le (by omega)]; rfl
      have HE := Lib.hid (HE0.out.trans htf)
      have HRW := Lib.hid (rows_same htf)
      have HR2 : Hid (runNR n l = playN n (beginN n) l) := Lib.hid (if_pos HE.out)
      clear hE htf HE0
      have hl64' : l.length ≤ 64 := by omega
      have hmk := fun W => mkSb W l.length l.length (Nat.le_refl _) (by omega)
      go_upto_region 13 with fail
      have A0 : Arr 42 gV W1.heap.size (List.replicate l.length (.slice none 0 0)) (W1.alloc (.cells (madeCells #[.slice none 0 0] l.length) 42)) := Arr.made (f := gV) W1 _ (.slice none 0 0) _
      have bA := (Below.refl W1.heap.size W1).alloc (Nat.le_refl _) (.cells (madeCells #[.slice none 0 0] l.length) 42)
      clear hmk
      generalize W1.alloc (.cells (madeCells #[.slice none 0 0] l.length) 42) = W2 at A0 bA ⊢
      obtain ⟨x0, x1, x2, x3, x4⟩ := HX.out _ bA
      have H1 := Lib.hid (initN_any n _ W2 sg (HG.out _ bA))
      have hq2 := A0.lt
      have hrg := vg.flops
      have hbl : (beginN n).length = n.flops.length := by simp [beginN]
      have H2 := Lib.hid (fun q W (hA : Arr 4 (fun b => Value.bool b) q (beginN n) W) => lanes_any (beginN n) _ W (by omega) (hA.rowc n.flops.length hbl))
      rw [hbl] at H2
      go_upto_block 2 with (first | (go_at_call 37; refine H1.out.mono ?_; rintro ee W3 ⟨q3, rfl, A3, hq3, hb3⟩) | (go_at_call 90; refine (H2.out _ _ A3).mono ?_; rintro ee W4 ⟨q4, rfl, A4, hq4, hb4⟩))
      have b24 := hb3.trans (hb4.mono hb3.size)
      have A5 := A0.below b24
      have B5 := bA.trans (b24.mono bA.size)
      have S0 : StW n l W1.heap.size 0 (.slice (some ⟨q4, 0, none⟩) n.flops.length n.flops.length) W4 := by
        refine ⟨⟨q4, laneW (beginN n), by have := hb3.size; omega, by rw [laneW_len]; exact hbl, laneW_0 _, ?_⟩⟩
        have A6 : Arr 29 (fun b : BitVec 64 => Value.int .u64 (U b)) q4 (laneW (beginN n)) W4 := ⟨by
          rw [A4.blk, ← laneW_U, List.map_map]; rfl⟩
        have := A6.ownK (Nat.le_refl q4) (by rw [laneW_len, hbl]; unfold maxLen; omega)
        rwa [laneW_len, hbl] at this
      have R0 : RowsA W1.heap.size (playN n (beginN n) (l.take 0)) (List.replicate l.length (.slice none 0 0)) W4 := fun i hi => by simp [playN] at hi
      have HRL : Hid ((List.replicate l.length (Value.slice none 0 0)).length = l.length) := Lib.hid (by simp)
      clear A0 bA x0 x1 x2 x3 x4 H1 H2 A3 A4 hb3 hb4 b24 hq3 hq4
      generalize (List.replicate l.length (Value.slice none 0 0)) = vs0 at A5 R0 HRL
      have hq6 := A5.lt
      have HAN := vg.gates
      have HON : n.outs.length ≤ 128 := by have := vg.same; have := vg.outN; omega
      go_wp2_with fail
      go_loopw [10, 44] (fun u i wr => ∃ j : Nat, j ≤ l.length ∧ i = .int .i64 (j : Int) ∧ Hid (StW n l W1.heap.size j u wr) ∧ Hid (∃ vs : List Value, vs.length = l.length ∧ Arr 42 gV W1.heap.size vs wr ∧ RowsA W1.heap.size (playN n (beginN n) (l.take j)) vs wr) ∧ Hid (Below W1.heap.size W1 wr)) (fun _ i _ => l.length - (intOf i).toNat)
      case atStart => exact ⟨0, Nat.zero_le _, rfl, Lib.hid S0, Lib.hid ⟨vs0, HRL.out, A5, R0⟩, Lib.hid B5⟩
      case round =>
        clear S0 A5 R0 HRL B5 hq6
        obtain ⟨j, hj, rfl, hS, hV, hB⟩ := hrel
        rename World => WR
        have hj0 : (0 : Int) ≤ (j : Int) := by omega
        obtain ⟨vs, hvl, A1, RA⟩ := hV.out
        have HVL := Lib.hid hvl
        have B1 := hB.out
        clear hV hvl hB
        by_cases hlt : j < l.length
        · have hji : (j : Int) < (l.length : Int) := by omega
          obtain ⟨B, S, hqB, hSl, hS0, OS⟩ := hS.out.all
          obtain ⟨bb, oo, hdd, hcell⟩ := (HTV.out WR B1).pick (by rw [HWL.out]; omega)
          subst hdd
          have c0 := hcell j (by rw [HWL.out]; exact hlt) 0 _ rfl
          simp only [Nat.mul_one, Nat.add_zero] at c0
          have RJ := HTJ.out j hlt WR B1
          have hrl := HRW.out _ (mem1 l hlt)
          have HTK := Lib.hid (tk1 l hlt)
          have HPL := Lib.hid (show playN n (beginN n) (l.take (j + 1)) = playN n (beginN n) (l.take j) ++ [showN n l[j]! (stN n (beginN n) (l.take j))] by rw [tk1 l hlt, playN_snoc])
          have HSL := Lib.hid (show stN n (beginN n) (l.take (j + 1)) = stepN n l[j]! (stN n (beginN n) (l.take j)) by rw [tk1 l hlt, stN_snoc])
          clear hcell hS
          generalize l[j]! = r at RJ hrl HPL HSL
          generalize ws[j]! = vr at c0 RJ
          have h1r : (laneW r).length = n.ins.length := by rw [laneW_len]; exact hrl
          have HO := Lib.hid (out_bit n vg (laneW r) S h1r hSl 0 (by decide))
          have HN := Lib.hid (next_bit n vg (laneW r) S h1r hSl 0 (by decide))
          rw [laneW_0, hS0] at HO HN
          have hvl2 := wordsN_len n (laneW r) S h1r hSl
          have HNL := Lib.hid (show (nextW n (wordsN n (laneW r) S) S n.flops.length).length = n.flops.length by unfold nextW; simp)
          have HOL := Lib.hid (show (pickL (wordsN n (laneW r) S) n.outs).length ≤ 128 by unfold pickL; simp; omega)
          have RS := OS.rC
          have hri := vg.ins
          go_upto_region 17 with fail
          have C1 := Lib.hid (fun W (hb : Below WR.heap.size WR W) => lanesF_any r _ W (by omega) (RJ.below hb))
          have C2 := Lib.hid (fun u W (hb : Below WR.heap.size WR W) (q1 : RowC (fun b => Value.int .u64 (U b)) (laneW r) u W) => (nvalues_any n _ (laneW r) S u _ vg sg h1r hSl W (HG.out _ (B1.trans (hb.mono B1.size))) q1 (RS.below hb)).mono fun ee w' ⟨u, q1, q2, q3⟩ => (⟨u, q1, q2.row lenW1, q3⟩ : ∃ u, ee = Ending.returned u ∧ RowOf 1 encW (wordsN n (laneW r) S) u w' ∧ Below W.heap.size W w'))
          generalize wordsN n (laneW r) S = V at C2 HO HN hvl2 HNL HOL
          have C3 := Lib.hid (fun u W (hb : Below WR.heap.size WR W) (q1 : RowOf 1 encW V u W) => (sampledO_any n _ V S u _ vg hvl2 hSl W (HG.out _ (B1.trans (hb.mono B1.size))) q1 (RS.below hb).row).mono fun ee w' ⟨vo, vn, q1, q2, q3, q4⟩ => (⟨_, q1, ⟨vo, vn, rfl, q2.row, q3.mono1 hb.size⟩, q4⟩ : ∃ u, ee = Ending.returned u ∧ WP WR.heap.size (pickL V n.outs) (nextW n V S n.flops.length) u w' ∧ Below W.heap.size W w'))
          obtain ⟨x0, x1, x2, x3, x4⟩ := HX.out _ B1
          generalize pickL V n.outs = O at C3 HO HOL
          generalize nextW n V S n.flops.length = N at C3 HN HNL
          generalize laneW r = LR at C1 C2
          have HBR := Lib.hid (fun d os => below_regrown WR d os)
          have g0 := cell_regrown x0
          have g1 := cell_regrown x1
          have g2 := cell_regrown x2
          have g3 := cell_regrown x3
          have g4 := cell_regrown x4
          have hwr1 := B1.size
          have hqw : W1.heap.size < WR.heap.size := A1.lt
          clear x0 x1 x2 x3 x4 c0 hvl2 h1r hrl hSl hS0 RJ RS OS
          refine wp_region_rel 13 (by kernel_rfl) (by kernel_rfl) ?_
          simp only [List.take_succ_cons, List.take_zero, List.drop_succ_cons, List.drop_zero]
          (refine rel_fix0 (fun K hK => ?_); go_simp; refine hK _ ?_; clear hK K)
          (refine rel_fix0 (fun K hK => ?_); go_simp; refine hK _ ?_; clear hK K)
          (refine rel_fix0 (fun K hK => ?_); go_simp; refine hK _ ?_; clear hK K)
          refine rel_fact [] (RowC (fun b => Value.int .u64 (U b)) LR) 53 rfl (by simp [Act.put]) (rowc_sta _ _) (by rfl) (by kernel_rfl) (by kernel_rfl) ?_ ?_
          · intro d os
            simp only [relAll]
            go_simp
            exact ret_fact (C1.out _ (HBR.out _ _))
          (refine rel_fix (by kernel_rfl) (by kernel_rfl) (fun K hK => ?_); go_simp; refine hK _ ?_; clear hK K)
          refine rel_fact [(53, _)] (RowOf 1 encW V) 55 rfl (by simp [Act.put]) (rowof_sta _ _ _) (by rfl) (by kernel_rfl) (by kernel_rfl) ?_ ?_
          · intro d os
            simp only [relAll]
            rintro u1 r1
            go_simp
            exact ret_fact (C2.out _ _ (HBR.out _ _) r1)
          (refine rel_fix (by kernel_rfl) (by kernel_rfl) (fun K hK => ?_); go_simp; refine hK _ ?_; clear hK K)
          refine rel_fact [(55, _)] (WP WR.heap.size O N) 57 rfl (by simp [Act.put]) (wp_sta _ _ _) (by rfl) (by kernel_rfl) (by kernel_rfl) ?_ ?_
          · intro d os
            simp only [relAll]
            rintro u1 r1
            go_simp
            exact ret_fact (C3.out _ _ (HBR.out _ _) r1)
          refine rel_fact [(57, _)] (WP WR.heap.size O N) 49 rfl (by simp [Act.put]) (wp_sta _ _ _) (by rfl) (by kernel_rfl) (by kernel_rfl) ?_ ?_
          · intro d os
            simp only [relAll]
            rintro u1 r1
            go_simp
            all_goals exact ⟨r1, Below.refl _ _⟩
          refine rel_fact [(49, _)] (RowOf 1 encW O) 58 rfl (by simp [Act.put]) (rowof_sta _ _ _) (by rfl) (by kernel_rfl) (by kernel_rfl) ?_ ?_
          · intro d os
            simp only [relAll]
            rintro u1 ⟨ga, gb, rfl, q1, q2⟩
            go_simp
            all_goals exact ⟨q1, Below.refl _ _⟩
          refine rel_fact [(49, _)] (fun v w => OwnK WR.heap.size 29 1 encW w v N) 59 rfl (by simp [Act.put]) (ownk_sta _ _ _ _ _) (by rfl) (by kernel_rfl) (by kernel_rfl) ?_ ?_
          · intro d os
            simp only [relAll]
            rintro u1 ⟨ga, gb, rfl, q1, q2⟩
            go_simp
            all_goals exact ⟨q2, Below.refl _ _⟩
          refine rel_fact [(58, _)] (RowOf 1 encW O) 13 rfl (by simp [Act.put]) (rowof_sta _ _ _) (by rfl) (by kernel_rfl) (by kernel_rfl) ?_ ?_
          · intro d os
            simp only [relAll]
            rintro u1 r1
            go_simp
            all_goals exact ⟨r1, Below.refl _ _⟩
          refine rel_fact [(59, _)] (fun v w => OwnK WR.heap.size 29 1 encW w v N) 14 rfl (by simp [Act.put]) (ownk_sta _ _ _ _ _) (by rfl) (by kernel_rfl) (by kernel_rfl) ?_ ?_
          · intro d os
            simp only [relAll]
            rintro u1 r1
            go_simp
            all_goals exact ⟨r1, Below.refl _ _⟩
          refine rel_nil ?_
          intro d os
          simp only [relAll]
          rintro v14 r14 v13 r13 v59 - v58 - v49 - v57 - v55 - v53 -
          have hb5 := HBR.out d os
          have R13 := r13
          have R14 := r14
          have A6 := A1.below hb5
          have RA6 := RA.below hb5
          have B6 := B1.trans (hb5.mono B1.size)
          have hs6 := hb5.size
          clear g0 g1 g2 g3 g4 HBR C1 C2 C3 r13 r14 hb5 A1 RA B1
          generalize grow (redrawn WR d) os = W6 at R13 R14 A6 RA6 B6 hs6 ⊢
          have D1 := Lib.hid (laneF_any O v13 W6 (by have := HOL.out; omega) R13)
          have hjv : j < vs.length := by rw [HVL.out]; exact hlt
          clear R13
          go_wp2_with (first | (go_at_call 91; refine D1.out.mono ?_; rintro ee W7 ⟨q7, rfl, A7, hq7, hb7⟩; have A8 := A6.below hb7; have f8 := A8.free j; have a8 := A8.cell hjv; have hl8 := A8.lt))
          have hqq : W1.heap.size < q7 := by omega
          have RA8 := (RA6.below hb7).set j (by rw [playN_len]; simp; omega) hjv hqq A7
          rw [List.length_map] at RA8
          have HA9 := Lib.hid (A8.set j (.slice (some ⟨q7, 0, none⟩) O.length O.length))
          have HRA9 := Lib.hid (show RowsA W1.heap.size (playN n (beginN n) (l.take (j + 1))) (vs.set j (.slice (some ⟨q7, 0, none⟩) O.length O.length)) (W7.setCell ⟨W1.heap.size, j, none⟩ (.slice (some ⟨q7, 0, none⟩) O.length O.length)) by rw [HPL.out, ← HO.out]; exact RA8)
          have HS9 := Lib.hid (show StW n l W1.heap.size (j + 1) v14 (W7.setCell ⟨W1.heap.size, j, none⟩ (.slice (some ⟨q7, 0, none⟩) O.length O.length)) from ⟨⟨WR.heap.size, N, hqw, HNL.out, by rw [HSL.out, HN.out], (R14.below hb7).set ⟨W1.heap.size, j, none⟩ _ hqw⟩⟩)
          have HB9 := Lib.hid ((B6.trans (hb7.mono B6.size)).setCell (p := ⟨W1.heap.size, j, none⟩) (Nat.le_refl _) (.slice (some ⟨q7, 0, none⟩) O.length O.length))
          have HVS := Lib.hid (show (vs.set j (.slice (some ⟨q7, 0, none⟩) O.length O.length)).length = l.length by rw [List.length_set]; exact HVL.out)
          clear a8 f8 A8 A7 A6 RA6 RA8 B6 R14 hb7 hl8
          first | go_roundw | (go_wp2_with fail; go_roundw)
          case rel => exact ⟨j + 1, by omega, by go_num, HS9, Lib.hid ⟨_, HVS.out, HA9.out, HRA9.out⟩, HB9⟩
          all_goals first | done | (simp [intOf]; done) | (simp [intOf]; omega)
        · have hji : ¬ (j : Int) < (l.length : Int) := by omega
          have hT := RA.tr (by rw [HVL.out, playN_len]; simp; omega) A1
          rw [List.take_of_length_le (by omega), playN_len, ← HR2.out] at hT
          have HTT := Lib.hid hT
          have HB9 := Lib.hid (HBEL.out.trans (B1.mono HBEL.out.size))
          clear hT RA A1 B1 hS
          go_wp2_with fail
          go_ret2
          exact ⟨_, by rw [HE.out]; rfl, HTT.out, HB9.out⟩
end Go.Proofs.Ytimojbjamfckmaa
