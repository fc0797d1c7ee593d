/- A message as a value, the order of messages, and note.Cmp. No condition. -/
import Derived.Test.YtmememehlfbgaaaDoorRelsK
import Derived.Test.YtmememehlfbgaaaDoorBase
import Derived.Test.YtmememehlfbgaaaDoorShelf
import Derived.Deep.CutBlock
import Derived.Deep.DeepCutAuto
import Derived.LoopTactic
namespace Go.Proofs.YtmememehlfbgaaaDoor
open Go Go.RowKit Rels Go.Sort
set_option linter.unusedVariables false
/-- a message -/
structure Nt where
  f : ByteArray
  l : Int
  c : Int
  e : Int
  t : ByteArray
instance : Inhabited Nt := ⟨⟨⟨#[]⟩, 0, 0, 0, ⟨#[]⟩⟩⟩
/-- its five cells -/
def encN (x : Nt) : List Value := [.string x.f, .int .i64 x.l, .int .i64 x.c, .int .i64 x.e, .string x.t]
/-- the first of some numbers that is not 0 -/
def orL : List Int → Int
  | [] => 0
  | a :: r => if a = 0 then orL r else a
def cmpL (x y : Nt) : List Int := [Lib.compareBytes x.f.data.toList y.f.data.toList, Lib.compareInt x.l y.l, Lib.compareInt x.c y.c, Lib.compareInt x.e y.e, Lib.compareBytes x.t.data.toList y.t.data.toList]
def cmpN (x y : Nt) : Int := orL (cmpL x y)
/-- the memory has only grown, and the count of draws only gone on -/
def GQ (w w' : World) : Prop := ∃ q os, w' = grow (w.drewN q) os
theorem gq_refl (w : World) : GQ w w := ⟨0, #[], by rw [grow_empty]; rfl⟩
theorem gq_trans {a b c : World} (h : GQ a b) (k : GQ b c) : GQ a c := by
  obtain ⟨q, os, rfl⟩ := h
  obtain ⟨q', os', rfl⟩ := k
  refine ⟨q + q', os ++ os', ?_⟩
  rw [← grow_grow, show (grow (a.drewN q) os).drewN q' = grow ((a.drewN q).drewN q') os from rfl, World.drewN_drewN]
theorem gq_alloc (w : World) (o : Obj) : GQ w (w.alloc o) := ⟨0, #[o], alloc_eq_grow w o⟩
theorem gq_below {w w' : World} (h : GQ w w') : Below w.heap.size w w' := by
  obtain ⟨q, os, rfl⟩ := h
  exact ⟨rfl, rfl, rfl, by simp [grow, World.drewN], fun k hk => by simp [grow, World.drewN, Array.getElem?_append_left hk]⟩
theorem sysQ : Rels.Sys GQ (fun _ _ => True) := ⟨gq_refl, gq_trans, fun a => ⟨1, #[], by rw [grow_empty]; rfl⟩, fun _ _ => trivial, fun h => (gq_below h).size, fun _ => trivial⟩
theorem gq_cell {w W : World} (hg : GQ w W) {p o : Nat} {v : Value} (h : w.cell? ⟨p, o, none⟩ = some v) : W.cell? ⟨p, o, none⟩ = some v :=
  ((gq_below hg).cell (p := ⟨p, o, none⟩) (World.block_lt_of_cell? w _ h)).trans h
/-- how a call of known value that leaves the memory alone is done -/
def stillCall (P : Program) (o : Oper) (a : Act) (w : World) (v : Value) : Prop :=
  match (execOp a.eval o).run P w with
  | .ok (.enter f args) w' => w' = w ∧ Calls P f args w fun e w' => e = .returned v ∧ w' = w
  | _ => False
theorem rel_kc {G : World → World → Prop} {J : Nat → World → Prop} {N : Nat} {P : Program} {ops : Array Oper} {w : World} {Q : Act → World → Prop} {E : En} {a : Act} {o : Oper} {l : List Oper} (S : Rels.Sys G J) (hE : lookE ops o E = []) (hg : guardFree ops o E = true) (hw : Region.wanted o (yielded ops a.tmps) = true) (hA : isA o = false)
    (h : ∃ v, (∀ W, G w W → stillCall P o a W v) ∧ ∀ K : Act → Prop, (∀ a, Rels.wpRel G J N P ops w Q l E a → K a) → K (a.put o.dst v)) : Rels.wpRel G J N P ops w Q (o :: l) E a := by
  obtain ⟨v, h1, h2⟩ := h
  refine Rels.rel_use [] v hE hg hw (fun W i h3 h4 h5 => ?_) (h2 _ fun _ h => h)
  have h6 := h1 W h4
  unfold stillCall at h6
  show Rels.relAt _ _ _ _ _ _ _ _
  unfold Rels.relAt
  generalize (execOp a.eval o).run P W = r at h6 ⊢
  cases r with
  | halt x w' => exact h6
  | ok nx w' =>
    cases nx with
    | enter f args => exact ⟨h6.1, hA, h6.2.mono fun e w'' ⟨he, hb⟩ => by subst hb; exact ⟨v, he, rfl, S.refl _, S.mono h5 (Nat.le_succ i)⟩⟩
    | _ => exact h6.elim
attribute [go_sem] stillCall
set_option maxHeartbeats 1000000 in
theorem cmpINaN (x : Int) (w : World) : Calls Tryd.prog 75 #[.int .i64 x] w fun e w' => e = .returned (.bool false) ∧ w' = w := by
  go_enter Tryd.func75, Tryd.ntmps75
  go_wp2_with fail
  go_ret
  exact ⟨by simp, rfl⟩
set_option maxHeartbeats 1000000 in
theorem cmpI_ok (x y : Int) (w : World) : Calls Tryd.prog 39 #[.int .i64 x, .int .i64 y] w fun e w' => e = .returned (.int .i64 (Lib.compareInt x y)) ∧ w' = w := by
  have HR : Hid (Lib.compareInt x y = if x < y then -1 else if x > y then 1 else 0) := rfl
  generalize Lib.compareInt x y = r at HR ⊢
  by_cases h1 : x < y
  · replace HR : Hid (r = -1) := HR.out.trans (if_pos h1)
    go_enter Tryd.func39, Tryd.ntmps39
    go_wp2_with fail
    refine (cmpINaN x _).mono ?_
    rintro e w' ⟨rfl, rfl⟩
    go_wp2_with fail
    refine (cmpINaN y _).mono ?_
    rintro e w' ⟨rfl, rfl⟩
    go_wp2_with fail
    go_ret
    exact ⟨by rw [HR.out]; rfl, rfl⟩
  by_cases h2 : x > y
  · replace HR : Hid (r = 1) := HR.out.trans ((if_neg h1).trans (if_pos h2))
    have h3 : y < x := h2
    go_enter Tryd.func39, Tryd.ntmps39
    go_wp2_with fail
    refine (cmpINaN x _).mono ?_
    rintro e w' ⟨rfl, rfl⟩
    go_wp2_with fail
    refine (cmpINaN y _).mono ?_
    rintro e w' ⟨rfl, rfl⟩
    go_wp2_with fail
    go_ret
    exact ⟨by rw [HR.out]; rfl, rfl⟩
  replace HR : Hid (r = 0) := HR.out.trans ((if_neg h1).trans (if_neg h2))
  have h3 : ¬ y < x := h2
  go_enter Tryd.func39, Tryd.ntmps39
  go_wp2_with fail
  refine (cmpINaN x _).mono ?_
  rintro e w' ⟨rfl, rfl⟩
  go_wp2_with fail
  refine (cmpINaN y _).mono ?_
  rintro e w' ⟨rfl, rfl⟩
  go_wp2_with fail
  go_ret
  exact ⟨by rw [HR.out]; rfl, rfl⟩
set_option maxHeartbeats 1000000 in
theorem cmpENaN (x : Int) (w : World) : Calls Tryd.prog 76 #[.int .i64 x] w fun e w' => e = .returned (.bool false) ∧ w' = w := by
  go_enter Tryd.func76, Tryd.ntmps76
  go_wp2_with fail
  go_ret
  exact ⟨by simp, rfl⟩
set_option maxHeartbeats 1000000 in
theorem cmpE_ok (x y : Int) (w : World) : Calls Tryd.prog 40 #[.int .i64 x, .int .i64 y] w fun e w' => e = .returned (.int .i64 (Lib.compareInt x y)) ∧ w' = w := by
  have HR : Hid (Lib.compareInt x y = if x < y then -1 else if x > y then 1 else 0) := rfl
  generalize Lib.compareInt x y = r at HR ⊢
  by_cases h1 : x < y
  · replace HR : Hid (r = -1) := HR.out.trans (if_pos h1)
    go_enter Tryd.func40, Tryd.ntmps40
    go_wp2_with fail
    refine (cmpENaN x _).mono ?_
    rintro e w' ⟨rfl, rfl⟩
    go_wp2_with fail
    refine (cmpENaN y _).mono ?_
    rintro e w' ⟨rfl, rfl⟩
    go_wp2_with fail
    go_ret
    exact ⟨by rw [HR.out]; rfl, rfl⟩
  by_cases h2 : x > y
  · replace HR : Hid (r = 1) := HR.out.trans ((if_neg h1).trans (if_pos h2))
    have h3 : y < x := h2
    go_enter Tryd.func40, Tryd.ntmps40
    go_wp2_with fail
    refine (cmpENaN x _).mono ?_
    rintro e w' ⟨rfl, rfl⟩
    go_wp2_with fail
    refine (cmpENaN y _).mono ?_
    rintro e w' ⟨rfl, rfl⟩
    go_wp2_with fail
    go_ret
    exact ⟨by rw [HR.out]; rfl, rfl⟩
  replace HR : Hid (r = 0) := HR.out.trans ((if_neg h1).trans (if_neg h2))
  have h3 : ¬ y < x := h2
  go_enter Tryd.func40, Tryd.ntmps40
  go_wp2_with fail
  refine (cmpENaN x _).mono ?_
  rintro e w' ⟨rfl, rfl⟩
  go_wp2_with fail
  refine (cmpENaN y _).mono ?_
  rintro e w' ⟨rfl, rfl⟩
  go_wp2_with fail
  go_ret
  exact ⟨by rw [HR.out]; rfl, rfl⟩
/-- a new row of five numbers -/
def Row5 (v0 v1 v2 v3 v4 : Int) : Fa := fun v w => ∃ b, v = .slice (some ⟨b, 0, none⟩) 5 5 ∧ w.cell? ⟨b, 0, none⟩ = some (.int .i64 v0) ∧ w.cell? ⟨b, 1, none⟩ = some (.int .i64 v1) ∧ w.cell? ⟨b, 2, none⟩ = some (.int .i64 v2) ∧ w.cell? ⟨b, 3, none⟩ = some (.int .i64 v3) ∧ w.cell? ⟨b, 4, none⟩ = some (.int .i64 v4)
theorem row5_sta (v0 v1 v2 v3 v4 : Int) : Rels.Sta GQ (Row5 v0 v1 v2 v3 v4) := fun v w w' ⟨b, h, h0, h1, h2, h3, h4⟩ hg => ⟨b, h, gq_cell hg h0, gq_cell hg h1, gq_cell hg h2, gq_cell hg h3, gq_cell hg h4⟩
theorem orL_drop (L : List Int) : ∀ k, (∀ j, j < k → L.getD j 0 = 0) → orL (L.drop k) = orL L
  | 0, _ => by simp
  | k + 1, h => by
    rw [← orL_drop L k fun j hj => h j (by omega)]
    rcases Nat.lt_or_ge k L.length with hk | hk
    · rw [List.drop_eq_getElem_cons hk]
      have := h k (by omega)
      rw [List.getD_eq_getElem?_getD, List.getElem?_eq_getElem hk] at this
      replace this : L[k] = 0 := this
      show orL (L.drop (k + 1)) = if L[k] = 0 then _ else _
      rw [if_pos this]
    · rw [List.drop_eq_nil_of_le hk, List.drop_eq_nil_of_le (by omega)]
set_option maxRecDepth 100000 in
set_option maxHeartbeats 1000000 in
theorem or_ok (L : List Int) (hL : L.length = 5) (b : Nat) (w : World) (hc : ∀ j, j < 5 → w.cell? ⟨b, j, none⟩ = some (.int .i64 (L.getD j 0))) :
    Calls Tryd.prog 37 #[.slice (some ⟨b, 0, none⟩) 5 5] w fun e w' => e = .returned (.int .i64 (orL L)) ∧ w' = w := by
  go_enter Tryd.func37, Tryd.ntmps37
  go_wp2_with fail
  go_loopw [8] (fun i wr => ∃ k : Nat, k ≤ 5 ∧ i = .int .i64 k ∧ Hid (∀ j, j < k → L.getD j 0 = 0) ∧ wr = w) (fun i _ => 5 - (intOf i).toNat)
  case atStart => exact ⟨0, by omega, rfl, fun j hj => absurd hj (by omega), rfl⟩
  case round =>
    obtain ⟨k, hk, rfl, hz, rfl⟩ := hrel
    by_cases hlt : k < 5
    · have c0 := hc k hlt
      obtain ⟨v, hv⟩ : ∃ v, L.getD k 0 = v := ⟨_, rfl⟩
      rw [hv] at c0
      have HV := Lib.hid hv
      clear hv hc hk
      by_cases v0 : v = 0
      · subst v0
        go_wp2_with fail
        exact ⟨⟨k + 1, by omega, by go_num, fun j hj => by
          rcases Nat.lt_or_ge j k with h | h
          · exact hz.out j h
          · obtain rfl : j = k := by omega
            exact HV.out, by first | rfl | trivial⟩, by simp [intOf]; omega⟩
      · go_wp2_with fail
        go_ret
        have hk5 : k < L.length := by omega
        have e1 : L[k] = v := by have := HV.out; rw [List.getD_eq_getElem?_getD, List.getElem?_eq_getElem hk5] at this; exact this
        have e2 : orL L = v := by
          rw [← orL_drop L k hz.out, List.drop_eq_getElem_cons hk5]
          show (if L[k] = 0 then _ else _) = v
          rw [e1, if_neg v0]
        exact ⟨by rw [e2]; rfl, rfl⟩
    · obtain rfl : k = 5 := by omega
      clear hc
      go_wp2_with fail
      go_ret
      refine ⟨?_, rfl⟩
      rw [← orL_drop L 5 hz.out, List.drop_eq_nil_of_le (by omega)]; rfl
set_option maxRecDepth 100000 in
set_option maxHeartbeats 2000000 in
theorem cmp_ok (x y : Nt) (w : World) : Calls Tryd.prog 13 #[.agg (encN x).toArray, .agg (encN y).toArray] w fun e w' => e = .returned (.int .i64 (cmpN x y)) ∧ GQ w w' := by
  obtain ⟨xf, xl, xc, xe, xt⟩ := x
  obtain ⟨yf, yl, yc, ye, yt⟩ := y
  show Calls Tryd.prog 13 #[.agg #[.string xf, .int .i64 xl, .int .i64 xc, .int .i64 xe, .string xt], .agg #[.string yf, .int .i64 yl, .int .i64 yc, .int .i64 ye, .string yt]] w _
  have HR : Hid (cmpN ⟨xf, xl, xc, xe, xt⟩ ⟨yf, yl, yc, ye, yt⟩ = orL [Lib.compareBytes xf.data.toList yf.data.toList, Lib.compareInt xl yl, Lib.compareInt xc yc, Lib.compareInt xe ye, Lib.compareBytes xt.data.toList yt.data.toList]) := rfl
  generalize cmpN ⟨xf, xl, xc, xe, xt⟩ ⟨yf, yl, yc, ye, yt⟩ = r at HR ⊢
  go_enter Tryd.func13, Tryd.ntmps13
  go_upto_region 1 with fail
  obtain ⟨W1, hW1⟩ : ∃ W1, W1 = ((w.alloc (Obj.cells #[Value.string xf, Value.int IntKind.i64 xl, Value.int IntKind.i64 xc, Value.int IntKind.i64 xe, Value.string xt] 35)).alloc (Obj.cells #[Value.string yf, Value.int IntKind.i64 yl, Value.int IntKind.i64 yc, Value.int IntKind.i64 ye, Value.string yt] 35)) := ⟨_, rfl⟩
  rw [← hW1]
  have h01 : GQ w W1 := by rw [hW1]; exact gq_trans (gq_alloc _ _) (gq_alloc _ _)
  have a0 : W1.cell? ⟨w.heap.size, 0, none⟩ = some (.string xf) := by rw [hW1]; go_simp
  have b0 : W1.cell? ⟨w.heap.size + 1, 0, none⟩ = some (.string yf) := by rw [hW1]; go_simp
  have a1 : W1.cell? ⟨w.heap.size, 1, none⟩ = some (.int .i64 xl) := by rw [hW1]; go_simp
  have b1 : W1.cell? ⟨w.heap.size + 1, 1, none⟩ = some (.int .i64 yl) := by rw [hW1]; go_simp
  have a2 : W1.cell? ⟨w.heap.size, 2, none⟩ = some (.int .i64 xc) := by rw [hW1]; go_simp
  have b2 : W1.cell? ⟨w.heap.size + 1, 2, none⟩ = some (.int .i64 yc) := by rw [hW1]; go_simp
  have a3 : W1.cell? ⟨w.heap.size, 3, none⟩ = some (.int .i64 xe) := by rw [hW1]; go_simp
  have b3 : W1.cell? ⟨w.heap.size + 1, 3, none⟩ = some (.int .i64 ye) := by rw [hW1]; go_simp
  have a4 : W1.cell? ⟨w.heap.size, 4, none⟩ = some (.string xt) := by rw [hW1]; go_simp
  have b4 : W1.cell? ⟨w.heap.size + 1, 4, none⟩ = some (.string yt) := by rw [hW1]; go_simp
  clear hW1
  have SS := sysQ
  refine wp_region_rels SS 28 (Nat.le_refl _) trivial (by kernel_rfl) (by kernel_rfl) ?_
  simp only [List.take_succ_cons, List.take_zero, List.drop_succ_cons, List.drop_zero]
  refine rel_q SS (by kernel_rfl) (by kernel_rfl) (by kernel_rfl) rfl ?_
  apply Exists.intro
  refine ⟨fun W hg => ?_, fun K hK => ?_⟩
  · go_simp
    all_goals first | done | exact rfl | skip
  go_simp
  refine hK _ ?_
  clear hK K
  refine rel_q SS (by kernel_rfl) (by kernel_rfl) (by kernel_rfl) rfl ?_
  apply Exists.intro
  refine ⟨fun W hg => ?_, fun K hK => ?_⟩
  · have y := gq_cell hg a0; go_simp
    all_goals first | done | exact rfl | skip
  go_simp
  refine hK _ ?_
  clear hK K
  refine rel_q SS (by kernel_rfl) (by kernel_rfl) (by kernel_rfl) rfl ?_
  apply Exists.intro
  refine ⟨fun W hg => ?_, fun K hK => ?_⟩
  · go_simp
    all_goals first | done | exact rfl | skip
  go_simp
  refine hK _ ?_
  clear hK K
  refine rel_q SS (by kernel_rfl) (by kernel_rfl) (by kernel_rfl) rfl ?_
  apply Exists.intro
  refine ⟨fun W hg => ?_, fun K hK => ?_⟩
  · have y := gq_cell hg b0; go_simp
    all_goals first | done | exact rfl | skip
  go_simp
  refine hK _ ?_
  clear hK K
  refine rel_kc SS (by kernel_rfl) (by kernel_rfl) (by kernel_rfl) rfl ?_
  apply Exists.intro
  refine ⟨fun W hg => ?_, fun K hK => ?_⟩
  · go_simp
    exact Tryd.strings_Compare _ _ _
  go_simp
  refine hK _ ?_
  clear hK K
  refine rel_q SS (by kernel_rfl) (by kernel_rfl) (by kernel_rfl) rfl ?_
  apply Exists.intro
  refine ⟨fun W hg => ?_, fun K hK => ?_⟩
  · go_simp
    all_goals first | done | exact rfl | skip
  go_simp
  refine hK _ ?_
  clear hK K
  refine rel_q SS (by kernel_rfl) (by kernel_rfl) (by kernel_rfl) rfl ?_
  apply Exists.intro
  refine ⟨fun W hg => ?_, fun K hK => ?_⟩
  · have y := gq_cell hg a1; go_simp
    all_goals first | done | exact rfl | skip
  go_simp
  refine hK _ ?_
  clear hK K
  refine rel_q SS (by kernel_rfl) (by kernel_rfl) (by kernel_rfl) rfl ?_
  apply Exists.intro
  refine ⟨fun W hg => ?_, fun K hK => ?_⟩
  · go_simp
    all_goals first | done | exact rfl | skip
  go_simp
  refine hK _ ?_
  clear hK K
  refine rel_q SS (by kernel_rfl) (by kernel_rfl) (by kernel_rfl) rfl ?_
  apply Exists.intro
  refine ⟨fun W hg => ?_, fun K hK => ?_⟩
  · have y := gq_cell hg b1; go_simp
    all_goals first | done | exact rfl | skip
  go_simp
  refine hK _ ?_
  clear hK K
  refine rel_kc SS (by kernel_rfl) (by kernel_rfl) (by kernel_rfl) rfl ?_
  apply Exists.intro
  refine ⟨fun W hg => ?_, fun K hK => ?_⟩
  · go_simp
    exact cmpI_ok _ _ _
  go_simp
  refine hK _ ?_
  clear hK K
  refine rel_q SS (by kernel_rfl) (by kernel_rfl) (by kernel_rfl) rfl ?_
  apply Exists.intro
  refine ⟨fun W hg => ?_, fun K hK => ?_⟩
  · go_simp
    all_goals first | done | exact rfl | skip
  go_simp
  refine hK _ ?_
  clear hK K
  refine rel_q SS (by kernel_rfl) (by kernel_rfl) (by kernel_rfl) rfl ?_
  apply Exists.intro
  refine ⟨fun W hg => ?_, fun K hK => ?_⟩
  · have y := gq_cell hg a2; go_simp
    all_goals first | done | exact rfl | skip
  go_simp
  refine hK _ ?_
  clear hK K
  refine rel_q SS (by kernel_rfl) (by kernel_rfl) (by kernel_rfl) rfl ?_
  apply Exists.intro
  refine ⟨fun W hg => ?_, fun K hK => ?_⟩
  · go_simp
    all_goals first | done | exact rfl | skip
  go_simp
  refine hK _ ?_
  clear hK K
  refine rel_q SS (by kernel_rfl) (by kernel_rfl) (by kernel_rfl) rfl ?_
  apply Exists.intro
  refine ⟨fun W hg => ?_, fun K hK => ?_⟩
  · have y := gq_cell hg b2; go_simp
    all_goals first | done | exact rfl | skip
  go_simp
  refine hK _ ?_
  clear hK K
  refine rel_kc SS (by kernel_rfl) (by kernel_rfl) (by kernel_rfl) rfl ?_
  apply Exists.intro
  refine ⟨fun W hg => ?_, fun K hK => ?_⟩
  · go_simp
    exact cmpI_ok _ _ _
  go_simp
  refine hK _ ?_
  clear hK K
  refine rel_q SS (by kernel_rfl) (by kernel_rfl) (by kernel_rfl) rfl ?_
  apply Exists.intro
  refine ⟨fun W hg => ?_, fun K hK => ?_⟩
  · go_simp
    all_goals first | done | exact rfl | skip
  go_simp
  refine hK _ ?_
  clear hK K
  refine rel_q SS (by kernel_rfl) (by kernel_rfl) (by kernel_rfl) rfl ?_
  apply Exists.intro
  refine ⟨fun W hg => ?_, fun K hK => ?_⟩
  · have y := gq_cell hg a3; go_simp
    all_goals first | done | exact rfl | skip
  go_simp
  refine hK _ ?_
  clear hK K
  refine rel_q SS (by kernel_rfl) (by kernel_rfl) (by kernel_rfl) rfl ?_
  apply Exists.intro
  refine ⟨fun W hg => ?_, fun K hK => ?_⟩
  · go_simp
    all_goals first | done | exact rfl | skip
  go_simp
  refine hK _ ?_
  clear hK K
  refine rel_q SS (by kernel_rfl) (by kernel_rfl) (by kernel_rfl) rfl ?_
  apply Exists.intro
  refine ⟨fun W hg => ?_, fun K hK => ?_⟩
  · have y := gq_cell hg b3; go_simp
    all_goals first | done | exact rfl | skip
  go_simp
  refine hK _ ?_
  clear hK K
  refine rel_kc SS (by kernel_rfl) (by kernel_rfl) (by kernel_rfl) rfl ?_
  apply Exists.intro
  refine ⟨fun W hg => ?_, fun K hK => ?_⟩
  · go_simp
    exact cmpE_ok _ _ _
  go_simp
  refine hK _ ?_
  clear hK K
  refine rel_q SS (by kernel_rfl) (by kernel_rfl) (by kernel_rfl) rfl ?_
  apply Exists.intro
  refine ⟨fun W hg => ?_, fun K hK => ?_⟩
  · go_simp
    all_goals first | done | exact rfl | skip
  go_simp
  refine hK _ ?_
  clear hK K
  refine rel_q SS (by kernel_rfl) (by kernel_rfl) (by kernel_rfl) rfl ?_
  apply Exists.intro
  refine ⟨fun W hg => ?_, fun K hK => ?_⟩
  · have y := gq_cell hg a4; go_simp
    all_goals first | done | exact rfl | skip
  go_simp
  refine hK _ ?_
  clear hK K
  refine rel_q SS (by kernel_rfl) (by kernel_rfl) (by kernel_rfl) rfl ?_
  apply Exists.intro
  refine ⟨fun W hg => ?_, fun K hK => ?_⟩
  · go_simp
    all_goals first | done | exact rfl | skip
  go_simp
  refine hK _ ?_
  clear hK K
  refine rel_q SS (by kernel_rfl) (by kernel_rfl) (by kernel_rfl) rfl ?_
  apply Exists.intro
  refine ⟨fun W hg => ?_, fun K hK => ?_⟩
  · have y := gq_cell hg b4; go_simp
    all_goals first | done | exact rfl | skip
  go_simp
  refine hK _ ?_
  clear hK K
  refine rel_kc SS (by kernel_rfl) (by kernel_rfl) (by kernel_rfl) rfl ?_
  apply Exists.intro
  refine ⟨fun W hg => ?_, fun K hK => ?_⟩
  · go_simp
    exact Tryd.strings_Compare _ _ _
  go_simp
  refine hK _ ?_
  clear hK K
  refine Rels.rel_fact [] (Row5 (Lib.compareBytes xf.data.toList yf.data.toList) (Lib.compareInt xl yl) (Lib.compareInt xc yc) (Lib.compareInt xe ye) (Lib.compareBytes xt.data.toList yt.data.toList)) 30 rfl (by simp [Act.put]) (row5_sta _ _ _ _ _) (by rfl) (by kernel_rfl) (by kernel_rfl) (fun W i hi hg hj => ?_) ?_
  · simp only [relAll]
    generalize Lib.compareBytes xf.data.toList yf.data.toList = n0
    generalize Lib.compareInt xl yl = n1
    generalize Lib.compareInt xc yc = n2
    generalize Lib.compareInt xe ye = n3
    generalize Lib.compareBytes xt.data.toList yt.data.toList = n4
    clear a0 a1 a2 a3 a4 b0 b1 b2 b3 b4 HR
    go_simp
    exact ⟨⟨W.heap.size, rfl, by go_simp, by go_simp, by go_simp, by go_simp, by go_simp⟩, gq_alloc _ _, pin_no⟩
  refine Rels.rel_use [(30, _)] (.int .i64 (orL [Lib.compareBytes xf.data.toList yf.data.toList, Lib.compareInt xl yl, Lib.compareInt xc yc, Lib.compareInt xe ye, Lib.compareBytes xt.data.toList yt.data.toList])) (by rfl) (by kernel_rfl) (by kernel_rfl) (fun W i hi hg hj => ?_) ?_
  · simp only [relAll]
    rintro v ⟨b, rfl, c0, c1, c2, c3, c4⟩
    go_simp
    refine (or_ok [Lib.compareBytes xf.data.toList yf.data.toList, Lib.compareInt xl yl, Lib.compareInt xc yc, Lib.compareInt xe ye, Lib.compareBytes xt.data.toList yt.data.toList] rfl b W (fun j hj => ?_)).mono ?_
    · match j, hj with
      | 0, _ => exact c0
      | 1, _ => exact c1
      | 2, _ => exact c2
      | 3, _ => exact c3
      | 4, _ => exact c4
      | k + 5, h => exact absurd h (by omega)
    · rintro e w' ⟨rfl, rfl⟩
      exact ⟨_, rfl, rfl, gq_refl _, trivial⟩
  refine rel_q SS (by kernel_rfl) (by kernel_rfl) (by kernel_rfl) rfl ?_
  apply Exists.intro
  refine ⟨fun W hg => ?_, fun K hK => ?_⟩
  · go_simp
    all_goals first | done | exact rfl | skip
  go_simp
  refine hK _ ?_
  clear hK K
  refine Rels.rel_nil ?_
  intro W hg hj
  simp only [relAll]
  rintro v30 - HA
  clear HA a0 a1 a2 a3 a4 b0 b1 b2 b3 b4
  go_wp2_with fail
  go_ret
  exact ⟨by rw [HR.out]; rfl, gq_trans h01 hg⟩
end Go.Proofs.YtmememehlfbgaaaDoor
