/- BitsRefined's closure. Conditions: the cell of the captured stream's pointer, and the stream.
   The law BitsRefined: its walk. Conditions: the integers that the stream reads, and the tables. -/
import Derived.Test.YtmaokbdjahgkiaaGreatDoorRelsSt
import Derived.Test.YtmaokbdjahgkiaaGreatDoorRefineA
import Derived.Deep.CutBlock
import Derived.Deep.DeepCutAuto
import Derived.Test.YtmaokbdjahgkiaaGreatDoorResAll
import Derived.Test.YtmaokbdjahgkiaaGreatDoorJoined
namespace Go.Proofs.YtmaokbdjahgkiaaGreatDoor
open Go Go.RowKit Rels
set_option linter.unusedVariables false
theorem field_v (n : Nat) (v x : Int) (W : World) : (Instr.field 29 (.agg #[.int .i64 n, .int .u64 v, .int .u64 x]) 1).run Tryz.prog W = .ok (.int .u64 v) W := by kernel_rfl
theorem adv_back {b : Nat} {ad : Option Addr} {len cap k c : Nat} {w w1 w2 : World} (h : Below w.heap.size w w1) (hb : b < w.heap.size) (hst : ∃ k', k' ≤ k + c ∧ Str b ad len cap k' w2) (hg : w1.grownBy w2 (some b)) : Adv b ad len cap k c w w2 :=
  ⟨hst, grown_trans (grown_below _ h) hg⟩
set_option maxRecDepth 100000 in
set_option maxHeartbeats 1000000 in
theorem fix_any (b len cap : Nat) (ad : Option Addr) (k0 : Nat) (hk0 : k0 ≤ 700000) (n : Nat) (h1 : 1 ≤ n) (h2 : n ≤ 64) (a : Vx) (ps : Nat) (w : World) (ha : a.ok n) (hS : Str b ad len cap k0 w) (hne : b ≠ ps) (hp : w.cell? ⟨ps, 0, none⟩ = some (.pointer (some ⟨b, 0, none⟩))) :
    Calls Tryz.prog 8 #[.agg #[.int .i64 n, .int .u64 (U a.v), .int .u64 (U a.x)], .pointer (some ⟨ps, 0, none⟩)] w fun e w' => ∃ V : Vx, V.ok n ∧ Kf a V ∧ e = .returned (.agg #[.int .i64 n, .int .u64 (U V.v), .int .u64 (U V.x)]) ∧ Adv b ad len cap k0 85 w w' := by
  go_enter Tryz.func8, Tryz.ntmps8
  go_upto_region 1 with fail
  have ltb : b < w.heap.size := World.block_lt_of_cell? w _ hS.c0
  have ltp : ps < w.heap.size := World.block_lt_of_cell? w _ hp
  obtain ⟨W1, hW1⟩ : ∃ W1, W1 = ((w.alloc (Obj.cells #[Value.int IntKind.i64 n, Value.int IntKind.u64 (U a.v), Value.int IntKind.u64 (U a.x)] 29)).alloc (Obj.cells #[Value.int IntKind.i64 0, Value.int IntKind.u64 0, Value.int IntKind.u64 0] 29)) := ⟨_, rfl⟩
  rw [← hW1]
  have hb1 : Below w.heap.size w W1 := by rw [hW1]; exact ((Below.refl _ _).alloc (Nat.le_refl _) _).alloc (by simp) _
  have x0 : W1.cell? ⟨w.heap.size, 0, none⟩ = some (.int .i64 n) := by rw [hW1]; go_simp
  have x1 : W1.cell? ⟨w.heap.size, 1, none⟩ = some (.int .u64 (U a.v)) := by rw [hW1]; go_simp
  have x2 : W1.cell? ⟨w.heap.size, 2, none⟩ = some (.int .u64 (U a.x)) := by rw [hW1]; go_simp
  have z0 : W1.cell? ⟨w.heap.size + 1, 0, none⟩ = some (.int .i64 0) := by rw [hW1]; go_simp
  have z1 : W1.cell? ⟨w.heap.size + 1, 1, none⟩ = some (.int .u64 0) := by rw [hW1]; go_simp
  have z2 : W1.cell? ⟨w.heap.size + 1, 2, none⟩ = some (.int .u64 0) := by rw [hW1]; go_simp
  have zf : ∀ o, W1.frozen? ⟨w.heap.size + 1, o, none⟩ = false := by intro o; rw [hW1]; go_simp
  have hp1 : W1.cell? ⟨ps, 0, none⟩ = some (.pointer (some ⟨b, 0, none⟩)) := (hb1.cell (p := ⟨ps, 0, none⟩) ltp).trans hp
  have S1 : Str b ad len cap k0 W1 := hS.below hb1
  clear hW1
  have SS := sysS b ad len cap k0 5
  refine wp_region_rels SS 17 (Nat.le_refl _) ⟨k0, by omega, S1⟩ (by kernel_rfl) (by kernel_rfl) ?_
  simp only [List.take_succ_cons, List.take_zero, List.drop_succ_cons, List.drop_zero]
  refine rel_q SS (by kernel_rfl) (by kernel_rfl) (by kernel_rfl) rfl ?_
  apply Exists.intro
  refine ⟨fun W hg => ?_, fun K hK => ?_⟩
  · go_simp
    all_goals first | done | exact rfl | skip
  go_simp
  refine hK _ ?_
  clear hK K
  refine rel_q SS (by kernel_rfl) (by kernel_rfl) (by kernel_rfl) rfl ?_
  apply Exists.intro
  refine ⟨fun W hg => ?_, fun K hK => ?_⟩
  · have y := gs_cell hg (by omega) x0; go_simp
    all_goals first | done | exact rfl | skip
  go_simp
  refine hK _ ?_
  clear hK K
  refine rel_q SS (by kernel_rfl) (by kernel_rfl) (by kernel_rfl) rfl ?_
  apply Exists.intro
  refine ⟨fun W hg => ?_, fun K hK => ?_⟩
  · go_simp
    all_goals first | done | exact rfl | skip
  go_simp
  refine hK _ ?_
  clear hK K
  refine rel_q SS (by kernel_rfl) (by kernel_rfl) (by kernel_rfl) rfl ?_
  apply Exists.intro
  refine ⟨fun W hg => ?_, fun K hK => ?_⟩
  · have y := gs_cell hg (by omega) x1; go_simp
    all_goals first | done | exact rfl | skip
  go_simp
  refine hK _ ?_
  clear hK K
  refine rel_q SS (by kernel_rfl) (by kernel_rfl) (by kernel_rfl) rfl ?_
  apply Exists.intro
  refine ⟨fun W hg => ?_, fun K hK => ?_⟩
  · go_simp
    all_goals first | done | exact rfl | skip
  go_simp
  refine hK _ ?_
  clear hK K
  refine rel_q SS (by kernel_rfl) (by kernel_rfl) (by kernel_rfl) rfl ?_
  apply Exists.intro
  refine ⟨fun W hg => ?_, fun K hK => ?_⟩
  · have y := gs_cell hg (by omega) x2; go_simp
    all_goals first | done | exact rfl | skip
  go_simp
  refine hK _ ?_
  clear hK K
  refine rel_q SS (by kernel_rfl) (by kernel_rfl) (by kernel_rfl) rfl ?_
  apply Exists.intro
  refine ⟨fun W hg => ?_, fun K hK => ?_⟩
  · go_simp
    all_goals first | done | exact rfl | skip
  go_simp
  refine hK _ ?_
  clear hK K
  refine rel_q SS (by kernel_rfl) (by kernel_rfl) (by kernel_rfl) rfl ?_
  apply Exists.intro
  refine ⟨fun W hg => ?_, fun K hK => ?_⟩
  · have y := gs_cell hg hne hp1; go_simp
    all_goals first | done | exact rfl | skip
  go_simp
  refine hK _ ?_
  clear hK K
  refine rel_q SS (by kernel_rfl) (by kernel_rfl) (by kernel_rfl) rfl ?_
  apply Exists.intro
  refine ⟨fun W hg => ?_, fun K hK => ?_⟩
  · go_simp
    all_goals first | done | exact rfl | skip
  go_simp
  refine hK _ ?_
  clear hK K
  refine rel_q SS (by kernel_rfl) (by kernel_rfl) (by kernel_rfl) rfl ?_
  apply Exists.intro
  refine ⟨fun W hg => ?_, fun K hK => ?_⟩
  · have y := gs_cell hg (by omega) x0; go_simp
    all_goals first | done | exact rfl | skip
  go_simp
  refine hK _ ?_
  clear hK K
  refine Rels.rel_fact [] (fun v _ => ∃ V : Vx, V.ok n ∧ V.x = 0#64 ∧ v = .agg #[.int .i64 n, .int .u64 (U V.v), .int .u64 (U V.x)]) 14 rfl (by simp [Act.put]) (fun _ _ _ h _ => h) (by rfl) (by kernel_rfl) (by kernel_rfl) (fun W i hi hg hj => ?_) ?_
  · obtain ⟨k, hk, hs⟩ := hj
    simp only [relAll]
    go_simp
    refine (known_any b len cap ad k (by omega) n h1 h2 _ hs).mono ?_
    rintro e w' ⟨V, hV, hx, rfl, A⟩
    exact ret_adv hk (by omega) ⟨V, hV, hx, rfl⟩ A
  refine rel_qf SS [(14, _)] (fun v => ∃ u : BitVec 64, v = .int .u64 (U u)) 15 rfl (by simp [Act.put]) (by rfl) (by kernel_rfl) (by kernel_rfl) rfl (fun W hg => ?_) ?_
  · simp only [relAll]
    rintro v ⟨V, -, -, rfl⟩
    go_simp
    rw [field_v]
    exact ⟨⟨V.v, rfl⟩, rfl⟩
  refine rel_q SS (by kernel_rfl) (by kernel_rfl) (by kernel_rfl) rfl ?_
  apply Exists.intro
  refine ⟨fun W hg => ?_, fun K hK => ?_⟩
  · go_simp
    all_goals first | done | exact rfl | skip
  go_simp
  refine hK _ ?_
  clear hK K
  refine rel_q SS (by kernel_rfl) (by kernel_rfl) (by kernel_rfl) rfl ?_
  apply Exists.intro
  refine ⟨fun W hg => ?_, fun K hK => ?_⟩
  · have y := gs_cell hg (by omega) x2; go_simp
    all_goals first | done | exact rfl | skip
  go_simp
  refine hK _ ?_
  clear hK K
  refine rel_qf SS [(15, _)] (fun v => ∃ u : BitVec 64, v = .int .u64 (U (u &&& a.x))) 18 rfl (by simp [Act.put]) (by rfl) (by kernel_rfl) (by kernel_rfl) rfl (fun W hg => ?_) ?_
  · simp only [relAll]
    rintro v ⟨u, rfl⟩
    go_simp
    exact ⟨u, rfl⟩
  refine rel_qf SS [(18, _)] (fun v => ∃ u : BitVec 64, v = .int .u64 (U (a.v &&& ~~~a.x ||| u &&& a.x))) 19 rfl (by simp [Act.put]) (by rfl) (by kernel_rfl) (by kernel_rfl) rfl (fun W hg => ?_) ?_
  · simp only [relAll]
    rintro v ⟨u, rfl⟩
    go_simp
    exact ⟨u, by first | rfl | simp⟩
  refine rel_qf SS [(19, _)] (fun v => ∃ u : BitVec 64, v = .agg #[.int .i64 n, .int .u64 (U (a.v &&& ~~~a.x ||| u &&& a.x)), .int .u64 0]) 20 rfl (by simp [Act.put]) (by rfl) (by kernel_rfl) (by kernel_rfl) rfl (fun W hg => ?_) ?_
  · simp only [relAll]
    rintro v ⟨u, rfl⟩
    go_simp
    exact ⟨u, rfl⟩
  refine Rels.rel_nil ?_
  intro W hg hj
  simp only [relAll]
  rintro v20 ⟨u, rfl⟩ v19 - v18 - v15 - v14 - -
  have y0 := gs_cell hg (by omega) z0
  have y1 := gs_cell hg (by omega) z1
  have y2 := gs_cell hg (by omega) z2
  have yf : ∀ o, W.frozen? ⟨w.heap.size + 1, o, none⟩ = false := fun o => ((grown_cell hg (World.block_lt_of_cell? W1 _ z0) (by show b ≠ w.heap.size + 1; omega)).2.1 o).trans (zf o)
  obtain ⟨k, hk, hs⟩ := hj
  have A0 : Adv b ad len cap k0 85 W1 W := ⟨⟨k, by omega, hs⟩, hg⟩
  clear hs hk k hg SS z0 z1 z2 zf x0 x1 x2 hp1 S1
  have BX := Box.set (w := W) (p := w.heap.size + 1) ⟨y0, y1, y2, yf⟩ n (U (a.v &&& ~~~a.x ||| u &&& a.x)) 0
  go_wp2_with fail
  obtain ⟨c0, c1, c2, -⟩ := BX
  exact bodyPost_ret (v := .agg #[.int .i64 n, .int .u64 (U (a.v &&& ~~~a.x ||| u &&& a.x)), .int .u64 0]) (by simp [results, Tryz.results8, go_sem, c0, c1, c2] <;> first | rfl | exact ⟨rfl, rfl⟩) rfl ⟨⟨a.v &&& ~~~a.x ||| u &&& a.x, 0#64⟩, fix_ok ha, kf_fix ha, rfl, adv_of hS A0 hb1 ((((Below.refl _ _).setCell (by simp) _).setCell (by simp) _).setCell (by simp) _) ltb⟩
end Go.Proofs.YtmaokbdjahgkiaaGreatDoor
namespace Go.Proofs.YtmaokbdjahgkiaaGreatDoor
open Go Go.RowKit Rels
set_option linter.unusedVariables false
/-- three vectors in variables of their own -/
structure V3 (b p q r n m : Nat) (x y z : Vx) (W : World) : Prop where
  bx : Box W p n (U x.v) (U x.x)
  by_ : Box W q n (U y.v) (U y.x)
  bz : Box W r m (U z.v) (U z.x)
  np : p ≠ b
  nq : q ≠ b
  nr : r ≠ b
theorem V3.gs {b p q r n m : Nat} {x y z : Vx} {W W' : World} (h : V3 b p q r n m x y z W) (hg : GS b W W') : V3 b p q r n m x y z W' :=
  ⟨gs_box hg h.np h.bx, gs_box hg h.nq h.by_, gs_box hg h.nr h.bz, h.np, h.nq, h.nr⟩
theorem V3.below {b p q r n m : Nat} {x y z : Vx} {W W' : World} (h : V3 b p q r n m x y z W) (hb : Below W.heap.size W W') : V3 b p q r n m x y z W' :=
  ⟨h.bx.below hb, h.by_.below hb, h.bz.below hb, h.np, h.nq, h.nr⟩
theorem V3.other {b p q r n m : Nat} {x y z : Vx} {W : World} (h : V3 b p q r n m x y z W) {t : Nat} (h1 : p ≠ t) (h2 : q ≠ t) (h3 : r ≠ t) (u0 u1 u2 : Value) : V3 b p q r n m x y z (((W.setCell ⟨t, 0, none⟩ u0).setCell ⟨t, 1, none⟩ u1).setCell ⟨t, 2, none⟩ u2) :=
  ⟨h.bx.other h1 _ _ _, h.by_.other h2 _ _ _, h.bz.other h3 _ _ _, h.np, h.nq, h.nr⟩
/-- the stream and the variable that holds its place -/
structure S3 (w : World) (ad : Option Addr) (len cap K : Nat) (W : World) : Prop where
  ps : W.cell? ⟨w.heap.size + 1, 0, none⟩ = some (.pointer (some ⟨w.heap.size, 0, none⟩))
  st : ∃ k, k ≤ K ∧ Str w.heap.size ad len cap k W
  lo : Below w.heap.size w W
theorem low_gs {w W W' : World} (hl : Below w.heap.size w W) (hg : GS w.heap.size W W') : Below w.heap.size w W' :=
  ⟨hg.os.trans hl.os, hg.tape.trans hl.tape, hg.output.trans hl.output, Nat.le_trans hl.size hg.size, fun i hi => (hg.block i (Nat.lt_of_lt_of_le hi hl.size) (by simp; omega)).trans (hl.block i hi)⟩
theorem S3.gs {w : World} {ad : Option Addr} {len cap K K' : Nat} {W W' : World} (h : S3 w ad len cap K W) (hg : GS w.heap.size W W') (hs : ∃ k, k ≤ K' ∧ Str w.heap.size ad len cap k W') : S3 w ad len cap K' W' :=
  ⟨gs_cell hg (by omega) h.ps, hs, low_gs h.lo hg⟩
theorem str_put {b : Nat} {ad : Option Addr} {len cap k : Nat} {w W : World} (hS : Sl ad len w) (h : Str b ad len cap k W) (hb : b = w.heap.size) {p : Nat} (hp : w.heap.size < p) (u0 u1 u2 : Value) : Str b ad len cap k (((W.setCell ⟨p, 0, none⟩ u0).setCell ⟨p, 1, none⟩ u1).setCell ⟨p, 2, none⟩ u2) := by
  have hne : ∀ q o o', q ≠ p → (⟨p, o', none⟩ : Addr) ≠ ⟨q, o, none⟩ := fun q o o' hq e => hq (by injection e with e1; exact e1.symm)
  have hk : ∀ q o, q ≠ p → (((W.setCell ⟨p, 0, none⟩ u0).setCell ⟨p, 1, none⟩ u1).setCell ⟨p, 2, none⟩ u2).cell? ⟨q, o, none⟩ = W.cell? ⟨q, o, none⟩ := fun q o hq => by rw [World.cell?_setCell_other _ _ _ _ (hne q o 2 hq), World.cell?_setCell_other _ _ _ _ (hne q o 1 hq), World.cell?_setCell_other _ _ _ _ (hne q o 0 hq)]
  refine ⟨(hk b 0 (by omega)).trans h.c0, (hk b 1 (by omega)).trans h.c1, ?_, h.rd.le, fun j hj => ?_⟩
  · have := h.fz
    simpa using this
  · obtain ⟨bl, off, z, h1, h2, h3⟩ := h.rd.el j hj
    obtain ⟨bl', off', z', g1, g2⟩ := hS.el j hj
    have hlt : bl' < w.heap.size := World.block_lt_of_cell? w _ g2
    rw [h1] at g1
    injection g1 with g1; injection g1 with g1 g3
    exact ⟨bl, off, z, h1, h2, (hk bl _ (by omega)).trans h3⟩
theorem S3.put {w : World} {ad : Option Addr} {len cap K : Nat} {W : World} (hS : Sl ad len w) (h : S3 w ad len cap K W) {p : Nat} (hp : w.heap.size + 1 < p) (u0 u1 u2 : Value) : S3 w ad len cap K (((W.setCell ⟨p, 0, none⟩ u0).setCell ⟨p, 1, none⟩ u1).setCell ⟨p, 2, none⟩ u2) := by
  have hne : ∀ o o', (⟨p, o', none⟩ : Addr) ≠ ⟨w.heap.size + 1, o, none⟩ := fun o o' e => by injection e with e1; omega
  obtain ⟨k, hk, s⟩ := h.st
  refine ⟨?_, ⟨k, hk, str_put hS s rfl (by omega) _ _ _⟩, ((h.lo.setCell (by show w.heap.size ≤ p; omega) _).setCell (by show w.heap.size ≤ p; omega) _).setCell (by show w.heap.size ≤ p; omega) _⟩
  rw [World.cell?_setCell_other _ _ _ _ (hne 0 2), World.cell?_setCell_other _ _ _ _ (hne 0 1), World.cell?_setCell_other _ _ _ _ (hne 0 0)]; exact h.ps
set_option maxRecDepth 100000 in
set_option maxHeartbeats 8000000 in
theorem bitsRefined_any (ad : Option Addr) (len cap : Nat) (w : World) (hS : Sl ad len w) {B : Nat} (hG : Glob B w) :
    Calls Tryz.prog 3 #[.slice ad len cap] w fun e w' => e = .returned (.bool true) ∧ Below w.heap.size w w' := by
  have HG := Lib.hid hG
  clear hG
  go_enter Tryz.func3, Tryz.ntmps3
  go_wp2_with fail
  refine (width_any w.heap.size len cap ad 0 (by omega) _ ?_).mono ?_
  · exact (hS.str cap _ rfl).below ((Below.refl _ _).alloc (Nat.le_refl _) _)
  rintro e w1 ⟨n, ⟨h1, h2⟩, rfl, A1⟩
  have T : S3 w ad len cap 2 w1 := by
    obtain ⟨k1, hk1, S1⟩ := A1.st
    exact ⟨gs_cell A1.gr (by omega) (by go_simp), ⟨k1, by omega, S1⟩, adv_low A1 (((Below.refl _ _).alloc (Nat.le_refl _) _).alloc (by simp) _)⟩
  clear A1
  have HS := Lib.hid hS
  clear hS
  go_upto_region 3 with fail
  have SS := sysS w.heap.size ad len cap 2 9
  obtain ⟨ps, st, lo⟩ := id T
  have st0 : ∃ k, k ≤ 2 + 9 * 0 ∧ Str w.heap.size ad len cap k w1 := st
  refine wp_region_rels SS 13 (Nat.le_refl _) st0 (by kernel_rfl) (by kernel_rfl) ?_
  simp only [List.take_succ_cons, List.take_zero, List.drop_succ_cons, List.drop_zero]
  refine rel_q SS (by kernel_rfl) (by kernel_rfl) (by kernel_rfl) rfl ?_
  apply Exists.intro
  refine ⟨fun W hg => ?_, fun K hK => ?_⟩
  · have y := gs_cell hg (by omega) ps; go_simp
    all_goals first | done | exact rfl | skip
  go_simp
  refine hK _ ?_
  clear hK K
  refine rel_q SS (by kernel_rfl) (by kernel_rfl) (by kernel_rfl) rfl ?_
  apply Exists.intro
  refine ⟨fun W hg => ?_, fun K hK => ?_⟩
  · go_simp
    all_goals first | done | exact rfl | skip
  go_simp
  refine hK _ ?_
  clear hK K
  refine Rels.rel_fact [] (VecF n) 25 rfl (by simp [Act.put]) (vecF_sta n _) (by rfl) (by kernel_rfl) (by kernel_rfl) (fun W i hi hg hj => ?_) ?_
  · obtain ⟨k, hk, hs⟩ := hj
    simp only [relAll]
    go_simp
    refine (bits_any w.heap.size len cap ad k (by omega) n h1 h2 _ hs).mono ?_
    rintro e w' ⟨V, hV, -, rfl, A⟩
    exact ret_adv hk (by omega) ⟨V, hV, rfl⟩ A
  refine rel_q SS (by kernel_rfl) (by kernel_rfl) (by kernel_rfl) rfl ?_
  apply Exists.intro
  refine ⟨fun W hg => ?_, fun K hK => ?_⟩
  · have y := gs_cell hg (by omega) ps; go_simp
    all_goals first | done | exact rfl | skip
  go_simp
  refine hK _ ?_
  clear hK K
  refine rel_q SS (by kernel_rfl) (by kernel_rfl) (by kernel_rfl) rfl ?_
  apply Exists.intro
  refine ⟨fun W hg => ?_, fun K hK => ?_⟩
  · go_simp
    all_goals first | done | exact rfl | skip
  go_simp
  refine hK _ ?_
  clear hK K
  refine Rels.rel_fact [] (VecF n) 28 rfl (by simp [Act.put]) (vecF_sta n _) (by rfl) (by kernel_rfl) (by kernel_rfl) (fun W i hi hg hj => ?_) ?_
  · obtain ⟨k, hk, hs⟩ := hj
    simp only [relAll]
    go_simp
    refine (bits_any w.heap.size len cap ad k (by omega) n h1 h2 _ hs).mono ?_
    rintro e w' ⟨V, hV, -, rfl, A⟩
    exact ret_adv hk (by omega) ⟨V, hV, rfl⟩ A
  refine rel_q SS (by kernel_rfl) (by kernel_rfl) (by kernel_rfl) rfl ?_
  apply Exists.intro
  refine ⟨fun W hg => ?_, fun K hK => ?_⟩
  · have y := gs_cell hg (by omega) ps; go_simp
    all_goals first | done | exact rfl | skip
  go_simp
  refine hK _ ?_
  clear hK K
  refine rel_q SS (by kernel_rfl) (by kernel_rfl) (by kernel_rfl) rfl ?_
  apply Exists.intro
  refine ⟨fun W hg => ?_, fun K hK => ?_⟩
  · have y := gs_cell hg (by omega) ps; go_simp
    all_goals first | done | exact rfl | skip
  go_simp
  refine hK _ ?_
  clear hK K
  refine Rels.rel_fact [] (fun v _ => ∃ r : Nat, 1 ≤ r ∧ r ≤ 4 ∧ v = .int .i64 r) 31 rfl (by simp [Act.put]) (fun _ _ _ h _ => h) (by rfl) (by kernel_rfl) (by kernel_rfl) (fun W i hi hg hj => ?_) ?_
  · obtain ⟨k, hk, hs⟩ := hj
    simp only [relAll]
    go_simp
    refine (range_any w.heap.size len cap ad k 1 4 (by omega) (by omega) (by omega) _ hs).mono ?_
    rintro e w' ⟨r, ⟨hr1, hr2⟩, rfl, A⟩
    exact ret_adv hk (by omega) ⟨r, hr1, hr2, rfl⟩ A
  refine Rels.rel_fact [(31, _)] (fun v _ => ∃ m : Nat, 1 ≤ m ∧ m ≤ 4 ∧ ∃ V : Vx, V.ok m ∧ v = .agg #[.int .i64 m, .int .u64 (U V.v), .int .u64 (U V.x)]) 32 rfl (by simp [Act.put]) (fun _ _ _ h _ => h) (by rfl) (by kernel_rfl) (by kernel_rfl) (fun W i hi hg hj => ?_) ?_
  · obtain ⟨k, hk, hs⟩ := hj
    simp only [relAll]
    rintro v ⟨m, hm1, hm2, rfl⟩
    go_simp
    refine (bits_any w.heap.size len cap ad k (by omega) m hm1 (by omega) _ hs).mono ?_
    rintro e w' ⟨V, hV, -, rfl, A⟩
    exact ret_adv hk (by omega) ⟨m, hm1, hm2, V, hV, rfl⟩ A
  refine Rels.rel_fact [] (New3 w.heap.size w1.heap.size) 5 rfl (by simp [Act.put]) (new3_sta _ _) (by rfl) (by kernel_rfl) (by kernel_rfl) (fun W i hi hg hj => ?_) ?_
  · obtain ⟨k, hk, hs⟩ := hj
    simp only [relAll]
    go_simp
    exact new3_alloc hg.size hk hs
  refine Rels.rel_fact [] (New3 w.heap.size w1.heap.size) 6 rfl (by simp [Act.put]) (new3_sta _ _) (by rfl) (by kernel_rfl) (by kernel_rfl) (fun W i hi hg hj => ?_) ?_
  · obtain ⟨k, hk, hs⟩ := hj
    simp only [relAll]
    go_simp
    exact new3_alloc hg.size hk hs
  refine Rels.rel_fact [] (New3 w.heap.size w1.heap.size) 7 rfl (by simp [Act.put]) (new3_sta _ _) (by rfl) (by kernel_rfl) (by kernel_rfl) (fun W i hi hg hj => ?_) ?_
  · obtain ⟨k, hk, hs⟩ := hj
    simp only [relAll]
    go_simp
    exact new3_alloc hg.size hk hs
  refine Rels.rel_nil ?_
  intro W hg hj
  simp only [relAll]
  rintro v7 ⟨p7, rfl, l7, n7, B7⟩ v6 ⟨p6, rfl, l6, n6, B6⟩ v5 ⟨p5, rfl, l5, n5, B5⟩ v32 ⟨m, hm1, hm2, c, hc, rfl⟩ v31 - v28 ⟨b, hb, rfl⟩ v25 ⟨a, ha, rfl⟩ HA
  have d56 : p5 ≠ p6 := HA 10 11 _ _ 5 6 p5 p6 (by decide) (by decide) (by decide) rfl rfl rfl rfl rfl rfl (by simp [Act.put]) (by simp [Act.put]) (by simp [Act.put]) (by simp [Act.put])
  have d57 : p5 ≠ p7 := HA 10 12 _ _ 5 7 p5 p7 (by decide) (by decide) (by decide) rfl rfl rfl rfl rfl rfl (by simp [Act.put]) (by simp [Act.put]) (by simp [Act.put]) (by simp [Act.put])
  have d67 : p6 ≠ p7 := HA 11 12 _ _ 6 7 p6 p7 (by decide) (by decide) (by decide) rfl rfl rfl rfl rfl rfl (by simp [Act.put]) (by simp [Act.put]) (by simp [Act.put]) (by simp [Act.put])
  have sz := World.block_lt_of_cell? w1 _ ps
  have T3 : S3 w ad len cap 119 W := T.gs hg (by obtain ⟨k, hk, hs⟩ := hj; exact ⟨k, by omega, hs⟩)
  have VV : V3 w.heap.size p5 p6 p7 n m a b c (((((((((W.setCell ⟨p5, 0, none⟩ (.int .i64 n)).setCell ⟨p5, 1, none⟩ (.int .u64 (U a.v))).setCell ⟨p5, 2, none⟩ (.int .u64 (U a.x))).setCell ⟨p6, 0, none⟩ (.int .i64 n)).setCell ⟨p6, 1, none⟩ (.int .u64 (U b.v))).setCell ⟨p6, 2, none⟩ (.int .u64 (U b.x))).setCell ⟨p7, 0, none⟩ (.int .i64 m)).setCell ⟨p7, 1, none⟩ (.int .u64 (U c.v))).setCell ⟨p7, 2, none⟩ (.int .u64 (U c.x))) := ⟨((B5.set _ _ _).other d56 _ _ _).other d57 _ _ _, ((B6.other (Ne.symm d56) _ _ _).set _ _ _).other d67 _ _ _, ((B7.other (Ne.symm d57) _ _ _).other (Ne.symm d67) _ _ _).set _ _ _, n5, n6, n7⟩
  have TT : S3 w ad len cap 119 (((((((((W.setCell ⟨p5, 0, none⟩ (.int .i64 n)).setCell ⟨p5, 1, none⟩ (.int .u64 (U a.v))).setCell ⟨p5, 2, none⟩ (.int .u64 (U a.x))).setCell ⟨p6, 0, none⟩ (.int .i64 n)).setCell ⟨p6, 1, none⟩ (.int .u64 (U b.v))).setCell ⟨p6, 2, none⟩ (.int .u64 (U b.x))).setCell ⟨p7, 0, none⟩ (.int .i64 m)).setCell ⟨p7, 1, none⟩ (.int .u64 (U c.v))).setCell ⟨p7, 2, none⟩ (.int .u64 (U c.x))) := ((T3.put HS.out (by show w.heap.size + 1 < p5; exact Nat.lt_of_lt_of_le sz l5) _ _ _).put HS.out (by show w.heap.size + 1 < p6; exact Nat.lt_of_lt_of_le sz l6) _ _ _).put HS.out (by show w.heap.size + 1 < p7; exact Nat.lt_of_lt_of_le sz l7) _ _ _
  have HV := Lib.hid VV
  have HT := Lib.hid TT
  have d65 := Ne.symm d56
  have d75 := Ne.symm d57
  have d76 := Ne.symm d67
  clear VV TT T3 HA hj hg T SS st st0 ps lo sz n5 n6 n7 l5 l6 l7
  obtain ⟨⟨e50, e51, e52, e5f⟩, ⟨e60, e61, e62, e6f⟩, ⟨e70, e71, e72, e7f⟩⟩ := And.intro B5 (And.intro B6 B7)
  go_upto_region 4 with fail
  clear e50 e51 e52 e5f e60 e61 e62 e6f e70 e71 e72 e7f d56 d57 d67 d65 d75 d76
  generalize (((((((((W.setCell ⟨p5, 0, none⟩ (.int .i64 n)).setCell ⟨p5, 1, none⟩ (.int .u64 (U a.v))).setCell ⟨p5, 2, none⟩ (.int .u64 (U a.x))).setCell ⟨p6, 0, none⟩ (.int .i64 n)).setCell ⟨p6, 1, none⟩ (.int .u64 (U b.v))).setCell ⟨p6, 2, none⟩ (.int .u64 (U b.x))).setCell ⟨p7, 0, none⟩ (.int .i64 m)).setCell ⟨p7, 1, none⟩ (.int .u64 (U c.v))).setCell ⟨p7, 2, none⟩ (.int .u64 (U c.x))) = W4 at HV HT ⊢
  clear B5 B6 B7 W
  have TT := HT.out
  obtain ⟨ps, st, lo⟩ := id TT
  obtain ⟨k4, hk4, s4⟩ := st
  go_wp2_with fail
  refine (flip_any w.heap.size len cap ad k4 (by omega) 2 (by omega) (by omega) _ s4).mono ?_
  rintro e w5 ⟨sg, rfl, A5⟩
  have T5 : S3 w ad len cap 120 w5 := TT.gs A5.gr (by obtain ⟨k, hk, hs⟩ := A5.st; exact ⟨k, by omega, hs⟩)
  have V5 := HV.out.gs A5.gr
  clear A5 HV HT TT ps s4 lo hk4 k4 W4
  obtain ⟨ps, st, lo⟩ := id T5
  have HT := Lib.hid T5
  have HV := Lib.hid V5
  obtain ⟨np5, np6, np7⟩ := And.intro V5.np (And.intro V5.nq V5.nr)
  have z5 := V5.bx.lt
  have z6 := V5.by_.lt
  have z7 := V5.bz.lt
  clear T5 V5
  go_upto_region 6 with fail
  have SS := sysS w.heap.size ad len cap 120 85
  have st0 : ∃ k, k ≤ 120 + 85 * 0 ∧ Str w.heap.size ad len cap k w5 := st
  refine wp_region_rels SS 12 (Nat.le_refl _) st0 (by kernel_rfl) (by kernel_rfl) ?_
  simp only [List.take_succ_cons, List.take_zero, List.drop_succ_cons, List.drop_zero]
  refine rel_q SS (by kernel_rfl) (by kernel_rfl) (by kernel_rfl) rfl ?_
  apply Exists.intro
  refine ⟨fun W hg => ?_, fun K hK => ?_⟩
  · go_simp
    all_goals first | done | exact rfl | skip
  go_simp
  refine hK _ ?_
  clear hK K
  refine rel_q SS (by kernel_rfl) (by kernel_rfl) (by kernel_rfl) rfl ?_
  apply Exists.intro
  refine ⟨fun W hg => ?_, fun K hK => ?_⟩
  · obtain ⟨y0, y1, y2, -⟩ := gs_box hg np5 HV.out.bx; go_simp
    all_goals first | done | exact rfl | skip
  go_simp
  refine hK _ ?_
  clear hK K
  refine Rels.rel_fact [] (fun v _ => ∃ V : Vx, V.ok n ∧ Kf a V ∧ v = .agg #[.int .i64 n, .int .u64 (U V.v), .int .u64 (U V.x)]) 38 rfl (by simp [Act.put]) (fun _ _ _ h _ => h) (by rfl) (by kernel_rfl) (by kernel_rfl) (fun W i hi hg hj => ?_) ?_
  · obtain ⟨k, hk, hs⟩ := hj
    simp only [relAll]
    go_simp
    refine (fix_any w.heap.size len cap ad k (by omega) n h1 h2 a (w.heap.size + 1) _ ha hs (by omega) (gs_cell hg (by omega) ps)).mono ?_
    rintro e w' ⟨V, hV, hK, rfl, A⟩
    exact ret_adv hk (by omega) ⟨V, hV, hK, rfl⟩ A
  refine rel_q SS (by kernel_rfl) (by kernel_rfl) (by kernel_rfl) rfl ?_
  apply Exists.intro
  refine ⟨fun W hg => ?_, fun K hK => ?_⟩
  · go_simp
    all_goals first | done | exact rfl | skip
  go_simp
  refine hK _ ?_
  clear hK K
  refine rel_q SS (by kernel_rfl) (by kernel_rfl) (by kernel_rfl) rfl ?_
  apply Exists.intro
  refine ⟨fun W hg => ?_, fun K hK => ?_⟩
  · obtain ⟨y0, y1, y2, -⟩ := gs_box hg np6 HV.out.by_; go_simp
    all_goals first | done | exact rfl | skip
  go_simp
  refine hK _ ?_
  clear hK K
  refine Rels.rel_fact [] (fun v _ => ∃ V : Vx, V.ok n ∧ Kf b V ∧ v = .agg #[.int .i64 n, .int .u64 (U V.v), .int .u64 (U V.x)]) 41 rfl (by simp [Act.put]) (fun _ _ _ h _ => h) (by rfl) (by kernel_rfl) (by kernel_rfl) (fun W i hi hg hj => ?_) ?_
  · obtain ⟨k, hk, hs⟩ := hj
    simp only [relAll]
    go_simp
    refine (fix_any w.heap.size len cap ad k (by omega) n h1 h2 b (w.heap.size + 1) _ hb hs (by omega) (gs_cell hg (by omega) ps)).mono ?_
    rintro e w' ⟨V, hV, hK, rfl, A⟩
    exact ret_adv hk (by omega) ⟨V, hV, hK, rfl⟩ A
  refine rel_q SS (by kernel_rfl) (by kernel_rfl) (by kernel_rfl) rfl ?_
  apply Exists.intro
  refine ⟨fun W hg => ?_, fun K hK => ?_⟩
  · go_simp
    all_goals first | done | exact rfl | skip
  go_simp
  refine hK _ ?_
  clear hK K
  refine rel_q SS (by kernel_rfl) (by kernel_rfl) (by kernel_rfl) rfl ?_
  apply Exists.intro
  refine ⟨fun W hg => ?_, fun K hK => ?_⟩
  · obtain ⟨y0, y1, y2, -⟩ := gs_box hg np7 HV.out.bz; go_simp
    all_goals first | done | exact rfl | skip
  go_simp
  refine hK _ ?_
  clear hK K
  refine Rels.rel_fact [] (fun v _ => ∃ V : Vx, V.ok m ∧ Kf c V ∧ v = .agg #[.int .i64 m, .int .u64 (U V.v), .int .u64 (U V.x)]) 44 rfl (by simp [Act.put]) (fun _ _ _ h _ => h) (by rfl) (by kernel_rfl) (by kernel_rfl) (fun W i hi hg hj => ?_) ?_
  · obtain ⟨k, hk, hs⟩ := hj
    simp only [relAll]
    go_simp
    refine (fix_any w.heap.size len cap ad k (by omega) m hm1 (by omega) c (w.heap.size + 1) _ hc hs (by omega) (gs_cell hg (by omega) ps)).mono ?_
    rintro e w' ⟨V, hV, hK, rfl, A⟩
    exact ret_adv hk (by omega) ⟨V, hV, hK, rfl⟩ A
  refine Rels.rel_fact [] (New3 w.heap.size w5.heap.size) 10 rfl (by simp [Act.put]) (new3_sta _ _) (by rfl) (by kernel_rfl) (by kernel_rfl) (fun W i hi hg hj => ?_) ?_
  · obtain ⟨k, hk, hs⟩ := hj
    simp only [relAll]
    go_simp
    exact new3_alloc hg.size hk hs
  refine Rels.rel_fact [] (New3 w.heap.size w5.heap.size) 11 rfl (by simp [Act.put]) (new3_sta _ _) (by rfl) (by kernel_rfl) (by kernel_rfl) (fun W i hi hg hj => ?_) ?_
  · obtain ⟨k, hk, hs⟩ := hj
    simp only [relAll]
    go_simp
    exact new3_alloc hg.size hk hs
  refine Rels.rel_fact [] (New3 w.heap.size w5.heap.size) 12 rfl (by simp [Act.put]) (new3_sta _ _) (by rfl) (by kernel_rfl) (by kernel_rfl) (fun W i hi hg hj => ?_) ?_
  · obtain ⟨k, hk, hs⟩ := hj
    simp only [relAll]
    go_simp
    exact new3_alloc hg.size hk hs
  refine Rels.rel_nil ?_
  intro W hg hj
  simp only [relAll]
  rintro v12 ⟨p12, rfl, l12, n12, B12⟩ v11 ⟨p11, rfl, l11, n11, B11⟩ v10 ⟨p10, rfl, l10, n10, B10⟩ v44 ⟨c', hc', kc, rfl⟩ v41 ⟨b', hb', kb, rfl⟩ v38 ⟨a', ha', ka, rfl⟩ HA
  have d56 : p10 ≠ p11 := HA 9 10 _ _ 10 11 p10 p11 (by decide) (by decide) (by decide) rfl rfl rfl rfl rfl rfl (by simp [Act.put]) (by simp [Act.put]) (by simp [Act.put]) (by simp [Act.put])
  have d57 : p10 ≠ p12 := HA 9 11 _ _ 10 12 p10 p12 (by decide) (by decide) (by decide) rfl rfl rfl rfl rfl rfl (by simp [Act.put]) (by simp [Act.put]) (by simp [Act.put]) (by simp [Act.put])
  have d67 : p11 ≠ p12 := HA 10 11 _ _ 11 12 p11 p12 (by decide) (by decide) (by decide) rfl rfl rfl rfl rfl rfl (by simp [Act.put]) (by simp [Act.put]) (by simp [Act.put]) (by simp [Act.put])
  have d65 := Ne.symm d56
  have d75 := Ne.symm d57
  have d76 := Ne.symm d67
  have VV : V3 w.heap.size p10 p11 p12 n m a' b' c' (((((((((W.setCell ⟨p10, 0, none⟩ (.int .i64 n)).setCell ⟨p10, 1, none⟩ (.int .u64 (U a'.v))).setCell ⟨p10, 2, none⟩ (.int .u64 (U a'.x))).setCell ⟨p11, 0, none⟩ (.int .i64 n)).setCell ⟨p11, 1, none⟩ (.int .u64 (U b'.v))).setCell ⟨p11, 2, none⟩ (.int .u64 (U b'.x))).setCell ⟨p12, 0, none⟩ (.int .i64 m)).setCell ⟨p12, 1, none⟩ (.int .u64 (U c'.v))).setCell ⟨p12, 2, none⟩ (.int .u64 (U c'.x))) := ⟨((B10.set _ _ _).other d56 _ _ _).other d57 _ _ _, ((B11.other d65 _ _ _).set _ _ _).other d67 _ _ _, ((B12.other d75 _ _ _).other d76 _ _ _).set _ _ _, n10, n11, n12⟩
  have UU : V3 w.heap.size p5 p6 p7 n m a b c (((((((((W.setCell ⟨p10, 0, none⟩ (.int .i64 n)).setCell ⟨p10, 1, none⟩ (.int .u64 (U a'.v))).setCell ⟨p10, 2, none⟩ (.int .u64 (U a'.x))).setCell ⟨p11, 0, none⟩ (.int .i64 n)).setCell ⟨p11, 1, none⟩ (.int .u64 (U b'.v))).setCell ⟨p11, 2, none⟩ (.int .u64 (U b'.x))).setCell ⟨p12, 0, none⟩ (.int .i64 m)).setCell ⟨p12, 1, none⟩ (.int .u64 (U c'.v))).setCell ⟨p12, 2, none⟩ (.int .u64 (U c'.x))) := (((HV.out.gs hg).other (by omega) (by omega) (by omega) _ _ _).other (by omega) (by omega) (by omega) _ _ _).other (by omega) (by omega) (by omega) _ _ _
  have sz := lo.size
  have hlo := low_gs lo hg
  have LL : Below w.heap.size w (((((((((W.setCell ⟨p10, 0, none⟩ (.int .i64 n)).setCell ⟨p10, 1, none⟩ (.int .u64 (U a'.v))).setCell ⟨p10, 2, none⟩ (.int .u64 (U a'.x))).setCell ⟨p11, 0, none⟩ (.int .i64 n)).setCell ⟨p11, 1, none⟩ (.int .u64 (U b'.v))).setCell ⟨p11, 2, none⟩ (.int .u64 (U b'.x))).setCell ⟨p12, 0, none⟩ (.int .i64 m)).setCell ⟨p12, 1, none⟩ (.int .u64 (U c'.v))).setCell ⟨p12, 2, none⟩ (.int .u64 (U c'.x))) := ((((((((hlo.setCell (by show w.heap.size ≤ p10; omega) _).setCell (by show w.heap.size ≤ p10; omega) _).setCell (by show w.heap.size ≤ p10; omega) _).setCell (by show w.heap.size ≤ p11; omega) _).setCell (by show w.heap.size ≤ p11; omega) _).setCell (by show w.heap.size ≤ p11; omega) _).setCell (by show w.heap.size ≤ p12; omega) _).setCell (by show w.heap.size ≤ p12; omega) _).setCell (by show w.heap.size ≤ p12; omega) _
  clear HV
  have HV := Lib.hid VV
  have HU := Lib.hid UU
  have HL := Lib.hid LL
  clear VV UU LL hlo sz HA hj hg SS st st0 ps lo n10 n11 n12 l10 l11 l12 z5 z6 z7 np5 np6 np7
  obtain ⟨⟨e50, e51, e52, e5f⟩, ⟨e60, e61, e62, e6f⟩, ⟨e70, e71, e72, e7f⟩⟩ := And.intro B10 (And.intro B11 B12)
  go_upto_region 7 with fail
  clear e50 e51 e52 e5f e60 e61 e62 e6f e70 e71 e72 e7f d56 d57 d67 d65 d75 d76
  generalize (((((((((W.setCell ⟨p10, 0, none⟩ (.int .i64 n)).setCell ⟨p10, 1, none⟩ (.int .u64 (U a'.v))).setCell ⟨p10, 2, none⟩ (.int .u64 (U a'.x))).setCell ⟨p11, 0, none⟩ (.int .i64 n)).setCell ⟨p11, 1, none⟩ (.int .u64 (U b'.v))).setCell ⟨p11, 2, none⟩ (.int .u64 (U b'.x))).setCell ⟨p12, 0, none⟩ (.int .i64 m)).setCell ⟨p12, 1, none⟩ (.int .u64 (U c'.v))).setCell ⟨p12, 2, none⟩ (.int .u64 (U c'.x))) = W7 at HV HU HL ⊢
  clear B10 B11 B12 W HT
  obtain ⟨⟨e50, e51, e52, -⟩, ⟨e60, e61, e62, -⟩, ⟨e70, e71, e72, -⟩, -, -, -⟩ := id HU.out
  go_wp2_with fail
  refine (results_ok sg ha hb hc _).mono ?_
  rintro e w8 ⟨v1, rfl, R1, b8⟩
  replace HV := Lib.hid (HV.out.below b8)
  replace HL := Lib.hid (HL.out.trans (b8.mono HL.out.size))
  clear e50 e51 e52 e60 e61 e62 e70 e71 e72 HU b8
  obtain ⟨⟨e50, e51, e52, -⟩, ⟨e60, e61, e62, -⟩, ⟨e70, e71, e72, -⟩, -, -, -⟩ := id HV.out
  go_wp2_with fail
  refine (results_ok sg ha' hb' hc' _).mono ?_
  rintro e w9 ⟨v2, rfl, R2, b9⟩
  replace R1 := rowC_sta _ _ _ _ R1 b9
  replace HL := Lib.hid (HL.out.trans (b9.mono HL.out.size))
  clear e50 e51 e52 e60 e61 e62 e70 e71 e72 HV b9 W7 w8 w5
  obtain ⟨bl, off, rfl, C1⟩ := R1
  obtain ⟨bl2, off2, rfl, C2⟩ := R2
  have HR := Lib.hid (resV_ref sg ha hb hc ha' hb' hc' ka kb kc ZR)
  have H1 := Lib.hid C1
  have H2 := Lib.hid C2
  clear C1 C2
  go_upto_block 0 with fail
  have HB0 := Lib.hid (Below.refl w9.heap.size w9)
  go_cut [] (fun wx => Below w9.heap.size w9 wx)
  case first =>
    go_wp2_with fail
    go_loopw [57] (fun s57 wr => ∃ k : Nat, k ≤ 23 ∧ s57 = .int .i64 k ∧ Below w9.heap.size w9 wr) (fun s57 _ => 23 - (intOf s57).toNat)
    case atStart => exact ⟨0, by omega, rfl, HB0.out⟩
    case round =>
      obtain ⟨k, hk, rfl, hlo⟩ := hrel
      by_cases hlt : k < 23
      · obtain ⟨x0, x1, x2⟩ := H1.out k hlt
        obtain ⟨y0, y1, y2⟩ := H2.out k hlt
        obtain ⟨e1, e2, e3⟩ := HR.out k hlt
        obtain ⟨x, hx⟩ : ∃ x, (resV n sg a b c).getD k ZR = x := ⟨_, rfl⟩
        obtain ⟨y, hy⟩ : ∃ y, (resV n sg a' b' c').getD k ZR = y := ⟨_, rfl⟩
        rw [hx] at x0 x1 x2 e1 e2 e3
        rw [hy] at y0 y1 y2 e1 e2 e3
        rw [← e1] at y0
        have lx := World.block_lt_of_cell? w9 _ x0
        have ly := World.block_lt_of_cell? w9 _ y0
        replace x0 := (hlo.cell (p := ⟨bl, off + k * 3, none⟩) lx).trans x0
        replace x1 := (hlo.cell (p := ⟨bl, off + k * 3 + 1, none⟩) lx).trans x1
        replace x2 := (hlo.cell (p := ⟨bl, off + k * 3 + 2, none⟩) lx).trans x2
        replace y0 := (hlo.cell (p := ⟨bl2, off2 + k * 3, none⟩) ly).trans y0
        replace y1 := (hlo.cell (p := ⟨bl2, off2 + k * 3 + 1, none⟩) ly).trans y1
        replace y2 := (hlo.cell (p := ⟨bl2, off2 + k * 3 + 2, none⟩) ly).trans y2
        have u0 : U (0#64) = 0 := rfl
        clear hx hy e1 hk lx ly
        have lx : bl < wr.heap.size := World.block_lt_of_cell? wr _ x0
        have ly : bl2 < wr.heap.size := World.block_lt_of_cell? wr _ y0
        have hsz := hlo.size
        go_wp2_with fail
        exact ⟨⟨k + 1, by omega, by go_num, (hlo.alloc hsz _).alloc (by simp; omega) _⟩, by simp [intOf]; omega⟩
      · obtain rfl : k = 23 := by omega
        go_wp2_with fail
        go_meet
        exact hlo
  case rest =>
    have hlo := hcut
    have LL := HL.out.trans (hlo.mono HL.out.size)
    clear HR H1 H2 HB0
    go_wp2_with fail
    refine (joined_ok _ (HG.out.here LL)).mono ?_
    rintro e wj ⟨rfl, hj⟩
    go_wp2_with fail
    go_ret
    exact ⟨rfl, LL.trans (hj.mono LL.size)⟩
end Go.Proofs.YtmaokbdjahgkiaaGreatDoor
