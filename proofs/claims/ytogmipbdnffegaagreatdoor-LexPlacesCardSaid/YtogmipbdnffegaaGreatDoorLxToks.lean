/- The program's Tokens. -/
import Derived.Test.YtogmipbdnffegaaGreatDoorMgRow
import Derived.Deep.LoopGhost
import Derived.RegionTactic
namespace Go.Proofs.YtogmipbdnffegaaGreatDoor
open Go Go.RowKit
set_option linter.unusedVariables false
/-- what Tokens answers -/
def TokAns (B : Nat) (w' : World) (e : Ending) : Fin → Prop
  | .done L => ∃ v, e = .returned (.tuple #[v, .int .i64 0, .int .i64 0, .int .i64 0]) ∧ OT B w' v L
  | .bad y x c => e = .returned (.tuple #[.slice none 0 0, .int .i64 y, .int .i64 x, .int .i64 c])
theorem RS_lt {f p a k : Nat} (h2 : f + 3 < p) (h3 : p < a) (h : RS f a k) : k ≤ a := by
  rcases h with (h | h | h) | h <;> omega
theorem RS_ge {b f a k : Nat} (h1 : b < f) (h3 : f < a) (h : RS f a k) : b ≤ k := by
  rcases h with (h | h | h) | h <;> omega
set_option maxRecDepth 100000 in
set_option maxHeartbeats 8000000 in
theorem prog_tokens (s : ByteArray) (hs : s.size ≤ 2000) (F : Fin) (hF : Lx s 0 [] F) (w : World) (hG : PG w) :
    Calls Tryz.prog 21 #[.string s] w fun e w' => TokAns w.heap.size w' e F ∧ Below w.heap.size w w' := by
  obtain ⟨i0, hi, hz0, hz1, hz2⟩ := infoT_parts
  have HG := Lib.hid hG
  have HF := Lib.hid hF
  clear hG hF
  have hsi : ¬ (16000 : Int) < (s.size : Int) := by omega
  have HREL : ∀ wr, Hid (Below w.heap.size w wr) → PG wr := fun wr h => HG.out.below h.out
  have HRE := Lib.hid HREL
  clear HREL
  go_enter Tryz.func21, Tryz.ntmps21
  go_upto_region 4 with (go_at_call 38; refine (reader_any s _).mono ?_; rintro e w1 ⟨f, p, a, rfl, R1, hb1⟩)
  have hB1 := R1.lt
  have o1 := R1.o1
  have o2 := R1.o2
  have o3 := R1.o3
  have HR1 := Lib.hid R1
  have HB1 := Lib.hid hb1
  have hsz1 := hb1.size
  clear R1 hb1
  obtain ⟨bb, hbb⟩ : ∃ bb, w.heap.size = bb := ⟨_, rfl⟩
  have HBB := Lib.hid hbb
  simp only [hbb] at o1 HR1 hsz1 ⊢
  clear hbb
  unfold rdV
  go_wp2_with fail
  go_loopg [7] s.size (fun g v wr => ∃ (k n : Nat) (L : List Tk), k ≤ n ∧ n ≤ s.size ∧ s.size - n ≤ g ∧ L.length ≤ n ∧ Hid (RB wr bb f p a s k n) ∧ Hid (OT w1.heap.size wr v L) ∧ Hid (Lx s n L F) ∧ Hid (Below w.heap.size w wr) ∧ w1.heap.size ≤ wr.heap.size)
  case atStart => exact ⟨0, 0, [], Nat.le_refl _, Nat.zero_le _, by omega, Nat.le_refl _, HR1, Lib.hid (OT.nil _ _), HF, HB1, Nat.le_refl _⟩
  case round =>
    rename World => wr
    obtain ⟨k, n, L, hkn, hn, hg, hL, HR, HO, HX, HLO, hsz⟩ := hrel
    rename_i v
    obtain ⟨av, cv, hv⟩ := HO.out.form
    subst hv
    clear HF HR1 HB1
    obtain ⟨B, E, hSk, hnB, hNx⟩ := lx_next HX.out
    have hG1 := HRE.out wr HLO
    have hBs : B ≤ s.size := (sk_le hSk).2
    obtain ⟨Y, hY⟩ : ∃ Y : Nat, (plcT s B).1 = Y := ⟨_, rfl⟩
    obtain ⟨X, hX⟩ : ∃ X : Nat, (plcT s B).2 = X := ⟨_, rfl⟩
    cases hNx with
    | short h =>
      have hN := next_end s (by omega) bb f p a k n B 11 hkn hn hSk (.inl rfl) wr hG1.lg HR.out
      rw [hY, hX] at hN
      have hww : w.heap.size ≤ w1.heap.size := by rw [HBB.out]; exact hsz1
      have hAll : ∀ q, RS f a q → q < w1.heap.size := fun q h => by have := RS_lt o2 o3 h; omega
      have hAllg : ∀ q, RS f a q → w.heap.size ≤ q := fun q h => by have := RS_ge o1 (show f < a by omega) h; rw [HBB.out]; exact this
      have HN := Lib.hid hN
      clear hN
      go_wp2_with fail
      refine HN.out.mono ?_
      rintro e w2 ⟨rfl, R2, hbut⟩
      have O2 := HO.out.but hbut hAll
      have hlo2 : Below w.heap.size w w2 := HLO.out.trans ((hbut.mono HLO.out.size (fun k h => h)).below hAllg)
      have hsz2 : w1.heap.size ≤ w2.heap.size := Nat.le_trans hsz hbut.size
      have hgl : ∀ q, Value.ownBlock (.slice av L.length cv) = some q → q < w2.heap.size := fun q hq => (OT.block O2 q hq).2
      clear HN hbut HR HO HLO
      go_upto_region 6 with fail
      obtain ⟨W3, hW3⟩ : ∃ W, W = w2.alloc (Obj.cells #[Value.int IntKind.i64 0, Value.int IntKind.i64 (Y : Int), Value.int IntKind.i64 (X : Int), Value.string ⟨#[]⟩, Value.bool false, Value.int IntKind.i64 0, Value.int IntKind.u64 0, Value.int IntKind.u64 0, Value.bool false] 42) := ⟨_, rfl⟩
      have b3 : Below w2.heap.size w2 W3 := by rw [hW3]; exact (Below.refl _ _).alloc (Nat.le_refl _) _
      have T3 : TB W3 w2.heap.size 0 Y X ⟨#[]⟩ false 0 0 0 false := by rw [hW3]; exact TB.new w2 _ _ _ _ _ _ _ _ _
      rw [← hW3]
      clear hW3
      have O3 := Lib.hid (O2.below b3)
      have hlo3 : Below w.heap.size w W3 := hlo2.trans (b3.mono hlo2.size)
      have R3 := Lib.hid (R2.below b3 R2.lt)
      have hsz3 : w1.heap.size ≤ W3.heap.size := Nat.le_trans hsz2 b3.size
      clear O2 R2 hlo2 b3
      obtain ⟨x0, x1, x2, x3, x4, x5, x6, x7, x8, xf⟩ := id T3
      go_wp2_with fail
      go_region
      go_wp2_with fail
      exact bodyPost_ret (v := .tuple #[.slice none 0 0, .int .i64 (Y : Int), .int .i64 (X : Int), .int .i64 11]) (by simp [results, Tryz.results21, go_sem]) rfl ⟨by rw [h, hY, hX]; exact rfl, hlo3.drew⟩
    | fin hB h =>
      have hN := next_end s (by omega) bb f p a k n B 0 hkn hn hSk (.inr ⟨rfl, hB⟩) wr hG1.lg HR.out
      rw [hY, hX] at hN
      have hww : w.heap.size ≤ w1.heap.size := by rw [HBB.out]; exact hsz1
      have hAll : ∀ q, RS f a q → q < w1.heap.size := fun q h => by have := RS_lt o2 o3 h; omega
      have hAllg : ∀ q, RS f a q → w.heap.size ≤ q := fun q h => by have := RS_ge o1 (show f < a by omega) h; rw [HBB.out]; exact this
      have HN := Lib.hid hN
      clear hN
      go_wp2_with fail
      refine HN.out.mono ?_
      rintro e w2 ⟨rfl, R2, hbut⟩
      have O2 := HO.out.but hbut hAll
      have hlo2 : Below w.heap.size w w2 := HLO.out.trans ((hbut.mono HLO.out.size (fun k h => h)).below hAllg)
      have hsz2 : w1.heap.size ≤ w2.heap.size := Nat.le_trans hsz hbut.size
      have hgl : ∀ q, Value.ownBlock (.slice av L.length cv) = some q → q < w2.heap.size := fun q hq => (OT.block O2 q hq).2
      clear HN hbut HR HO HLO
      go_upto_region 6 with fail
      obtain ⟨W3, hW3⟩ : ∃ W, W = w2.alloc (Obj.cells #[Value.int IntKind.i64 0, Value.int IntKind.i64 (Y : Int), Value.int IntKind.i64 (X : Int), Value.string ⟨#[]⟩, Value.bool false, Value.int IntKind.i64 0, Value.int IntKind.u64 0, Value.int IntKind.u64 0, Value.bool false] 42) := ⟨_, rfl⟩
      have b3 : Below w2.heap.size w2 W3 := by rw [hW3]; exact (Below.refl _ _).alloc (Nat.le_refl _) _
      have T3 : TB W3 w2.heap.size 0 Y X ⟨#[]⟩ false 0 0 0 false := by rw [hW3]; exact TB.new w2 _ _ _ _ _ _ _ _ _
      rw [← hW3]
      clear hW3
      have O3 := Lib.hid (O2.below b3)
      have hlo3 : Below w.heap.size w W3 := hlo2.trans (b3.mono hlo2.size)
      have R3 := Lib.hid (R2.below b3 R2.lt)
      have hsz3 : w1.heap.size ≤ W3.heap.size := Nat.le_trans hsz2 b3.size
      clear O2 R2 hlo2 b3
      obtain ⟨x0, x1, x2, x3, x4, x5, x6, x7, x8, xf⟩ := id T3
      go_upto_region 9 with (at_builtin; refine wpList_append_own _ rfl _ _ 34 rfl w1.heap.size 42 i0 _ 9 80 Tryz.underlying34 hi hz0 hz1 hz2 rfl (by decide) _ _ _ rfl (show (W3.alloc _).ownsRow w1.heap.size 42 9 _ L.length (flatT L) from OT.below O3.out ((Below.refl _ _).alloc (Nat.le_refl _) _)) ⟨W3.heap.size, 0, none⟩ 1 1 (encT ⟨0, Y, X, ⟨#[]⟩, false, 0, 0, 0, false⟩) rfl ?d1 ?d2 ?d3 ?d4 ?d5 ?d6 ?_)
      case d1 => rfl
      case d2 =>
        intro j u hj
        rw [Addr.add_lit]
        have hjl : j < 9 := (List.getElem?_eq_some_iff.1 hj).1
        match j, hjl with
        | 0, _ => injection hj with hj; subst hj; go_simp
        | 1, _ => injection hj with hj; subst hj; go_simp
        | 2, _ => injection hj with hj; subst hj; go_simp
        | 3, _ => injection hj with hj; subst hj; go_simp
        | 4, _ => injection hj with hj; subst hj; go_simp
        | 5, _ => injection hj with hj; subst hj; go_simp
        | 6, _ => injection hj with hj; subst hj; go_simp
        | 7, _ => injection hj with hj; subst hj; go_simp
        | 8, _ => injection hj with hj; subst hj; go_simp
        | j + 9, h => exact absurd h (by omega)
      case d3 => exact encT_one _
      case d4 => unfold maxLen; omega
      case d5 => omega
      case d6 => simp; omega
      intro v4 w4 hown4 hgr4 _
      have hown5 : OT w1.heap.size w4 v4 (L ++ [⟨0, Y, X, ⟨#[]⟩, false, 0, 0, 0, false⟩]) := by
        unfold OT
        rw [flatT_snoc, List.length_append]
        exact hown4
      have hlo4 : Below w.heap.size w w4 := (hlo3.alloc hlo3.size _).grown hgr4 (by have := hlo3.size; simp; omega) (fun q hq => Nat.le_trans hww (OT.block O3.out q hq).1)
      have hlo5 : Below w1.heap.size W3 w4 := (((Below.refl _ _).mono hsz3).alloc hsz3 _).grown hgr4 (by simp; omega) (fun q hq => (OT.block O3.out q hq).1)
      have R4 := Lib.hid (R3.out.below hlo5 hB1)
      have hw3 : w2.heap.size < W3.heap.size := T3.lt
      have T4 : w4.cell? ⟨w2.heap.size, 0, none⟩ = some (.int .i64 0) := (World.cell?_of_block (a := ⟨w2.heap.size, 0, none⟩) (hgr4.block w2.heap.size (by simp; omega) (fun e => by have := hgl w2.heap.size e.symm; omega))).trans (Lib.cell?_alloc_some _ x0)
      have hsz4 : w1.heap.size ≤ w4.heap.size := Nat.le_trans hsz3 hlo5.size
      have O4 := Lib.hid hown5
      have H4 := Lib.hid hlo4
      clear hown4 hown5 hgr4 hlo4 hlo5 x0 x1 x2 x3 x4 x5 x6 x7 x8 xf T3 O3 R3
      go_wp2_with fail
      exact bodyPost_ret (v := .tuple #[v4, .int .i64 0, .int .i64 0, .int .i64 0]) (by simp [results, Tryz.results21, go_sem]) rfl ⟨by
        rw [h, ← hB]
        unfold tkAt
        rw [hY, hX]
        exact ⟨_, rfl, OT.mono O4.out (by first | exact hww | exact hsz1)⟩, H4.out⟩
    | tok hB hR hr =>
      rename_i K T Q N V X2 SG z
      have hps := scan_rt (rst s B) (by rw [rst_size]; omega) (by rw [rst_size]; omega) _ hR
      obtain ⟨hz1', hk0, hzp, hzr, hsc⟩ := hps
      rw [rst_size] at hzr
      have hN := next_tok s (by omega) bb f p a k n B K T Q N V X2 SG z 0 hz1' hkn hn hSk hB wr hG1.lg HR.out (fun W hb _ => hsc W (hG1.below hb))
      have hk1 : (K == 0) = false := beq_eq_false_iff_ne.2 hk0
      have HXX := Lib.hid hr
      have HTK : Hid (tkAt s B K T Q N V X2 SG = ⟨K, Y, X, T, Q, N, V, X2, SG⟩) := Lib.hid (by unfold tkAt; rw [hY, hX])
      rw [hY, hX] at hN
      clear hsc hk0 hR hr hG1
      have hww : w.heap.size ≤ w1.heap.size := by rw [HBB.out]; exact hsz1
      have hAll : ∀ q, RS f a q → q < w1.heap.size := fun q h => by have := RS_lt o2 o3 h; omega
      have hAllg : ∀ q, RS f a q → w.heap.size ≤ q := fun q h => by have := RS_ge o1 (show f < a by omega) h; rw [HBB.out]; exact this
      have HN := Lib.hid hN
      clear hN
      go_wp2_with fail
      refine HN.out.mono ?_
      rintro e w2 ⟨rfl, R2, hbut⟩
      have O2 := HO.out.but hbut hAll
      have hlo2 : Below w.heap.size w w2 := HLO.out.trans ((hbut.mono HLO.out.size (fun k h => h)).below hAllg)
      have hsz2 : w1.heap.size ≤ w2.heap.size := Nat.le_trans hsz hbut.size
      have hgl : ∀ q, Value.ownBlock (.slice av L.length cv) = some q → q < w2.heap.size := fun q hq => (OT.block O2 q hq).2
      clear HN hbut HR HO HLO
      go_upto_region 6 with fail
      obtain ⟨W3, hW3⟩ : ∃ W, W = w2.alloc (Obj.cells #[Value.int IntKind.i64 K, Value.int IntKind.i64 (Y : Int), Value.int IntKind.i64 (X : Int), Value.string T, Value.bool Q, Value.int IntKind.i64 N, Value.int IntKind.u64 V, Value.int IntKind.u64 X2, Value.bool SG] 42) := ⟨_, rfl⟩
      have b3 : Below w2.heap.size w2 W3 := by rw [hW3]; exact (Below.refl _ _).alloc (Nat.le_refl _) _
      have T3 : TB W3 w2.heap.size K Y X T Q N V X2 SG := by rw [hW3]; exact TB.new w2 _ _ _ _ _ _ _ _ _
      rw [← hW3]
      clear hW3
      have O3 := Lib.hid (O2.below b3)
      have hlo3 : Below w.heap.size w W3 := hlo2.trans (b3.mono hlo2.size)
      have R3 := Lib.hid (R2.below b3 R2.lt)
      have hsz3 : w1.heap.size ≤ W3.heap.size := Nat.le_trans hsz2 b3.size
      clear O2 R2 hlo2 b3
      obtain ⟨x0, x1, x2, x3, x4, x5, x6, x7, x8, xf⟩ := id T3
      go_upto_region 9 with (at_builtin; refine wpList_append_own _ rfl _ _ 34 rfl w1.heap.size 42 i0 _ 9 80 Tryz.underlying34 hi hz0 hz1 hz2 rfl (by decide) _ _ _ rfl (show (W3.alloc _).ownsRow w1.heap.size 42 9 _ L.length (flatT L) from OT.below O3.out ((Below.refl _ _).alloc (Nat.le_refl _) _)) ⟨W3.heap.size, 0, none⟩ 1 1 (encT ⟨K, Y, X, T, Q, N, V, X2, SG⟩) rfl ?d1 ?d2 ?d3 ?d4 ?d5 ?d6 ?_)
      case d1 => rfl
      case d2 =>
        intro j u hj
        rw [Addr.add_lit]
        have hjl : j < 9 := (List.getElem?_eq_some_iff.1 hj).1
        match j, hjl with
        | 0, _ => injection hj with hj; subst hj; go_simp
        | 1, _ => injection hj with hj; subst hj; go_simp
        | 2, _ => injection hj with hj; subst hj; go_simp
        | 3, _ => injection hj with hj; subst hj; go_simp
        | 4, _ => injection hj with hj; subst hj; go_simp
        | 5, _ => injection hj with hj; subst hj; go_simp
        | 6, _ => injection hj with hj; subst hj; go_simp
        | 7, _ => injection hj with hj; subst hj; go_simp
        | 8, _ => injection hj with hj; subst hj; go_simp
        | j + 9, h => exact absurd h (by omega)
      case d3 => exact encT_one _
      case d4 => unfold maxLen; omega
      case d5 => omega
      case d6 => simp; omega
      intro v4 w4 hown4 hgr4 _
      have hown5 : OT w1.heap.size w4 v4 (L ++ [⟨K, Y, X, T, Q, N, V, X2, SG⟩]) := by
        unfold OT
        rw [flatT_snoc, List.length_append]
        exact hown4
      have hlo4 : Below w.heap.size w w4 := (hlo3.alloc hlo3.size _).grown hgr4 (by have := hlo3.size; simp; omega) (fun q hq => Nat.le_trans hww (OT.block O3.out q hq).1)
      have hlo5 : Below w1.heap.size W3 w4 := (((Below.refl _ _).mono hsz3).alloc hsz3 _).grown hgr4 (by simp; omega) (fun q hq => (OT.block O3.out q hq).1)
      have R4 := Lib.hid (R3.out.below hlo5 hB1)
      have hw3 : w2.heap.size < W3.heap.size := T3.lt
      have T4 : w4.cell? ⟨w2.heap.size, 0, none⟩ = some (.int .i64 K) := (World.cell?_of_block (a := ⟨w2.heap.size, 0, none⟩) (hgr4.block w2.heap.size (by simp; omega) (fun e => by have := hgl w2.heap.size e.symm; omega))).trans (Lib.cell?_alloc_some _ x0)
      have hsz4 : w1.heap.size ≤ w4.heap.size := Nat.le_trans hsz3 hlo5.size
      have O4 := Lib.hid hown5
      have H4 := Lib.hid hlo4
      clear hown4 hown5 hgr4 hlo4 hlo5 x0 x1 x2 x3 x4 x5 x6 x7 x8 xf T3 O3 R3
      go_wp2_with fail
      go_roundg (s.size - (B + z))
      case measure => omega
      case rel => exact ⟨B, B + z, L ++ [⟨K, Y, X, T, Q, N, V, X2, SG⟩], by omega, by omega, by omega, by simp; omega, R4, O4, by rw [← HTK.out]; exact HXX, H4, hsz4⟩
    | bad hB hR h =>
      rename_i er
      have hps := scan_rt (rst s B) (by rw [rst_size]; omega) (by rw [rst_size]; omega) _ hR
      obtain ⟨he0, K, T, Q, N, V, X2, SG, z, hz1', hsc⟩ := hps
      have hN := next_tok s (by omega) bb f p a k n B K T Q N V X2 SG z er hz1' hkn hn hSk hB wr hG1.lg HR.out (fun W hb _ => hsc W (hG1.below hb))
      rw [hY, hX] at hN
      have hE1 : (er == 0) = false := beq_eq_false_iff_ne.2 he0
      have hE2 : (er != 0) = true := by rw [bne, hE1]; rfl
      clear hsc he0 hR hG1
      have hww : w.heap.size ≤ w1.heap.size := by rw [HBB.out]; exact hsz1
      have hAll : ∀ q, RS f a q → q < w1.heap.size := fun q h => by have := RS_lt o2 o3 h; omega
      have hAllg : ∀ q, RS f a q → w.heap.size ≤ q := fun q h => by have := RS_ge o1 (show f < a by omega) h; rw [HBB.out]; exact this
      have HN := Lib.hid hN
      clear hN
      go_wp2_with fail
      refine HN.out.mono ?_
      rintro e w2 ⟨rfl, R2, hbut⟩
      have O2 := HO.out.but hbut hAll
      have hlo2 : Below w.heap.size w w2 := HLO.out.trans ((hbut.mono HLO.out.size (fun k h => h)).below hAllg)
      have hsz2 : w1.heap.size ≤ w2.heap.size := Nat.le_trans hsz hbut.size
      have hgl : ∀ q, Value.ownBlock (.slice av L.length cv) = some q → q < w2.heap.size := fun q hq => (OT.block O2 q hq).2
      clear HN hbut HR HO HLO
      go_upto_region 6 with fail
      obtain ⟨W3, hW3⟩ : ∃ W, W = w2.alloc (Obj.cells #[Value.int IntKind.i64 K, Value.int IntKind.i64 (Y : Int), Value.int IntKind.i64 (X : Int), Value.string T, Value.bool Q, Value.int IntKind.i64 N, Value.int IntKind.u64 V, Value.int IntKind.u64 X2, Value.bool SG] 42) := ⟨_, rfl⟩
      have b3 : Below w2.heap.size w2 W3 := by rw [hW3]; exact (Below.refl _ _).alloc (Nat.le_refl _) _
      have T3 : TB W3 w2.heap.size K Y X T Q N V X2 SG := by rw [hW3]; exact TB.new w2 _ _ _ _ _ _ _ _ _
      rw [← hW3]
      clear hW3
      have O3 := Lib.hid (O2.below b3)
      have hlo3 : Below w.heap.size w W3 := hlo2.trans (b3.mono hlo2.size)
      have R3 := Lib.hid (R2.below b3 R2.lt)
      have hsz3 : w1.heap.size ≤ W3.heap.size := Nat.le_trans hsz2 b3.size
      clear O2 R2 hlo2 b3
      obtain ⟨x0, x1, x2, x3, x4, x5, x6, x7, x8, xf⟩ := id T3
      go_wp2_with fail
      go_region
      go_wp2_with fail
      exact bodyPost_ret (v := .tuple #[.slice none 0 0, .int .i64 (Y : Int), .int .i64 (X : Int), .int .i64 er]) (by simp [results, Tryz.results21, go_sem]) rfl ⟨by rw [h, hY, hX]; exact rfl, hlo3.drew⟩
end Go.Proofs.YtogmipbdnffegaaGreatDoor
