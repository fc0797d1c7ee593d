/- The program's Tokens.
   Equal rows of tokens: slices.Equal; texts that are too long.
   The example of the chapter on tokens. -/
import Derived.Test.YtfnkablbcalclaaGreatDoorMgRow
import Derived.Deep.LoopGhost
import Derived.RegionTactic
namespace Go.Proofs.YtfnkablbcalclaaGreatDoor
open Go Go.RowKit
set_option linter.unusedVariables false
/-- what Tokens answers -/
def TokAns (B : Nat) (w' : World) (e : Ending) : Fin → Prop
  | .done L => ∃ v, e = .returned (.tuple #[v, .int .i64 0, .int .i64 0, .int .i64 0]) ∧ OT B w' v L
  | .bad y x c => e = .returned (.tuple #[.slice none 0 0, .int .i64 y, .int .i64 x, .int .i64 c])
theorem RS_lt {f p a k : Nat} (h2 : f + 3 < p) (h3 : p < a) (h : RS f a k) : k ≤ a := by
  rcases h with (h | h | h) | h <;> omega
theorem RS_ge {b f a k : Nat} (h1 : b < f) (h3 : f < a) (h : RS f a k) : b ≤ k := by
  rcases h with (h | h | h) | h <;> omega
set_option maxRecDepth 100000 in
set_option maxHeartbeats 8000000 in
theorem prog_tokens (s : ByteArray) (hs : s.size ≤ 2000) (F : Fin) (hF : Lx s 0 [] F) (w : World) (hG : PG w) :
    Calls Tryz.prog 5 #[.string s] w fun e w' => TokAns w.heap.size w' e F ∧ Below w.heap.size w w' := by
  obtain ⟨i0, hi, hz0, hz1, hz2⟩ := infoT_parts
  have HG := Lib.hid hG
  have HF := Lib.hid hF
  clear hG hF
  have hsi : ¬ (16000 : Int) < (s.size : Int) := by omega
  have HREL : ∀ wr, Hid (Below w.heap.size w wr) → PG wr := fun wr h => HG.out.below h.out
  have HRE := Lib.hid HREL
  clear HREL
  go_enter Tryz.func5, Tryz.ntmps5
  go_upto_region 4 with (go_at_call 8; refine (reader_any s _).mono ?_; rintro e w1 ⟨f, p, a, rfl, R1, hb1⟩)
  have hB1 := R1.lt
  have o1 := R1.o1
  have o2 := R1.o2
  have o3 := R1.o3
  have HR1 := Lib.hid R1
  have HB1 := Lib.hid hb1
  have hsz1 := hb1.size
  clear R1 hb1
  obtain ⟨bb, hbb⟩ : ∃ bb, w.heap.size = bb := ⟨_, rfl⟩
  have HBB := Lib.hid hbb
  simp only [hbb] at o1 HR1 hsz1 ⊢
  clear hbb
  unfold rdV
  go_wp2_with fail
  go_loopg [7] s.size (fun g v wr => ∃ (k n : Nat) (L : List Tk), k ≤ n ∧ n ≤ s.size ∧ s.size - n ≤ g ∧ L.length ≤ n ∧ Hid (RB wr bb f p a s k n) ∧ Hid (OT w1.heap.size wr v L) ∧ Hid (Lx s n L F) ∧ Hid (Below w.heap.size w wr) ∧ w1.heap.size ≤ wr.heap.size)
  case atStart => exact ⟨0, 0, [], Nat.le_refl _, Nat.zero_le _, by omega, Nat.le_refl _, HR1, Lib.hid (OT.nil _ _), HF, HB1, Nat.le_refl _⟩
  case round =>
    rename World => wr
    obtain ⟨k, n, L, hkn, hn, hg, hL, HR, HO, HX, HLO, hsz⟩ := hrel
    rename_i v
    obtain ⟨av, cv, hv⟩ := HO.out.form
    subst hv
    clear HF HR1 HB1
    obtain ⟨B, E, hSk, hnB, hNx⟩ := lx_next HX.out
    have hG1 := HRE.out wr HLO
    have hBs : B ≤ s.size := (sk_le hSk).2
    obtain ⟨Y, hY⟩ : ∃ Y : Nat, (plcT s B).1 = Y := ⟨_, rfl⟩
    obtain ⟨X, hX⟩ : ∃ X : Nat, (plcT s B).2 = X := ⟨_, rfl⟩
    cases hNx with
    | short h =>
      have hN := next_end s (by omega) bb f p a k n B 11 hkn hn hSk (.inl rfl) wr hG1.lg HR.out
      rw [hY, hX] at hN
      have hww : w.heap.size ≤ w1.heap.size := by rw [HBB.out]; exact hsz1
      have hAll : ∀ q, RS f a q → q < w1.heap.size := fun q h => by have := RS_lt o2 o3 h; omega
      have hAllg : ∀ q, RS f a q → w.heap.size ≤ q := fun q h => by have := RS_ge o1 (show f < a by omega) h; rw [HBB.out]; exact this
      have HN := Lib.hid hN
      clear hN
      go_wp2_with fail
      refine HN.out.mono ?_
      rintro e w2 ⟨rfl, R2, hbut⟩
      have O2 := HO.out.but hbut hAll
      have hlo2 : Below w.heap.size w w2 := HLO.out.trans ((hbut.mono HLO.out.size (fun k h => h)).below hAllg)
      have hsz2 : w1.heap.size ≤ w2.heap.size := Nat.le_trans hsz hbut.size
      have hgl : ∀ q, Value.ownBlock (.slice av L.length cv) = some q → q < w2.heap.size := fun q hq => (OT.block O2 q hq).2
      clear HN hbut HR HO HLO
      go_upto_region 6 with fail
      obtain ⟨W3, hW3⟩ : ∃ W, W = w2.alloc (Obj.cells #[Value.int IntKind.i64 0, Value.int IntKind.i64 (Y : Int), Value.int IntKind.i64 (X : Int), Value.string ⟨#[]⟩, Value.bool false, Value.int IntKind.i64 0, Value.int IntKind.u64 0, Value.int IntKind.u64 0, Value.bool false] 32) := ⟨_, rfl⟩
      have b3 : Below w2.heap.size w2 W3 := by rw [hW3]; exact (Below.refl _ _).alloc (Nat.le_refl _) _
      have T3 : TB W3 w2.heap.size 0 Y X ⟨#[]⟩ false 0 0 0 false := by rw [hW3]; exact TB.new w2 _ _ _ _ _ _ _ _ _
      rw [← hW3]
      clear hW3
      have O3 := Lib.hid (O2.below b3)
      have hlo3 : Below w.heap.size w W3 := hlo2.trans (b3.mono hlo2.size)
      have R3 := Lib.hid (R2.below b3 R2.lt)
      have hsz3 : w1.heap.size ≤ W3.heap.size := Nat.le_trans hsz2 b3.size
      clear O2 R2 hlo2 b3
      obtain ⟨x0, x1, x2, x3, x4, x5, x6, x7, x8, xf⟩ := id T3
      go_wp2_with fail
      go_region
      go_wp2_with fail
      exact bodyPost_ret (v := .tuple #[.slice none 0 0, .int .i64 (Y : Int), .int .i64 (X : Int), .int .i64 11]) (by simp [results, Tryz.results5, go_sem]) rfl ⟨by rw [h, hY, hX]; exact rfl, hlo3.drew⟩
    | fin hB h =>
      have hN := next_end s (by omega) bb f p a k n B 0 hkn hn hSk (.inr ⟨rfl, hB⟩) wr hG1.lg HR.out
      rw [hY, hX] at hN
      have hww : w.heap.size ≤ w1.heap.size := by rw [HBB.out]; exact hsz1
      have hAll : ∀ q, RS f a q → q < w1.heap.size := fun q h => by have := RS_lt o2 o3 h; omega
      have hAllg : ∀ q, RS f a q → w.heap.size ≤ q := fun q h => by have := RS_ge o1 (show f < a by omega) h; rw [HBB.out]; exact this
      have HN := Lib.hid hN
      clear hN
      go_wp2_with fail
      refine HN.out.mono ?_
      rintro e w2 ⟨rfl, R2, hbut⟩
      have O2 := HO.out.but hbut hAll
      have hlo2 : Below w.heap.size w w2 := HLO.out.trans ((hbut.mono HLO.out.size (fun k h => h)).below hAllg)
      have hsz2 : w1.heap.size ≤ w2.heap.size := Nat.le_trans hsz hbut.size
      have hgl : ∀ q, Value.ownBlock (.slice av L.length cv) = some q → q < w2.heap.size := fun q hq => (OT.block O2 q hq).2
      clear HN hbut HR HO HLO
      go_upto_region 6 with fail
      obtain ⟨W3, hW3⟩ : ∃ W, W = w2.alloc (Obj.cells #[Value.int IntKind.i64 0, Value.int IntKind.i64 (Y : Int), Value.int IntKind.i64 (X : Int), Value.string ⟨#[]⟩, Value.bool false, Value.int IntKind.i64 0, Value.int IntKind.u64 0, Value.int IntKind.u64 0, Value.bool false] 32) := ⟨_, rfl⟩
      have b3 : Below w2.heap.size w2 W3 := by rw [hW3]; exact (Below.refl _ _).alloc (Nat.le_refl _) _
      have T3 : TB W3 w2.heap.size 0 Y X ⟨#[]⟩ false 0 0 0 false := by rw [hW3]; exact TB.new w2 _ _ _ _ _ _ _ _ _
      rw [← hW3]
      clear hW3
      have O3 := Lib.hid (O2.below b3)
      have hlo3 : Below w.heap.size w W3 := hlo2.trans (b3.mono hlo2.size)
      have R3 := Lib.hid (R2.below b3 R2.lt)
      have hsz3 : w1.heap.size ≤ W3.heap.size := Nat.le_trans hsz2 b3.size
      clear O2 R2 hlo2 b3
      obtain ⟨x0, x1, x2, x3, x4, x5, x6, x7, x8, xf⟩ := id T3
      go_upto_region 9 with (at_builtin; refine wpList_append_own _ rfl _ _ 23 rfl w1.heap.size 32 i0 _ 9 80 Tryz.underlying23 hi hz0 hz1 hz2 rfl (by decide) _ _ _ rfl (show (W3.alloc _).ownsRow w1.heap.size 32 9 _ L.length (flatT L) from OT.below O3.out ((Below.refl _ _).alloc (Nat.le_refl _) _)) ⟨W3.heap.size, 0, none⟩ 1 1 (encT ⟨0, Y, X, ⟨#[]⟩, false, 0, 0, 0, false⟩) rfl ?d1 ?d2 ?d3 ?d4 ?d5 ?d6 ?_)
      case d1 => rfl
      case d2 =>
        intro j u hj
        rw [Addr.add_lit]
        have hjl : j < 9 := (List.getElem?_eq_some_iff.1 hj).1
        match j, hjl with
        | 0, _ => injection hj with hj; subst hj; go_simp
        | 1, _ => injection hj with hj; subst hj; go_simp
        | 2, _ => injection hj with hj; subst hj; go_simp
        | 3, _ => injection hj with hj; subst hj; go_simp
        | 4, _ => injection hj with hj; subst hj; go_simp
        | 5, _ => injection hj with hj; subst hj; go_simp
        | 6, _ => injection hj with hj; subst hj; go_simp
        | 7, _ => injection hj with hj; subst hj; go_simp
        | 8, _ => injection hj with hj; subst hj; go_simp
        | j + 9, h => exact absurd h (by omega)
      case d3 => exact encT_one _
      case d4 => unfold maxLen; omega
      case d5 => omega
      case d6 => simp; omega
      intro v4 w4 hown4 hgr4 _
      have hown5 : OT w1.heap.size w4 v4 (L ++ [⟨0, Y, X, ⟨#[]⟩, false, 0, 0, 0, false⟩]) := by
        unfold OT
        rw [flatT_snoc, List.length_append]
        exact hown4
      have hlo4 : Below w.heap.size w w4 := (hlo3.alloc hlo3.size _).grown hgr4 (by have := hlo3.size; simp; omega) (fun q hq => Nat.le_trans hww (OT.block O3.out q hq).1)
      have hlo5 : Below w1.heap.size W3 w4 := (((Below.refl _ _).mono hsz3).alloc hsz3 _).grown hgr4 (by simp; omega) (fun q hq => (OT.block O3.out q hq).1)
      have R4 := Lib.hid (R3.out.below hlo5 hB1)
      have hw3 : w2.heap.size < W3.heap.size := T3.lt
      have T4 : w4.cell? ⟨w2.heap.size, 0, none⟩ = some (.int .i64 0) := (World.cell?_of_block (a := ⟨w2.heap.size, 0, none⟩) (hgr4.block w2.heap.size (by simp; omega) (fun e => by have := hgl w2.heap.size e.symm; omega))).trans (Lib.cell?_alloc_some _ x0)
      have hsz4 : w1.heap.size ≤ w4.heap.size := Nat.le_trans hsz3 hlo5.size
      have O4 := Lib.hid hown5
      have H4 := Lib.hid hlo4
      clear hown4 hown5 hgr4 hlo4 hlo5 x0 x1 x2 x3 x4 x5 x6 x7 x8 xf T3 O3 R3
      go_wp2_with fail
      exact bodyPost_ret (v := .tuple #[v4, .int .i64 0, .int .i64 0, .int .i64 0]) (by simp [results, Tryz.results5, go_sem]) rfl ⟨by
        rw [h, ← hB]
        unfold tkAt
        rw [hY, hX]
        exact ⟨_, rfl, OT.mono O4.out (by first | exact hww | exact hsz1)⟩, H4.out⟩
    | tok hB hR hr =>
      rename_i K T Q N V X2 SG z
      have hps := scan_rt (rst s B) (by rw [rst_size]; omega) (by rw [rst_size]; omega) _ hR
      obtain ⟨hz1', hk0, hzp, hzr, hsc⟩ := hps
      rw [rst_size] at hzr
      have hN := next_tok s (by omega) bb f p a k n B K T Q N V X2 SG z 0 hz1' hkn hn hSk hB wr hG1.lg HR.out (fun W hb _ => hsc W (hG1.below hb))
      have hk1 : (K == 0) = false := beq_eq_false_iff_ne.2 hk0
      have HXX := Lib.hid hr
      have HTK : Hid (tkAt s B K T Q N V X2 SG = ⟨K, Y, X, T, Q, N, V, X2, SG⟩) := Lib.hid (by unfold tkAt; rw [hY, hX])
      rw [hY, hX] at hN
      clear hsc hk0 hR hr hG1
      have hww : w.heap.size ≤ w1.heap.size := by rw [HBB.out]; exact hsz1
      have hAll : ∀ q, RS f a q → q < w1.heap.size := fun q h => by have := RS_lt o2 o3 h; omega
      have hAllg : ∀ q, RS f a q → w.heap.size ≤ q := fun q h => by have := RS_ge o1 (show f < a by omega) h; rw [HBB.out]; exact this
      have HN := Lib.hid hN
      clear hN
      go_wp2_with fail
      refine HN.out.mono ?_
      rintro e w2 ⟨rfl, R2, hbut⟩
      have O2 := HO.out.but hbut hAll
      have hlo2 : Below w.heap.size w w2 := HLO.out.trans ((hbut.mono HLO.out.size (fun k h => h)).below hAllg)
      have hsz2 : w1.heap.size ≤ w2.heap.size := Nat.le_trans hsz hbut.size
      have hgl : ∀ q, Value.ownBlock (.slice av L.length cv) = some q → q < w2.heap.size := fun q hq => (OT.block O2 q hq).2
      clear HN hbut HR HO HLO
      go_upto_region 6 with fail
      obtain ⟨W3, hW3⟩ : ∃ W, W = w2.alloc (Obj.cells #[Value.int IntKind.i64 K, Value.int IntKind.i64 (Y : Int), Value.int IntKind.i64 (X : Int), Value.string T, Value.bool Q, Value.int IntKind.i64 N, Value.int IntKind.u64 V, Value.int IntKind.u64 X2, Value.bool SG] 32) := ⟨_, rfl⟩
      have b3 : Below w2.heap.size w2 W3 := by rw [hW3]; exact (Below.refl _ _).alloc (Nat.le_refl _) _
      have T3 : TB W3 w2.heap.size K Y X T Q N V X2 SG := by rw [hW3]; exact TB.new w2 _ _ _ _ _ _ _ _ _
      rw [← hW3]
      clear hW3
      have O3 := Lib.hid (O2.below b3)
      have hlo3 : Below w.heap.size w W3 := hlo2.trans (b3.mono hlo2.size)
      have R3 := Lib.hid (R2.below b3 R2.lt)
      have hsz3 : w1.heap.size ≤ W3.heap.size := Nat.le_trans hsz2 b3.size
      clear O2 R2 hlo2 b3
      obtain ⟨x0, x1, x2, x3, x4, x5, x6, x7, x8, xf⟩ := id T3
      go_upto_region 9 with (at_builtin; refine wpList_append_own _ rfl _ _ 23 rfl w1.heap.size 32 i0 _ 9 80 Tryz.underlying23 hi hz0 hz1 hz2 rfl (by decide) _ _ _ rfl (show (W3.alloc _).ownsRow w1.heap.size 32 9 _ L.length (flatT L) from OT.below O3.out ((Below.refl _ _).alloc (Nat.le_refl _) _)) ⟨W3.heap.size, 0, none⟩ 1 1 (encT ⟨K, Y, X, T, Q, N, V, X2, SG⟩) rfl ?d1 ?d2 ?d3 ?d4 ?d5 ?d6 ?_)
      case d1 => rfl
      case d2 =>
        intro j u hj
        rw [Addr.add_lit]
        have hjl : j < 9 := (List.getElem?_eq_some_iff.1 hj).1
        match j, hjl with
        | 0, _ => injection hj with hj; subst hj; go_simp
        | 1, _ => injection hj with hj; subst hj; go_simp
        | 2, _ => injection hj with hj; subst hj; go_simp
        | 3, _ => injection hj with hj; subst hj; go_simp
        | 4, _ => injection hj with hj; subst hj; go_simp
        | 5, _ => injection hj with hj; subst hj; go_simp
        | 6, _ => injection hj with hj; subst hj; go_simp
        | 7, _ => injection hj with hj; subst hj; go_simp
        | 8, _ => injection hj with hj; subst hj; go_simp
        | j + 9, h => exact absurd h (by omega)
      case d3 => exact encT_one _
      case d4 => unfold maxLen; omega
      case d5 => omega
      case d6 => simp; omega
      intro v4 w4 hown4 hgr4 _
      have hown5 : OT w1.heap.size w4 v4 (L ++ [⟨K, Y, X, T, Q, N, V, X2, SG⟩]) := by
        unfold OT
        rw [flatT_snoc, List.length_append]
        exact hown4
      have hlo4 : Below w.heap.size w w4 := (hlo3.alloc hlo3.size _).grown hgr4 (by have := hlo3.size; simp; omega) (fun q hq => Nat.le_trans hww (OT.block O3.out q hq).1)
      have hlo5 : Below w1.heap.size W3 w4 := (((Below.refl _ _).mono hsz3).alloc hsz3 _).grown hgr4 (by simp; omega) (fun q hq => (OT.block O3.out q hq).1)
      have R4 := Lib.hid (R3.out.below hlo5 hB1)
      have hw3 : w2.heap.size < W3.heap.size := T3.lt
      have T4 : w4.cell? ⟨w2.heap.size, 0, none⟩ = some (.int .i64 K) := (World.cell?_of_block (a := ⟨w2.heap.size, 0, none⟩) (hgr4.block w2.heap.size (by simp; omega) (fun e => by have := hgl w2.heap.size e.symm; omega))).trans (Lib.cell?_alloc_some _ x0)
      have hsz4 : w1.heap.size ≤ w4.heap.size := Nat.le_trans hsz3 hlo5.size
      have O4 := Lib.hid hown5
      have H4 := Lib.hid hlo4
      clear hown4 hown5 hgr4 hlo4 hlo5 x0 x1 x2 x3 x4 x5 x6 x7 x8 xf T3 O3 R3
      go_wp2_with fail
      go_roundg (s.size - (B + z))
      case measure => omega
      case rel => exact ⟨B, B + z, L ++ [⟨K, Y, X, T, Q, N, V, X2, SG⟩], by omega, by omega, by omega, by simp; omega, R4, O4, by rw [← HTK.out]; exact HXX, H4, hsz4⟩
    | bad hB hR h =>
      rename_i er
      have hps := scan_rt (rst s B) (by rw [rst_size]; omega) (by rw [rst_size]; omega) _ hR
      obtain ⟨he0, K, T, Q, N, V, X2, SG, z, hz1', hsc⟩ := hps
      have hN := next_tok s (by omega) bb f p a k n B K T Q N V X2 SG z er hz1' hkn hn hSk hB wr hG1.lg HR.out (fun W hb _ => hsc W (hG1.below hb))
      rw [hY, hX] at hN
      have hE1 : (er == 0) = false := beq_eq_false_iff_ne.2 he0
      have hE2 : (er != 0) = true := by rw [bne, hE1]; rfl
      clear hsc he0 hR hG1
      have hww : w.heap.size ≤ w1.heap.size := by rw [HBB.out]; exact hsz1
      have hAll : ∀ q, RS f a q → q < w1.heap.size := fun q h => by have := RS_lt o2 o3 h; omega
      have hAllg : ∀ q, RS f a q → w.heap.size ≤ q := fun q h => by have := RS_ge o1 (show f < a by omega) h; rw [HBB.out]; exact this
      have HN := Lib.hid hN
      clear hN
      go_wp2_with fail
      refine HN.out.mono ?_
      rintro e w2 ⟨rfl, R2, hbut⟩
      have O2 := HO.out.but hbut hAll
      have hlo2 : Below w.heap.size w w2 := HLO.out.trans ((hbut.mono HLO.out.size (fun k h => h)).below hAllg)
      have hsz2 : w1.heap.size ≤ w2.heap.size := Nat.le_trans hsz hbut.size
      have hgl : ∀ q, Value.ownBlock (.slice av L.length cv) = some q → q < w2.heap.size := fun q hq => (OT.block O2 q hq).2
      clear HN hbut HR HO HLO
      go_upto_region 6 with fail
      obtain ⟨W3, hW3⟩ : ∃ W, W = w2.alloc (Obj.cells #[Value.int IntKind.i64 K, Value.int IntKind.i64 (Y : Int), Value.int IntKind.i64 (X : Int), Value.string T, Value.bool Q, Value.int IntKind.i64 N, Value.int IntKind.u64 V, Value.int IntKind.u64 X2, Value.bool SG] 32) := ⟨_, rfl⟩
      have b3 : Below w2.heap.size w2 W3 := by rw [hW3]; exact (Below.refl _ _).alloc (Nat.le_refl _) _
      have T3 : TB W3 w2.heap.size K Y X T Q N V X2 SG := by rw [hW3]; exact TB.new w2 _ _ _ _ _ _ _ _ _
      rw [← hW3]
      clear hW3
      have O3 := Lib.hid (O2.below b3)
      have hlo3 : Below w.heap.size w W3 := hlo2.trans (b3.mono hlo2.size)
      have R3 := Lib.hid (R2.below b3 R2.lt)
      have hsz3 : w1.heap.size ≤ W3.heap.size := Nat.le_trans hsz2 b3.size
      clear O2 R2 hlo2 b3
      obtain ⟨x0, x1, x2, x3, x4, x5, x6, x7, x8, xf⟩ := id T3
      go_wp2_with fail
      go_region
      go_wp2_with fail
      exact bodyPost_ret (v := .tuple #[.slice none 0 0, .int .i64 (Y : Int), .int .i64 (X : Int), .int .i64 er]) (by simp [results, Tryz.results5, go_sem]) rfl ⟨by rw [h, hY, hX]; exact rfl, hlo3.drew⟩
end Go.Proofs.YtfnkablbcalclaaGreatDoor
namespace Go.Proofs.YtfnkablbcalclaaGreatDoor
open Go Go.RowKit
set_option linter.unusedVariables false
set_option maxRecDepth 100000 in
set_option maxHeartbeats 4000000 in
theorem equal_tok (b1 c1 b2 c2 : Nat) (L : List Tk) (hn : L.length ≤ 1000000) (k1 : L.length ≤ c1) (k2 : L.length ≤ c2) (w : World) (h1 : ∀ j (hj : j < L.length) c, c < 9 → w.cell? ⟨b1, j * 9 + c, none⟩ = (encT L[j])[c]?) (h2 : ∀ j (hj : j < L.length) c, c < 9 → w.cell? ⟨b2, j * 9 + c, none⟩ = (encT L[j])[c]?) :
    Calls Tryz.prog 7 #[.slice (some ⟨b1, 0, none⟩) L.length c1, .slice (some ⟨b2, 0, none⟩) L.length c2] w fun e w' => e = .returned (.bool true) ∧ Below w.heap.size w w' := by
  have H1 := Lib.hid h1
  have H2 := Lib.hid h2
  clear h1 h2
  obtain ⟨N, hN⟩ : ∃ N, L.length = N := ⟨_, rfl⟩
  have HN := Lib.hid hN
  rw [hN] at hn k1 k2 ⊢
  clear hN
  go_enter Tryz.func7, Tryz.ntmps7
  go_wp2_with fail
  go_loopw [13] (fun u wr => ∃ i : Nat, i ≤ N ∧ u = .int .i64 (i : Int) ∧ Hid (Below w.heap.size w wr)) (fun u _ => N - (intOf u).toNat)
  case atStart => exact ⟨0, Nat.zero_le _, rfl, Lib.hid (Below.refl _ _)⟩
  case round =>
    rename World => wr
    obtain ⟨i, hi, rfl, hlo⟩ := hrel
    have hi0 : (0 : Int) ≤ (i : Int) := by omega
    by_cases hin : i < N
    · have hini : (i : Int) < (N : Int) := by omega
      have hiL : i < L.length := by rw [HN.out]; exact hin
      obtain ⟨tk, htk⟩ : ∃ tk, L[i] = tk := ⟨_, rfl⟩
      have A : ∀ c u, c < 9 → (encT tk)[c]? = some u → wr.cell? ⟨b1, i * 9 + c, none⟩ = some u := fun c u hc hu => by
        have h := H1.out i hiL c hc
        rw [htk, hu] at h
        exact (hlo.out.cell (p := ⟨b1, i * 9 + c, none⟩) (World.block_lt_of_cell? w _ h)).trans h
      have B : ∀ c u, c < 9 → (encT tk)[c]? = some u → wr.cell? ⟨b2, i * 9 + c, none⟩ = some u := fun c u hc hu => by
        have h := H2.out i hiL c hc
        rw [htk, hu] at h
        exact (hlo.out.cell (p := ⟨b2, i * 9 + c, none⟩) (World.block_lt_of_cell? w _ h)).trans h
      obtain ⟨k, l, c, t, q, n, v, x, s⟩ := tk
      have a0 := A 0 _ (by decide) rfl
      have a1 := A 1 _ (by decide) rfl
      have a2 := A 2 _ (by decide) rfl
      have a3 := A 3 _ (by decide) rfl
      have a4 := A 4 _ (by decide) rfl
      have a5 := A 5 _ (by decide) rfl
      have a6 := A 6 _ (by decide) rfl
      have a7 := A 7 _ (by decide) rfl
      have a8 := A 8 _ (by decide) rfl
      have e0 := B 0 _ (by decide) rfl
      have e1 := B 1 _ (by decide) rfl
      have e2 := B 2 _ (by decide) rfl
      have e3 := B 3 _ (by decide) rfl
      have e4 := B 4 _ (by decide) rfl
      have e5 := B 5 _ (by decide) rfl
      have e6 := B 6 _ (by decide) rfl
      have e7 := B 7 _ (by decide) rfl
      have e8 := B 8 _ (by decide) rfl
      simp only [Nat.add_zero] at a0 e0
      clear A B htk hiL
      go_upto_region 6 with fail
      go_region
      all_goals
        go_wp2_with fail
        go_roundw
        case rel => exact ⟨i + 1, by omega, by first | rfl | go_num, Lib.hid hlo.out.drew⟩
        case measure => simp [intOf] <;> omega
    · obtain rfl : i = N := by omega
      go_wp2_with fail
      go_ret
      exact ⟨rfl, hlo.out⟩
set_option maxHeartbeats 1000000 in
theorem equal_nil (w : World) : Calls Tryz.prog 7 #[.slice none 0 0, .slice none 0 0] w fun e w' => e = .returned (.bool true) ∧ Below w.heap.size w w' := by
  go_enter Tryz.func7, Tryz.ntmps7
  go_wp2_with fail
  go_loopw [13] (fun s13 wr => s13 = .int .i64 0 ∧ wr = w) (fun _ _ => 0)
  case atStart => exact ⟨rfl, rfl⟩
  case round =>
    obtain ⟨rfl, rfl⟩ := hrel
    go_wp2_with fail
    exact bodyPost_ret (v := .bool true) (by simp [results, Tryz.results7, go_sem]) rfl ⟨rfl, Below.refl _ _⟩
set_option maxRecDepth 100000 in
theorem prog_big (s : ByteArray) (hs : 16000 < s.size) (hs2 : s.size ≤ 9223372036854775807) (w : World) :
    Calls Tryz.prog 5 #[.string s] w fun e w' => e = .returned (.tuple #[.slice none 0 0, .int .i64 0, .int .i64 0, .int .i64 3]) ∧ Below w.heap.size w w' := by
  have hsi : (16000 : Int) < (s.size : Int) := by omega
  go_enter Tryz.func5, Tryz.ntmps5
  go_wp2_with fail
  exact bodyPost_ret (v := .tuple #[.slice none 0 0, .int .i64 0, .int .i64 0, .int .i64 3]) (by simp [results, Tryz.results5, go_sem]) rfl ⟨rfl, Below.refl _ _⟩
set_option maxRecDepth 100000 in
theorem ref_big (s : ByteArray) (hs : 16000 < s.size) (hs2 : s.size ≤ 9223372036854775807) (w : World) :
    Calls Tryz.prog 6 #[.string s] w fun e w' => e = .returned (.tuple #[.slice none 0 0, .int .i64 0, .int .i64 0, .int .i64 3]) ∧ Below w.heap.size w w' := by
  have hsi : (16000 : Int) < (s.size : Int) := by omega
  go_enter Tryz.func6, Tryz.ntmps6
  go_wp2_with fail
  exact bodyPost_ret (v := .tuple #[.slice none 0 0, .int .i64 0, .int .i64 0, .int .i64 3]) (by simp [results, Tryz.results6, go_sem]) rfl ⟨rfl, (Below.refl _ _).alloc (Nat.le_refl _) _⟩
end Go.Proofs.YtfnkablbcalclaaGreatDoor
namespace Go.Proofs.YtfnkablbcalclaaGreatDoor
open Go Go.RowKit
set_option linter.unusedVariables false
def exT : ByteArray := ⟨#[97, 60, 61, 56, 39, 115, 100, 53, 59]⟩
theorem hop0 : hop (rst exT 0) = none := by kernel_rfl
theorem hop1 : hop (rst exT 1) = none := by kernel_rfl
theorem hop3 : hop (rst exT 3) = none := by kernel_rfl
theorem hop8 : hop (rst exT 8) = none := by kernel_rfl
theorem rt0 : Rt (rst exT 0) (.ok 1 ⟨#[97]⟩ false 0 0 0 false 1) := by
  have h := Rt.name (r := rst exT 0) (by kernel_rfl) (of_decide_eq_true (by kernel_rfl))
  have e : (Res.ok (if isKey ((rst exT 0).extract 0 (span inW (rst exT 0))).data.toList then 2 else 1) ((rst exT 0).extract 0 (span inW (rst exT 0))) false 0 0 0 false (span inW (rst exT 0))) = Res.ok 1 ⟨#[97]⟩ false 0 0 0 false 1 := by kernel_rfl
  rw [e] at h
  exact h
theorem rt1 : Rt (rst exT 1) (.ok 5 ⟨#[60, 61]⟩ false 0 0 0 false 2) := by
  have h := Rt.sign (r := rst exT 1) (by kernel_rfl) (by kernel_rfl) (of_decide_eq_true (by kernel_rfl)) (of_decide_eq_true (by kernel_rfl)) (i := 8) (by kernel_rfl)
  have e : Res.ok 5 (signB 8) false 0 0 0 false (signB 8).size = Res.ok 5 ⟨#[60, 61]⟩ false 0 0 0 false 2 := by kernel_rfl
  rw [e] at h
  exact h
theorem rt8 : Rt (rst exT 8) (.ok 5 ⟨#[59]⟩ false 0 0 0 false 1) := by
  have h := Rt.sign (r := rst exT 8) (by kernel_rfl) (by kernel_rfl) (of_decide_eq_true (by kernel_rfl)) (of_decide_eq_true (by kernel_rfl)) (i := 27) (by kernel_rfl)
  have e : Res.ok 5 (signB 27) false 0 0 0 false (signB 27).size = Res.ok 5 ⟨#[59]⟩ false 0 0 0 false 1 := by kernel_rfl
  rw [e] at h
  exact h
theorem cut3 : Cutt ⟨#[56, 39, 115, 100, 53]⟩ ⟨#[56]⟩ ⟨#[115, 100, 53]⟩ ⟨#[100, 53]⟩ :=
  ⟨by decide, by decide, by kernel_rfl, fun i h hi => by
    have hi' : i < 1 := hi
    have : i = 0 := by omega
    subst this
    exact (show 48 ≤ 56 ∧ 56 ≤ 57 by omega), fun _ => (show (56 : Nat) ≠ 48 by decide), fun _ => by kernel_rfl, by kernel_rfl, .inl ⟨by decide, by kernel_rfl, by kernel_rfl⟩⟩
theorem rdg3 : Rdg ⟨#[56, 39, 115, 100, 53]⟩ (.tuple #[.agg #[.int .i64 8, .int .u64 5, .int .u64 0], .int .i64 0]) := by
  have h := Rdg.decOk cut3 (by decide) (by decide) (by decide) (by decide) (by kernel_rfl) (by decide) (of_decide_eq_true (by kernel_rfl))
  have e : good (wid ⟨#[56]⟩) (kv (wid ⟨#[56]⟩) (BitVec.ofNat 64 (dval 0 ((ByteArray.mk #[100, 53]).extract 1 (ByteArray.mk #[100, 53]).size).data.toList))) = .tuple #[.agg #[.int .i64 8, .int .u64 5, .int .u64 0], .int .i64 0] := by kernel_rfl
  rw [e] at h
  exact h
theorem rt3 : Rt (rst exT 3) (.ok 3 ⟨#[]⟩ false 8 5 0 true 5) := by
  have hq : quoT (rst exT 3) (span isD (rst exT 3)) = ⟨#[56, 39, 115, 100, 53]⟩ := by kernel_rfl
  have h := Rt.nq (r := rst exT 3) (by kernel_rfl) (of_decide_eq_true (by kernel_rfl)) (by kernel_rfl) (a := 8) (b := 5) (c := 0) (by rw [hq]; exact rdg3)
  have e : Res.ok 3 ⟨#[]⟩ false 8 5 0 (decide (gb (rst exT 3) (span isD (rst exT 3) + 1) = 115)) (span isD (rst exT 3) + 1 + span inW ((rst exT 3).extract (span isD (rst exT 3) + 1) (rst exT 3).size)) = Res.ok 3 ⟨#[]⟩ false 8 5 0 true 5 := by kernel_rfl
  rw [e] at h
  exact h
def exL : List Tk := [⟨1, 1, 1, ⟨#[97]⟩, false, 0, 0, 0, false⟩, ⟨5, 1, 2, ⟨#[60, 61]⟩, false, 0, 0, 0, false⟩, ⟨3, 1, 4, ⟨#[]⟩, false, 8, 5, 0, true⟩, ⟨5, 1, 9, ⟨#[59]⟩, false, 0, 0, 0, false⟩, ⟨0, 1, 10, ⟨#[]⟩, false, 0, 0, 0, false⟩]
theorem lx_ex : Lx exT 0 [] (.done exL) := by
  have h : Lx exT 9 [tkAt exT 0 1 ⟨#[97]⟩ false 0 0 0 false, tkAt exT 1 5 ⟨#[60, 61]⟩ false 0 0 0 false, tkAt exT 3 3 ⟨#[]⟩ false 8 5 0 true, tkAt exT 8 5 ⟨#[59]⟩ false 0 0 0 false] (.done exL) := by
    have h := Lx.fin (s := exT) (acc := [tkAt exT 0 1 ⟨#[97]⟩ false 0 0 0 false, tkAt exT 1 5 ⟨#[60, 61]⟩ false 0 0 0 false, tkAt exT 3 3 ⟨#[]⟩ false 8 5 0 true, tkAt exT 8 5 ⟨#[59]⟩ false 0 0 0 false])
    have e : [tkAt exT 0 1 ⟨#[97]⟩ false 0 0 0 false, tkAt exT 1 5 ⟨#[60, 61]⟩ false 0 0 0 false, tkAt exT 3 3 ⟨#[]⟩ false 8 5 0 true, tkAt exT 8 5 ⟨#[59]⟩ false 0 0 0 false] ++ [tkAt exT exT.size 0 ⟨#[]⟩ false 0 0 0 false] = exL := by kernel_rfl
    rw [e] at h
    exact h
  exact .tok (by decide) hop0 rt0 (.tok (by decide) hop1 rt1 (.tok (by decide) hop3 rt3 (.tok (by decide) hop8 rt8 h)))
set_option maxRecDepth 100000 in
set_option maxHeartbeats 4000000 in
theorem scanned_ok (w : World) (hG : PG w) : Calls Tryz.prog 4 #[] w fun e w' => e = .returned (.bool true) ∧ Below w.heap.size w w' := by
  have hP := prog_tokens exT (by decide) _ lx_ex w hG
  have hP2 : Calls Tryz.prog 5 #[.string ⟨#[97, 60, 61, 56, 39, 115, 100, 53, 59]⟩] w fun e w' => ∃ g cap, e = .returned (.tuple #[.slice (some ⟨g, 0, none⟩) 5 cap, .int .i64 0, .int .i64 0, .int .i64 0]) ∧ 5 ≤ cap ∧ (∀ j (hj : j < exL.length) c, c < 9 → w'.cell? ⟨g, j * 9 + c, none⟩ = (encT exL[j])[c]?) ∧ Below w.heap.size w w' := by
    refine hP.mono ?_
    rintro e w' ⟨⟨v, rfl, ho⟩, hb⟩
    obtain ⟨g, cap, rfl, hc, ha⟩ := ho.at (by decide)
    exact ⟨g, cap, rfl, hc, ha, hb⟩
  have HP := Lib.hid hP2
  clear hP hP2 hG
  go_enter Tryz.func4, Tryz.ntmps4
  go_upto_region 2 with (go_at_call 5; refine HP.out.mono ?_; rintro e w1 ⟨g, cap, rfl, hc, ha, hb⟩)
  have a03 : w1.cell? ⟨g, 3, none⟩ = some (.string ⟨#[97]⟩) := ha 0 (by decide) 3 (by decide)
  have a13 : w1.cell? ⟨g, 12, none⟩ = some (.string ⟨#[60, 61]⟩) := ha 1 (by decide) 3 (by decide)
  have a20 : w1.cell? ⟨g, 18, none⟩ = some (.int .i64 3) := ha 2 (by decide) 0 (by decide)
  have a21 : w1.cell? ⟨g, 19, none⟩ = some (.int .i64 1) := ha 2 (by decide) 1 (by decide)
  have a22 : w1.cell? ⟨g, 20, none⟩ = some (.int .i64 4) := ha 2 (by decide) 2 (by decide)
  have a23 : w1.cell? ⟨g, 21, none⟩ = some (.string ⟨#[]⟩) := ha 2 (by decide) 3 (by decide)
  have a24 : w1.cell? ⟨g, 22, none⟩ = some (.bool false) := ha 2 (by decide) 4 (by decide)
  have a25 : w1.cell? ⟨g, 23, none⟩ = some (.int .i64 8) := ha 2 (by decide) 5 (by decide)
  have a26 : w1.cell? ⟨g, 24, none⟩ = some (.int .u64 5) := ha 2 (by decide) 6 (by decide)
  have a27 : w1.cell? ⟨g, 25, none⟩ = some (.int .u64 0) := ha 2 (by decide) 7 (by decide)
  have a28 : w1.cell? ⟨g, 26, none⟩ = some (.bool true) := ha 2 (by decide) 8 (by decide)
  have a40 : w1.cell? ⟨g, 36, none⟩ = some (.int .i64 0) := ha 4 (by decide) 0 (by decide)
  clear ha HP
  go_wp2_with fail
  go_ret
  exact ⟨rfl, hb⟩
end Go.Proofs.YtfnkablbcalclaaGreatDoor
