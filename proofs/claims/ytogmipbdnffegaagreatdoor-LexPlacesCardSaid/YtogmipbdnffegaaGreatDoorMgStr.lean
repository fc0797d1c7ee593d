/- A string: the program's scanString.
   The number that a row of decimal digits spells, if 31 bits hold it: the library's own function.
   Line and column behind a piece of a text. No program here. -/
import Derived.Test.YtogmipbdnffegaaGreatDoorMgScan
import Derived.Lib.BufferRead
import Derived.Deep.RegionLaw
namespace Go.Proofs.YtogmipbdnffegaaGreatDoor
open Go Go.RowKit
set_option linter.unusedVariables false
theorem infoB : (Tryz.prog.info? 5).map (fun i => (i.zero, i.size, i.bytes)) = some (some (.int .u8 0), 1, 1) := by kernel_rfl
theorem infoB_parts : ∃ i, Tryz.prog.info? 5 = some i ∧ i.zero = some (.int .u8 0) ∧ i.size = 1 ∧ i.bytes = 1 := by
  have h := infoB
  cases hi : Tryz.prog.info? 5 with
  | none => rw [hi] at h; cases h
  | some i =>
    rw [hi] at h
    simp only [Option.map_some, Option.some.injEq, Prod.mk.injEq] at h
    exact ⟨i, rfl, h.1, h.2.1, h.2.2⟩
def OB (B : Nat) (w : World) (v : Value) (l : List UInt8) : Prop := w.ownsRow B 5 1 v l.length (Lib.byteCells l)
theorem OB.below {w w' : World} {B : Nat} {v : Value} {l : List UInt8} (h : OB B w v l) (hb : Below w.heap.size w w') : OB B w' v l :=
  World.ownsRow.kept (row := none) h ⟨hb.os, hb.tape, hb.output, hb.size, fun k hk _ => hb.block k hk⟩ (by cases v.ownBlock <;> simp)
theorem OB.form {w : World} {B : Nat} {v : Value} {l : List UInt8} (h : OB B w v l) : ∃ a cap, v = .slice a l.length cap := by
  rcases h.2 with ⟨h1, h0⟩ | ⟨g, cap, cur, hv, _⟩
  · exact ⟨none, 0, by rw [h1, h0]⟩
  · exact ⟨_, _, hv⟩
/-- the bytes as a string -/
theorem OB.conv {w : World} {B : Nat} {a : Option Addr} {cap : Nat} {l : List UInt8} (h : OB B w (.slice a l.length cap) l) : (convert 63 9 (.slice a l.length cap)).run Tryz.prog w = .ok (.string ⟨l.toArray⟩) w := by
  have hc := fun g (hg : (Value.slice a l.length cap).ownBlock = some g) => World.ownsRow.cells h hg
  rcases h.2 with ⟨h1, h0⟩ | ⟨g, cap', cur, hv, _⟩
  · have hl : l = [] := List.eq_nil_of_length_eq_zero h0
    subst hl
    cases h1
    exact Lib.run_convert_nil_bytes (P := Tryz.prog) w 63 9 5 0 Tryz.underlying63 Tryz.underlying5 Tryz.underlying9
  · cases hv
    exact run_convert_bytes_back (P := Tryz.prog) w 63 9 5 ⟨g, 0, none⟩ cap l Tryz.underlying63 Tryz.underlying5 Tryz.underlying9 (fun q hq => hc g rfl q _ (by simp [Lib.byteCells, hq]))
def soV : So → Value
  | .ok n l => .tuple #[.agg #[.int .i64 4, .int .i64 0, .int .i64 0, .string ⟨l.toArray⟩, .bool false, .int .i64 0, .int .u64 0, .int .u64 0, .bool false], .int .i64 (n + 1 : Nat), .int .i64 (if (200 : Int) < (l.length : Int) then 3 else 0)]
  | .er e => .tuple #[.agg #[.int .i64 0, .int .i64 0, .int .i64 0, .string ⟨#[]⟩, .bool false, .int .i64 0, .int .u64 0, .int .u64 0, .bool false], .int .i64 0, .int .i64 e]
set_option maxRecDepth 100000 in
set_option maxHeartbeats 3000000 in
theorem scanString_any (s : ByteArray) (hs : s.size ≤ 1000000) (hs1 : 1 ≤ s.size) (o : So) (ho : Ss s 1 [] o) (v : Value) (HV : Hid (v = soV o)) (w : World) :
    Calls Tryz.prog 66 #[.string s] w fun e w' => e = .returned v ∧ Below w.heap.size w w' := by
  obtain ⟨i0, hi, hz0, hz1, hz2⟩ := infoB_parts
  have HO := Lib.hid ho
  clear ho
  go_enter Tryz.func66, Tryz.ntmps66
  go_upto_region 1 with fail
  obtain ⟨W1, hW1⟩ : ∃ W, W = w.alloc (Obj.cells #[Value.int IntKind.i64 0, Value.int IntKind.i64 0, Value.int IntKind.i64 0, Value.string { data := #[] }, Value.bool false, Value.int IntKind.i64 0, Value.int IntKind.u64 0, Value.int IntKind.u64 0, Value.bool false] 42) := ⟨_, rfl⟩
  have b0 : Below w.heap.size w W1 := by rw [hW1]; exact (Below.refl _ _).alloc (Nat.le_refl _) _
  have T0 : TB W1 w.heap.size 0 0 0 ⟨#[]⟩ false 0 0 0 false := by rw [hW1]; exact TB.new w 0 0 0 ⟨#[]⟩ false 0 0 0 false
  rw [← hW1]
  clear hW1
  have hlt := T0.lt
  go_wp2_with fail
  go_loopw [5, 6] (fun u i wr => ∃ (k : Nat) (l : List UInt8), k ≤ s.size ∧ i = .int .i64 (k : Int) ∧ Hid (OB W1.heap.size wr u l) ∧ l.length ≤ k ∧ Below W1.heap.size W1 wr ∧ Hid (Ss s k l o)) (fun _ i _ => s.size - (intOf i).toNat)
  case atStart => exact ⟨1, [], hs1, rfl, Lib.hid (World.ownsRow_nil _ _ _ _), Nat.zero_le _, Below.refl _ _, HO⟩
  case round =>
    obtain ⟨k, l, hk, rfl, hown, hll, hlo, hd⟩ := hrel
    clear HO
    rename World => WR
    have hk0 : (0 : Int) ≤ (k : Int) := by omega
    cases hd.out with
    | nd h =>
      obtain rfl : k = s.size := by omega
      clear hd
      have TR := T0.below hlo
      obtain ⟨u0, u1, u2, u3, u4, u5, u6, u7, u8, uf⟩ := id TR
      go_wp2_with fail
      obtain ⟨q0, q1, q2, q3, q4, q5, q6, q7, q8, -⟩ := TR.set 0 0 0 ⟨#[]⟩ false 0 0 0 false
      unfold setTk at q0 q1 q2 q3 q4 q5 q6 q7 q8
      exact bodyPost_ret (v := .tuple #[.agg #[.int .i64 0, .int .i64 0, .int .i64 0, .string ⟨#[]⟩, .bool false, .int .i64 0, .int .u64 0, .int .u64 0, .bool false], .int .i64 0, .int .i64 11]) (by simp [results, Tryz.results66, go_sem, q0, q1, q2, q3, q4, q5, q6, q7, q8]) rfl ⟨by rw [HV.out]; rfl, below_setTk (b0.trans (hlo.mono (Nat.le_of_lt hlt))) (Nat.le_refl _) _ _ _ _ _ _ _ _ _⟩
    | nl h c =>
      have hki : (k : Int) < (s.size : Int) := by omega
      have hat : s[k].toNat = 10 := (gb_at s k h).trans c
      clear hd
      have TR := T0.below hlo
      obtain ⟨u0, u1, u2, u3, u4, u5, u6, u7, u8, uf⟩ := id TR
      go_wp2_with fail
      obtain ⟨q0, q1, q2, q3, q4, q5, q6, q7, q8, -⟩ := TR.set 0 0 0 ⟨#[]⟩ false 0 0 0 false
      unfold setTk at q0 q1 q2 q3 q4 q5 q6 q7 q8
      exact bodyPost_ret (v := .tuple #[.agg #[.int .i64 0, .int .i64 0, .int .i64 0, .string ⟨#[]⟩, .bool false, .int .i64 0, .int .u64 0, .int .u64 0, .bool false], .int .i64 0, .int .i64 11]) (by simp [results, Tryz.results66, go_sem, q0, q1, q2, q3, q4, q5, q6, q7, q8]) rfl ⟨by rw [HV.out]; rfl, below_setTk (b0.trans (hlo.mono (Nat.le_of_lt hlt))) (Nat.le_refl _) _ _ _ _ _ _ _ _ _⟩
    | qt h c =>
      have hki : (k : Int) < (s.size : Int) := by omega
      have hat : s[k].toNat = 34 := (gb_at s k h).trans c
      clear hd
      obtain ⟨a, cap, rfl⟩ := hown.out.form
      have hcv : (convert 63 9 (.slice a l.length cap)).run Tryz.prog WR.drew = .ok (.string ⟨l.toArray⟩) WR.drew := (hown.out.below (Below.refl _ _).drew).conv
      have hlm : l.length ≤ 1000000 := by omega
      clear hown
      have HV2 : Hid (v = .tuple #[.agg #[.int .i64 4, .int .i64 0, .int .i64 0, .string ⟨l.toArray⟩, .bool false, .int .i64 0, .int .u64 0, .int .u64 0, .bool false], .int .i64 (k + 1 : Nat), .int .i64 (if (200 : Int) < (l.length : Int) then 3 else 0)]) := HV
      clear HV
      obtain ⟨E, HE⟩ : ∃ E : Int, Hid ((if (200 : Int) < (l.length : Int) then (3 : Int) else 0) = E) := ⟨_, Lib.hid rfl⟩
      rw [HE.out] at HV2
      generalize (ByteArray.mk l.toArray) = TT at hcv HV2
      generalize l.length = L at hcv HV2 HE hll hlm ⊢
      have TR := T0.below hlo
      have TQ := TR.below (Below.refl _ _).drew
      obtain ⟨u0, u1, u2, u3, u4, u5, u6, u7, u8, uf⟩ := id TR
      have hwk : IntKind.i64.wrap ((k : Int) + 1) = (k : Int) + 1 := by
        unfold IntKind.wrap
        simp [IntKind.bits, IntKind.signed]
        omega
      have bw := b0.trans (hlo.mono (Nat.le_of_lt hlt))
      go_wp2_with fail
      go_region_law (go_simp; refine (fits_e L 200 E HE _).mono ?_; rintro e w3 ⟨rfl, rfl⟩)
      all_goals
        go_wp2_with fail
        obtain ⟨q0, q1, q2, q3, q4, q5, q6, q7, q8, -⟩ := (TR.set 4 0 0 TT false 0 0 0 false).below (Below.refl _ _).drew
        unfold setTk at q0 q1 q2 q3 q4 q5 q6 q7 q8
        exact bodyPost_ret (v := .tuple #[.agg #[.int .i64 4, .int .i64 0, .int .i64 0, .string TT, .bool false, .int .i64 0, .int .u64 0, .int .u64 0, .bool false], .int .i64 ((k : Int) + 1), .int .i64 E]) (by simp [results, Tryz.results66, go_sem, q0, q1, q2, q3, q4, q5, q6, q7, q8]) rfl ⟨by rw [HV2.out]; rfl, (below_setTk bw (Nat.le_refl _) _ _ _ _ _ _ _ _ _).drew⟩
    | be h c h1 =>
      have hki : (k : Int) < (s.size : Int) := by omega
      have hat : s[k].toNat = 92 := (gb_at s k h).trans c
      clear hd
      have h1i : (k : Int) + 1 = (s.size : Int) := by omega
      have TR := T0.below hlo
      obtain ⟨u0, u1, u2, u3, u4, u5, u6, u7, u8, uf⟩ := id TR
      go_wp2_with fail
      obtain ⟨q0, q1, q2, q3, q4, q5, q6, q7, q8, -⟩ := TR.set 0 0 0 ⟨#[]⟩ false 0 0 0 false
      unfold setTk at q0 q1 q2 q3 q4 q5 q6 q7 q8
      exact bodyPost_ret (v := .tuple #[.agg #[.int .i64 0, .int .i64 0, .int .i64 0, .string ⟨#[]⟩, .bool false, .int .i64 0, .int .u64 0, .int .u64 0, .bool false], .int .i64 0, .int .i64 11]) (by simp [results, Tryz.results66, go_sem, q0, q1, q2, q3, q4, q5, q6, q7, q8]) rfl ⟨by rw [HV.out]; rfl, below_setTk (b0.trans (hlo.mono (Nat.le_of_lt hlt))) (Nat.le_refl _) _ _ _ _ _ _ _ _ _⟩
    | bx h c h1 d e =>
      have hki : (k : Int) < (s.size : Int) := by omega
      have hat : s[k].toNat = 92 := (gb_at s k h).trans c
      clear hd
      have hk1 : (k : Int) + 1 < (s.size : Int) := by omega
      have hk2 : ((k : Int) + 1 == (s.size : Int)) = false := beq_eq_false_iff_ne.2 (by omega)
      have hk3 : (0 : Int) ≤ (k : Int) + 1 := by omega
      have hat1 : s[k + 1].toNat = gb s (k + 1) := gb_at s (k + 1) h1
      have hg := gb_le s (k + 1)
      generalize gb s (k + 1) = c1 at hat1 d e hg
      have k34 : ((c1 : Int) == 34) = false := beq_eq_false_iff_ne.2 (by omega)
      have k92 : ((c1 : Int) == 92) = false := beq_eq_false_iff_ne.2 (by omega)
      have n34 : ((c1 : Int) != 34) = true := by rw [bne, k34]; rfl
      have n92 : ((c1 : Int) != 92) = true := by rw [bne, k92]; rfl
      have TR := T0.below hlo
      obtain ⟨u0, u1, u2, u3, u4, u5, u6, u7, u8, uf⟩ := id TR
      go_wp2_with fail
      obtain ⟨q0, q1, q2, q3, q4, q5, q6, q7, q8, -⟩ := TR.set 0 0 0 ⟨#[]⟩ false 0 0 0 false
      unfold setTk at q0 q1 q2 q3 q4 q5 q6 q7 q8
      exact bodyPost_ret (v := .tuple #[.agg #[.int .i64 0, .int .i64 0, .int .i64 0, .string ⟨#[]⟩, .bool false, .int .i64 0, .int .u64 0, .int .u64 0, .bool false], .int .i64 0, .int .i64 10]) (by simp [results, Tryz.results66, go_sem, q0, q1, q2, q3, q4, q5, q6, q7, q8]) rfl ⟨by rw [HV.out]; rfl, below_setTk (b0.trans (hlo.mono (Nat.le_of_lt hlt))) (Nat.le_refl _) _ _ _ _ _ _ _ _ _⟩
    | bo h c h1 d r =>
      have hki : (k : Int) < (s.size : Int) := by omega
      have hat : s[k].toNat = 92 := (gb_at s k h).trans c
      clear hd
      have hk1 : (k : Int) + 1 < (s.size : Int) := by omega
      have hk2 : ((k : Int) + 1 == (s.size : Int)) = false := beq_eq_false_iff_ne.2 (by omega)
      have hk3 : (0 : Int) ≤ (k : Int) + 1 := by omega
      have hat1 : s[k + 1].toNat = gb s (k + 1) := gb_at s (k + 1) h1
      rcases d with d | d
      · rw [d] at hat1
        have hcc := d
        have HCC : Hid (Lib.byteCells (l ++ [s.data[k + 1]!]) = Lib.byteCells l ++ [Value.int .u8 (34 : Int)] ∧ (l ++ [s.data[k + 1]!]).length = l.length + 1) := Lib.hid (by
          unfold gb at hcc
          constructor
          · unfold Lib.byteCells
            simp [hcc]
          · simp)
        have HR := Lib.hid r
        clear r
        generalize l ++ [s.data[k + 1]!] = l2 at HCC HR
        clear hcc
        go_upto_region 16 with fail
        go_wp2_with (at_builtin; refine wpList_append_own _ rfl _ _ 63 rfl W1.heap.size 5 i0 (.int .u8 0) 1 1 Tryz.underlying63 hi hz0 hz1 hz2 rfl (by decide) _ _ _ rfl (World.ownsRow.alloc (show WR.ownsRow W1.heap.size 5 1 _ l.length (Lib.byteCells l) from hown.out) _) ⟨WR.heap.size, 0, none⟩ 1 1 [.int .u8 (34 : Int)] rfl rfl ?d1 ?d2 ?d3 ?d4 ?d5 ?_)
        try case d1 =>
          intro q u hq
          match q, hq with
          | 0, hq => simp at hq; subst hq; simp [Addr.add]
        case d2 => first | (intro u hu; simp at hu; subst hu; rfl) | rfl
        case d3 => unfold maxLen; omega
        case d4 => omega
        case d5 => have := hlo.size; simp; omega
        intro v5 w5 hown5 hgr5 _
        have hown6 : OB W1.heap.size w5 v5 l2 := by
          unfold OB
          rw [HCC.out.1, HCC.out.2]
          exact hown5
        have hlo6 : Below W1.heap.size W1 w5 := (hlo.alloc hlo.size _).grown hgr5 (by have := hlo.size; simp; omega) (fun q hq => ((show WR.ownsRow W1.heap.size 5 1 _ l.length (Lib.byteCells l) from hown.out).lt q hq).1)
        have hl2 : l2.length ≤ k + 2 := by rw [HCC.out.2]; omega
        clear hown5 hgr5 hown
        go_wp2_with fail
        go_roundw
        case rel => exact ⟨k + 2, l2, by omega, by go_num, Lib.hid hown6, hl2, hlo6, HR⟩
        case measure => simp [intOf] <;> omega
      · rw [d] at hat1
        have hcc := d
        have HCC : Hid (Lib.byteCells (l ++ [s.data[k + 1]!]) = Lib.byteCells l ++ [Value.int .u8 (92 : Int)] ∧ (l ++ [s.data[k + 1]!]).length = l.length + 1) := Lib.hid (by
          unfold gb at hcc
          constructor
          · unfold Lib.byteCells
            simp [hcc]
          · simp)
        have HR := Lib.hid r
        clear r
        generalize l ++ [s.data[k + 1]!] = l2 at HCC HR
        clear hcc
        go_upto_region 16 with fail
        go_wp2_with (at_builtin; refine wpList_append_own _ rfl _ _ 63 rfl W1.heap.size 5 i0 (.int .u8 0) 1 1 Tryz.underlying63 hi hz0 hz1 hz2 rfl (by decide) _ _ _ rfl (World.ownsRow.alloc (show WR.ownsRow W1.heap.size 5 1 _ l.length (Lib.byteCells l) from hown.out) _) ⟨WR.heap.size, 0, none⟩ 1 1 [.int .u8 (92 : Int)] rfl rfl ?d1 ?d2 ?d3 ?d4 ?d5 ?_)
        try case d1 =>
          intro q u hq
          match q, hq with
          | 0, hq => simp at hq; subst hq; simp [Addr.add]
        case d2 => first | (intro u hu; simp at hu; subst hu; rfl) | rfl
        case d3 => unfold maxLen; omega
        case d4 => omega
        case d5 => have := hlo.size; simp; omega
        intro v5 w5 hown5 hgr5 _
        have hown6 : OB W1.heap.size w5 v5 l2 := by
          unfold OB
          rw [HCC.out.1, HCC.out.2]
          exact hown5
        have hlo6 : Below W1.heap.size W1 w5 := (hlo.alloc hlo.size _).grown hgr5 (by have := hlo.size; simp; omega) (fun q hq => ((show WR.ownsRow W1.heap.size 5 1 _ l.length (Lib.byteCells l) from hown.out).lt q hq).1)
        have hl2 : l2.length ≤ k + 2 := by rw [HCC.out.2]; omega
        clear hown5 hgr5 hown
        go_wp2_with fail
        go_roundw
        case rel => exact ⟨k + 2, l2, by omega, by go_num, Lib.hid hown6, hl2, hlo6, HR⟩
        case measure => simp [intOf] <;> omega
    | il h c d e f =>
      have hki : (k : Int) < (s.size : Int) := by omega
      have hat : s[k].toNat = gb s k := (gb_at s k h).trans rfl
      clear hd
      have hg := gb_le s k
      generalize gb s k = c1 at hat c d e f hg
      have k10 : ((c1 : Int) == 10) = false := beq_eq_false_iff_ne.2 (by omega)
      have k34 : ((c1 : Int) == 34) = false := beq_eq_false_iff_ne.2 (by omega)
      have k92 : ((c1 : Int) == 92) = false := beq_eq_false_iff_ne.2 (by omega)
      have n34 : ((c1 : Int) != 34) = true := by rw [bne, k34]; rfl
      have n92 : ((c1 : Int) != 92) = true := by rw [bne, k92]; rfl
      rcases f with f | f
      · have f1 : (c1 : Int) < 32 := by omega
        have TR := T0.below hlo
        obtain ⟨u0, u1, u2, u3, u4, u5, u6, u7, u8, uf⟩ := id TR
        go_wp2_with fail
        obtain ⟨q0, q1, q2, q3, q4, q5, q6, q7, q8, -⟩ := TR.set 0 0 0 ⟨#[]⟩ false 0 0 0 false
        unfold setTk at q0 q1 q2 q3 q4 q5 q6 q7 q8
        exact bodyPost_ret (v := .tuple #[.agg #[.int .i64 0, .int .i64 0, .int .i64 0, .string ⟨#[]⟩, .bool false, .int .i64 0, .int .u64 0, .int .u64 0, .bool false], .int .i64 0, .int .i64 10]) (by simp [results, Tryz.results66, go_sem, q0, q1, q2, q3, q4, q5, q6, q7, q8]) rfl ⟨by rw [HV.out]; rfl, below_setTk (b0.trans (hlo.mono (Nat.le_of_lt hlt))) (Nat.le_refl _) _ _ _ _ _ _ _ _ _⟩
      · have f0 : ¬ ((c1 : Int) < 32) := by omega
        have f1 : (126 : Int) < (c1 : Int) := by omega
        have TR := T0.below hlo
        obtain ⟨u0, u1, u2, u3, u4, u5, u6, u7, u8, uf⟩ := id TR
        go_wp2_with fail
        obtain ⟨q0, q1, q2, q3, q4, q5, q6, q7, q8, -⟩ := TR.set 0 0 0 ⟨#[]⟩ false 0 0 0 false
        unfold setTk at q0 q1 q2 q3 q4 q5 q6 q7 q8
        exact bodyPost_ret (v := .tuple #[.agg #[.int .i64 0, .int .i64 0, .int .i64 0, .string ⟨#[]⟩, .bool false, .int .i64 0, .int .u64 0, .int .u64 0, .bool false], .int .i64 0, .int .i64 10]) (by simp [results, Tryz.results66, go_sem, q0, q1, q2, q3, q4, q5, q6, q7, q8]) rfl ⟨by rw [HV.out]; rfl, below_setTk (b0.trans (hlo.mono (Nat.le_of_lt hlt))) (Nat.le_refl _) _ _ _ _ _ _ _ _ _⟩
    | go h d e f r =>
      have hki : (k : Int) < (s.size : Int) := by omega
      have hat : s[k].toNat = gb s k := (gb_at s k h).trans rfl
      clear hd
      have hg := gb_le s k
      obtain ⟨c1, hcc⟩ : ∃ c1, gb s k = c1 := ⟨_, rfl⟩
      rw [hcc] at hat d e f hg
      have k10 : ((c1 : Int) == 10) = false := beq_eq_false_iff_ne.2 (by omega)
      have k34 : ((c1 : Int) == 34) = false := beq_eq_false_iff_ne.2 (by omega)
      have k92 : ((c1 : Int) == 92) = false := beq_eq_false_iff_ne.2 (by omega)
      have f0 : ¬ ((c1 : Int) < 32) := by omega
      have f1 : ¬ ((126 : Int) < (c1 : Int)) := by omega
      have HCC : Hid (Lib.byteCells (l ++ [s.data[k]!]) = Lib.byteCells l ++ [Value.int .u8 (c1 : Int)] ∧ (l ++ [s.data[k]!]).length = l.length + 1) := Lib.hid (by
        unfold gb at hcc
        constructor
        · unfold Lib.byteCells
          simp [hcc]
        · simp)
      have HR := Lib.hid r
      clear r
      generalize l ++ [s.data[k]!] = l2 at HCC HR
      clear hcc
      go_upto_region 16 with fail
      go_wp2_with (at_builtin; refine wpList_append_own _ rfl _ _ 63 rfl W1.heap.size 5 i0 (.int .u8 0) 1 1 Tryz.underlying63 hi hz0 hz1 hz2 rfl (by decide) _ _ _ rfl (World.ownsRow.alloc (show WR.ownsRow W1.heap.size 5 1 _ l.length (Lib.byteCells l) from hown.out) _) ⟨WR.heap.size, 0, none⟩ 1 1 [.int .u8 (c1 : Int)] rfl rfl ?d1 ?d2 ?d3 ?d4 ?d5 ?_)
      try case d1 =>
        intro q u hq
        match q, hq with
        | 0, hq => simp at hq; subst hq; simp [Addr.add]
      case d2 => first | (intro u hu; simp at hu; subst hu; rfl) | rfl
      case d3 => unfold maxLen; omega
      case d4 => omega
      case d5 => have := hlo.size; simp; omega
      intro v5 w5 hown5 hgr5 _
      have hown6 : OB W1.heap.size w5 v5 l2 := by
        unfold OB
        rw [HCC.out.1, HCC.out.2]
        exact hown5
      have hlo6 : Below W1.heap.size W1 w5 := (hlo.alloc hlo.size _).grown hgr5 (by have := hlo.size; simp; omega) (fun q hq => ((show WR.ownsRow W1.heap.size 5 1 _ l.length (Lib.byteCells l) from hown.out).lt q hq).1)
      have hl2 : l2.length ≤ k + 1 := by rw [HCC.out.2]; omega
      clear hown5 hgr5 hown
      go_wp2_with fail
      go_roundw
      case rel => exact ⟨k + 1, l2, by omega, by go_num, Lib.hid hown6, hl2, hlo6, HR⟩
      case measure => simp [intOf] <;> omega
end Go.Proofs.YtogmipbdnffegaaGreatDoor
namespace Go.Proofs.YtogmipbdnffegaaGreatDoor
open Go Go.RowKit
set_option linter.unusedVariables false
/-- the value of the first k digits -/
def dgv (s : ByteArray) : Nat → Nat
  | 0 => 0
  | k + 1 => 10 * dgv s k + (gb s k - 48)
theorem dgv_mono (s : ByteArray) (k : Nat) : ∀ d, dgv s k ≤ dgv s (k + d)
  | 0 => Nat.le_refl _
  | d + 1 => by
    have := dgv_mono s k d
    show dgv s k ≤ 10 * dgv s (k + d) + (gb s (k + d) - 48)
    omega
theorem gb_get (s : ByteArray) (j : Nat) (hj : j < s.size) : (s.data.toList.getD j 0).toNat = gb s j := by
  unfold gb
  have hl : j < s.data.toList.length := by rw [len_list]; exact hj
  rw [List.getD_eq_getElem?_getD, List.getElem?_eq_getElem hl, getElem!_pos s.data j (by simpa using hl)]
  rfl
set_option maxRecDepth 100000 in
set_option maxHeartbeats 3000000 in
theorem parse31_in (s : ByteArray) (hs : s.size ≤ 1000000) (hs1 : 1 ≤ s.size) (hd : Hid (∀ k, k < s.size → 48 ≤ gb s k ∧ gb s k ≤ 57)) (v : Value)
    (H0 : Hid (dgv s s.size ≤ 2147483647 → v = .tuple #[.int .u64 (dgv s s.size : Nat), .nilIface])) (H1 : Hid (2147483647 < dgv s s.size → v = .tuple #[.int .u64 2147483647, .iface 156 (.int .i64 1)])) (w : World) :
    Calls Tryz.prog 95 #[.string s, .int .i64 10, .int .i64 31] w fun e w' => e = .returned v ∧ Below w.heap.size w w' := by
  have hemp : s.toList.isEmpty = false := by
    rw [ByteArray.toList_eq]
    cases h : s.data.toList with
    | nil => have := len_list s; rw [h] at this; simp at this; omega
    | cons c l => rfl
  go_enter Tryz.func95, Tryz.ntmps95
  go_upto_region 35 with fail
  have hcv := Lib.run_convert_string_bytes (P := Tryz.prog) w 9 63 5 s Tryz.underlying9 Tryz.underlying63 Tryz.underlying5
  obtain ⟨cap, hcap⟩ : ∃ cap, grownCap w s.size 0 5 = cap := ⟨_, rfl⟩
  rw [hcap] at hcv
  have hcells : ∀ j, j < s.size → (Lib.bytesWorld w 5 s).cell? ⟨w.heap.size, j, none⟩ = some (.int .u8 (gb s j : Nat)) := fun j hj => by
    rw [Lib.bytesWorld_cell w 5 s j hj, gb_get s j hj]
  have hbw := Lib.bytesWorld_below w 5 s
  generalize Lib.bytesWorld w 5 s = W1 at hcv hcells hbw
  clear hcap
  have HB := Lib.hid hbw
  have HC := Lib.hid hcells
  clear hbw hcells
  go_upto_block 3 with fail
  clear hcv
  go_wp2_with fail
  go_loop [12, 13, 101] (fun u n i => ∃ k : Nat, k ≤ s.size ∧ u = .bool false ∧ n = .int .u64 (dgv s k : Nat) ∧ i = .int .i64 k ∧ dgv s k ≤ 2147483647) (fun _ _ i => s.size - (intOf i).toNat)
  case atStart => exact ⟨0, Nat.zero_le _, rfl, rfl, rfl, by show 0 ≤ 2147483647; decide⟩
  case round =>
    obtain ⟨k, hk, rfl, rfl, rfl, hle⟩ := hrel
    have hk0 : (0 : Int) ≤ (k : Int) := by omega
    by_cases hlt : k < s.size
    · have hki : (k : Int) < (s.size : Int) := by omega
      have hcell := HC.out k hlt
      obtain ⟨d1, d2⟩ := hd.out k hlt
      have HVN : Hid (dgv s (k + 1) = 10 * dgv s k + (gb s k - 48)) := Lib.hid rfl
      have HGE : Hid (dgv s (k + 1) ≤ dgv s s.size) := Lib.hid (by have := dgv_mono s (k + 1) (s.size - (k + 1)); rwa [show k + 1 + (s.size - (k + 1)) = s.size by omega] at this)
      generalize gb s k = c at hcell d1 d2 HVN
      generalize dgv s k = x at hle HVN ⊢
      obtain ⟨d, rfl⟩ : ∃ d, c = 48 + d := ⟨c - 48, by omega⟩
      have hd9 : d ≤ 9 := by omega
      obtain ⟨y, hy⟩ : ∃ y, y = 10 * x := ⟨_, rfl⟩
      obtain ⟨z, hz⟩ : ∃ z, z = y + d := ⟨_, rfl⟩
      have HZ : Hid (dgv s (k + 1) = z) := Lib.hid (by rw [HVN.out]; omega)
      have hsub : IntKind.u8.wrap (((48 + d : Nat) : Int) - 48) = (d : Int) := by
        unfold IntKind.wrap
        simp [IntKind.bits, IntKind.signed]
        omega
      have hmul : IntKind.u64.wrap ((x : Int) * 10) = (y : Int) := by
        unfold IntKind.wrap
        simp [IntKind.bits, IntKind.signed]
        omega
      have hadd : IntKind.u64.wrap ((y : Int) + (d : Int)) = (z : Int) := by
        unfold IntKind.wrap
        simp [IntKind.bits, IntKind.signed]
        omega
      have g1 : (((48 + d : Nat) : Int) == 95) = false := beq_eq_false_iff_ne.2 (by omega)
      have g2 : (48 : Int) ≤ ((48 + d : Nat) : Int) := by omega
      have g3 : ((48 + d : Nat) : Int) ≤ 57 := by omega
      have g4 : ¬ ((10 : Int) ≤ (d : Int)) := by omega
      have g5 : ¬ ((1844674407370955162 : Int) ≤ (x : Int)) := by omega
      have g6 : ¬ ((z : Int) < (y : Int)) := by omega
      generalize ((48 + d : Nat) : Int) = c at hcell hsub g1 g2 g3
      clear d1 d2 HVN hy hz
      by_cases hm : z ≤ 2147483647
      · have g7 : ¬ ((2147483647 : Int) < (z : Int)) := by omega
        go_wp2_with fail
        go_round
        case rel => exact ⟨k + 1, by omega, rfl, by rw [HZ.out], by go_num, by rw [HZ.out]; exact hm⟩
        case measure => simp [intOf] <;> omega
      · have g7 : (2147483647 : Int) < (z : Int) := by omega
        have HV := Lib.hid (H1.out (by have := HGE.out; rw [HZ.out] at this; omega))
        go_wp2_with fail
        go_ret2
        exact ⟨by rw [HV.out]; rfl, HB.out⟩
    · obtain rfl : k = s.size := by omega
      have HV := Lib.hid (H0.out hle)
      go_wp2_with fail
      go_ret2
      exact ⟨by rw [HV.out]; rfl, HB.out⟩
set_option maxRecDepth 100000 in
set_option maxHeartbeats 1000000 in
theorem parse31_ok (s : ByteArray) (hs : s.size ≤ 1000000) (hs1 : 1 ≤ s.size) (hd : Hid (∀ k, k < s.size → 48 ≤ gb s k ∧ gb s k ≤ 57)) (hv : dgv s s.size ≤ 2147483647) (w : World) :
    Calls Tryz.prog 80 #[.string s, .int .i64 10, .int .i64 31] w fun e w' => e = .returned (.tuple #[.int .u64 (dgv s s.size : Nat), .nilIface]) ∧ Below w.heap.size w w' := by
  have hI := parse31_in s hs hs1 hd _ (Lib.hid (fun _ => rfl)) (Lib.hid (fun h => absurd h (by omega))) w
  generalize dgv s s.size = n at hI hv ⊢
  have HI := Lib.hid hI
  clear hI
  go_enter Tryz.func80, Tryz.ntmps80
  go_wp2_with fail
  refine HI.out.mono ?_
  rintro e W1 ⟨rfl, hW⟩
  go_wp2_with fail
  go_ret2
  exact ⟨rfl, hW⟩
set_option maxRecDepth 100000 in
set_option maxHeartbeats 1000000 in
theorem parse31_big (s : ByteArray) (hs : s.size ≤ 1000000) (hs1 : 1 ≤ s.size) (hd : Hid (∀ k, k < s.size → 48 ≤ gb s k ∧ gb s k ≤ 57)) (hv : 2147483647 < dgv s s.size) (ev : Value) (w : World)
    (hc : w.cell? ⟨4, 0, none⟩ = some ev) (hev : ev = .nilIface ∨ ∃ te pe, ev = .iface te pe) :
    Calls Tryz.prog 80 #[.string s, .int .i64 10, .int .i64 31] w fun e w' => ∃ N, e = .returned (.tuple #[.int .u64 2147483647, .iface 158 (.pointer (some ⟨N, 0, none⟩))]) ∧ Below w.heap.size w w' := by
  have hI := parse31_in s hs hs1 hd _ (Lib.hid (fun h => absurd h (by omega))) (Lib.hid (fun _ => rfl)) w
  have HI := Lib.hid hI
  clear hI
  have hT := fun (W : World) (hW : Below w.heap.size w W) => AnyPu.strconv_toError_range { Tryz.laysPu14 with } ⟨#[80, 97, 114, 115, 101, 85, 105, 110, 116]⟩ s 10 31 ev W (by omega) ((hW.cell (p := ⟨4, 0, none⟩) (World.block_lt_of_cell? w _ hc)).trans hc) hev
  have HT := Lib.hid hT
  clear hT
  go_enter Tryz.func80, Tryz.ntmps80
  go_wp2_with fail
  refine HI.out.mono ?_
  rintro e W1 ⟨rfl, hW⟩
  go_wp2_with fail
  refine (HT.out W1 hW).mono ?_
  rintro e W2 ⟨N, rfl, h1, h2, h3⟩
  go_wp2_with fail
  go_ret2
  exact ⟨N, rfl, hW.trans (h3.mono hW.size)⟩
end Go.Proofs.YtogmipbdnffegaaGreatDoor
namespace Go.Proofs.YtogmipbdnffegaaGreatDoor
set_option linter.unusedVariables false
theorem extract_get_k (s : ByteArray) (k m j : Nat) (hj : k + j < m) (hm : m ≤ s.size) : (s.extract k m).data[j]! = s.data[k + j]! := by
  have hd : (s.extract k m).data = s.data.extract k m := by simp [ByteArray.data_extract]
  have hs : s.data.size = s.size := rfl
  have h1 : j < (s.data.extract k m).size := by simp; omega
  rw [hd, getElem!_pos (s.data.extract k m) j h1, getElem!_pos s.data (k + j) (by omega)]
  simp
theorem plc_succ (s : ByteArray) (k : Nat) : plcT s (k + 1) = if ((s.data[k]!).toNat : Int) = 10 then ((plcT s k).1 + 1, 1) else ((plcT s k).1, (plcT s k).2 + 1) := rfl
theorem plc_walk (s : ByteArray) (k m : Nat) (hm : m ≤ s.size) : ∀ d, k + d ≤ m → ∃ c, (plcT s (k + d)).1 = (plcT s k).1 + c ∧ (c = 0 → (plcT s (k + d)).2 = (plcT s k).2 + d)
    ∧ (0 < c → (d : Int) - Lib.lastIdx (s.extract k m) 10 d = ((plcT s (k + d)).2 : Int)) := by
  intro d
  induction d with
  | zero => intro _; exact ⟨0, rfl, fun _ => rfl, fun h => absurd h (Nat.lt_irrefl _)⟩
  | succ d ih =>
    intro h
    obtain ⟨c, h1, h2, h3⟩ := ih (by omega)
    have hg := extract_get_k s k m d (by omega) hm
    rw [show k + (d + 1) = (k + d) + 1 by omega]
    rw [plc_succ]
    unfold Lib.lastIdx
    rw [hg]
    by_cases hb : ((s.data[k + d]!).toNat : Int) = 10
    · rw [if_pos hb, if_pos hb]
      exact ⟨c + 1, by simp only; omega, fun h => absurd h (by omega), fun _ => by simp only; omega⟩
    · rw [if_neg hb, if_neg hb]
      exact ⟨c, by simp only; omega, fun h => by have := h2 h; simp only; omega, fun h => by have := h3 h; simp only; omega⟩
theorem plc_mono (s : ByteArray) (k n : Nat) (h : k ≤ n) (hn : n ≤ s.size) : (plcT s k).1 ≤ (plcT s n).1 := by
  obtain ⟨c, h1, -, -⟩ := plc_walk s k n hn (n - k) (by omega)
  rw [show k + (n - k) = n by omega] at h1
  omega
theorem plc_count (s : ByteArray) (k n : Nat) (h : k ≤ n) (hn : n ≤ s.size) : (plcT s n).1 = (plcT s k).1 + Lib.countByte (s.extract k n).data.toList 10 := by
  have e1 := plc_line s k (by omega)
  have e2 := plc_line s n hn
  have e3 : (s.extract k n).data.toList = (s.data.toList.take n).drop k := by
    rw [ByteArray.data_extract, Array.toList_extract]
    simp [List.extract_eq_take_drop, List.drop_take]
  have e4 : s.data.toList.take n = s.data.toList.take k ++ (s.data.toList.take n).drop k := by
    have := List.take_append_drop k (s.data.toList.take n)
    rw [List.take_take, Nat.min_eq_left h] at this
    exact this.symm
  unfold Lib.countByte
  rw [e3]
  rw [e4, List.count_append] at e2
  omega
/-- what the program reckons: with a line's end among the bytes passed .. -/
theorem plc_some (s : ByteArray) (k n : Nat) (h : k ≤ n) (hn : n ≤ s.size) (hc : 0 < Lib.countByte (s.extract k n).data.toList 10) :
    ((k : Int) + Lib.lastIndexByte (s.extract k n) 10 + 1) = (n : Int) + 1 - (plcT s n).2 := by
  obtain ⟨c, h1, -, h3⟩ := plc_walk s k n hn (n - k) (by omega)
  rw [show k + (n - k) = n by omega] at h1 h3
  have h4 := plc_count s k n h hn
  have h5 := h3 (by omega)
  unfold Lib.lastIndexByte
  have e : (s.extract k n).size = n - k := by simp; omega
  rw [e]
  omega
/-- .. and with none -/
theorem plc_none (s : ByteArray) (k n : Nat) (h : k ≤ n) (hn : n ≤ s.size) (hc : ¬ 0 < Lib.countByte (s.extract k n).data.toList 10) :
    (k : Int) + 1 - (plcT s k).2 = (n : Int) + 1 - (plcT s n).2 ∧ (plcT s n).1 = (plcT s k).1 := by
  obtain ⟨c, h1, h2, -⟩ := plc_walk s k n hn (n - k) (by omega)
  rw [show k + (n - k) = n by omega] at h1 h2
  have h4 := plc_count s k n h hn
  have h5 := h2 (by omega)
  omega
end Go.Proofs.YtogmipbdnffegaaGreatDoor
