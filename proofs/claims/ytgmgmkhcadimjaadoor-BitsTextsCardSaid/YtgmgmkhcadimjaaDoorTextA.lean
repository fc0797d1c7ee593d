/- The text of a vector.
   The text of a vector: the whole function. -/
import Derived.Test.YtgmgmkhcadimjaaDoorApart
import Derived.Lib.AppendStr
import Derived.Laws.IdiomStrings
namespace Go.Proofs.YtgmgmkhcadimjaaDoor
open Go Go.RowKit
set_option linter.unusedVariables false
/-- the state of bit i, as a character -/
def st (a : Vx) (i : Nat) : UInt8 := if a.x.getLsbD i then (if a.v.getLsbD i then 120 else 122) else (if a.v.getLsbD i then 49 else 48)
theorem bit_word (a : BitVec 64) (i : Nat) : a >>> i &&& 1#64 = if a.getLsbD i then 1#64 else 0#64 := by
  apply BitVec.eq_of_getLsbD_eq
  intro j hj
  rw [BitVec.getLsbD_and, BitVec.getLsbD_ushiftRight]
  by_cases h0 : j = 0
  · subst h0; cases h : a.getLsbD i <;> simp
  · have : (1#64).getLsbD j = false := by
      rw [BitVec.getLsbD_one]; simp [h0]
    rw [this, Bool.and_false]
    cases a.getLsbD i <;> simp [this]
set_option maxHeartbeats 400000 in
theorem bit_0 (n : Nat) (a : Vx) (i : Nat) (w : World) (ha : a.ok n) (h2 : n ≤ 64) (hi : i < n) (hv : a.v.getLsbD i = false) (hx : a.x.getLsbD i = false) : Calls Tryd.prog 22 #[.agg #[.int .i64 n, .int .u64 (U a.v), .int .u64 (U a.x)], .int .i64 i] w fun e w' => e = .returned (.int .u8 48) ∧ Below w.heap.size w w' := by
  have e1 : a.x >>> i &&& 1#64 = 0#64 := by rw [bit_word, hx]; rfl
  have e2 : a.v >>> i &&& 1#64 = 0#64 := by rw [bit_word, hv]; rfl
  have u0 : U 0#64 = 0 := by decide
  have u1 : U 1#64 = 1 := by decide
  have hw : IntKind.u64.wrap 2 = 2 := by decide
  have hw0 : IntKind.u64.wrap 0 = 0 := by decide
  have ho : bits .or .u64 0 0 = 0 := by decide
  clear hx hv
  go_enter Tryd.func22, Tryd.ntmps22
  go_wp2_with fail
  refine (valid_ok n a.v a.x _ ha).mono ?_
  rintro e w1 ⟨rfl, hb1⟩
  obtain ⟨hc1, hf1⟩ := bcell hb1
  have z1_0 : w.heap.size < w1.heap.size := bsize hb1 (by first | omega | (simp <;> omega))
  go_wp2_with fail
  go_quiet (fail)
  go_wp2_with fail
  go_ret
  exact ⟨rfl, by (repeat (first | exact Below.refl _ _ | exact Nat.le_refl _ | refine below_drewN ?_ _ | refine Below.drew ?_ | refine Below.alloc ?_ ?_ _ | refine Below.setCell ?_ ?_ _ | refine below_step (by assumption) ?_ ?_)) <;> (first | omega | (simp <;> omega))⟩
set_option maxHeartbeats 400000 in
theorem bit_1 (n : Nat) (a : Vx) (i : Nat) (w : World) (ha : a.ok n) (h2 : n ≤ 64) (hi : i < n) (hv : a.v.getLsbD i = true) (hx : a.x.getLsbD i = false) : Calls Tryd.prog 22 #[.agg #[.int .i64 n, .int .u64 (U a.v), .int .u64 (U a.x)], .int .i64 i] w fun e w' => e = .returned (.int .u8 49) ∧ Below w.heap.size w w' := by
  have e1 : a.x >>> i &&& 1#64 = 0#64 := by rw [bit_word, hx]; rfl
  have e2 : a.v >>> i &&& 1#64 = 1#64 := by rw [bit_word, hv]; rfl
  have u0 : U 0#64 = 0 := by decide
  have u1 : U 1#64 = 1 := by decide
  have hw : IntKind.u64.wrap 2 = 2 := by decide
  have hw0 : IntKind.u64.wrap 0 = 0 := by decide
  have ho : bits .or .u64 0 1 = 1 := by decide
  clear hx hv
  go_enter Tryd.func22, Tryd.ntmps22
  go_wp2_with fail
  refine (valid_ok n a.v a.x _ ha).mono ?_
  rintro e w1 ⟨rfl, hb1⟩
  obtain ⟨hc1, hf1⟩ := bcell hb1
  have z1_0 : w.heap.size < w1.heap.size := bsize hb1 (by first | omega | (simp <;> omega))
  go_wp2_with fail
  go_quiet (fail)
  go_wp2_with fail
  go_ret
  exact ⟨rfl, by (repeat (first | exact Below.refl _ _ | exact Nat.le_refl _ | refine below_drewN ?_ _ | refine Below.drew ?_ | refine Below.alloc ?_ ?_ _ | refine Below.setCell ?_ ?_ _ | refine below_step (by assumption) ?_ ?_)) <;> (first | omega | (simp <;> omega))⟩
set_option maxHeartbeats 400000 in
theorem bit_2 (n : Nat) (a : Vx) (i : Nat) (w : World) (ha : a.ok n) (h2 : n ≤ 64) (hi : i < n) (hv : a.v.getLsbD i = false) (hx : a.x.getLsbD i = true) : Calls Tryd.prog 22 #[.agg #[.int .i64 n, .int .u64 (U a.v), .int .u64 (U a.x)], .int .i64 i] w fun e w' => e = .returned (.int .u8 122) ∧ Below w.heap.size w w' := by
  have e1 : a.x >>> i &&& 1#64 = 1#64 := by rw [bit_word, hx]; rfl
  have e2 : a.v >>> i &&& 1#64 = 0#64 := by rw [bit_word, hv]; rfl
  have u0 : U 0#64 = 0 := by decide
  have u1 : U 1#64 = 1 := by decide
  have hw : IntKind.u64.wrap 2 = 2 := by decide
  have hw0 : IntKind.u64.wrap 0 = 0 := by decide
  have ho : bits .or .u64 2 0 = 2 := by decide
  clear hx hv
  go_enter Tryd.func22, Tryd.ntmps22
  go_wp2_with fail
  refine (valid_ok n a.v a.x _ ha).mono ?_
  rintro e w1 ⟨rfl, hb1⟩
  obtain ⟨hc1, hf1⟩ := bcell hb1
  have z1_0 : w.heap.size < w1.heap.size := bsize hb1 (by first | omega | (simp <;> omega))
  go_wp2_with fail
  go_quiet (fail)
  go_wp2_with fail
  go_ret
  exact ⟨rfl, by (repeat (first | exact Below.refl _ _ | exact Nat.le_refl _ | refine below_drewN ?_ _ | refine Below.drew ?_ | refine Below.alloc ?_ ?_ _ | refine Below.setCell ?_ ?_ _ | refine below_step (by assumption) ?_ ?_)) <;> (first | omega | (simp <;> omega))⟩
set_option maxHeartbeats 400000 in
theorem bit_3 (n : Nat) (a : Vx) (i : Nat) (w : World) (ha : a.ok n) (h2 : n ≤ 64) (hi : i < n) (hv : a.v.getLsbD i = true) (hx : a.x.getLsbD i = true) : Calls Tryd.prog 22 #[.agg #[.int .i64 n, .int .u64 (U a.v), .int .u64 (U a.x)], .int .i64 i] w fun e w' => e = .returned (.int .u8 120) ∧ Below w.heap.size w w' := by
  have e1 : a.x >>> i &&& 1#64 = 1#64 := by rw [bit_word, hx]; rfl
  have e2 : a.v >>> i &&& 1#64 = 1#64 := by rw [bit_word, hv]; rfl
  have u0 : U 0#64 = 0 := by decide
  have u1 : U 1#64 = 1 := by decide
  have hw : IntKind.u64.wrap 2 = 2 := by decide
  have hw0 : IntKind.u64.wrap 0 = 0 := by decide
  have ho : bits .or .u64 2 1 = 3 := by decide
  clear hx hv
  go_enter Tryd.func22, Tryd.ntmps22
  go_wp2_with fail
  refine (valid_ok n a.v a.x _ ha).mono ?_
  rintro e w1 ⟨rfl, hb1⟩
  obtain ⟨hc1, hf1⟩ := bcell hb1
  have z1_0 : w.heap.size < w1.heap.size := bsize hb1 (by first | omega | (simp <;> omega))
  go_wp2_with fail
  go_quiet (fail)
  go_wp2_with fail
  go_ret
  exact ⟨rfl, by (repeat (first | exact Below.refl _ _ | exact Nat.le_refl _ | refine below_drewN ?_ _ | refine Below.drew ?_ | refine Below.alloc ?_ ?_ _ | refine Below.setCell ?_ ?_ _ | refine below_step (by assumption) ?_ ?_)) <;> (first | omega | (simp <;> omega))⟩
theorem bit_ok (n : Nat) (a : Vx) (i : Nat) (w : World) (ha : a.ok n) (hi : i < n) : Calls Tryd.prog 22 #[.agg #[.int .i64 n, .int .u64 (U a.v), .int .u64 (U a.x)], .int .i64 i] w fun e w' => e = .returned (.int .u8 (st a i).toNat) ∧ Below w.heap.size w w' := by
  cases hv : a.v.getLsbD i <;> cases hx : a.x.getLsbD i
  · simpa [st, hv, hx] using bit_0 n a i w ha ha.hi hi hv hx
  · simpa [st, hv, hx] using bit_2 n a i w ha ha.hi hi hv hx
  · simpa [st, hv, hx] using bit_1 n a i w ha ha.hi hi hv hx
  · simpa [st, hv, hx] using bit_3 n a i w ha ha.hi hi hv hx
/-- the states of the highest j bits, the highest one first -/
def hib (n : Nat) (a : Vx) (j : Nat) : List UInt8 := (List.range j).map fun k => st a (n - 1 - k)
theorem hib_succ (n : Nat) (a : Vx) (j : Nat) : hib n a (j + 1) = hib n a j ++ [st a (n - 1 - j)] := by
  unfold hib; rw [List.range_succ, List.map_append]; rfl
theorem hib_len (n : Nat) (a : Vx) (j : Nat) : (hib n a j).length = j := by unfold hib; simp
def txt (n : Nat) (a : Vx) (j : Nat) : List UInt8 := Lib.itoa n ++ [39, 98] ++ hib n a j
theorem info5 : (Tryd.prog.info? 5).map (fun i => (i.zero, i.size, i.bytes)) = some (some (.int .u8 0), 1, 1) := by kernel_rfl
end Go.Proofs.YtgmgmkhcadimjaaDoor
namespace Go.Proofs.YtgmgmkhcadimjaaDoor
open Go Go.RowKit
set_option linter.unusedVariables false
theorem txt_succ (n : Nat) (a : Vx) (j : Nat) : txt n a (j + 1) = txt n a j ++ [st a (n - 1 - j)] := by unfold txt; rw [hib_succ]; simp only [List.append_assoc]
theorem txt_len (n : Nat) (a : Vx) (j : Nat) : (txt n a j).length = (Lib.itoa n).length + 2 + j := by unfold txt; simp [hib_len]; omega
/-- what the loop knows of the bytes that it has collected -/
structure TX (w1 wr : World) (v : Value) (l : List UInt8) : Prop where
  own : wr.ownsRow w1.heap.size 5 1 v l.length (Lib.byteCells l)
  lo : Below w1.heap.size w1 wr
theorem own_below {w w' : World} {B : Nat} {e : TypeId} {size : Nat} {v : Value} {n : Nat} {xs : List Value} (h : w.ownsRow B e size v n xs) (hb : Below w.heap.size w w') : w'.ownsRow B e size v n xs :=
  h.kept (row := none) ⟨hb.os, hb.tape, hb.output, hb.size, fun k hk _ => hb.block k hk⟩ (by cases v.ownBlock <;> simp)
theorem own_bytes {w : World} {B : Nat} {v : Value} {l : List UInt8} (h : w.ownsRow B 5 1 v l.length (Lib.byteCells l)) (hl : 0 < l.length) :
    ∃ g cap, v = .slice (some ⟨g, 0, none⟩) l.length cap ∧ ∀ q (hq : q < l.length), w.cell? ((⟨g, 0, none⟩ : Addr).add q) = some (.int .u8 (l[q].toNat : Int)) := by
  have hc := fun g (hg : v.ownBlock = some g) => h.cells hg
  rcases h.2 with ⟨_, h0⟩ | ⟨g, cap, cur, hv, _⟩
  · omega
  · subst hv
    exact ⟨g, cap, rfl, fun q hq => hc g rfl q _ (by simp [Lib.byteCells, hq])⟩
set_option maxRecDepth 100000 in
set_option maxHeartbeats 1000000 in
theorem text_ok (n : Nat) (a : Vx) (ha : a.ok n) (hi2 : (Lib.itoa n).length ≤ 20) {B : Nat} (w : World) (hG : Glob B w) :
    Calls Tryd.prog 9 #[.agg #[.int .i64 n, .int .u64 (U a.v), .int .u64 (U a.x)]] w fun e w' => e = .returned (.string ⟨(txt n a n).toArray⟩) ∧ Below w.heap.size w w' := by
  have h1 := ha.lo
  have h2 := ha.hi
  obtain ⟨i0, hi, hz0, hz1, hz2⟩ := info_parts info5
  go_enter Tryd.func9, Tryd.ntmps9
  go_wp2_with fail
  refine (valid_ok n a.v a.x _ ha).mono ?_
  rintro e w1 ⟨rfl, hb1⟩
  obtain ⟨hc1, hf1⟩ := bcell hb1
  have z1_0 : w.heap.size < w1.heap.size := bsize hb1 (by first | omega | (simp <;> omega))
  have b1 : Below w.heap.size w w1 := ((Below.refl _ _).alloc (Nat.le_refl _) _).trans (hb1.mono (by first | omega | (simp <;> omega)))
  go_wp2_with fail
  refine (Tryd.strconv_AppendInt_10 w1.heap.size 0 n (by omega) (by omega) _ [] _ (World.ownsRow_nil _ _ _ _) (Nat.le_refl _) (by omega) (fun w' hb' => hG.tab w' ((b1.mono hG.le).trans (hb'.mono (by have := hG.le; omega))))).mono ?_
  rintro e w2 ⟨v2, rfl, hown2, hb2, ho2⟩
  simp only [Nat.zero_add, List.nil_append] at hown2
  go_wp2_with (at_builtin; refine Lib.wpList_append_own_string _ rfl _ _ 45 9 rfl w1.heap.size 5 i0 Tryd.underlying45 Tryd.underlying9 hi hz0 hz1 hz2 _ _ _ rfl hown2 ⟨#[39, 98]⟩ rfl ?c1 ?c2 ?c3 ?_)
  case c1 => have h2s : (⟨#[39, 98]⟩ : ByteArray).size = 2 := rfl
             unfold maxLen; omega
  case c2 => have h2s : (⟨#[39, 98]⟩ : ByteArray).size = 2 := rfl
             omega
  case c3 => exact hb2.size
  intro v3 w3 hown3 hgr3 _
  have T0 : TX w1 w3 v3 (txt n a 0) := by
    refine ⟨?_, hb2.grown hgr3 hb2.size (fun k hk => (hown2.lt k hk).1)⟩
    have e1 : (txt n a 0).length = (Lib.itoa n).length + (⟨#[39, 98]⟩ : ByteArray).size := by rw [txt_len]; rfl
    have e2 : Lib.byteCells (txt n a 0) = Lib.byteCells (Lib.itoa n) ++ Lib.strCells ⟨#[39, 98]⟩ := by unfold txt hib Lib.byteCells Lib.strCells; simp
    rw [e1, e2]; exact hown3
  clear hown2 hown3 hgr3 hb2 ho2
  have l3 := T0.lo
  obtain ⟨hc3, hf3⟩ := bcell l3
  go_wp2_with fail
  clear hc3 hf3
  go_loopw [3, 4] (fun v i wr => ∃ j : Nat, j ≤ n ∧ i = .int .i64 ((n : Int) - 1 - j) ∧ TX w1 wr v (txt n a j)) (fun _ i _ => (intOf i + 1).toNat)
  case atStart => exact ⟨0, Nat.zero_le _, by simp, T0⟩
  case round =>
    obtain ⟨j, hj, rfl, hown, hlo⟩ := hrel
    obtain ⟨hcr, hfr⟩ := bcell hlo
    have hlen := txt_len n a j
    have Hlen := Lib.hid hlen
    clear hlen
    by_cases hlt : j < n
    · have hge : (0 : Int) ≤ (n : Int) - 1 - (j : Int) := by omega
      go_wp2_with fail
      rw [show (n : Int) - 1 - (j : Int) = ((n - 1 - j : Nat) : Int) from by omega]
      refine (bit_ok n a (n - 1 - j) _ ha (by omega)).mono ?_
      rintro e w4 ⟨rfl, hb4⟩
      have hown4 := own_below hown hb4
      have hsz4 : w1.heap.size ≤ w4.heap.size := Nat.le_trans hlo.size hb4.size
      go_wp2_with (at_builtin; refine wpList_append_own _ rfl _ _ 45 rfl w1.heap.size 5 i0 (.int .u8 0) 1 1 Tryd.underlying45 hi hz0 hz1 hz2 rfl (by decide) _ _ _ rfl (hown4.alloc _) ⟨w4.heap.size, 0, none⟩ 1 1 [.int .u8 (st a (n - 1 - j)).toNat] rfl rfl ?d1 ?d2 ?d3 ?d4 ?d5 ?_)
      case d1 =>
        intro q u hq
        match q, hq with
        | 0, hq => simp at hq; subst hq; simp [Addr.add]
      case d2 => intro u hu; simp at hu; subst hu; rfl
      case d3 => unfold maxLen; rw [Hlen.out]; omega
      case d4 => rw [Hlen.out]; omega
      case d5 => simp; omega
      intro v5 w5 hown5 hgr5 _
      have T : TX w1 w5 v5 (txt n a (j + 1)) := by
        refine ⟨?_, ?_⟩
        · have e1 : (txt n a (j + 1)).length = (txt n a j).length + 1 := by rw [txt_len, Hlen.out]; omega
          have e2 : Lib.byteCells (txt n a (j + 1)) = Lib.byteCells (txt n a j) ++ [Value.int .u8 (st a (n - 1 - j)).toNat] := by rw [txt_succ]; unfold Lib.byteCells; simp
          rw [e1, e2]; exact hown5
        · exact ((hlo.trans (hb4.mono (by have := hlo.size; omega))).alloc hsz4 _).grown hgr5 (by simp; omega) (fun k hk => (hown4.lt k hk).1)
      clear hown5 hgr5 hown4 hcr hfr
      go_wp2_with fail
      go_roundw
      case rel => exact ⟨j + 1, by omega, by congr 1; omega, T⟩
      case measure => simp [intOf]; omega
    · have hjn : j = n := by omega
      have Hjn := Lib.hid hjn
      obtain ⟨g, cap, rfl, hcells⟩ := own_bytes hown (by rw [Hlen.out]; omega)
      have hconv := run_convert_bytes_back (P := Tryd.prog) wr 45 9 5 ⟨g, 0, none⟩ cap (txt n a j) Tryd.underlying45 Tryd.underlying5 Tryd.underlying9 hcells
      clear hcells hown hcr hfr hjn
      go_wp2_with fail
      go_ret
      exact ⟨by show Ending.returned (Value.string _) = _; rw [Hjn.out], b1.trans (hlo.mono (by omega))⟩
end Go.Proofs.YtgmgmkhcadimjaaDoor
