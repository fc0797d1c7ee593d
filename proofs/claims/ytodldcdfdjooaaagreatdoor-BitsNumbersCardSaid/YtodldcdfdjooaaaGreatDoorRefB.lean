/- The reference's B: the vector of a list of states. -/
import Derived.Test.YtodldcdfdjooaaaGreatDoorRefs
import Derived.RegionTactic
namespace Go.Proofs.YtodldcdfdjooaaaGreatDoor
open Go Go.RowKit
set_option linter.unusedVariables false
def isV (c : UInt8) : Bool := c == 49 || c == 120
def isX (c : UInt8) : Bool := c == 120 || c == 122
/-- the words of the first k states -/
def bvw (l : List UInt8) : Nat → BitVec 64
  | 0 => 0#64
  | k + 1 => if isV (l.getD k 0) then bvw l k ||| (1#64 <<< k) else bvw l k
def bxw (l : List UInt8) : Nat → BitVec 64
  | 0 => 0#64
  | k + 1 => if isX (l.getD k 0) then bxw l k ||| (1#64 <<< k) else bxw l k
theorem one_shl_bit (k i : Nat) : (1#64 <<< k).getLsbD i = (decide (i < 64) && decide (i = k)) := by
  rw [BitVec.getLsbD_shiftLeft]
  by_cases hi : i < 64
  · by_cases hk : i = k
    · subst hk; simp [hi]
    · by_cases h2 : i < k
      · simp [hi, h2, hk]
      · have h3 : i - k ≠ 0 := by omega
        simp [hi, h2, hk, h3]
  · simp [hi]
theorem bvw_bit (l : List UInt8) (k i : Nat) : (bvw l k).getLsbD i = (decide (i < 64) && decide (i < k) && isV (l.getD i 0)) := by
  induction k with
  | zero => simp [bvw]
  | succ k ih =>
    simp only [bvw]
    split
    · rename_i h
      rw [BitVec.getLsbD_or, ih, one_shl_bit]
      by_cases e : i = k
      · subst e; rw [h]; simp
      · have : decide (i < k + 1) = decide (i < k) := by apply decide_eq_decide.2; omega
        rw [this]; simp [e]
    · rename_i h
      rw [ih]
      by_cases e : i = k
      · subst e
        have : isV (l.getD i 0) = false := by simpa using h
        rw [this]; simp
      · have : decide (i < k + 1) = decide (i < k) := by apply decide_eq_decide.2; omega
        rw [this]
theorem bxw_bit (l : List UInt8) (k i : Nat) : (bxw l k).getLsbD i = (decide (i < 64) && decide (i < k) && isX (l.getD i 0)) := by
  induction k with
  | zero => simp [bxw]
  | succ k ih =>
    simp only [bxw]
    split
    · rename_i h
      rw [BitVec.getLsbD_or, ih, one_shl_bit]
      by_cases e : i = k
      · subst e; rw [h]; simp
      · have : decide (i < k + 1) = decide (i < k) := by apply decide_eq_decide.2; omega
        rw [this]; simp [e]
    · rename_i h
      rw [ih]
      by_cases e : i = k
      · subst e
        have : isX (l.getD i 0) = false := by simpa using h
        rw [this]; simp
      · have : decide (i < k + 1) = decide (i < k) := by apply decide_eq_decide.2; omega
        rw [this]
theorem vl_get (a : Vx) (n i : Nat) (h : i < n) : (vl a n).getD i 0 = st a i := by
  unfold vl; rw [List.getD_eq_getElem?_getD, List.getElem?_map, List.getElem?_range h]; rfl
theorem st_V (a : Vx) (i : Nat) : isV (st a i) = a.v.getLsbD i := by
  unfold st isV; cases a.x.getLsbD i <;> cases a.v.getLsbD i <;> decide
theorem st_X (a : Vx) (i : Nat) : isX (st a i) = a.x.getLsbD i := by
  unfold st isX; cases a.x.getLsbD i <;> cases a.v.getLsbD i <;> decide
/-- a valid vector's list of states gives the vector again -/
theorem bvw_vl {n : Nat} {a : Vx} (ha : a.ok n) : bvw (vl a n) n = a.v := by
  apply BitVec.eq_of_getLsbD_eq
  intro i hi
  rw [bvw_bit]
  by_cases h : i < n
  · rw [vl_get a n i h, st_V]; simp [hi, h]
  · rw [ha.subv i (by omega)]; simp [h]
theorem bxw_vl {n : Nat} {a : Vx} (ha : a.ok n) : bxw (vl a n) n = a.x := by
  apply BitVec.eq_of_getLsbD_eq
  intro i hi
  rw [bxw_bit]
  by_cases h : i < n
  · rw [vl_get a n i h, st_X]; simp [hi, h]
  · rw [ha.subx i (by omega)]; simp [h]
theorem one_wrap (k : Nat) : IntKind.u64.wrap (2 ^ k) = U (1#64 <<< k) := by
  have := U_shl 1#64 k
  rw [← this]; congr 1; show _ = 1 * _; omega
theorem Box.put1 {w : World} {p : Nat} {n v x : Int} (h : Box w p n v x) (u : Int) : Box (w.setCell ⟨p, 1, none⟩ (.int .u64 u)) p n u x := by
  obtain ⟨h0, h1, h2, hf⟩ := h
  exact ⟨by go_simp, by go_simp, by go_simp, fun o => by go_simp⟩
theorem Box.put2 {w : World} {p : Nat} {n v x : Int} (h : Box w p n v x) (u : Int) : Box (w.setCell ⟨p, 2, none⟩ (.int .u64 u)) p n v u := by
  obtain ⟨h0, h1, h2, hf⟩ := h
  exact ⟨by go_simp, by go_simp, by go_simp, fun o => by go_simp⟩
theorem Box.far {w : World} {p q o : Nat} {n v x : Int} (h : Box w p n v x) (hne : p ≠ q) (u : Value) : Box (w.setCell ⟨q, o, none⟩ u) p n v x := by
  obtain ⟨h0, h1, h2, hf⟩ := h
  exact ⟨by go_simp, by go_simp, by go_simp, fun o => by go_simp⟩
theorem Box.drew {w : World} {p : Nat} {n v x : Int} (h : Box w p n v x) : Box w.drew p n v x := by
  obtain ⟨h0, h1, h2, hf⟩ := h
  exact ⟨by go_simp, by go_simp, by go_simp, fun o => by go_simp⟩
/-- what the loop of B knows -/
structure BB (w : World) (n : Nat) (v x : BitVec 64) (wr : World) : Prop where
  g : Box wr (w.heap.size + 1) n (U v) (U x)
  r : Box wr w.heap.size 0 0 0
  lo : Below w.heap.size w wr
theorem BB.putV {w wr : World} {n : Nat} {v x v' : BitVec 64} (h : BB w n v x wr) : BB w n v' x (wr.setCell ⟨w.heap.size + 1, 1, none⟩ (.int .u64 (U v'))).drew :=
  ⟨(h.g.put1 _).drew, (h.r.far (by omega) _).drew, (h.lo.setCell (Nat.le_succ _) _).drew⟩
theorem BB.putX {w wr : World} {n : Nat} {v x x' : BitVec 64} (h : BB w n v x wr) : BB w n v x' (wr.setCell ⟨w.heap.size + 1, 2, none⟩ (.int .u64 (U x'))).drew :=
  ⟨(h.g.put2 _).drew, (h.r.far (by omega) _).drew, (h.lo.setCell (Nat.le_succ _) _).drew⟩
set_option maxRecDepth 100000 in
set_option maxHeartbeats 2000000 in
theorem refB_in (v : Value) (l : List UInt8) (h1 : 1 ≤ l.length) (h2 : l.length ≤ 64) (w : World) (h : Row8 w v l) :
    Calls Tryz.prog 14 #[v] w fun e w' => e = .returned (.agg #[.int .i64 (l.length : Nat), .int .u64 (U (bvw l l.length)), .int .u64 (U (bxw l l.length))]) ∧ Below w.heap.size w w' := by
  obtain ⟨a, cap, rfl, h0⟩ := h.sh
  have H0 := Lib.hid h0
  clear h h0
  generalize hn : l.length = n at h1 h2 ⊢
  have HN := Lib.hid hn
  clear hn
  go_enter Tryz.func14, Tryz.ntmps14
  go_wp2_with fail
  have e0 : U (bvw l 0) = 0 := by show U 0#64 = 0; decide
  have e1 : U (bxw l 0) = 0 := by show U 0#64 = 0; decide
  have T0 : BB w n (bvw l 0) (bxw l 0) ((w.alloc (Obj.cells #[Value.int IntKind.i64 0, Value.int IntKind.u64 0, Value.int IntKind.u64 0] 24)).alloc (Obj.cells #[Value.int IntKind.i64 n, Value.int IntKind.u64 0, Value.int IntKind.u64 0] 24)) := ⟨by rw [e0, e1]; exact ⟨by go_simp, by go_simp, by go_simp, fun o => by go_simp⟩, ⟨by go_simp, by go_simp, by go_simp, fun o => by go_simp⟩, ((Below.refl _ _).alloc (Nat.le_refl _) _).alloc (by simp) _⟩
  clear e0 e1
  go_loopw [20] (fun i wr => ∃ k : Nat, k ≤ n ∧ i = .int .i64 k ∧ BB w n (bvw l k) (bxw l k) wr) (fun i _ => n - (intOf i).toNat)
  case atStart => exact ⟨0, Nat.zero_le _, rfl, T0⟩
  case round =>
    obtain ⟨k, hk, rfl, T⟩ := hrel
    clear T0
    by_cases hlt : k < n
    · have hkl : k < l.length := by rw [HN.out]; exact hlt
      obtain ⟨bl, off, rfl, hc0⟩ := Row8.nth (cap := cap) (n := n) H0.out hkl
      have hc : wr.cell? ⟨bl, off + k, none⟩ = some (.int .u8 (l[k].toNat : Int)) := (T.lo.cell (p := ⟨bl, off + k, none⟩) (World.block_lt_of_cell? w _ hc0)).trans hc0
      have hbl : bl < w.heap.size := World.block_lt_of_cell? w _ hc0
      have hge : l.getD k 0 = l[k] := by rw [List.getD_eq_getElem?_getD, List.getElem?_eq_getElem hkl]; rfl
      have hk0 : (0 : Int) ≤ (k : Int) := by omega
      have hk1 : (k : Int) < (n : Int) := by omega
      have hk64 : k < 64 := by omega
      have hw := one_wrap k
      clear hc0
      by_cases e49 : l[k].toNat = 49
      · skip
        have t1 : ((l[k].toNat : Int) == 49) = true := by rw [e49]; rfl
        have t2 : ((l[k].toNat : Int) == 120) = false := by rw [e49]; rfl
        have t3 : ((l[k].toNat : Int) == 122) = false := by rw [e49]; rfl
        have hcc : l[k] = 49 := UInt8.toNat_inj.1 e49
        have hv : isV l[k] = true := by rw [hcc]; decide
        have hx : isX l[k] = false := by rw [hcc]; decide
        clear hcc
        have HV : Hid (bvw l (k + 1) = bvw l k ||| (1#64 <<< k)) := by show (if isV (l.getD k 0) then _ else _) = _; rw [hge, hv]; rfl
        have HX : Hid (bxw l (k + 1) = bxw l k) := by show (if isX (l.getD k 0) then _ else _) = _; rw [hge, hx]; rfl
        clear hv hx hge
        clear e49
        obtain ⟨⟨b0, b1, b2, bf⟩, -, -⟩ := id T
        go_wp2_with fail
        go_region
        go_wp2_with fail
        have T2 := T.putV (v' := bvw l k ||| (1#64 <<< k))
        go_roundw
        case rel => exact ⟨k + 1, by omega, by go_num, by rw [HV.out, HX.out]; exact T2⟩
        case measure => simp [intOf]; omega
      by_cases e120 : l[k].toNat = 120
      · skip
        have t1 : ((l[k].toNat : Int) == 49) = false := by rw [e120]; rfl
        have t2 : ((l[k].toNat : Int) == 120) = true := by rw [e120]; rfl
        have t3 : ((l[k].toNat : Int) == 122) = false := by rw [e120]; rfl
        have hcc : l[k] = 120 := UInt8.toNat_inj.1 e120
        have hv : isV l[k] = true := by rw [hcc]; decide
        have hx : isX l[k] = true := by rw [hcc]; decide
        clear hcc
        have HV : Hid (bvw l (k + 1) = bvw l k ||| (1#64 <<< k)) := by show (if isV (l.getD k 0) then _ else _) = _; rw [hge, hv]; rfl
        have HX : Hid (bxw l (k + 1) = bxw l k ||| (1#64 <<< k)) := by show (if isX (l.getD k 0) then _ else _) = _; rw [hge, hx]; rfl
        clear hv hx hge
        clear e49 e120
        obtain ⟨⟨b0, b1, b2, bf⟩, -, -⟩ := id T
        go_wp2_with fail
        go_region
        go_wp2_with fail
        have T2 := T.putV (v' := bvw l k ||| (1#64 <<< k))
        clear b0 b1 b2 bf
        obtain ⟨⟨b0, b1, b2, bf⟩, -, -⟩ := id T2
        go_region
        go_wp2_with fail
        have T3 := T2.putX (x' := bxw l k ||| (1#64 <<< k))
        go_roundw
        case rel => exact ⟨k + 1, by omega, by go_num, by rw [HV.out, HX.out]; exact T3⟩
        case measure => simp [intOf]; omega
      by_cases e122 : l[k].toNat = 122
      · skip
        have t1 : ((l[k].toNat : Int) == 49) = false := by rw [e122]; rfl
        have t2 : ((l[k].toNat : Int) == 120) = false := by rw [e122]; rfl
        have t3 : ((l[k].toNat : Int) == 122) = true := by rw [e122]; rfl
        have hcc : l[k] = 122 := UInt8.toNat_inj.1 e122
        have hv : isV l[k] = false := by rw [hcc]; decide
        have hx : isX l[k] = true := by rw [hcc]; decide
        clear hcc
        have HV : Hid (bvw l (k + 1) = bvw l k) := by show (if isV (l.getD k 0) then _ else _) = _; rw [hge, hv]; rfl
        have HX : Hid (bxw l (k + 1) = bxw l k ||| (1#64 <<< k)) := by show (if isX (l.getD k 0) then _ else _) = _; rw [hge, hx]; rfl
        clear hv hx hge
        clear e49 e120 e122
        obtain ⟨⟨b0, b1, b2, bf⟩, -, -⟩ := id T
        go_wp2_with fail
        go_region
        go_wp2_with fail
        have T3 := T.putX (x' := bxw l k ||| (1#64 <<< k))
        go_roundw
        case rel => exact ⟨k + 1, by omega, by go_num, by rw [HV.out, HX.out]; exact T3⟩
        case measure => simp [intOf]; omega
      have t1 : ((l[k].toNat : Int) == 49) = false := by apply beq_eq_false_iff_ne.2; omega
      have t2 : ((l[k].toNat : Int) == 120) = false := by apply beq_eq_false_iff_ne.2; omega
      have t3 : ((l[k].toNat : Int) == 122) = false := by apply beq_eq_false_iff_ne.2; omega
      have n1 : l[k] ≠ 49 := fun e => e49 (by rw [e]; rfl)
      have n2 : l[k] ≠ 120 := fun e => e120 (by rw [e]; rfl)
      have n3 : l[k] ≠ 122 := fun e => e122 (by rw [e]; rfl)
      have hv : isV l[k] = false := by unfold isV; simp [n1, n2]
      have hx : isX l[k] = false := by unfold isX; simp [n2, n3]
      clear n1 n2 n3
      have HV : Hid (bvw l (k + 1) = bvw l k) := by show (if isV (l.getD k 0) then _ else _) = _; rw [hge, hv]; rfl
      have HX : Hid (bxw l (k + 1) = bxw l k) := by show (if isX (l.getD k 0) then _ else _) = _; rw [hge, hx]; rfl
      clear hv hx hge
      clear e49 e120 e122
      obtain ⟨⟨b0, b1, b2, bf⟩, -, -⟩ := id T
      go_wp2_with fail
      go_roundw
      case rel => exact ⟨k + 1, by omega, by go_num, by rw [HV.out, HX.out]; exact T⟩
      case measure => simp [intOf]; omega
    · have hkn : k = n := by omega
      have HKN := Lib.hid hkn
      obtain ⟨⟨b0, b1, b2, bf⟩, ⟨r0, r1, r2, rf⟩, lo⟩ := id T
      clear hkn
      go_wp2_with fail
      exact bodyPost_ret (v := .agg #[.int .i64 n, .int .u64 (U (bvw l k)), .int .u64 (U (bxw l k))]) (by simp [results, Tryz.results14, go_sem, r0, r1, r2]) rfl ⟨by rw [HKN.out], by (repeat (first | (with_reducible exact lo) | (with_reducible exact Nat.le_refl _) | (with_reducible refine Below.setCell ?_ ?_ _) | (with_reducible refine Below.alloc ?_ ?_ _) | (with_reducible refine Below.drew ?_))) <;> (first | omega | (simp <;> omega))⟩
end Go.Proofs.YtodldcdfdjooaaaGreatDoor
