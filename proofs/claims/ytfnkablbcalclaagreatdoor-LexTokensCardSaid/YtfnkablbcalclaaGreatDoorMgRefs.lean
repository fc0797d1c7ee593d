/- The reference's functions on lists of states: Known, Truth, Fill.
   The reference's B: the vector of a list of states.
   Digits of a number without a quotation mark; its bits. No program here.
   Any value of the type of vectors, valid or not: what Check, valid and alike say of it.
   The reference's Valid of a valid vector.
   The reference's B of any list of states; what the walk of drawn regions keeps of slices of bytes. -/
import Derived.Test.YtfnkablbcalclaaGreatDoorMgTxt
import Derived.ChangeAlike
import Derived.RegionTactic
import Derived.Test.YtfnkablbcalclaaGreatDoorMgStr
import Derived.Lib.RabinKarpLaws
import Derived.Test.YtfnkablbcalclaaGreatDoorVec
import Derived.Test.YtfnkablbcalclaaGreatDoorRelC
namespace Go.Proofs.YtfnkablbcalclaaGreatDoor
open Go Go.RowKit
set_option linter.unusedVariables false
/-- a slice of bytes that reads as a list -/
structure Row8 (w : World) (v : Value) (l : List UInt8) : Prop where
  sh : ∃ a cap, v = .slice a l.length cap ∧ (l.length = 0 ∨ ∃ bl off, a = some ⟨bl, off, none⟩ ∧ ∀ q (hq : q < l.length), w.cell? ⟨bl, off + q, none⟩ = some (.int .u8 (l[q].toNat : Int)))
  cp : ∀ a n c, v = .slice a n c → n ≤ c
theorem Row8.below {w w' : World} {v : Value} {l : List UInt8} (h : Row8 w v l) (hb : Below w.heap.size w w') : Row8 w' v l := by
  refine ⟨?_, h.cp⟩
  obtain ⟨a, cap, rfl, h0 | ⟨bl, off, rfl, hc⟩⟩ := h.sh
  · exact ⟨a, cap, rfl, Or.inl h0⟩
  · exact ⟨_, cap, rfl, Or.inr ⟨bl, off, rfl, fun q hq => (hb.cell (p := ⟨bl, off + q, none⟩) (World.block_lt_of_cell? w _ (hc q hq))).trans (hc q hq)⟩⟩
theorem own_cap {w : World} {B n : Nat} {e : TypeId} {v : Value} {xs : List Value} (h : w.ownsRow B e 1 v n xs) : ∀ a m c, v = .slice a m c → m ≤ c := by
  rintro a m c rfl
  rcases h.2 with ⟨he, _⟩ | ⟨g, cap, cur, he, _, _, hc, _⟩
  · injection he with _ e2 e3; omega
  · injection he with _ e2 e3; omega
theorem row8_own {w : World} {B : Nat} {v : Value} {l : List UInt8} (h : w.ownsRow B 5 1 v l.length (Lib.byteCells l)) : Row8 w v l := by
  refine ⟨?_, own_cap h⟩
  rcases Nat.eq_zero_or_pos l.length with h0 | hl
  · rcases h.2 with ⟨rfl, _⟩ | ⟨g, cap, cur, hv, _⟩
    · exact ⟨none, 0, by rw [h0], Or.inl h0⟩
    · exact ⟨_, _, hv, Or.inl h0⟩
  · obtain ⟨g, cap, rfl, hc⟩ := own_bytes h hl
    refine ⟨_, cap, rfl, Or.inr ⟨g, 0, rfl, fun q hq => ?_⟩⟩
    have h2 := hc q hq
    by_cases hq0 : q = 0
    · subst hq0; simpa [Addr.add] using h2
    · simpa [Addr.add, hq0] using h2
def knownL (l : List UInt8) : Bool := l.all fun c => c == 48 || c == 49
theorem knownL_out {l : List UInt8} {k : Nat} (h : k < l.length) (h1 : l[k] ≠ 48) (h2 : l[k] ≠ 49) : knownL l = false := by
  cases e : knownL l
  · rfl
  · unfold knownL at e
    have := List.all_eq_true.1 e l[k] (List.getElem_mem h)
    simp at this
    rcases this with h3 | h3
    · exact absurd h3 h1
    · exact absurd h3 h2
theorem knownL_snoc {l : List UInt8} {k : Nat} (h : k < l.length) (h0 : knownL (l.take k) = true) (h1 : l[k] = 48 ∨ l[k] = 49) : knownL (l.take (k + 1)) = true := by
  rw [List.take_succ_eq_append_getElem h]
  unfold knownL at h0 ⊢
  rw [List.all_append, h0]
  rcases h1 with h1 | h1 <;> simp [h1]
theorem Row8.nth {w : World} {a : Option Addr} {n cap : Nat} {l : List UInt8} (h : l.length = 0 ∨ ∃ bl off, a = some ⟨bl, off, none⟩ ∧ ∀ q (hq : q < l.length), w.cell? ⟨bl, off + q, none⟩ = some (.int .u8 (l[q].toNat : Int))) {k : Nat} (hk : k < l.length) :
    ∃ bl off, a = some ⟨bl, off, none⟩ ∧ w.cell? ⟨bl, off + k, none⟩ = some (.int .u8 (l[k].toNat : Int)) := by
  rcases h with h1 | ⟨bl, off, ha, hc⟩
  · omega
  · exact ⟨bl, off, ha, hc k hk⟩
/-- 't', 'f' or 'u' -/
def truthL (l : List UInt8) : Nat := if l.contains 49 then 116 else if l.all (· == 48) then 102 else 117
/-- what Truth has found in the first states, none of which is 1 -/
def truthT (l : List UInt8) : Nat := if l.all (· == 48) then 102 else 117
theorem truthT_snoc {l : List UInt8} {k : Nat} (h : k < l.length) : truthT (l.take (k + 1)) = if l[k] = 48 then truthT (l.take k) else 117 := by
  rw [List.take_succ_eq_append_getElem h]
  unfold truthT
  rw [List.all_append]
  by_cases e : l[k] = 48
  · simp [e]
  · simp [e]
theorem no1_snoc {l : List UInt8} {k : Nat} (h : k < l.length) (h0 : ∀ x ∈ l.take k, x ≠ 49) (h1 : l[k] ≠ 49) : ∀ x ∈ l.take (k + 1), x ≠ 49 := by
  intro x hx
  rw [List.take_succ_eq_append_getElem h] at hx
  rcases List.mem_append.1 hx with h2 | h2
  · exact h0 x h2
  · simp at h2; rw [h2]; exact h1
theorem ret_u8 {a b : Int} (h : a = b) : Ending.returned (.int .u8 a) = .returned (.int .u8 b) := by rw [h]
set_option maxRecDepth 100000 in
set_option maxHeartbeats 800000 in
theorem refTruth_any (v : Value) (l : List UInt8) (hl : l.length ≤ 1000000) (w : World) (h : Row8 w v l) :
    Calls Tryz.prog 74 #[v] w fun e w' => e = .returned (.int .u8 (truthL l)) ∧ w = w' := by
  obtain ⟨a, cap, rfl, h0⟩ := h.sh
  have H0 := Lib.hid h0
  clear h h0
  generalize hn : l.length = n at hl ⊢
  have HN := Lib.hid hn
  clear hn
  go_enter Tryz.func74, Tryz.ntmps74
  go_wp2_with fail
  go_loop [3, 8] (fun o i => ∃ k : Nat, k ≤ n ∧ i = .int .i64 k ∧ o = .int .u8 (truthT (l.take k)) ∧ Hid (∀ x ∈ l.take k, x ≠ 49)) (fun _ i => n - (intOf i).toNat)
  case atStart => exact ⟨0, Nat.zero_le _, rfl, rfl, (by intro x hx; simp at hx)⟩
  case round =>
    obtain ⟨k, hk, rfl, rfl, hz⟩ := hrel
    by_cases hlt : k < n
    · have hkl : k < l.length := by rw [HN.out]; exact hlt
      obtain ⟨bl, off, rfl, hc⟩ := Row8.nth (cap := cap) (n := n) H0.out hkl
      have hk0 : (0 : Int) ≤ (k : Int) := by omega
      have hk1 : (k : Int) < (n : Int) := by omega
      have hsn := truthT_snoc hkl
      by_cases h1 : l[k].toNat = 49
      · have t1 : ((l[k].toNat : Int) == 49) = true := by rw [h1]; rfl
        have HF : Hid (truthL l = 116) := by
          show truthL l = _
          unfold truthL
          rw [if_pos (by
            rw [List.contains_iff_mem]
            have e : l[k] = 49 := UInt8.toNat_inj.1 h1
            rw [← e]; exact List.getElem_mem hkl)]
        clear h1 hsn
        go_wp2_with fail
        go_ret
        exact ⟨ret_u8 (by rw [HF.out]; rfl), rfl⟩
      · have t1 : ((l[k].toNat : Int) == 49) = false := by apply beq_eq_false_iff_ne.2; omega
        have HS := Lib.hid (no1_snoc hkl hz.out (fun e => h1 (by rw [e]; rfl)))
        by_cases h2 : l[k].toNat = 48
        · have t2 : ((l[k].toNat : Int) != 48) = false := by rw [h2]; rfl
          rw [if_pos (UInt8.toNat_inj.1 h2)] at hsn
          have HT := Lib.hid hsn
          clear h1 h2 hsn
          go_wp2_with fail
          go_round
          case rel => exact ⟨k + 1, by omega, by go_num, by rw [HT.out], HS⟩
          case measure => simp [intOf]; omega
        · have t2 : ((l[k].toNat : Int) != 48) = true := by simp; omega
          rw [if_neg (fun e => h2 (by rw [e]; rfl))] at hsn
          have HT := Lib.hid hsn
          clear h1 h2 hsn
          go_wp2_with fail
          go_round
          case rel => exact ⟨k + 1, by omega, by go_num, by rw [HT.out]; rfl, HS⟩
          case measure => simp [intOf]; omega
    · have HF : Hid (truthT (l.take k) = truthL l) := by
        have h9 := hz.out
        show _ = _
        rw [List.take_of_length_le (by rw [HN.out]; omega)] at h9 ⊢
        have hc49 : l.contains 49 = false := by
          cases e : l.contains 49
          · rfl
          · exact absurd rfl (h9 49 (List.contains_iff_mem.1 e))
        unfold truthL truthT
        rw [hc49]; simp
      go_wp2_with fail
      go_ret
      exact ⟨ret_u8 (by rw [HF.out]), rfl⟩
set_option maxRecDepth 100000 in
set_option maxHeartbeats 1000000 in
theorem refFill_any (n : Nat) (c : UInt8) (hn : n ≤ 1000000) (w : World) :
    Calls Tryz.prog 71 #[.int .i64 n, .int .u8 (c.toNat : Int)] w fun e w' => ∃ v, e = .returned v ∧ Row8 w' v (List.replicate n c) ∧ Below w.heap.size w w' := by
  obtain ⟨i0, hi, hz0, hz1, hz2⟩ := info_parts info5
  go_enter Tryz.func71, Tryz.ntmps71
  go_wp2_with fail
  go_loopw [5, 7] (fun v i wr => ∃ k : Nat, k ≤ n ∧ i = .int .i64 k ∧ wr.ownsRow w.heap.size 5 1 v (List.replicate k c).length (Lib.byteCells (List.replicate k c)) ∧ Below w.heap.size w wr) (fun _ i _ => n - (intOf i).toNat)
  case atStart => exact ⟨0, Nat.zero_le _, rfl, World.ownsRow_nil _ _ _ _, Below.refl _ _⟩
  case round =>
    obtain ⟨k, hk, rfl, hown, hlo⟩ := hrel
    have Hlen := Lib.hid (List.length_replicate (n := k) (a := c))
    by_cases hlt : k < n
    · have HC : Lib.byteCells (List.replicate (k + 1) c) = Lib.byteCells (List.replicate k c) ++ [Value.int .u8 c.toNat] ∧ (List.replicate (k + 1) c).length = k + 1 := by
        refine ⟨?_, List.length_replicate⟩
        rw [List.replicate_succ']; unfold Lib.byteCells; simp
      have HCC := Lib.hid HC
      clear HC
      go_wp2_with (at_builtin; refine wpList_append_own _ rfl _ _ 53 rfl w.heap.size 5 i0 (.int .u8 0) 1 1 Tryz.underlying53 hi hz0 hz1 hz2 rfl (by decide) _ _ _ rfl (hown.alloc _) ⟨wr.heap.size, 0, none⟩ 1 1 [.int .u8 c.toNat] rfl rfl ?d1 ?d2 ?d3 ?d4 ?d5 ?_)
      case d1 =>
        intro q u hq
        match q, hq with
        | 0, hq => simp at hq; subst hq; simp [Addr.add]
      case d2 => intro u hu; simp at hu; subst hu; rfl
      case d3 => unfold maxLen; rw [Hlen.out]; omega
      case d4 => rw [Hlen.out]; omega
      case d5 => have := hlo.size; simp; omega
      intro v5 w5 hown5 hgr5 _
      have T : w5.ownsRow w.heap.size 5 1 v5 (List.replicate (k + 1) c).length (Lib.byteCells (List.replicate (k + 1) c)) ∧ Below w.heap.size w w5 := by
        rw [HCC.out.1, HCC.out.2]
        exact ⟨hown5, (hlo.alloc hlo.size _).grown hgr5 (by have := hlo.size; simp; omega) (fun k hk => (hown.lt k hk).1)⟩
      clear hown5 hgr5
      go_wp2_with fail
      go_roundw
      case rel => exact ⟨k + 1, by omega, by go_num, T⟩
      case measure => simp [intOf]; omega
    · have hkn : k = n := by omega
      have Hkn := Lib.hid hkn
      clear hkn
      go_wp2_with fail
      go_ret
      refine ⟨_, rfl, ?_, hlo⟩
      have h := row8_own hown
      rw [Hkn.out] at h; exact h
end Go.Proofs.YtfnkablbcalclaaGreatDoor
namespace Go.Proofs.YtfnkablbcalclaaGreatDoor
open Go Go.RowKit
set_option linter.unusedVariables false
def isV (c : UInt8) : Bool := c == 49 || c == 120
def isX (c : UInt8) : Bool := c == 120 || c == 122
/-- the words of the first k states -/
def bvw (l : List UInt8) : Nat → BitVec 64
  | 0 => 0#64
  | k + 1 => if isV (l.getD k 0) then bvw l k ||| (1#64 <<< k) else bvw l k
def bxw (l : List UInt8) : Nat → BitVec 64
  | 0 => 0#64
  | k + 1 => if isX (l.getD k 0) then bxw l k ||| (1#64 <<< k) else bxw l k
theorem one_shl_bit (k i : Nat) : (1#64 <<< k).getLsbD i = (decide (i < 64) && decide (i = k)) := by
  rw [BitVec.getLsbD_shiftLeft]
  by_cases hi : i < 64
  · by_cases hk : i = k
    · subst hk; simp [hi]
    · by_cases h2 : i < k
      · simp [hi, h2, hk]
      · have h3 : i - k ≠ 0 := by omega
        simp [hi, h2, hk, h3]
  · simp [hi]
theorem bvw_bit (l : List UInt8) (k i : Nat) : (bvw l k).getLsbD i = (decide (i < 64) && decide (i < k) && isV (l.getD i 0)) := by
  induction k with
  | zero => simp [bvw]
  | succ k ih =>
    simp only [bvw]
    split
    · rename_i h
      rw [BitVec.getLsbD_or, ih, one_shl_bit]
      by_cases e : i = k
      · subst e; rw [h]; simp
      · have : decide (i < k + 1) = decide (i < k) := by apply decide_eq_decide.2; omega
        rw [this]; simp [e]
    · rename_i h
      rw [ih]
      by_cases e : i = k
      · subst e
        have : isV (l.getD i 0) = false := by simpa using h
        rw [this]; simp
      · have : decide (i < k + 1) = decide (i < k) := by apply decide_eq_decide.2; omega
        rw [this]
theorem bxw_bit (l : List UInt8) (k i : Nat) : (bxw l k).getLsbD i = (decide (i < 64) && decide (i < k) && isX (l.getD i 0)) := by
  induction k with
  | zero => simp [bxw]
  | succ k ih =>
    simp only [bxw]
    split
    · rename_i h
      rw [BitVec.getLsbD_or, ih, one_shl_bit]
      by_cases e : i = k
      · subst e; rw [h]; simp
      · have : decide (i < k + 1) = decide (i < k) := by apply decide_eq_decide.2; omega
        rw [this]; simp [e]
    · rename_i h
      rw [ih]
      by_cases e : i = k
      · subst e
        have : isX (l.getD i 0) = false := by simpa using h
        rw [this]; simp
      · have : decide (i < k + 1) = decide (i < k) := by apply decide_eq_decide.2; omega
        rw [this]
theorem vl_get (a : Vx) (n i : Nat) (h : i < n) : (vl a n).getD i 0 = st a i := by
  unfold vl; rw [List.getD_eq_getElem?_getD, List.getElem?_map, List.getElem?_range h]; rfl
theorem st_V (a : Vx) (i : Nat) : isV (st a i) = a.v.getLsbD i := by
  unfold st isV; cases a.x.getLsbD i <;> cases a.v.getLsbD i <;> decide
theorem st_X (a : Vx) (i : Nat) : isX (st a i) = a.x.getLsbD i := by
  unfold st isX; cases a.x.getLsbD i <;> cases a.v.getLsbD i <;> decide
/-- a valid vector's list of states gives the vector again -/
theorem bvw_vl {n : Nat} {a : Vx} (ha : a.ok n) : bvw (vl a n) n = a.v := by
  apply BitVec.eq_of_getLsbD_eq
  intro i hi
  rw [bvw_bit]
  by_cases h : i < n
  · rw [vl_get a n i h, st_V]; simp [hi, h]
  · rw [ha.subv i (by omega)]; simp [h]
theorem bxw_vl {n : Nat} {a : Vx} (ha : a.ok n) : bxw (vl a n) n = a.x := by
  apply BitVec.eq_of_getLsbD_eq
  intro i hi
  rw [bxw_bit]
  by_cases h : i < n
  · rw [vl_get a n i h, st_X]; simp [hi, h]
  · rw [ha.subx i (by omega)]; simp [h]
theorem one_wrap (k : Nat) : IntKind.u64.wrap (2 ^ k) = U (1#64 <<< k) := by
  have := U_shl 1#64 k
  rw [← this]; congr 1; show _ = 1 * _; omega
theorem Box.put1 {w : World} {p : Nat} {n v x : Int} (h : Box w p n v x) (u : Int) : Box (w.setCell ⟨p, 1, none⟩ (.int .u64 u)) p n u x := by
  obtain ⟨h0, h1, h2, hf⟩ := h
  exact ⟨by go_simp, by go_simp, by go_simp, fun o => by go_simp⟩
theorem Box.put2 {w : World} {p : Nat} {n v x : Int} (h : Box w p n v x) (u : Int) : Box (w.setCell ⟨p, 2, none⟩ (.int .u64 u)) p n v u := by
  obtain ⟨h0, h1, h2, hf⟩ := h
  exact ⟨by go_simp, by go_simp, by go_simp, fun o => by go_simp⟩
theorem Box.far {w : World} {p q o : Nat} {n v x : Int} (h : Box w p n v x) (hne : p ≠ q) (u : Value) : Box (w.setCell ⟨q, o, none⟩ u) p n v x := by
  obtain ⟨h0, h1, h2, hf⟩ := h
  exact ⟨by go_simp, by go_simp, by go_simp, fun o => by go_simp⟩
theorem Box.drew {w : World} {p : Nat} {n v x : Int} (h : Box w p n v x) : Box w.drew p n v x := by
  obtain ⟨h0, h1, h2, hf⟩ := h
  exact ⟨by go_simp, by go_simp, by go_simp, fun o => by go_simp⟩
/-- what the loop of B knows -/
structure BB (w : World) (n : Nat) (v x : BitVec 64) (wr : World) : Prop where
  g : Box wr (w.heap.size + 1) n (U v) (U x)
  r : Box wr w.heap.size 0 0 0
  lo : Below w.heap.size w wr
theorem BB.putV {w wr : World} {n : Nat} {v x v' : BitVec 64} (h : BB w n v x wr) : BB w n v' x (wr.setCell ⟨w.heap.size + 1, 1, none⟩ (.int .u64 (U v'))).drew :=
  ⟨(h.g.put1 _).drew, (h.r.far (by omega) _).drew, (h.lo.setCell (Nat.le_succ _) _).drew⟩
theorem BB.putX {w wr : World} {n : Nat} {v x x' : BitVec 64} (h : BB w n v x wr) : BB w n v x' (wr.setCell ⟨w.heap.size + 1, 2, none⟩ (.int .u64 (U x'))).drew :=
  ⟨(h.g.put2 _).drew, (h.r.far (by omega) _).drew, (h.lo.setCell (Nat.le_succ _) _).drew⟩
set_option maxRecDepth 100000 in
set_option maxHeartbeats 2000000 in
theorem refB_in (v : Value) (l : List UInt8) (h1 : 1 ≤ l.length) (h2 : l.length ≤ 64) (w : World) (h : Row8 w v l) :
    Calls Tryz.prog 41 #[v] w fun e w' => e = .returned (.agg #[.int .i64 (l.length : Nat), .int .u64 (U (bvw l l.length)), .int .u64 (U (bxw l l.length))]) ∧ Below w.heap.size w w' := by
  obtain ⟨a, cap, rfl, h0⟩ := h.sh
  have H0 := Lib.hid h0
  clear h h0
  generalize hn : l.length = n at h1 h2 ⊢
  have HN := Lib.hid hn
  clear hn
  go_enter Tryz.func41, Tryz.ntmps41
  go_wp2_with fail
  have e0 : U (bvw l 0) = 0 := by show U 0#64 = 0; decide
  have e1 : U (bxw l 0) = 0 := by show U 0#64 = 0; decide
  have T0 : BB w n (bvw l 0) (bxw l 0) ((w.alloc (Obj.cells #[Value.int IntKind.i64 0, Value.int IntKind.u64 0, Value.int IntKind.u64 0] 30)).alloc (Obj.cells #[Value.int IntKind.i64 n, Value.int IntKind.u64 0, Value.int IntKind.u64 0] 30)) := ⟨by rw [e0, e1]; exact ⟨by go_simp, by go_simp, by go_simp, fun o => by go_simp⟩, ⟨by go_simp, by go_simp, by go_simp, fun o => by go_simp⟩, ((Below.refl _ _).alloc (Nat.le_refl _) _).alloc (by simp) _⟩
  clear e0 e1
  go_loopw [20] (fun i wr => ∃ k : Nat, k ≤ n ∧ i = .int .i64 k ∧ BB w n (bvw l k) (bxw l k) wr) (fun i _ => n - (intOf i).toNat)
  case atStart => exact ⟨0, Nat.zero_le _, rfl, T0⟩
  case round =>
    obtain ⟨k, hk, rfl, T⟩ := hrel
    clear T0
    by_cases hlt : k < n
    · have hkl : k < l.length := by rw [HN.out]; exact hlt
      obtain ⟨bl, off, rfl, hc0⟩ := Row8.nth (cap := cap) (n := n) H0.out hkl
      have hc : wr.cell? ⟨bl, off + k, none⟩ = some (.int .u8 (l[k].toNat : Int)) := (T.lo.cell (p := ⟨bl, off + k, none⟩) (World.block_lt_of_cell? w _ hc0)).trans hc0
      have hbl : bl < w.heap.size := World.block_lt_of_cell? w _ hc0
      have hge : l.getD k 0 = l[k] := by rw [List.getD_eq_getElem?_getD, List.getElem?_eq_getElem hkl]; rfl
      have hk0 : (0 : Int) ≤ (k : Int) := by omega
      have hk1 : (k : Int) < (n : Int) := by omega
      have hk64 : k < 64 := by omega
      have hw := one_wrap k
      clear hc0
      by_cases e49 : l[k].toNat = 49
      · skip
        have t1 : ((l[k].toNat : Int) == 49) = true := by rw [e49]; rfl
        have t2 : ((l[k].toNat : Int) == 120) = false := by rw [e49]; rfl
        have t3 : ((l[k].toNat : Int) == 122) = false := by rw [e49]; rfl
        have hcc : l[k] = 49 := UInt8.toNat_inj.1 e49
        have hv : isV l[k] = true := by rw [hcc]; decide
        have hx : isX l[k] = false := by rw [hcc]; decide
        clear hcc
        have HV : Hid (bvw l (k + 1) = bvw l k ||| (1#64 <<< k)) := by show (if isV (l.getD k 0) then _ else _) = _; rw [hge, hv]; rfl
        have HX : Hid (bxw l (k + 1) = bxw l k) := by show (if isX (l.getD k 0) then _ else _) = _; rw [hge, hx]; rfl
        clear hv hx hge
        clear e49
        obtain ⟨⟨b0, b1, b2, bf⟩, -, -⟩ := id T
        go_wp2_with fail
        go_region
        go_wp2_with fail
        have T2 := T.putV (v' := bvw l k ||| (1#64 <<< k))
        go_roundw
        case rel => exact ⟨k + 1, by omega, by go_num, by rw [HV.out, HX.out]; exact T2⟩
        case measure => simp [intOf]; omega
      by_cases e120 : l[k].toNat = 120
      · skip
        have t1 : ((l[k].toNat : Int) == 49) = false := by rw [e120]; rfl
        have t2 : ((l[k].toNat : Int) == 120) = true := by rw [e120]; rfl
        have t3 : ((l[k].toNat : Int) == 122) = false := by rw [e120]; rfl
        have hcc : l[k] = 120 := UInt8.toNat_inj.1 e120
        have hv : isV l[k] = true := by rw [hcc]; decide
        have hx : isX l[k] = true := by rw [hcc]; decide
        clear hcc
        have HV : Hid (bvw l (k + 1) = bvw l k ||| (1#64 <<< k)) := by show (if isV (l.getD k 0) then _ else _) = _; rw [hge, hv]; rfl
        have HX : Hid (bxw l (k + 1) = bxw l k ||| (1#64 <<< k)) := by show (if isX (l.getD k 0) then _ else _) = _; rw [hge, hx]; rfl
        clear hv hx hge
        clear e49 e120
        obtain ⟨⟨b0, b1, b2, bf⟩, -, -⟩ := id T
        go_wp2_with fail
        go_region
        go_wp2_with fail
        have T2 := T.putV (v' := bvw l k ||| (1#64 <<< k))
        clear b0 b1 b2 bf
        obtain ⟨⟨b0, b1, b2, bf⟩, -, -⟩ := id T2
        go_region
        go_wp2_with fail
        have T3 := T2.putX (x' := bxw l k ||| (1#64 <<< k))
        go_roundw
        case rel => exact ⟨k + 1, by omega, by go_num, by rw [HV.out, HX.out]; exact T3⟩
        case measure => simp [intOf]; omega
      by_cases e122 : l[k].toNat = 122
      · skip
        have t1 : ((l[k].toNat : Int) == 49) = false := by rw [e122]; rfl
        have t2 : ((l[k].toNat : Int) == 120) = false := by rw [e122]; rfl
        have t3 : ((l[k].toNat : Int) == 122) = true := by rw [e122]; rfl
        have hcc : l[k] = 122 := UInt8.toNat_inj.1 e122
        have hv : isV l[k] = false := by rw [hcc]; decide
        have hx : isX l[k] = true := by rw [hcc]; decide
        clear hcc
        have HV : Hid (bvw l (k + 1) = bvw l k) := by show (if isV (l.getD k 0) then _ else _) = _; rw [hge, hv]; rfl
        have HX : Hid (bxw l (k + 1) = bxw l k ||| (1#64 <<< k)) := by show (if isX (l.getD k 0) then _ else _) = _; rw [hge, hx]; rfl
        clear hv hx hge
        clear e49 e120 e122
        obtain ⟨⟨b0, b1, b2, bf⟩, -, -⟩ := id T
        go_wp2_with fail
        go_region
        go_wp2_with fail
        have T3 := T.putX (x' := bxw l k ||| (1#64 <<< k))
        go_roundw
        case rel => exact ⟨k + 1, by omega, by go_num, by rw [HV.out, HX.out]; exact T3⟩
        case measure => simp [intOf]; omega
      have t1 : ((l[k].toNat : Int) == 49) = false := by apply beq_eq_false_iff_ne.2; omega
      have t2 : ((l[k].toNat : Int) == 120) = false := by apply beq_eq_false_iff_ne.2; omega
      have t3 : ((l[k].toNat : Int) == 122) = false := by apply beq_eq_false_iff_ne.2; omega
      have n1 : l[k] ≠ 49 := fun e => e49 (by rw [e]; rfl)
      have n2 : l[k] ≠ 120 := fun e => e120 (by rw [e]; rfl)
      have n3 : l[k] ≠ 122 := fun e => e122 (by rw [e]; rfl)
      have hv : isV l[k] = false := by unfold isV; simp [n1, n2]
      have hx : isX l[k] = false := by unfold isX; simp [n2, n3]
      clear n1 n2 n3
      have HV : Hid (bvw l (k + 1) = bvw l k) := by show (if isV (l.getD k 0) then _ else _) = _; rw [hge, hv]; rfl
      have HX : Hid (bxw l (k + 1) = bxw l k) := by show (if isX (l.getD k 0) then _ else _) = _; rw [hge, hx]; rfl
      clear hv hx hge
      clear e49 e120 e122
      obtain ⟨⟨b0, b1, b2, bf⟩, -, -⟩ := id T
      go_wp2_with fail
      go_roundw
      case rel => exact ⟨k + 1, by omega, by go_num, by rw [HV.out, HX.out]; exact T⟩
      case measure => simp [intOf]; omega
    · have hkn : k = n := by omega
      have HKN := Lib.hid hkn
      obtain ⟨⟨b0, b1, b2, bf⟩, ⟨r0, r1, r2, rf⟩, lo⟩ := id T
      clear hkn
      go_wp2_with fail
      exact bodyPost_ret (v := .agg #[.int .i64 n, .int .u64 (U (bvw l k)), .int .u64 (U (bxw l k))]) (by simp [results, Tryz.results41, go_sem, r0, r1, r2]) rfl ⟨by rw [HKN.out], by (repeat (first | (with_reducible exact lo) | (with_reducible exact Nat.le_refl _) | (with_reducible refine Below.setCell ?_ ?_ _) | (with_reducible refine Below.alloc ?_ ?_ _) | (with_reducible refine Below.drew ?_))) <;> (first | omega | (simp <;> omega))⟩
end Go.Proofs.YtfnkablbcalclaaGreatDoor
namespace Go.Proofs.YtfnkablbcalclaaGreatDoor
open Go Go.RowKit
set_option linter.unusedVariables false
theorem bit_at (V j : Nat) (hV : V ≤ 2147483647) : wrap64 (48 + bits BinOp.and IntKind.i64 ((V : Int) / 2 ^ j) 1) % 256 = ((48 + V / 2 ^ j % 2 : Nat) : Int) := by
  have e : (V : Int) / 2 ^ j = ((V / 2 ^ j : Nat) : Int) := by simp
  have hd : V / 2 ^ j ≤ V := Nat.div_le_self _ _
  rw [e, Go.Proofs.and_one _ (by omega)]
  have h2 : V / 2 ^ j % 2 < 2 := Nat.mod_lt _ (by decide)
  generalize V / 2 ^ j % 2 = b at *
  unfold wrap64
  omega
theorem byteCells_snoc (l : List UInt8) (n : Nat) (h : n < 256) : Lib.byteCells (l ++ [UInt8.ofNat n]) = Lib.byteCells l ++ [Value.int .u8 (n : Int)] := by
  have e : (UInt8.ofNat n).toNat = n := by rw [UInt8.toNat_ofNat']; exact Nat.mod_eq_of_lt h
  unfold Lib.byteCells
  rw [List.map_append, List.map_cons, List.map_nil, e]
theorem dgv_ext (a b : ByteArray) : ∀ k, (∀ i, i < k → gb a i = gb b i) → dgv a k = dgv b k
  | 0, _ => rfl
  | k + 1, h => by
    unfold dgv
    rw [dgv_ext a b k (fun i hi => h i (by omega)), h k (by omega)]
theorem gb_part (s : ByteArray) (n i : Nat) (hn : n ≤ s.size) (hi : i < n) : gb (s.extract 0 n) i = gb s i := by
  have h1 : i < (s.extract 0 n).size := by simp; omega
  rw [← gb_at (s.extract 0 n) i h1, ← gb_at s i (by omega), ByteArray.getElem_extract]
  simp
theorem dgv_part (s : ByteArray) (n : Nat) (hn : n ≤ s.size) : dgv (s.extract 0 n) (s.extract 0 n).size = dgv s n := by
  have e : (s.extract 0 n).size = n := by simp; omega
  rw [e]
  exact dgv_ext _ _ n (fun i hi => gb_part s n i hn hi)
/-- the states of the first k bits -/
def stL (V k : Nat) : List UInt8 := (List.range k).map fun i => UInt8.ofNat (48 + V / 2 ^ i % 2)
theorem stL_succ (V k : Nat) : stL V (k + 1) = stL V k ++ [UInt8.ofNat (48 + V / 2 ^ k % 2)] := by
  unfold stL
  rw [List.range_succ, List.map_append]
  rfl
theorem stL_len (V k : Nat) : (stL V k).length = k := by unfold stL; simp
theorem stL_get (V k i : Nat) (h : i < k) : (stL V k).getD i 0 = UInt8.ofNat (48 + V / 2 ^ i % 2) := by
  unfold stL
  rw [List.getD_eq_getElem?_getD, List.getElem?_map, List.getElem?_range h]
  rfl
theorem st_two (b : Nat) (h : b < 2) : isV (UInt8.ofNat (48 + b)) = decide (b = 1) ∧ isX (UInt8.ofNat (48 + b)) = false := by
  have : b = 0 ∨ b = 1 := by omega
  rcases this with rfl | rfl <;> decide
theorem bvw_num (V : Nat) (hV : V ≤ 2147483647) : U (bvw (stL V 32) 32) = (V : Int) := by
  have e : bvw (stL V 32) 32 = BitVec.ofNat 64 V := by
    apply BitVec.eq_of_getLsbD_eq
    intro i hi
    rw [bvw_bit, BitVec.getLsbD_ofNat]
    by_cases h : i < 32
    · rw [stL_get V 32 i h, (st_two _ (Nat.mod_lt _ (by decide))).1, Nat.testBit_eq_decide_div_mod_eq]
      simp [hi, h]
    · have : V.testBit i = false := Nat.testBit_lt_two_pow (Nat.lt_of_lt_of_le (show V < 2 ^ 32 by omega) (Nat.pow_le_pow_right (by decide) (by omega)))
      rw [this]
      simp [h]
  unfold U
  rw [e, BitVec.toNat_ofNat, Nat.mod_eq_of_lt (by omega)]
theorem OB.row8 {B : Nat} {w : World} {v : Value} {l : List UInt8} (h : OB B w v l) : Row8 w v l := by
  have hh := h
  rcases h.2 with ⟨h1, h0⟩ | ⟨g, cap, cur, hv, hb, hg, hc, _⟩
  · exact ⟨⟨none, 0, by rw [h1, h0], .inl h0⟩, fun a n c hv => by rw [h1] at hv; injection hv with _ e2 e3; omega⟩
  · refine ⟨⟨_, cap, hv, .inr ⟨g, 0, rfl, fun q hq => ?_⟩⟩, fun a n c hv2 => by rw [hv] at hv2; injection hv2 with _ e2 e3; omega⟩
    subst hv
    have := World.ownsRow.cellAt hh q (by omega)
    rw [Nat.zero_add, this]
    simp [Lib.byteCells, List.getElem?_eq_getElem hq]
theorem bxw_num (V : Nat) : U (bxw (stL V 32) 32) = 0 := by
  have e : bxw (stL V 32) 32 = 0#64 := by
    apply BitVec.eq_of_getLsbD_eq
    intro i hi
    rw [bxw_bit]
    by_cases h : i < 32
    · rw [stL_get V 32 i h, (st_two _ (Nat.mod_lt _ (by decide))).2]
      simp
    · simp [h]
  rw [e]
  rfl
theorem numB (V : Nat) (hV : V ≤ 2147483647) {B : Nat} (v : Value) (w : World) (h : OB B w v (stL V 32)) : Calls Tryz.prog 41 #[v] w fun e w' => e = .returned (.agg #[.int .i64 32, .int .u64 V, .int .u64 0]) ∧ Below w.heap.size w w' := by
  have hl := stL_len V 32
  have h2 := refB_in v (stL V 32) (by omega) (by omega) w h.row8
  rw [hl, bvw_num V hV, bxw_num V] at h2
  exact h2
end Go.Proofs.YtfnkablbcalclaaGreatDoor
namespace Go.Proofs.YtfnkablbcalclaaGreatDoor
open Go Go.RowKit
set_option linter.unusedVariables false
/-- any value of the type of vectors -/
structure Rb where
  W : Int
  v : BitVec 64
  x : BitVec 64
def Rb.okB (r : Rb) : Bool := decide (1 ≤ r.W) && decide (r.W ≤ 64) && ((r.v ||| r.x) &&& ~~~msk r.W.toNat == 0#64)
def Rb.chk (r : Rb) : Int := if 1 ≤ r.W ∧ r.W ≤ 64 then (if (r.v ||| r.x) &&& ~~~msk r.W.toNat = 0#64 then 0 else 4) else 2
theorem Rb.ok_of {r : Rb} (h : r.okB = true) : ∃ n : Nat, r.W = n ∧ Ok n r.v r.x := by
  simp only [Rb.okB, Bool.and_eq_true, decide_eq_true_eq, beq_iff_eq] at h
  obtain ⟨⟨h1, h2⟩, h3⟩ := h
  exact ⟨r.W.toNat, by omega, Ok.of_both (by omega) (by omega) (by simpa using h3)⟩
theorem Rb.okB_of {n : Nat} {v x : BitVec 64} (h : Ok n v x) : (⟨(n : Int), v, x⟩ : Rb).okB = true := by
  have h1 := h.lo
  have h2 := h.hi
  have h3 := h.both
  simp only [Rb.okB, Bool.and_eq_true, decide_eq_true_eq, beq_iff_eq, Int.toNat_natCast]
  exact ⟨⟨by omega, by omega⟩, by simpa using h3⟩
theorem Rb.chk_ok (r : Rb) : (r.chk == 0) = r.okB := by
  unfold Rb.chk Rb.okB
  by_cases h : 1 ≤ r.W ∧ r.W ≤ 64
  · rw [if_pos h]
    by_cases h2 : (r.v ||| r.x) &&& ~~~msk r.W.toNat = 0#64
    · simp [h, h2]
    · simp [h2]
  · rw [if_neg h]
    simp only [not_and] at h
    by_cases h1 : 1 ≤ r.W
    · simp [h1, h h1]
    · simp [h1]
set_option maxHeartbeats 400000 in
theorem check_lo (W : Int) (V X : BitVec 64) (w : World) (h : ¬ (1 ≤ W ∧ W ≤ 64)) : Calls Tryz.prog 105 #[.agg #[.int .i64 W, .int .u64 (U V), .int .u64 (U X)]] w fun e w' => e = .returned (.int .i64 2) ∧ Below w.heap.size w w' := by
  by_cases h1 : W < 1
  · go_enter Tryz.func105, Tryz.ntmps105
    go_wp2_with fail
    go_ret
    exact ⟨rfl, (Below.refl _ _).alloc (Nat.le_refl _) _⟩
  · have h2 : 64 < W := by omega
    go_enter Tryz.func105, Tryz.ntmps105
    go_wp2_with fail
    go_ret
    exact ⟨rfl, (Below.refl _ _).alloc (Nat.le_refl _) _⟩
set_option maxHeartbeats 400000 in
theorem check_bits (n : Nat) (V X : BitVec 64) (w : World) (h1 : 1 ≤ n) (h2 : n ≤ 64) (ht : ((V ||| X) &&& ~~~msk n != 0#64) = true) : Calls Tryz.prog 105 #[.agg #[.int .i64 n, .int .u64 (U V), .int .u64 (U X)]] w fun e w' => e = .returned (.int .i64 4) ∧ Below w.heap.size w w' := by
  go_enter Tryz.func105, Tryz.ntmps105
  go_wp2_with fail
  go_quiet ((go_at_call 69; exact Calls.quiet_of_same (mask_q _ h2 _)))
  go_wp2_with fail
  go_ret
  exact ⟨rfl, below_drewN ((Below.refl _ _).alloc (Nat.le_refl _) _) _⟩
theorem check_any (r : Rb) (w : World) : Calls Tryz.prog 105 #[.agg #[.int .i64 r.W, .int .u64 (U r.v), .int .u64 (U r.x)]] w fun e w' => e = .returned (.int .i64 r.chk) ∧ Below w.heap.size w w' := by
  obtain ⟨W, V, X⟩ := r
  unfold Rb.chk
  by_cases h : 1 ≤ W ∧ W ≤ 64
  · rw [if_pos h]
    obtain ⟨n, rfl⟩ : ∃ n : Nat, W = n := ⟨W.toNat, by omega⟩
    simp only [Int.toNat_natCast]
    by_cases h2 : (V ||| X) &&& ~~~msk n = 0#64
    · rw [if_pos h2]; exact check_ok n V X w (Ok.of_both (by omega) (by omega) (by simpa using h2))
    · rw [if_neg h2]; exact check_bits n V X w (by omega) (by omega) (by simpa using h2)
  · rw [if_neg h]; exact check_lo W V X w h
set_option maxHeartbeats 400000 in
theorem valid_any (r : Rb) (w : World) : Calls Tryz.prog 99 #[.agg #[.int .i64 r.W, .int .u64 (U r.v), .int .u64 (U r.x)]] w fun e w' => e = .returned (.bool r.okB) ∧ Below w.heap.size w w' := by
  have hk := Lib.hid r.chk_ok
  go_enter Tryz.func99, Tryz.ntmps99
  go_wp2_with fail
  refine (check_any r _).mono ?_
  rintro e w1 ⟨rfl, hb⟩
  go_wp2_with fail
  go_ret
  exact ⟨congrArg (fun b => Ending.returned (.bool b)) hk.out, ((Below.refl _ _).alloc (Nat.le_refl _) _).trans (hb.mono (by simp <;> omega))⟩
def alikeB (a b : Rb) : Bool := a.okB && b.okB && decide (a.W = b.W)
theorem valid_no (W : Int) (V X : BitVec 64) (w : World) (h : (⟨W, V, X⟩ : Rb).okB = false) : Calls Tryz.prog 99 #[.agg #[.int .i64 W, .int .u64 (U V), .int .u64 (U X)]] w fun e w' => e = .returned (.bool false) ∧ Below w.heap.size w w' := by
  have := valid_any ⟨W, V, X⟩ w; rw [h] at this; exact this
end Go.Proofs.YtfnkablbcalclaaGreatDoor
namespace Go.Proofs.YtfnkablbcalclaaGreatDoor
open Go Go.RowKit
set_option linter.unusedVariables false
theorem bit_zero (v : BitVec 64) (i : Nat) (h : v.getLsbD i = false) : v >>> i &&& 1#64 = 0#64 := by
  apply BitVec.eq_of_getLsbD_eq
  intro j hj
  rw [BitVec.getLsbD_and, BitVec.getLsbD_ushiftRight]
  by_cases h0 : j = 0
  · subst h0; simp [h]
  · have h1 : (1#64).getLsbD j = false := by rw [BitVec.getLsbD_one]; simp [h0]
    rw [h1, Bool.and_false]; simp
theorem bit_set (v : BitVec 64) (i : Nat) (hi : i < 64) (h : v.getLsbD i = true) : (v >>> i &&& 1#64 != 0#64) = true := by
  have e := bit_one v i hi
  rw [h] at e
  have e2 : v >>> i &&& 1#64 = 1#64 := by simpa using e
  rw [e2]; rfl
end Go.Proofs.YtfnkablbcalclaaGreatDoor
namespace Go.Proofs.YtfnkablbcalclaaGreatDoor
open Go Go.RowKit Go.Sort
set_option linter.unusedVariables false
/-- the vector of a list of states -/
def Bl (l : List UInt8) : Rb := if 1 ≤ l.length ∧ l.length ≤ 64 then ⟨l.length, bvw l l.length, bxw l l.length⟩ else ⟨0, 0#64, 0#64⟩
abbrev Rb.agg (r : Rb) : Value := .agg #[.int .i64 r.W, .int .u64 (U r.v), .int .u64 (U r.x)]
set_option maxHeartbeats 400000 in
theorem refB_out (v : Value) (l : List UInt8) (hl : l.length ≤ 1000000) (h1 : ¬ (1 ≤ l.length ∧ l.length ≤ 64)) (w : World) (h : Row8 w v l) :
    Calls Tryz.prog 41 #[v] w fun e w' => e = .returned (.agg #[.int .i64 0, .int .u64 0, .int .u64 0]) ∧ Below w.heap.size w w' := by
  obtain ⟨a, cap, rfl, h0⟩ := h.sh
  clear h h0
  generalize hn : l.length = n at hl h1 ⊢
  clear hn
  by_cases hz : n < 1
  · obtain rfl : n = 0 := by omega
    go_enter Tryz.func41, Tryz.ntmps41
    go_wp2_with fail
    exact bodyPost_ret (v := .agg #[.int .i64 0, .int .u64 0, .int .u64 0]) (by simp [results, Tryz.results41, go_sem]) rfl ⟨rfl, (by (repeat (first | (with_reducible exact Below.refl _ _) | (with_reducible exact Nat.le_refl _) | (with_reducible refine Below.setCell ?_ ?_ _) | (with_reducible refine Below.alloc ?_ ?_ _) | (with_reducible refine Below.drew ?_))) <;> (first | omega | (simp <;> omega)))⟩
  · have h2 : (64 : Int) < (n : Int) := by omega
    have h3 : ¬ (n : Int) < 1 := by omega
    go_enter Tryz.func41, Tryz.ntmps41
    go_wp2_with fail
    exact bodyPost_ret (v := .agg #[.int .i64 0, .int .u64 0, .int .u64 0]) (by simp [results, Tryz.results41, go_sem]) rfl ⟨rfl, (by (repeat (first | (with_reducible exact Below.refl _ _) | (with_reducible exact Nat.le_refl _) | (with_reducible refine Below.setCell ?_ ?_ _) | (with_reducible refine Below.alloc ?_ ?_ _) | (with_reducible refine Below.drew ?_))) <;> (first | omega | (simp <;> omega)))⟩
theorem refB_is (v : Value) (l : List UInt8) (r : Rb) (hr : Bl l = r) (hl : l.length ≤ 1000000) (w : World) (h : Row8 w v l) :
    Calls Tryz.prog 41 #[v] w fun e w' => e = .returned (.agg #[.int .i64 r.W, .int .u64 (U r.v), .int .u64 (U r.x)]) ∧ Below w.heap.size w w' := by
  subst hr
  unfold Bl
  by_cases h1 : 1 ≤ l.length ∧ l.length ≤ 64
  · rw [if_pos h1]; exact refB_in v l h1.1 h1.2 w h
  · rw [if_neg h1]
    exact (refB_out v l hl h1 w h).mono fun _ _ ⟨he, hb⟩ => ⟨he.trans (by simp only [show U 0#64 = 0 from by decide]), hb⟩
/-- a valid vector's states make the vector again -/
theorem Bl_vl {n : Nat} {a : Vx} (ha : a.ok n) : Bl (vl a n) = ⟨n, a.v, a.x⟩ := by
  unfold Bl
  rw [if_pos (by rw [vl_len]; exact ⟨ha.lo, ha.hi⟩), vl_len, bvw_vl ha, bxw_vl ha]
theorem row8_sta (l : List UInt8) : Sta (fun v w => Row8 w v l) := fun _ _ _ h hb => h.below hb
/-- a list of states that are those of a vector -/
theorem Bl_map {n : Nat} {a : Vx} (ha : a.ok n) {l : List UInt8} (h : l = vl a n) : Bl l = ⟨n, a.v, a.x⟩ := by rw [h, Bl_vl ha]
end Go.Proofs.YtfnkablbcalclaaGreatDoor
