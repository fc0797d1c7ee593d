/- The reference's functions on lists of states: Known, Truth, Fill.
   The reference's B: the vector of a list of states.
   Digits of a number without a quotation mark; its bits. No program here.
   Any value of the type of vectors, valid or not: what Check, valid and alike say of it.
   The reference's Valid of a valid vector.
   The reference's B of any list of states; what the walk of drawn regions keeps of slices of bytes. -/
import Derived.Test.YtogmipbdnffegaaGreatDoorMgTxt
import Derived.ChangeAlike
import Derived.RegionTactic
import Derived.Test.YtogmipbdnffegaaGreatDoorMgStr
import Derived.Lib.RabinKarpLaws
import Derived.Test.YtogmipbdnffegaaGreatDoorVec
import Derived.Test.YtogmipbdnffegaaGreatDoorMgRel
namespace Go.Proofs.YtogmipbdnffegaaGreatDoor
open Go Go.RowKit
set_option linter.unusedVariables false
/-- a slice of bytes that reads as a list -/
structure Row8 (w : World) (v : Value) (l : List UInt8) : Prop where
  sh : ∃ a cap, v = .slice a l.length cap ∧ (l.length = 0 ∨ ∃ bl off, a = some ⟨bl, off, none⟩ ∧ ∀ q (hq : q < l.length), w.cell? ⟨bl, off + q, none⟩ = some (.int .u8 (l[q].toNat : Int)))
  cp : ∀ a n c, v = .slice a n c → n ≤ c
theorem Row8.below {w w' : World} {v : Value} {l : List UInt8} (h : Row8 w v l) (hb : Below w.heap.size w w') : Row8 w' v l := by
  refine ⟨?_, h.cp⟩
  obtain ⟨a, cap, rfl, h0 | ⟨bl, off, rfl, hc⟩⟩ := h.sh
  · exact ⟨a, cap, rfl, Or.inl h0⟩
  · exact ⟨_, cap, rfl, Or.inr ⟨bl, off, rfl, fun q hq => (hb.cell (p := ⟨bl, off + q, none⟩) (World.block_lt_of_cell? w _ (hc q hq))).trans (hc q hq)⟩⟩
theorem own_cap {w : World} {B n : Nat} {e : TypeId} {v : Value} {xs : List Value} (h : w.ownsRow B e 1 v n xs) : ∀ a m c, v = .slice a m c → m ≤ c := by
  rintro a m c rfl
  rcases h.2 with ⟨he, _⟩ | ⟨g, cap, cur, he, _, _, hc, _⟩
  · injection he with _ e2 e3; omega
  · injection he with _ e2 e3; omega
theorem row8_own {w : World} {B : Nat} {v : Value} {l : List UInt8} (h : w.ownsRow B 5 1 v l.length (Lib.byteCells l)) : Row8 w v l := by
  refine ⟨?_, own_cap h⟩
  rcases Nat.eq_zero_or_pos l.length with h0 | hl
  · rcases h.2 with ⟨rfl, _⟩ | ⟨g, cap, cur, hv, _⟩
    · exact ⟨none, 0, by rw [h0], Or.inl h0⟩
    · exact ⟨_, _, hv, Or.inl h0⟩
  · obtain ⟨g, cap, rfl, hc⟩ := own_bytes h hl
    refine ⟨_, cap, rfl, Or.inr ⟨g, 0, rfl, fun q hq => ?_⟩⟩
    have h2 := hc q hq
    by_cases hq0 : q = 0
    · subst hq0; simpa [Addr.add] using h2
    · simpa [Addr.add, hq0] using h2
def knownL (l : List UInt8) : Bool := l.all fun c => c == 48 || c == 49
theorem knownL_out {l : List UInt8} {k : Nat} (h : k < l.length) (h1 : l[k] ≠ 48) (h2 : l[k] ≠ 49) : knownL l = false := by
  cases e : knownL l
  · rfl
  · unfold knownL at e
    have := List.all_eq_true.1 e l[k] (List.getElem_mem h)
    simp at this
    rcases this with h3 | h3
    · exact absurd h3 h1
    · exact absurd h3 h2
theorem knownL_snoc {l : List UInt8} {k : Nat} (h : k < l.length) (h0 : knownL (l.take k) = true) (h1 : l[k] = 48 ∨ l[k] = 49) : knownL (l.take (k + 1)) = true := by
  rw [List.take_succ_eq_append_getElem h]
  unfold knownL at h0 ⊢
  rw [List.all_append, h0]
  rcases h1 with h1 | h1 <;> simp [h1]
theorem Row8.nth {w : World} {a : Option Addr} {n cap : Nat} {l : List UInt8} (h : l.length = 0 ∨ ∃ bl off, a = some ⟨bl, off, none⟩ ∧ ∀ q (hq : q < l.length), w.cell? ⟨bl, off + q, none⟩ = some (.int .u8 (l[q].toNat : Int))) {k : Nat} (hk : k < l.length) :
    ∃ bl off, a = some ⟨bl, off, none⟩ ∧ w.cell? ⟨bl, off + k, none⟩ = some (.int .u8 (l[k].toNat : Int)) := by
  rcases h with h1 | ⟨bl, off, ha, hc⟩
  · omega
  · exact ⟨bl, off, ha, hc k hk⟩
/-- 't', 'f' or 'u' -/
def truthL (l : List UInt8) : Nat := if l.contains 49 then 116 else if l.all (· == 48) then 102 else 117
/-- what Truth has found in the first states, none of which is 1 -/
def truthT (l : List UInt8) : Nat := if l.all (· == 48) then 102 else 117
theorem truthT_snoc {l : List UInt8} {k : Nat} (h : k < l.length) : truthT (l.take (k + 1)) = if l[k] = 48 then truthT (l.take k) else 117 := by
  rw [List.take_succ_eq_append_getElem h]
  unfold truthT
  rw [List.all_append]
  by_cases e : l[k] = 48
  · simp [e]
  · simp [e]
theorem no1_snoc {l : List UInt8} {k : Nat} (h : k < l.length) (h0 : ∀ x ∈ l.take k, x ≠ 49) (h1 : l[k] ≠ 49) : ∀ x ∈ l.take (k + 1), x ≠ 49 := by
  intro x hx
  rw [List.take_succ_eq_append_getElem h] at hx
  rcases List.mem_append.1 hx with h2 | h2
  · exact h0 x h2
  · simp at h2; rw [h2]; exact h1
theorem ret_u8 {a b : Int} (h : a = b) : Ending.returned (.int .u8 a) = .returned (.int .u8 b) := by rw [h]
end Go.Proofs.YtogmipbdnffegaaGreatDoor
namespace Go.Proofs.YtogmipbdnffegaaGreatDoor
open Go Go.RowKit
set_option linter.unusedVariables false
def isV (c : UInt8) : Bool := c == 49 || c == 120
def isX (c : UInt8) : Bool := c == 120 || c == 122
/-- the words of the first k states -/
def bvw (l : List UInt8) : Nat → BitVec 64
  | 0 => 0#64
  | k + 1 => if isV (l.getD k 0) then bvw l k ||| (1#64 <<< k) else bvw l k
def bxw (l : List UInt8) : Nat → BitVec 64
  | 0 => 0#64
  | k + 1 => if isX (l.getD k 0) then bxw l k ||| (1#64 <<< k) else bxw l k
theorem one_shl_bit (k i : Nat) : (1#64 <<< k).getLsbD i = (decide (i < 64) && decide (i = k)) := by
  rw [BitVec.getLsbD_shiftLeft]
  by_cases hi : i < 64
  · by_cases hk : i = k
    · subst hk; simp [hi]
    · by_cases h2 : i < k
      · simp [hi, h2, hk]
      · have h3 : i - k ≠ 0 := by omega
        simp [hi, h2, hk, h3]
  · simp [hi]
theorem bvw_bit (l : List UInt8) (k i : Nat) : (bvw l k).getLsbD i = (decide (i < 64) && decide (i < k) && isV (l.getD i 0)) := by
  induction k with
  | zero => simp [bvw]
  | succ k ih =>
    simp only [bvw]
    split
    · rename_i h
      rw [BitVec.getLsbD_or, ih, one_shl_bit]
      by_cases e : i = k
      · subst e; rw [h]; simp
      · have : decide (i < k + 1) = decide (i < k) := by apply decide_eq_decide.2; omega
        rw [this]; simp [e]
    · rename_i h
      rw [ih]
      by_cases e : i = k
      · subst e
        have : isV (l.getD i 0) = false := by simpa using h
        rw [this]; simp
      · have : decide (i < k + 1) = decide (i < k) := by apply decide_eq_decide.2; omega
        rw [this]
theorem bxw_bit (l : List UInt8) (k i : Nat) : (bxw l k).getLsbD i = (decide (i < 64) && decide (i < k) && isX (l.getD i 0)) := by
  induction k with
  | zero => simp [bxw]
  | succ k ih =>
    simp only [bxw]
    split
    · rename_i h
      rw [BitVec.getLsbD_or, ih, one_shl_bit]
      by_cases e : i = k
      · subst e; rw [h]; simp
      · have : decide (i < k + 1) = decide (i < k) := by apply decide_eq_decide.2; omega
        rw [this]; simp [e]
    · rename_i h
      rw [ih]
      by_cases e : i = k
      · subst e
        have : isX (l.getD i 0) = false := by simpa using h
        rw [this]; simp
      · have : decide (i < k + 1) = decide (i < k) := by apply decide_eq_decide.2; omega
        rw [this]
theorem vl_get (a : Vx) (n i : Nat) (h : i < n) : (vl a n).getD i 0 = st a i := by
  unfold vl; rw [List.getD_eq_getElem?_getD, List.getElem?_map, List.getElem?_range h]; rfl
theorem st_V (a : Vx) (i : Nat) : isV (st a i) = a.v.getLsbD i := by
  unfold st isV; cases a.x.getLsbD i <;> cases a.v.getLsbD i <;> decide
theorem st_X (a : Vx) (i : Nat) : isX (st a i) = a.x.getLsbD i := by
  unfold st isX; cases a.x.getLsbD i <;> cases a.v.getLsbD i <;> decide
/-- a valid vector's list of states gives the vector again -/
theorem bvw_vl {n : Nat} {a : Vx} (ha : a.ok n) : bvw (vl a n) n = a.v := by
  apply BitVec.eq_of_getLsbD_eq
  intro i hi
  rw [bvw_bit]
  by_cases h : i < n
  · rw [vl_get a n i h, st_V]; simp [hi, h]
  · rw [ha.subv i (by omega)]; simp [h]
theorem bxw_vl {n : Nat} {a : Vx} (ha : a.ok n) : bxw (vl a n) n = a.x := by
  apply BitVec.eq_of_getLsbD_eq
  intro i hi
  rw [bxw_bit]
  by_cases h : i < n
  · rw [vl_get a n i h, st_X]; simp [hi, h]
  · rw [ha.subx i (by omega)]; simp [h]
theorem one_wrap (k : Nat) : IntKind.u64.wrap (2 ^ k) = U (1#64 <<< k) := by
  have := U_shl 1#64 k
  rw [← this]; congr 1; show _ = 1 * _; omega
theorem Box.put1 {w : World} {p : Nat} {n v x : Int} (h : Box w p n v x) (u : Int) : Box (w.setCell ⟨p, 1, none⟩ (.int .u64 u)) p n u x := by
  obtain ⟨h0, h1, h2, hf⟩ := h
  exact ⟨by go_simp, by go_simp, by go_simp, fun o => by go_simp⟩
theorem Box.put2 {w : World} {p : Nat} {n v x : Int} (h : Box w p n v x) (u : Int) : Box (w.setCell ⟨p, 2, none⟩ (.int .u64 u)) p n v u := by
  obtain ⟨h0, h1, h2, hf⟩ := h
  exact ⟨by go_simp, by go_simp, by go_simp, fun o => by go_simp⟩
theorem Box.far {w : World} {p q o : Nat} {n v x : Int} (h : Box w p n v x) (hne : p ≠ q) (u : Value) : Box (w.setCell ⟨q, o, none⟩ u) p n v x := by
  obtain ⟨h0, h1, h2, hf⟩ := h
  exact ⟨by go_simp, by go_simp, by go_simp, fun o => by go_simp⟩
theorem Box.drew {w : World} {p : Nat} {n v x : Int} (h : Box w p n v x) : Box w.drew p n v x := by
  obtain ⟨h0, h1, h2, hf⟩ := h
  exact ⟨by go_simp, by go_simp, by go_simp, fun o => by go_simp⟩
/-- what the loop of B knows -/
structure BB (w : World) (n : Nat) (v x : BitVec 64) (wr : World) : Prop where
  g : Box wr (w.heap.size + 1) n (U v) (U x)
  r : Box wr w.heap.size 0 0 0
  lo : Below w.heap.size w wr
theorem BB.putV {w wr : World} {n : Nat} {v x v' : BitVec 64} (h : BB w n v x wr) : BB w n v' x (wr.setCell ⟨w.heap.size + 1, 1, none⟩ (.int .u64 (U v'))).drew :=
  ⟨(h.g.put1 _).drew, (h.r.far (by omega) _).drew, (h.lo.setCell (Nat.le_succ _) _).drew⟩
theorem BB.putX {w wr : World} {n : Nat} {v x x' : BitVec 64} (h : BB w n v x wr) : BB w n v x' (wr.setCell ⟨w.heap.size + 1, 2, none⟩ (.int .u64 (U x'))).drew :=
  ⟨(h.g.put2 _).drew, (h.r.far (by omega) _).drew, (h.lo.setCell (Nat.le_succ _) _).drew⟩
end Go.Proofs.YtogmipbdnffegaaGreatDoor
namespace Go.Proofs.YtogmipbdnffegaaGreatDoor
open Go Go.RowKit
set_option linter.unusedVariables false
theorem bit_at (V j : Nat) (hV : V ≤ 2147483647) : wrap64 (48 + bits BinOp.and IntKind.i64 ((V : Int) / 2 ^ j) 1) % 256 = ((48 + V / 2 ^ j % 2 : Nat) : Int) := by
  have e : (V : Int) / 2 ^ j = ((V / 2 ^ j : Nat) : Int) := by simp
  have hd : V / 2 ^ j ≤ V := Nat.div_le_self _ _
  rw [e, Go.Proofs.and_one _ (by omega)]
  have h2 : V / 2 ^ j % 2 < 2 := Nat.mod_lt _ (by decide)
  generalize V / 2 ^ j % 2 = b at *
  unfold wrap64
  omega
theorem byteCells_snoc (l : List UInt8) (n : Nat) (h : n < 256) : Lib.byteCells (l ++ [UInt8.ofNat n]) = Lib.byteCells l ++ [Value.int .u8 (n : Int)] := by
  have e : (UInt8.ofNat n).toNat = n := by rw [UInt8.toNat_ofNat']; exact Nat.mod_eq_of_lt h
  unfold Lib.byteCells
  rw [List.map_append, List.map_cons, List.map_nil, e]
theorem dgv_ext (a b : ByteArray) : ∀ k, (∀ i, i < k → gb a i = gb b i) → dgv a k = dgv b k
  | 0, _ => rfl
  | k + 1, h => by
    unfold dgv
    rw [dgv_ext a b k (fun i hi => h i (by omega)), h k (by omega)]
theorem gb_part (s : ByteArray) (n i : Nat) (hn : n ≤ s.size) (hi : i < n) : gb (s.extract 0 n) i = gb s i := by
  have h1 : i < (s.extract 0 n).size := by simp; omega
  rw [← gb_at (s.extract 0 n) i h1, ← gb_at s i (by omega), ByteArray.getElem_extract]
  simp
theorem dgv_part (s : ByteArray) (n : Nat) (hn : n ≤ s.size) : dgv (s.extract 0 n) (s.extract 0 n).size = dgv s n := by
  have e : (s.extract 0 n).size = n := by simp; omega
  rw [e]
  exact dgv_ext _ _ n (fun i hi => gb_part s n i hn hi)
/-- the states of the first k bits -/
def stL (V k : Nat) : List UInt8 := (List.range k).map fun i => UInt8.ofNat (48 + V / 2 ^ i % 2)
theorem stL_succ (V k : Nat) : stL V (k + 1) = stL V k ++ [UInt8.ofNat (48 + V / 2 ^ k % 2)] := by
  unfold stL
  rw [List.range_succ, List.map_append]
  rfl
theorem stL_len (V k : Nat) : (stL V k).length = k := by unfold stL; simp
theorem stL_get (V k i : Nat) (h : i < k) : (stL V k).getD i 0 = UInt8.ofNat (48 + V / 2 ^ i % 2) := by
  unfold stL
  rw [List.getD_eq_getElem?_getD, List.getElem?_map, List.getElem?_range h]
  rfl
theorem st_two (b : Nat) (h : b < 2) : isV (UInt8.ofNat (48 + b)) = decide (b = 1) ∧ isX (UInt8.ofNat (48 + b)) = false := by
  have : b = 0 ∨ b = 1 := by omega
  rcases this with rfl | rfl <;> decide
theorem bvw_num (V : Nat) (hV : V ≤ 2147483647) : U (bvw (stL V 32) 32) = (V : Int) := by
  have e : bvw (stL V 32) 32 = BitVec.ofNat 64 V := by
    apply BitVec.eq_of_getLsbD_eq
    intro i hi
    rw [bvw_bit, BitVec.getLsbD_ofNat]
    by_cases h : i < 32
    · rw [stL_get V 32 i h, (st_two _ (Nat.mod_lt _ (by decide))).1, Nat.testBit_eq_decide_div_mod_eq]
      simp [hi, h]
    · have : V.testBit i = false := Nat.testBit_lt_two_pow (Nat.lt_of_lt_of_le (show V < 2 ^ 32 by omega) (Nat.pow_le_pow_right (by decide) (by omega)))
      rw [this]
      simp [h]
  unfold U
  rw [e, BitVec.toNat_ofNat, Nat.mod_eq_of_lt (by omega)]
theorem OB.row8 {B : Nat} {w : World} {v : Value} {l : List UInt8} (h : OB B w v l) : Row8 w v l := by
  have hh := h
  rcases h.2 with ⟨h1, h0⟩ | ⟨g, cap, cur, hv, hb, hg, hc, _⟩
  · exact ⟨⟨none, 0, by rw [h1, h0], .inl h0⟩, fun a n c hv => by rw [h1] at hv; injection hv with _ e2 e3; omega⟩
  · refine ⟨⟨_, cap, hv, .inr ⟨g, 0, rfl, fun q hq => ?_⟩⟩, fun a n c hv2 => by rw [hv] at hv2; injection hv2 with _ e2 e3; omega⟩
    subst hv
    have := World.ownsRow.cellAt hh q (by omega)
    rw [Nat.zero_add, this]
    simp [Lib.byteCells, List.getElem?_eq_getElem hq]
theorem bxw_num (V : Nat) : U (bxw (stL V 32) 32) = 0 := by
  have e : bxw (stL V 32) 32 = 0#64 := by
    apply BitVec.eq_of_getLsbD_eq
    intro i hi
    rw [bxw_bit]
    by_cases h : i < 32
    · rw [stL_get V 32 i h, (st_two _ (Nat.mod_lt _ (by decide))).2]
      simp
    · simp [h]
  rw [e]
  rfl
end Go.Proofs.YtogmipbdnffegaaGreatDoor
namespace Go.Proofs.YtogmipbdnffegaaGreatDoor
open Go Go.RowKit
set_option linter.unusedVariables false
/-- any value of the type of vectors -/
structure Rb where
  W : Int
  v : BitVec 64
  x : BitVec 64
def Rb.okB (r : Rb) : Bool := decide (1 ≤ r.W) && decide (r.W ≤ 64) && ((r.v ||| r.x) &&& ~~~msk r.W.toNat == 0#64)
def Rb.chk (r : Rb) : Int := if 1 ≤ r.W ∧ r.W ≤ 64 then (if (r.v ||| r.x) &&& ~~~msk r.W.toNat = 0#64 then 0 else 4) else 2
theorem Rb.ok_of {r : Rb} (h : r.okB = true) : ∃ n : Nat, r.W = n ∧ Ok n r.v r.x := by
  simp only [Rb.okB, Bool.and_eq_true, decide_eq_true_eq, beq_iff_eq] at h
  obtain ⟨⟨h1, h2⟩, h3⟩ := h
  exact ⟨r.W.toNat, by omega, Ok.of_both (by omega) (by omega) (by simpa using h3)⟩
theorem Rb.okB_of {n : Nat} {v x : BitVec 64} (h : Ok n v x) : (⟨(n : Int), v, x⟩ : Rb).okB = true := by
  have h1 := h.lo
  have h2 := h.hi
  have h3 := h.both
  simp only [Rb.okB, Bool.and_eq_true, decide_eq_true_eq, beq_iff_eq, Int.toNat_natCast]
  exact ⟨⟨by omega, by omega⟩, by simpa using h3⟩
theorem Rb.chk_ok (r : Rb) : (r.chk == 0) = r.okB := by
  unfold Rb.chk Rb.okB
  by_cases h : 1 ≤ r.W ∧ r.W ≤ 64
  · rw [if_pos h]
    by_cases h2 : (r.v ||| r.x) &&& ~~~msk r.W.toNat = 0#64
    · simp [h, h2]
    · simp [h2]
  · rw [if_neg h]
    simp only [not_and] at h
    by_cases h1 : 1 ≤ r.W
    · simp [h1, h h1]
    · simp [h1]
set_option maxHeartbeats 400000 in
theorem check_lo (W : Int) (V X : BitVec 64) (w : World) (h : ¬ (1 ≤ W ∧ W ≤ 64)) : Calls Tryz.prog 139 #[.agg #[.int .i64 W, .int .u64 (U V), .int .u64 (U X)]] w fun e w' => e = .returned (.int .i64 2) ∧ Below w.heap.size w w' := by
  by_cases h1 : W < 1
  · go_enter Tryz.func139, Tryz.ntmps139
    go_wp2_with fail
    go_ret
    exact ⟨rfl, (Below.refl _ _).alloc (Nat.le_refl _) _⟩
  · have h2 : 64 < W := by omega
    go_enter Tryz.func139, Tryz.ntmps139
    go_wp2_with fail
    go_ret
    exact ⟨rfl, (Below.refl _ _).alloc (Nat.le_refl _) _⟩
set_option maxHeartbeats 400000 in
theorem check_bits (n : Nat) (V X : BitVec 64) (w : World) (h1 : 1 ≤ n) (h2 : n ≤ 64) (ht : ((V ||| X) &&& ~~~msk n != 0#64) = true) : Calls Tryz.prog 139 #[.agg #[.int .i64 n, .int .u64 (U V), .int .u64 (U X)]] w fun e w' => e = .returned (.int .i64 4) ∧ Below w.heap.size w w' := by
  go_enter Tryz.func139, Tryz.ntmps139
  go_wp2_with fail
  go_quiet ((go_at_call 97; exact Calls.quiet_of_same (mask_q _ h2 _)))
  go_wp2_with fail
  go_ret
  exact ⟨rfl, below_drewN ((Below.refl _ _).alloc (Nat.le_refl _) _) _⟩
theorem check_any (r : Rb) (w : World) : Calls Tryz.prog 139 #[.agg #[.int .i64 r.W, .int .u64 (U r.v), .int .u64 (U r.x)]] w fun e w' => e = .returned (.int .i64 r.chk) ∧ Below w.heap.size w w' := by
  obtain ⟨W, V, X⟩ := r
  unfold Rb.chk
  by_cases h : 1 ≤ W ∧ W ≤ 64
  · rw [if_pos h]
    obtain ⟨n, rfl⟩ : ∃ n : Nat, W = n := ⟨W.toNat, by omega⟩
    simp only [Int.toNat_natCast]
    by_cases h2 : (V ||| X) &&& ~~~msk n = 0#64
    · rw [if_pos h2]; exact check_ok n V X w (Ok.of_both (by omega) (by omega) (by simpa using h2))
    · rw [if_neg h2]; exact check_bits n V X w (by omega) (by omega) (by simpa using h2)
  · rw [if_neg h]; exact check_lo W V X w h
set_option maxHeartbeats 400000 in
theorem valid_any (r : Rb) (w : World) : Calls Tryz.prog 134 #[.agg #[.int .i64 r.W, .int .u64 (U r.v), .int .u64 (U r.x)]] w fun e w' => e = .returned (.bool r.okB) ∧ Below w.heap.size w w' := by
  have hk := Lib.hid r.chk_ok
  go_enter Tryz.func134, Tryz.ntmps134
  go_wp2_with fail
  refine (check_any r _).mono ?_
  rintro e w1 ⟨rfl, hb⟩
  go_wp2_with fail
  go_ret
  exact ⟨congrArg (fun b => Ending.returned (.bool b)) hk.out, ((Below.refl _ _).alloc (Nat.le_refl _) _).trans (hb.mono (by simp <;> omega))⟩
def alikeB (a b : Rb) : Bool := a.okB && b.okB && decide (a.W = b.W)
theorem valid_no (W : Int) (V X : BitVec 64) (w : World) (h : (⟨W, V, X⟩ : Rb).okB = false) : Calls Tryz.prog 134 #[.agg #[.int .i64 W, .int .u64 (U V), .int .u64 (U X)]] w fun e w' => e = .returned (.bool false) ∧ Below w.heap.size w w' := by
  have := valid_any ⟨W, V, X⟩ w; rw [h] at this; exact this
end Go.Proofs.YtogmipbdnffegaaGreatDoor
namespace Go.Proofs.YtogmipbdnffegaaGreatDoor
open Go Go.RowKit
set_option linter.unusedVariables false
theorem bit_zero (v : BitVec 64) (i : Nat) (h : v.getLsbD i = false) : v >>> i &&& 1#64 = 0#64 := by
  apply BitVec.eq_of_getLsbD_eq
  intro j hj
  rw [BitVec.getLsbD_and, BitVec.getLsbD_ushiftRight]
  by_cases h0 : j = 0
  · subst h0; simp [h]
  · have h1 : (1#64).getLsbD j = false := by rw [BitVec.getLsbD_one]; simp [h0]
    rw [h1, Bool.and_false]; simp
theorem bit_set (v : BitVec 64) (i : Nat) (hi : i < 64) (h : v.getLsbD i = true) : (v >>> i &&& 1#64 != 0#64) = true := by
  have e := bit_one v i hi
  rw [h] at e
  have e2 : v >>> i &&& 1#64 = 1#64 := by simpa using e
  rw [e2]; rfl
end Go.Proofs.YtogmipbdnffegaaGreatDoor
namespace Go.Proofs.YtogmipbdnffegaaGreatDoor
open Go Go.RowKit Go.Sort
set_option linter.unusedVariables false
/-- the vector of a list of states -/
def Bl (l : List UInt8) : Rb := if 1 ≤ l.length ∧ l.length ≤ 64 then ⟨l.length, bvw l l.length, bxw l l.length⟩ else ⟨0, 0#64, 0#64⟩
abbrev Rb.agg (r : Rb) : Value := .agg #[.int .i64 r.W, .int .u64 (U r.v), .int .u64 (U r.x)]
/-- a valid vector's states make the vector again -/
theorem Bl_vl {n : Nat} {a : Vx} (ha : a.ok n) : Bl (vl a n) = ⟨n, a.v, a.x⟩ := by
  unfold Bl
  rw [if_pos (by rw [vl_len]; exact ⟨ha.lo, ha.hi⟩), vl_len, bvw_vl ha, bxw_vl ha]
theorem row8_sta (l : List UInt8) : Sta (fun v w => Row8 w v l) := fun _ _ _ h hb => h.below hb
/-- a list of states that are those of a vector -/
theorem Bl_map {n : Nat} {a : Vx} (ha : a.ok n) {l : List UInt8} (h : l = vl a n) : Bl l = ⟨n, a.v, a.x⟩ := by rw [h, Bl_vl ha]
end Go.Proofs.YtogmipbdnffegaaGreatDoor
