/- The values of nodes as words of 64 bits, and the program's value of a literal. No condition. -/
import Derived.Test.YtbphhcjepeamcaaGpL
import Derived.Test.YtbphhcjepeamcaaGlVd
import Derived.Test.YtbphhcjepeamcaaWord
namespace Go.Proofs.Ytbphhcjepeamcaa
open Go Go.RowKit Go.Sort
set_option linter.unusedVariables false
abbrev encW : BitVec 64 → List Value := fun b => [.int .u64 (U b)]
theorem lenW (x : BitVec 64) : (encW x).length = 1 := rfl
def litW (V : List (BitVec 64)) (l : Int) : BitVec 64 := if l % 2 = 1 then ~~~ V[ndL l]! else V[ndL l]!
def wAdd (V : List (BitVec 64)) (p : Int × Int) : List (BitVec 64) := V ++ [litW V p.1 &&& litW V p.2]
def valsW (g : Gr) (x : List (BitVec 64)) (j : Nat) : List (BitVec 64) := (g.ands.take j).foldl wAdd x
theorem valsW_succ (g : Gr) (x : List (BitVec 64)) (j : Nat) (hj : j < g.ands.length) : valsW g x (j + 1) = wAdd (valsW g x j) g.ands[j]! := by unfold valsW; rw [tk1 g.ands hj, List.foldl_append]; rfl
theorem valsW_len (g : Gr) (x : List (BitVec 64)) : ∀ j, j ≤ g.ands.length → (valsW g x j).length = x.length + j
  | 0, _ => rfl
  | j + 1, h => by rw [valsW_succ g x j (by omega)]; unfold wAdd; rw [List.length_append, valsW_len g x j (by omega)]; rfl
theorem colB_U (k : Nat) (b : BitVec 64) : colB k (U b) = b.getLsbD k := by
  unfold colB U
  rw [show (2 : Int) ^ k = ((2 ^ k : Nat) : Int) by push_cast; rfl]
  rw [BitVec.getLsbD, Nat.testBit_eq_decide_div_mod_eq]
  have h : ((b.toNat : Int) / ((2 ^ k : Nat) : Int) % 2 = 1) ↔ b.toNat / 2 ^ k % 2 = 1 := by
    rw [← Int.natCast_ediv]
    omega
  exact decide_eq_decide.2 h
theorem lane_get {V : List (BitVec 64)} (k i : Nat) (hi : i < V.length) : (V.map (·.getLsbD k))[i]! = V[i]!.getLsbD k := by
  rw [getElem!_pos _ i (by simpa using hi), getElem!_pos V i hi, List.getElem_map]
theorem lit_lane (V : List (BitVec 64)) (k : Nat) (hk : k < 64) (l : Int) (hl : ndL l < V.length) : (litW V l).getLsbD k = litV (V.map (·.getLsbD k)) l := by
  unfold litW litV
  rw [lane_get k _ hl]
  by_cases h : l % 2 = 1
  · rw [if_pos h, decide_eq_true h, BitVec.getLsbD_not]
    simp [hk]
  · rw [if_neg h, decide_eq_false h]
    simp
theorem lit_in {g : Gr} (vg : VG g) {c : Nat} (hc : c < g.ands.length) : ndL g.ands[c]!.1 < n0L g + c ∧ ndL g.ands[c]!.2 < n0L g + c := by
  have h := vg.lits c hc
  have hb : baseL g = 2 * (1 + (g.ins.length : Int) + (g.regs.length : Int)) := rfl
  unfold ndL n0L
  omega
theorem vals_lane (g : Gr) (vg : VG g) (x : List (BitVec 64)) (hx : x.length = n0L g) (k : Nat) (hk : k < 64) : ∀ j, j ≤ g.ands.length → (valsW g x j).map (·.getLsbD k) = (g.ands.take j).foldl vAdd (x.map (·.getLsbD k))
  | 0, _ => rfl
  | j + 1, h => by
    have ih := vals_lane g vg x hx k hk j (by omega)
    have hl := valsW_len g x j (by omega)
    obtain ⟨q1, q2⟩ := lit_in vg (c := j) (by omega)
    rw [valsW_succ g x j (by omega), tk1 g.ands (by omega), List.foldl_append]
    unfold wAdd
    rw [List.map_append]
    show _ = vAdd _ _
    rw [← ih]
    unfold vAdd
    congr 1
    show [(litW (valsW g x j) _ &&& litW (valsW g x j) _).getLsbD k] = _
    rw [BitVec.getLsbD_and, lit_lane _ k hk _ (by omega), lit_lane _ k hk _ (by omega)]
theorem valsW_G (g : Gr) (vg : VG g) (x : List (BitVec 64)) (hx : x.length = n0L g) (k : Nat) (hk : k < 64) : (valsW g x g.ands.length).map (·.getLsbD k) = valsG g (x.map (·.getLsbD k)) := by
  have := vals_lane g vg x hx k hk g.ands.length (Nat.le_refl _)
  rwa [List.take_of_length_le (Nat.le_refl _)] at this
/-- words as numbers -/
theorem isW_map {L : List Int} (h : isW L) : ∃ V : List (BitVec 64), L = V.map U := by
  refine ⟨L.map (fun n => BitVec.ofInt 64 n), ?_⟩
  rw [List.map_map]
  conv => lhs; rw [← List.map_id L]
  apply List.map_congr_left
  intro n hn
  have := h n hn
  show n = ((BitVec.ofInt 64 n).toNat : Int)
  rw [BitVec.toNat_ofInt]
  omega
theorem isW_U (V : List (BitVec 64)) : isW (V.map U) := by
  intro n hn
  obtain ⟨b, _, rfl⟩ := List.mem_map.1 hn
  have := b.isLt
  unfold U; omega
theorem rowAt_U {V : List (BitVec 64)} {ad : Option Addr} {w : World} : RowAt 1 encU (V.map U) ad w ↔ RowAt 1 encW V ad w := by
  unfold RowAt
  rw [List.length_map]
  have e : ∀ j, j < V.length → encU (V.map U)[j]! = encW V[j]! := fun j hj => by
    rw [getElem!_pos (V.map U) j (by simpa using hj), getElem!_pos V j hj, List.getElem_map]
  constructor
  · rintro (h | ⟨b, o, h1, h2⟩)
    · exact .inl h
    · exact .inr ⟨b, o, h1, fun j hj c x hx => h2 j hj c x (by rw [e j hj]; exact hx)⟩
  · rintro (h | ⟨b, o, h1, h2⟩)
    · exact .inl h
    · exact .inr ⟨b, o, h1, fun j hj c x hx => h2 j hj c x (by rw [← e j hj]; exact hx)⟩
theorem row_U {V : List (BitVec 64)} {v : Value} {w : World} (h : RowOf 1 encW V v w) : RowOf 1 encU (V.map U) v w := by
  obtain ⟨ad, cp, rfl, h1, h2⟩ := h.open'
  exact ⟨ad, cp, by rw [List.length_map], by rw [List.length_map]; exact h1, rowAt_U.2 h2⟩
theorem rowC_W {V : List (BitVec 64)} {v : Value} {w : World} (h : RowC (fun n => Value.int .u64 n) (V.map U) v w) : RowC (fun b => Value.int .u64 (U b)) V v w := by
  obtain ⟨ad, cp, rfl, h1, h2, h3⟩ := h
  exact ⟨ad, cp, by rw [List.length_map], by rw [List.length_map] at h1; exact h1, h2, rowAt_U.1 h3⟩
theorem notU (a : BitVec 64) : bits BinOp.xor IntKind.u64 18446744073709551615 (U a) = U (~~~ a) := by
  have h := U_xor (BitVec.allOnes 64) a
  rw [show U (BitVec.allOnes 64) = 18446744073709551615 from rfl, BitVec.allOnes_xor] at h
  exact h
set_option maxRecDepth 100000 in
set_option maxHeartbeats 2000000 in
theorem value_any (V : List (BitVec 64)) (v : Value) (l : Int) (h0 : 0 ≤ l) (hl : ndL l < V.length) (w : World) (hR : RowOf 1 encW V v w) : Calls Try.prog 109 #[v, .int .i64 l] w fun e w' => e = .returned (.int .u64 (U (litW V l))) ∧ Below w.heap.size w w' := by
  obtain ⟨ad, cp, rfl, hcp, R⟩ := hR.open'
  have R1 := Lib.hid (fun W (hb : Below w.heap.size w W) => R.below hb)
  obtain ⟨bb, oo, hdd, hcell⟩ := R.pick (by omega)
  subst hdd
  have c0 := hcell (ndL l) hl 0 _ rfl
  simp only [Nat.mul_one, Nat.add_zero] at c0
  have hlt := World.block_lt_of_cell? w _ c0
  rw [show ndL l = (l / 2).toNat from rfl] at c0
  clear hcell R
  have m1 : 0 ≤ l / 2 := by omega
  have m2 : l / 2 < (V.length : Int) := by unfold ndL at hl; omega
  have N1 := Lib.hid (fun W => show Calls Try.prog 17 #[.int .i64 l] W fun e w' => e = .returned (.int .i64 (l / 2)) ∧ Below W.heap.size W w' by have := node_any l W; rwa [show nodeL l = l / 2 from if_pos h0] at this)
  have N2 := Lib.hid (fun W => inv_any l W)
  have HL : Hid (litW V l = if l % 2 = 1 then ~~~ V[(l / 2).toNat]! else V[(l / 2).toNat]!) := Lib.hid rfl
  generalize V[(l / 2).toNat]! = b at c0 HL
  have hx := notU b
  go_enter Try.func109, Try.ntmps109
  by_cases hi : l % 2 = 1
  · have hv : invL l = true := by unfold invL; rw [decide_eq_true h0, decide_eq_true hi]; rfl
    rw [hv] at N2
    rw [if_pos hi] at HL
    clear hv hi hl
    go_wp2_with (first | (go_at_call 18; refine (N2.out _).mono ?_; rintro ee w1 ⟨rfl, hb1⟩; have c1 := (hb1.cell (p := ⟨bb, oo + (l / 2).toNat, none⟩) hlt).trans c0; have hlt1 := World.block_lt_of_cell? w1 _ c1) | (go_at_call 17; refine (N1.out _).mono ?_; rintro ee w2 ⟨rfl, hb2⟩; have c2 := (hb2.cell (p := ⟨bb, oo + (l / 2).toNat, none⟩) hlt1).trans c1))
    go_ret
    exact ⟨by rw [HL.out, ← notU b]; rfl, hb1.trans (hb2.mono hb1.size)⟩
  · have hv : invL l = false := by unfold invL; rw [decide_eq_false hi, Bool.and_false]
    rw [hv] at N2
    rw [if_neg hi] at HL
    clear hv hi hl
    go_wp2_with (first | (go_at_call 18; refine (N2.out _).mono ?_; rintro ee w1 ⟨rfl, hb1⟩; have c1 := (hb1.cell (p := ⟨bb, oo + (l / 2).toNat, none⟩) hlt).trans c0; have hlt1 := World.block_lt_of_cell? w1 _ c1) | (go_at_call 17; refine (N1.out _).mono ?_; rintro ee w2 ⟨rfl, hb2⟩; have c2 := (hb2.cell (p := ⟨bb, oo + (l / 2).toNat, none⟩) hlt1).trans c1))
    go_ret
    exact ⟨by rw [HL.out]; rfl, hb1.trans (hb2.mono hb1.size)⟩
end Go.Proofs.Ytbphhcjepeamcaa
