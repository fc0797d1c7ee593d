/- A lane of words, the faults of a trace: the reference. -/
import Derived.Test.YtimojbjamfckmaaGrAp
import Derived.Test.YtimojbjamfckmaaGrHt
namespace Go.Proofs.Ytimojbjamfckmaa
open Go Go.RowKit Go.Sort
set_option linter.unusedVariables false
/-- the bit of a word -/
def colB (k : Nat) (n : Int) : Bool := decide (n / 2 ^ k % 2 = 1)
theorem bandu (n : Int) (k : Nat) (h0 : 0 ≤ n) (h1 : n < 18446744073709551616) : (bits BinOp.and IntKind.u64 (n / 2 ^ k) 1 == 1) = colB k n := by
  have hp : (0 : Int) < 2 ^ k := Int.pow_pos (by decide)
  have hm0 : 0 ≤ n / 2 ^ k := Int.ediv_nonneg h0 (by omega)
  have hm1 : n / 2 ^ k ≤ n := Int.ediv_le_self _ h0
  unfold colB
  generalize n / 2 ^ k = m at hm0 hm1
  have e : bits BinOp.and IntKind.u64 m 1 = m % 2 := by
    show IntKind.u64.wrap (((BitVec.ofInt 64 m &&& BitVec.ofInt 64 1).toNat : Nat) : Int) = _
    rw [BitVec.toNat_and, show (BitVec.ofInt 64 1).toNat = 1 from rfl, Nat.and_one_is_mod, BitVec.toNat_ofInt, IntKind.wrap_u64]
    omega
  rw [e]
  by_cases h : m % 2 = 1 <;> simp [h]
set_option maxRecDepth 100000 in
set_option maxHeartbeats 4000000 in
theorem column_any (l : List Int) (v : Value) (k : Nat) (hk : k < 64) (hn : l.length ≤ 4000000000) (hl : ∀ n ∈ l, 0 ≤ n ∧ n < 18446744073709551616) (w : World) (h : RowOf 1 (fun n : Int => [Value.int .u64 n]) l v w) : Calls Try.prog 28 #[v, .int .i64 (k : Int)] w fun e w' => ∃ vo, e = .returned vo ∧ Own w.heap.size 4 (fun b => Value.bool b) w' vo (l.map (colB k)) ∧ Below w.heap.size w w' := by
  obtain ⟨i0, hi0, hz0, hz1, hz2⟩ := infoB_parts
  obtain ⟨ad1, c1, rfl, k1, r1⟩ := h.open'
  clear h
  have hown0 : Own w.heap.size 4 (fun b => Value.bool b) w (.slice none 0 0) ([] : List Bool) := World.ownsRow_nil w w.heap.size 4 1
  have hk0 : (0 : Int) ≤ (k : Int) := by omega
  have hk1 : (k : Int) < 64 := by omega
  go_enter Try.func28, Try.ntmps28
  go_upto_block 0 with fail
  go_wp2_with fail
  go_loopw [5, 10] (fun u i wr => ∃ j : Nat, j ≤ l.length ∧ i = .int .i64 (j : Int) ∧ Hid (Own w.heap.size 4 (fun b => Value.bool b) wr u ((l.take j).map (colB k))) ∧ Hid (Below w.heap.size w wr)) (fun _ i _ => l.length - (intOf i).toNat)
  case atStart => exact ⟨0, Nat.zero_le _, rfl, Lib.hid hown0, Lib.hid (Below.refl _ _)⟩
  case round =>
    clear hown0
    obtain ⟨j, hj, rfl, hO, hB⟩ := hrel
    rename World => WR
    have hj0 : (0 : Int) ≤ (j : Int) := by omega
    by_cases hlt : j < l.length
    · have hji : (j : Int) < (l.length : Int) := by omega
      have HT := Lib.hid (show (l.take (j + 1)).map (colB k) = (l.take j).map (colB k) ++ [colB k l[j]!] by rw [tk1 l hlt, List.map_append]; rfl)
      have hML : ((l.take j).map (colB k)).length ≤ 4000000000 := by simp; omega
      obtain ⟨hx0, hx1⟩ := hl l[j]! (by rw [getElem!_pos l j hlt]; exact List.getElem_mem hlt)
      obtain ⟨bb, oo, rfl, hcell⟩ := (r1.below hB.out).pick (by omega)
      have c0 := hcell j hlt 0 _ rfl
      simp only [Nat.mul_one, Nat.add_zero] at c0
      clear hcell
      generalize l[j]! = n at c0 HT hx0 hx1
      generalize (l.take j).map (colB k) = L at hO HT hML
      obtain ⟨ad, cpv, hv⟩ := hO.out.slice
      subst hv
      have HE := Lib.hid (bandu n k hx0 hx1)
      clear hx0 hx1
      have O4 := hO.out.below ((Below.refl _ WR).alloc (Nat.le_refl _) (.cells #[.bool (bits BinOp.and IntKind.u64 (n / 2 ^ k) 1 == 1)] 4))
      have h4 := hB.out.size
      go_wp2_with (at_builtin; refine wpList_append_row (f := fun b : Bool => Value.bool b) (fun _ => rfl) rfl _ _ 42 rfl w.heap.size 4 i0 (.bool false) 1 Try.underlying42 hi0 hz0 hz1 hz2 (by decide) _ L rfl O4 (some ⟨WR.heap.size, 0, none⟩) [bits BinOp.and IntKind.u64 (n / 2 ^ k) 1 == 1] 1 rfl (fun h => by cases h) (Nat.le_refl _) (one_row (fun b : Bool => Value.bool b) _ WR 4) (show L.length + 1 ≤ maxLen by unfold maxLen; omega) (show (L.length + 1) * 1 ≤ 140737488355328 by omega) (by first | omega | (simp; omega)) ?_)
      intro v5 w5 hO5 hb5
      have HB5 := Lib.hid (hB.out.trans (((Below.refl _ WR).alloc h4 _).trans hb5))
      have HO5 := Lib.hid hO5
      rw [HE.out, ← HT.out] at HO5
      clear hO5 hb5 O4 hO hB
      go_wp2_with fail
      go_roundw
      case rel => exact ⟨j + 1, by omega, by go_num, HO5, HB5⟩
      all_goals first | done | (simp [intOf]; done) | (simp [intOf]; omega)
    · have hji : ¬ (j : Int) < (l.length : Int) := by omega
      have HO := Lib.hid (show Own w.heap.size 4 (fun b => Value.bool b) WR _ (l.map (colB k)) by have := hO.out; rwa [List.take_of_length_le (by omega)] at this)
      go_wp2_with fail
      go_ret
      exact ⟨_, rfl, HO.out, hB.out⟩
end Go.Proofs.Ytimojbjamfckmaa
