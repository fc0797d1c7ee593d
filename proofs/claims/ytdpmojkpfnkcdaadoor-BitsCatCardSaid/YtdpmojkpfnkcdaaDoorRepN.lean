/- slices.Repeat of one vector: any number of copies up to 64. -/
import Derived.Test.YtdpmojkpfnkcdaaDoorRep
import Derived.Deep.RegionLaw
import Derived.LoopTactic
import Derived.Laws.MakeOwn
import Derived.Lib.Builder
namespace Go.Proofs.YtdpmojkpfnkcdaaDoor
open Go Go.RowKit Go.Sort
set_option linter.unusedVariables false
/-- copy over elements of several cells, as one step of a region that draws its order -/
theorem step_copy_k {P : Program} {ops : Array Oper} {o : Oper} {a : Act} {w : World} {K : Act → World → Prop} {Q : Exit → Act → World → Prop} {E : Prop} (hgd : o.guard = none) (d s : Operand) (dT sT : TypeId)
    (ho : o.op = .call { callee := .builtin .copy, args := #[d, s], argTypes := #[dT, sT] }) (elem : TypeId) (sz n : Nat) (hu : P.underlying dT = some (.slice elem)) (hsz : (P.info? elem).map (·.size) = some sz)
    (g off dLen dCap : Nat) (ad : Addr) (sLen sCap : Nat) (hd : a.eval d = .slice (some ⟨g, off, none⟩) dLen dCap) (hs : a.eval s = .slice (some ad) sLen sCap)
    (cur : List Value) (t : TypeId) (hg : w.heap[g]? = some (.cells cur.toArray t (0, 0))) (cs : List Value) (hn : n = Nat.min sLen dLen) (hc : cs.length = n * sz)
    (hsrc : ∀ j v, cs[j]? = some v → w.cell? (ad.add j) = some v) (hfit : off + cs.length ≤ cur.length) (h1 : ∀ v ∈ cs, v.oneCell' = true) (B : Nat) (w0 : World) (hb : Below B w0 w) (hBg : B ≤ g)
    (h : ∀ w', Hid (w'.heap[g]? = some (.cells (splice cur off cs).toArray t (0, 0))) → Below B w0 w' → K (a.put o.dst (goInt n)) w') :
    if Region.wanted o (yielded ops a.tmps) = true then Oper.wp P o a w K Q else E := by
  have hw : Region.wanted o (yielded ops a.tmps) = true := by simp [Region.wanted, hgd]
  rw [if_pos hw]
  have hrun := run_copy_k (P := P) w dT sT o.type elem g off dLen dCap ad sLen sCap sz n cur.toArray t cs hu hsz hg hn hc hsrc (by simpa using hfit) h1
  unfold Oper.wp
  simp [execOp, ho, resolve, invoke, builtin, hd, hs, hrun, Result.andThen]
  exact h _ (show _ = _ by simpa [splice] using setRow_heap w g _ _ t _ hg) (below_setRow hb hBg _)
/-- the cells of a vector -/
def cel (r : Rb) : Nat → Value
  | 0 => .int .i64 r.W
  | 1 => .int .u64 (U r.v)
  | _ => .int .u64 (U r.x)
theorem cel_one (r : Rb) (k : Nat) : (cel r k).oneCell' = true := by
  unfold cel; split <;> rfl
/-- a row of n elements of which m are laid -/
def Rw (r : Rb) (n m : Nat) (cur : List Value) : Prop := cur.length = n * 3 ∧ ∀ j, j < m * 3 → cur[j]? = some (cel r (j % 3))
theorem rw_first (r : Rb) (n : Nat) (cur : List Value) (h : cur.length = n * 3) (h1 : 1 ≤ n) : Rw r n 1 (splice cur 0 [cel r 0, cel r 1, cel r 2]) := by
  refine ⟨by rw [length_splice _ _ _ (by simp; omega), h], fun j hj => ?_⟩
  unfold splice
  rcases j with _ | _ | _ | j
  · rfl
  · rfl
  · rfl
  · omega
theorem rw_more {r : Rb} {n m : Nat} {cur : List Value} (h : Rw r n m cur) (hm : m ≤ n) : Rw r n (m + min m (n - m)) (splice cur (m * 3) (cur.take (min m (n - m) * 3))) := by
  obtain ⟨hl, hj⟩ := h
  have hc : min m (n - m) * 3 ≤ m * 3 := Nat.mul_le_mul_right 3 (Nat.min_le_left _ _)
  have hc2 : m + min m (n - m) ≤ n := by omega
  generalize min m (n - m) = c at hc hc2 ⊢
  have hlen : (cur.take (c * 3)).length = c * 3 := by rw [List.length_take, hl]; omega
  refine ⟨by rw [length_splice _ _ _ (by rw [hlen, hl]; omega), hl], fun j hj2 => ?_⟩
  unfold splice
  have ht : (cur.take (m * 3)).length = m * 3 := by rw [List.length_take, hl]; omega
  by_cases c1 : j < m * 3
  · rw [List.getElem?_append_left (by rw [ht]; exact c1), List.getElem?_take_of_lt c1]
    exact hj j c1
  · rw [List.getElem?_append_right (by rw [ht]; omega), ht, List.getElem?_append_left (by rw [hlen]; omega), List.getElem?_take_of_lt (by omega), hj _ (by omega)]
    congr 2; omega
theorem rw_one {r : Rb} {n m c : Nat} {cur : List Value} (h : Rw r n m cur) (hc : c ≤ m) : ∀ v ∈ cur.take (c * 3), v.oneCell' = true := by
  intro v hv
  obtain ⟨j, hj, rfl⟩ := List.mem_iff_getElem.1 hv
  rw [List.length_take] at hj
  rw [List.getElem_take]
  have := h.2 j (by omega)
  rw [List.getElem?_eq_getElem (by omega)] at this
  rw [Option.some.inj this]; exact cel_one _ _
/-- a whole row -/
theorem rw_vs {r : Rb} {n g : Nat} {t : TypeId} {cur : List Value} {w : World} (h : Rw r n n cur) (hn : n ≤ 17592186044416) (hg : w.heap[g]? = some (.cells cur.toArray t (0, 0))) : Vs (some ⟨g, 0, none⟩) (List.replicate n r) w := by
  refine ⟨by simpa using hn, fun j hj => ?_⟩
  rw [List.length_replicate] at hj
  have e : (List.replicate n r).getD j ⟨0, 0#64, 0#64⟩ = r := by
    rw [List.getD_eq_getElem?_getD, List.getElem?_replicate, if_pos hj]; rfl
  rw [e]
  have q : ∀ i, i < 3 → w.cell? ⟨g, 0 + j * 3 + i, none⟩ = some (cel r i) := by
    intro i hi
    rw [Lib.cell_of_heap hg, List.getElem?_toArray, h.2 _ (by omega)]
    congr 2; omega
  exact ⟨g, 0, rfl, q 0 (by omega), q 1 (by omega), q 2 (by omega)⟩
theorem rw_src {g k : Nat} {t : TypeId} {cur : List Value} {w : World} (hg : w.heap[g]? = some (.cells cur.toArray t (0, 0))) : ∀ j v, (cur.take k)[j]? = some v → w.cell? ((⟨g, 0, none⟩ : Addr).add j) = some v := by
  intro j v hj
  have h1 : cur[j]? = some v := by
    rw [List.getElem?_take] at hj
    split at hj
    · exact hj
    · cases hj
  have h2 : w.cell? ⟨g, j, none⟩ = some v := by rw [Lib.cell_of_heap hg, List.getElem?_toArray, h1]
  by_cases hq0 : j = 0
  · subst hq0; simpa [Addr.add] using h2
  · simpa [Addr.add, hq0] using h2
structure RepR (g n m : Nat) (r : Rb) (w0 W : World) : Prop where
  hp : ∃ cur : List Value, W.heap[g]? = some (.cells cur.toArray 24 (0, 0)) ∧ Rw r n m cur
  lo : Below w0.heap.size w0 W
set_option maxRecDepth 100000 in
set_option maxHeartbeats 2000000 in
theorem repeat_n (bl cap n : Nat) (r : Rb) (w : World) (n1 : 1 ≤ n) (n2 : n ≤ 64) (c0 : w.cell? ⟨bl, 0, none⟩ = some (.int .i64 r.W)) (c1 : w.cell? ⟨bl, 1, none⟩ = some (.int .u64 (U r.v))) (c2 : w.cell? ⟨bl, 2, none⟩ = some (.int .u64 (U r.x))) :
    Calls Tryd.prog 57 #[.slice (some ⟨bl, 0, none⟩) 1 cap, .int .i64 n] w fun e w' => e = .returned (.slice (some ⟨w.heap.size, 0, none⟩) n n) ∧ Vs (some ⟨w.heap.size, 0, none⟩) (List.replicate n r) w' ∧ Below w.heap.size w w' := by
  have hz3 : (Tryd.prog.info? 24).map (fun i => i.size) = some 3 := by kernel_rfl
  obtain ⟨i0, hi0, hz0, hsz0, hby0⟩ : ∃ i0 : TypeInfo, Tryd.prog.info? 24 = some i0 ∧ i0.zero = some (.agg #[.int .i64 0, .int .u64 0, .int .u64 0]) ∧ i0.size = 3 ∧ i0.bytes = 24 := by
    have hinf : (Tryd.prog.info? 24).map (fun i => (i.zero, i.size, i.bytes)) = some (some (.agg #[.int .i64 0, .int .u64 0, .int .u64 0]), 3, 24) := by kernel_rfl
    cases hq : Tryd.prog.info? 24 with
    | none => rw [hq] at hinf; cases hinf
    | some i0 =>
      rw [hq] at hinf
      have h1 := Option.some.inj hinf
      have h2 := (Prod.mk.inj h1).2
      exact ⟨i0, rfl, (Prod.mk.inj h1).1, (Prod.mk.inj h2).1, (Prod.mk.inj h2).2⟩
  have hmk : ∀ w, (Instr.makeSlice 50 (.int .i64 (n : Int)) (.int .i64 (n : Int))).run Tryd.prog w = .ok (.slice (some ⟨w.heap.size, 0, none⟩) n n) (w.alloc (.cells (madeCells #[.int .i64 0, .int .u64 0, .int .u64 0] (n * 3)) 24)) := by
    intro w
    have := run_makeSlice (P := Tryd.prog) w 50 24 i0 _ Tryd.underlying50 hi0 hz0 .i64 .i64 (n : Int) (n : Int) (by omega) (by omega) (by rw [hsz0]; omega) (by rw [hby0]; omega) (by omega)
    rw [hsz0, show (Value.agg #[.int .i64 0, .int .u64 0, .int .u64 0]).cells = #[.int .i64 0, .int .u64 0, .int .u64 0] from by kernel_rfl] at this; simpa using this
  clear hi0 hz0 hsz0 hby0 i0
  have hmul : Hid (∀ w, Calls Tryd.prog 72 #[.int .u64 1, .int .u64 n] w fun e w' => e = .returned (.tuple #[.int .u64 0, .int .u64 n]) ∧ w' = w) := by
    refine Lib.hid fun w => ?_
    have := Tryd.bits_Mul 1 n (by decide) (by omega) w
    rw [show 1 * n / 18446744073709551616 = 0 from by omega, show 1 * n % 18446744073709551616 = n from by omega] at this
    exact this
  go_enter Tryd.func57, Tryd.ntmps57
  go_wp2_with fail
  refine (hmul.out _).mono ?_
  rintro e w' ⟨rfl, rfl⟩
  have HM := Lib.hid hmk
  go_wp2_with (refine wpList_copy_k (o := ⟨some 33, _, _, _, _, _⟩) rfl (Operand.tmp 31) (Operand.tmp 32) _ _ rfl 24 3 1 Tryd.underlying50 hz3 w'.heap.size 0 n n ⟨bl, 0, none⟩ 1 cap rfl rfl (madeCells #[.int .i64 0, .int .u64 0, .int .u64 0] (n * 3)).toList 24 ?h1 [cel r 0, cel r 1, cel r 2] (by show 1 = min 1 n; omega) rfl ?h2 ?h4 ?h3 ?_)
  case h1 => rw [Array.toArray_toList]; exact heap_alloc_new _ _
  case h2 =>
    intro j v hj
    have hb : Below w'.heap.size w' (w'.alloc (.cells (madeCells #[.int .i64 0, .int .u64 0, .int .u64 0] (n * 3)) 24)) := (Below.refl _ _).alloc (Nat.le_refl _) _
    rcases j with _ | _ | _ | j
    · obtain rfl := Option.some.inj hj; exact kcell0 hb c0
    · obtain rfl := Option.some.inj hj; exact kcell0 hb c1
    · obtain rfl := Option.some.inj hj; exact kcell0 hb c2
    · cases hj
  case h4 =>
    have e : (madeCells #[.int .i64 0, .int .u64 0, .int .u64 0] (n * 3)).toList.length = n * 3 := by rw [Array.length_toList, size_madeCells]
    rw [e]; show 0 + 3 ≤ n * 3; omega
  case h3 => intro v hv; simp only [List.mem_cons, List.not_mem_nil, or_false] at hv; rcases hv with rfl | rfl | rfl <;> exact cel_one _ _
  have R : RepR w'.heap.size n 1 r w' ((w'.alloc (.cells (madeCells #[.int .i64 0, .int .u64 0, .int .u64 0] (n * 3)) 24)).setRow w'.heap.size (splice (madeCells #[.int .i64 0, .int .u64 0, .int .u64 0] (n * 3)).toList 0 [cel r 0, cel r 1, cel r 2]).toArray) :=
    ⟨⟨_, setRow_heap _ _ _ _ _ _ (heap_alloc_new _ _), rw_first r n _ (by rw [Array.length_toList, size_madeCells]) n1⟩, below_setRow ((Below.refl _ _).alloc (Nat.le_refl _) _) (Nat.le_refl _) _⟩
  generalize ((w'.alloc (.cells (madeCells #[.int .i64 0, .int .u64 0, .int .u64 0] (n * 3)) 24)).setRow w'.heap.size (splice (madeCells #[.int .i64 0, .int .u64 0, .int .u64 0] (n * 3)).toList 0 [cel r 0, cel r 1, cel r 2]).toArray) = W at R ⊢
  generalize hg : w'.heap.size = g at R ⊢
  have HG := Lib.hid hg
  clear hmk HM hmul c0 c1 c2 hg
  go_loopw [8] (fun i wr => ∃ m : Nat, 1 ≤ m ∧ m ≤ n ∧ i = .int .i64 m ∧ RepR g n m r w' wr) (fun i _ => n - (intOf i).toNat)
  case atStart => exact ⟨1, Nat.le_refl _, n1, rfl, R⟩
  case round =>
    obtain ⟨m, m1, hmn, rfl, hR⟩ := hrel
    by_cases hlt : m < n
    · go_wp2_with fail
      obtain ⟨⟨cur, hcu, hrw⟩, hlo⟩ := hR
      have hm := rw_more hrw hmn
      obtain ⟨c, hc⟩ : ∃ c, min m (n - m) = c := ⟨_, rfl⟩
      have c1 : 1 ≤ c := by omega
      have c2 : m + c ≤ n := by omega
      have c3 : c ≤ m := by omega
      rw [hc] at hm
      have HC := Lib.hid hc
      have HRM := Lib.hid hm
      clear hc hm
      have HCU := Lib.hid hcu
      have HRW := Lib.hid hrw
      have HLO := Lib.hid hlo
      clear hcu hrw hlo
      go_region_law (refine step_copy_k rfl (Operand.tmp 41) (Operand.tmp 44) _ _ rfl 24 3 c Tryd.underlying50 hz3 g (m * 3) (n - m) (n - m) ⟨g, 0, none⟩ m n (by simp [Act.eval, Act.put]; omega) (by simp [Act.eval, Act.put]) cur 24 HCU.out (cur.take (c * 3)) HC.out.symm (by rw [List.length_take, HRW.out.1]; omega) (rw_src HCU.out) (by rw [List.length_take, HRW.out.1]; omega) (rw_one HRW.out c3) g w' (Below.drew (HG.out ▸ HLO.out)) (Nat.le_refl _) ?_; intro w4 hg4 hb4)
      go_wp2_with fail
      go_roundw
      case rel => exact ⟨m + c, by omega, c2, (by rw [IntKind.wrap_i64]; omega), ⟨⟨_, hg4.out, HRM.out⟩, by rw [HG.out]; exact hb4⟩⟩
      case measure =>
        have e : IntKind.i64.wrap ((m : Int) + (c : Int)) = ((m + c : Nat) : Int) := by rw [IntKind.wrap_i64]; omega
        simp only [intOf, e, Int.toNat_natCast]; omega
    · obtain rfl : m = n := by omega
      go_wp2_with fail
      obtain ⟨⟨cur, hcu, hrw⟩, hlo⟩ := hR
      go_ret
      exact ⟨by rw [HG.out]; rfl, by rw [HG.out]; exact rw_vs hrw (by omega) hcu, hlo⟩
end Go.Proofs.YtdpmojkpfnkcdaaDoor
