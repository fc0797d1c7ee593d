/- Rows that make makes, and a new row of one element, as a fact. No condition. -/
import Derived.Test.YtcpifmhcebfglaaGpG
import Derived.Laws.MakeOwn
namespace Go.Proofs.Ytcpifmhcebfglaa
open Go Go.RowKit Go.Sort
set_option linter.unusedVariables false
/-- a new row of one element with these cells -/
def FK (cs : List Value) : Fa := fun v w => ∃ b, v = .slice (some ⟨b, 0, none⟩) 1 1 ∧ ∀ (q : Nat) (u : Value), cs[q]? = some u → w.cell? ⟨b, q, none⟩ = some u
theorem fk_sta (cs : List Value) : Sta (FK cs) := fun v w w' ⟨b, h1, h2⟩ hb => ⟨b, h1, fun q u hq => (hb.cell (p := ⟨b, q, none⟩) (World.block_lt_of_cell? w _ (h2 q u hq))).trans (h2 q u hq)⟩
theorem run_mk {W : World} {t e : TypeId} {i : TypeInfo} {z : Value} (ht : Try.prog.underlying t = some (.slice e)) (hi : Try.prog.info? e = some i) (hz : i.zero = some z) (hs : i.size = 1) (hzc : z.cells = #[z]) (l c : Nat) (hlc : l ≤ c) (hb : i.bytes * c ≤ 281474976710656) (hc : c ≤ 9223372036854775807) :
    (Instr.makeSlice t (.int .i64 (l : Int)) (.int .i64 (c : Int))).run Try.prog W = .ok (.slice (some ⟨W.heap.size, 0, none⟩) l c) (W.alloc (.cells (madeCells #[z] c) e)) := by
  have hb' : (i.bytes : Int) * (c : Int) ≤ 281474976710656 := by
    have h : ((i.bytes * c : Nat) : Int) ≤ 281474976710656 := by omega
    rwa [Int.natCast_mul] at h
  have h := run_make (P := Try.prog) W t e i z ht hi hz .i64 .i64 (l : Int) (c : Int) (by omega) (by omega) hb' (by omega)
  rw [hs, hzc] at h
  simpa using h
theorem own_made {α : Type} {f : α → Value} (W : World) (B : Nat) (hB : B ≤ W.heap.size) (t : TypeId) (x : α) (l c : Nat) (hlc : l ≤ c) (hc : c ≤ maxLen) : OwnK B t 1 (fun y => [f y]) (W.alloc (.cells (madeCells #[f x] c) t)) (.slice (some ⟨W.heap.size, 0, none⟩) l c) (List.replicate l x) := by
  unfold OwnK
  rw [flat_one, List.length_replicate, made_one]
  refine ⟨by simp, .inr ⟨W.heap.size, c, Array.replicate c (f x), rfl, hB, ?_, hlc, hc, by simp, ?_⟩⟩
  · show (W.heap.push _)[W.heap.size]? = _; simp
  · rw [Array.toList_replicate, List.map_replicate, List.take_replicate]
    congr 1
    omega
theorem infoMJ : (Try.prog.info? 3).map (fun i => (i.zero, i.size, i.bytes)) = some (some (.int .i64 0), 1, 8) := by kernel_rfl
theorem infoMJ_parts : ∃ i, Try.prog.info? 3 = some i ∧ i.zero = some (.int .i64 0) ∧ i.size = 1 ∧ i.bytes = 8 := by
  have h := infoMJ
  cases hi : Try.prog.info? 3 with
  | none => rw [hi] at h; cases h
  | some i =>
    rw [hi] at h
    simp only [Option.map_some, Option.some.injEq, Prod.mk.injEq] at h
    exact ⟨i, rfl, h.1, h.2.1, h.2.2⟩
theorem mkJ (W : World) (l c : Nat) (hlc : l ≤ c) (hc : c ≤ 8000000000) : (Instr.makeSlice 22 (.int .i64 (l : Int)) (.int .i64 (c : Int))).run Try.prog W = .ok (.slice (some ⟨W.heap.size, 0, none⟩) l c) (W.alloc (.cells (madeCells #[.int .i64 0] c) 3)) := by
  obtain ⟨i, hi, hz, hs, hb⟩ := infoMJ_parts
  exact run_mk Try.underlying22 hi hz hs (by kernel_rfl) l c hlc (by rw [hb]; omega) (by omega)
theorem infoMB : (Try.prog.info? 4).map (fun i => (i.zero, i.size, i.bytes)) = some (some (.bool false), 1, 1) := by kernel_rfl
theorem infoMB_parts : ∃ i, Try.prog.info? 4 = some i ∧ i.zero = some (.bool false) ∧ i.size = 1 ∧ i.bytes = 1 := by
  have h := infoMB
  cases hi : Try.prog.info? 4 with
  | none => rw [hi] at h; cases h
  | some i =>
    rw [hi] at h
    simp only [Option.map_some, Option.some.injEq, Prod.mk.injEq] at h
    exact ⟨i, rfl, h.1, h.2.1, h.2.2⟩
theorem mkB (W : World) (l c : Nat) (hlc : l ≤ c) (hc : c ≤ 8000000000) : (Instr.makeSlice 40 (.int .i64 (l : Int)) (.int .i64 (c : Int))).run Try.prog W = .ok (.slice (some ⟨W.heap.size, 0, none⟩) l c) (W.alloc (.cells (madeCells #[.bool false] c) 4)) := by
  obtain ⟨i, hi, hz, hs, hb⟩ := infoMB_parts
  exact run_mk Try.underlying40 hi hz hs (by kernel_rfl) l c hlc (by rw [hb]; omega) (by omega)
theorem infoMU : (Try.prog.info? 51).map (fun i => (i.zero, i.size, i.bytes)) = some (some (.int .u64 0), 1, 8) := by kernel_rfl
theorem infoMU_parts : ∃ i, Try.prog.info? 51 = some i ∧ i.zero = some (.int .u64 0) ∧ i.size = 1 ∧ i.bytes = 8 := by
  have h := infoMU
  cases hi : Try.prog.info? 51 with
  | none => rw [hi] at h; cases h
  | some i =>
    rw [hi] at h
    simp only [Option.map_some, Option.some.injEq, Prod.mk.injEq] at h
    exact ⟨i, rfl, h.1, h.2.1, h.2.2⟩
theorem mkU (W : World) (l c : Nat) (hlc : l ≤ c) (hc : c ≤ 8000000000) : (Instr.makeSlice 46 (.int .i64 (l : Int)) (.int .i64 (c : Int))).run Try.prog W = .ok (.slice (some ⟨W.heap.size, 0, none⟩) l c) (W.alloc (.cells (madeCells #[.int .u64 0] c) 51)) := by
  obtain ⟨i, hi, hz, hs, hb⟩ := infoMU_parts
  exact run_mk Try.underlying46 hi hz hs (by kernel_rfl) l c hlc (by rw [hb]; omega) (by omega)
theorem infoMSb : (Try.prog.info? 40).map (fun i => (i.zero, i.size, i.bytes)) = some (some (.slice none 0 0), 1, 24) := by kernel_rfl
theorem infoMSb_parts : ∃ i, Try.prog.info? 40 = some i ∧ i.zero = some (.slice none 0 0) ∧ i.size = 1 ∧ i.bytes = 24 := by
  have h := infoMSb
  cases hi : Try.prog.info? 40 with
  | none => rw [hi] at h; cases h
  | some i =>
    rw [hi] at h
    simp only [Option.map_some, Option.some.injEq, Prod.mk.injEq] at h
    exact ⟨i, rfl, h.1, h.2.1, h.2.2⟩
theorem mkSb (W : World) (l c : Nat) (hlc : l ≤ c) (hc : c ≤ 8000000000) : (Instr.makeSlice 33 (.int .i64 (l : Int)) (.int .i64 (c : Int))).run Try.prog W = .ok (.slice (some ⟨W.heap.size, 0, none⟩) l c) (W.alloc (.cells (madeCells #[.slice none 0 0] c) 40)) := by
  obtain ⟨i, hi, hz, hs, hb⟩ := infoMSb_parts
  exact run_mk Try.underlying33 hi hz hs (by kernel_rfl) l c hlc (by rw [hb]; omega) (by omega)
end Go.Proofs.Ytcpifmhcebfglaa
