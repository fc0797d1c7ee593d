/- Copies of a vector, joined: one copy. -/
import Derived.Test.YtdpmojkpfnkcdaaDoorCats
import Derived.Test.YtdpmojkpfnkcdaaDoorShelfMul
import Derived.Test.YtdpmojkpfnkcdaaDoorCopyK
import Derived.Laws.IdiomRangeMap
namespace Go.Proofs.YtdpmojkpfnkcdaaDoor
open Go Go.RowKit
set_option linter.unusedVariables false
set_option maxRecDepth 100000 in
set_option maxHeartbeats 1000000 in
theorem repeat_one (bl cap : Nat) (r : Rb) (w : World) (c0 : w.cell? ⟨bl, 0, none⟩ = some (.int .i64 r.W)) (c1 : w.cell? ⟨bl, 1, none⟩ = some (.int .u64 (U r.v))) (c2 : w.cell? ⟨bl, 2, none⟩ = some (.int .u64 (U r.x))) :
    Calls Tryd.prog 57 #[.slice (some ⟨bl, 0, none⟩) 1 cap, .int .i64 1] w fun e w' => e = .returned (.slice (some ⟨w.heap.size, 0, none⟩) 1 1) ∧ Vs (some ⟨w.heap.size, 0, none⟩) [r] w' ∧ Below w.heap.size w w' := by
  have hmk : ∀ w, (Instr.makeSlice 50 (.int .i64 1) (.int .i64 1)).run Tryd.prog w = .ok (.slice (some ⟨w.heap.size, 0, none⟩) 1 1) (w.alloc (.cells #[.int .i64 0, .int .u64 0, .int .u64 0] 24)) := fun _ => by kernel_rfl
  go_enter Tryd.func57, Tryd.ntmps57
  go_wp2_with fail
  refine (Tryd.bits_Mul 1 1 (by decide) (by decide) _).mono ?_
  rintro e w' ⟨rfl, rfl⟩
  have hz3 : (Tryd.prog.info? 24).map (fun i => i.size) = some 3 := by kernel_rfl
  go_wp2_with (refine wpList_copy_k (o := ⟨some 33, _, _, _, _, _⟩) rfl (Operand.tmp 31) (Operand.tmp 32) _ _ rfl 24 3 1 Tryd.underlying50 hz3 w'.heap.size 0 1 1 ⟨bl, 0, none⟩ 1 cap rfl rfl [.int .i64 0, .int .u64 0, .int .u64 0] 24 ?h1 [.int .i64 r.W, .int .u64 (U r.v), .int .u64 (U r.x)] rfl rfl ?h2 (Nat.le_refl 3) ?h3 ?_)
  case h1 => exact heap_alloc_new _ _
  case h2 =>
    intro j v hj
    have hb : Below w'.heap.size w' (w'.alloc (.cells #[.int .i64 0, .int .u64 0, .int .u64 0] 24)) := (Below.refl _ _).alloc (Nat.le_refl _) _
    rcases j with _ | _ | _ | j
    · obtain rfl := Option.some.inj hj; exact kcell0 hb c0
    · obtain rfl := Option.some.inj hj; exact kcell0 hb c1
    · obtain rfl := Option.some.inj hj; exact kcell0 hb c2
    · cases hj
  case h3 => simp [Value.oneCell']
  go_loop [8] (fun n => n = .int .i64 1) (fun _ => 0)
  case atStart => rfl
  case round =>
    subst hrel
    go_wp2_with fail
    go_ret
    refine ⟨rfl, ?_, below_setRow ((Below.refl _ _).alloc (Nat.le_refl _) _) (Nat.le_refl _) _⟩
    have hrow := fun j => cell_setRow_same (w'.alloc (.cells #[.int .i64 0, .int .u64 0, .int .u64 0] 24)) w'.heap.size j #[.int .i64 0, .int .u64 0, .int .u64 0] (splice [.int .i64 0, .int .u64 0, .int .u64 0] 0 [.int .i64 r.W, .int .u64 (U r.v), .int .u64 (U r.x)]).toArray 24 (0, 0) (heap_alloc_new _ _)
    refine ⟨by show 1 ≤ 17592186044416; omega, fun j hj => ?_⟩
    obtain rfl : j = 0 := by simpa using hj
    exact ⟨w'.heap.size, 0, rfl, (hrow 0).trans rfl, (hrow 1).trans rfl, (hrow 2).trans rfl⟩
theorem catV_one {r : Rb} (h : r.okB = true) : catV [r] = r := by
  obtain ⟨n, e, o⟩ := Rb.ok_of h
  have h2 := o.hi
  have hk : catOk [r] 1 = true := by
    show (true && r.okB && decide ((0 : Int) + r.W ≤ 64)) = true
    rw [h, e]; simp; omega
  have hc : catV [r] = catK [r] 1 := if_pos hk
  rw [hc]
  show (⟨0 + r.W, 0#64 <<< r.W.toNat ||| r.v, 0#64 <<< r.W.toNat ||| r.x⟩ : Rb) = r
  obtain ⟨W, v, x⟩ := r
  simp
theorem cat_one (p : Option Addr) (cap n : Nat) (a : Vx) (w : World) (ha : a.ok n) (hl : Vs p [⟨(n : Int), a.v, a.x⟩] w) :
    Calls Tryd.prog 28 #[.slice p 1 cap] w fun e w' => e = .returned (.agg #[.int .i64 n, .int .u64 (U a.v), .int .u64 (U a.x)]) ∧ Below w.heap.size w w' := by
  have h := cat_any p cap [⟨(n : Int), a.v, a.x⟩] w hl
  rw [catV_one (Rb.okB_of ha)] at h
  exact h
theorem repeat_vec (bl cap n : Nat) (a : Vx) (w : World) (c0 : w.cell? ⟨bl, 0, none⟩ = some (.int .i64 n)) (c1 : w.cell? ⟨bl, 1, none⟩ = some (.int .u64 (U a.v))) (c2 : w.cell? ⟨bl, 2, none⟩ = some (.int .u64 (U a.x))) :
    Calls Tryd.prog 57 #[.slice (some ⟨bl, 0, none⟩) 1 cap, .int .i64 1] w fun e w' => e = .returned (.slice (some ⟨w.heap.size, 0, none⟩) 1 1) ∧ Vs (some ⟨w.heap.size, 0, none⟩) [⟨(n : Int), a.v, a.x⟩] w' ∧ Below w.heap.size w w' :=
  repeat_one bl cap ⟨(n : Int), a.v, a.x⟩ w c0 c1 c2
set_option maxRecDepth 100000 in
set_option maxHeartbeats 1000000 in
theorem rep_one (n : Nat) (a : Vx) (w : World) (ha : a.ok n) :
    Calls Tryd.prog 29 #[.agg #[.int .i64 n, .int .u64 (U a.v), .int .u64 (U a.x)], .int .i64 1] w fun e w' => e = .returned (.agg #[.int .i64 n, .int .u64 (U a.v), .int .u64 (U a.x)]) ∧ Below w.heap.size w w' := by
  go_enter Tryd.func29, Tryd.ntmps29
  go_wp2_with fail
  (with_reducible refine (repeat_vec _ _ n a _ ?_ ?_ ?_).mono ?_)
  · go_simp
  · go_simp
  · go_simp
  rintro e w1 ⟨rfl, hv, hb1⟩
  have hv' : Vs (some ⟨w.heap.size + 1 + 1 + 1, 0, none⟩) [⟨(n : Int), a.v, a.x⟩] w1 := by simpa using hv
  have HV := Lib.hid hv'
  clear hv hv'
  obtain ⟨hc1, hf1⟩ := bcell hb1
  have z0 : w.heap.size + 1 < w1.heap.size := bsize hb1 (by simp <;> omega)
  go_wp2_with fail
  (with_reducible refine (cat_one _ _ n a _ ha HV.out).mono ?_)
  rintro e w2 ⟨rfl, hb2⟩
  obtain ⟨hc2, hf2⟩ := bcell hb2
  have z1 : w.heap.size + 1 < w2.heap.size := bsize hb2 (by omega)
  go_wp2_with fail
  exact bodyPost_ret (v := .agg #[.int .i64 n, .int .u64 (U a.v), .int .u64 (U a.x)]) (by simp [results, Tryd.results29, go_sem, hc2, z0, hc1] <;> first | rfl | exact ⟨rfl, rfl⟩ | exact ⟨rfl, rfl, rfl⟩) rfl ⟨rfl, by (repeat (first | exact Below.refl _ _ | exact Nat.le_refl _ | refine below_drewN ?_ _ | refine Below.drew ?_ | refine Below.alloc ?_ ?_ _ | refine Below.setCell ?_ ?_ _ | refine below_step (by assumption) ?_ ?_)) <;> (first | omega | (simp <;> omega))⟩
end Go.Proofs.YtdpmojkpfnkcdaaDoor
