/- The program's rows of words and of signs. -/
import Derived.Test.YtogmipbdnffegaaGreatDoorLnEq
import Derived.Test.YtogmipbdnffegaaGreatDoorMgTok
import Derived.Deep.MidRow
import Derived.Deep.WholeRow
import Derived.Deep.CutBlock
import Derived.Deep.DeepCutAuto
namespace Go.Proofs.YtogmipbdnffegaaGreatDoor
open Go Go.RowKit
set_option linter.unusedVariables false
set_option maxRecDepth 100000 in
set_option maxHeartbeats 3000000 in
theorem words_any (w : World) (hG : LG w) : Calls Tryz.prog 8 #[] w fun e w' => ∃ g cap, e = .returned (.slice (some ⟨g, 0, none⟩) 54 cap) ∧ 54 ≤ cap ∧ TxtRow w' g 54 wordB ∧ Below w.heap.size w w' := by
  have hld : w.rangeAt 0 0 ((List.range 54).map fun i => Value.string (wordB i)) := by
    intro j v hj
    rw [Nat.zero_add]
    obtain ⟨hj1, hj2⟩ := List.getElem?_eq_some_iff.1 hj
    have hj3 : j < 54 := by simpa using hj1
    rw [hG.wd j hj3]
    simp at hj2
    rw [← hj2]
  have hln : ((List.range 54).map fun i => Value.string (wordB i)).length = 54 := by simp
  have hat : ∀ i, i < 54 → ((List.range 54).map fun i => Value.string (wordB i)).toArray[i]? = some (.string (wordB i)) := fun i hi => by simp [hi]
  have hone : ((List.range 54).map fun i => Value.string (wordB i)).toArray.all (·.oneCell') = true := by simp [Value.oneCell']
  generalize ((List.range 54).map fun i => Value.string (wordB i)) = A at *
  obtain ⟨hzv, hzi⟩ := zero_of_info (show (Tryz.prog.info? 46).map (fun i => (i.zero, i.size)) = some (some (.agg (Array.replicate 54 (Value.string ⟨#[]⟩))), 54) from by kernel_rfl)
  have hst := run_storeCells_new (P := Tryz.prog) w 46 (Array.replicate 54 (Value.string ⟨#[]⟩)) A.toArray (by rw [hzi]; simp [hln]) (by simp [hln]) hone
  have HAT := Lib.hid hat
  clear hat hone
  go_enter Tryz.func8, Tryz.ntmps8
  go_upto_region 1 with fail
  refine wp_region_lit (wpList_load_mid rfl 46 _ rfl 0 0 rfl A (.array 54 9) hld (by kernel_rfl) rfl (by rw [hln]; kernel_rfl) ?_)
  clear hld hzi
  have HLN := Lib.hid hln
  clear hln
  go_wp2_with fail
  go_ret
  exact ⟨w.heap.size, 54, rfl, Nat.le_refl _, fun i hi => by rw [World.cell?_alloc_new]; exact HAT.out i hi, (Below.refl _ _).alloc (Nat.le_refl _) _⟩
set_option maxRecDepth 100000 in
set_option maxHeartbeats 3000000 in
theorem signs_any (w : World) (hG : LG w) : Calls Tryz.prog 10 #[] w fun e w' => ∃ g cap, e = .returned (.slice (some ⟨g, 0, none⟩) 39 cap) ∧ 39 ≤ cap ∧ TxtRow w' g 39 signB ∧ Below w.heap.size w w' := by
  have hld : w.rangeAt 1 0 ((List.range 39).map fun i => Value.string (signB i)) := by
    intro j v hj
    rw [Nat.zero_add]
    obtain ⟨hj1, hj2⟩ := List.getElem?_eq_some_iff.1 hj
    have hj3 : j < 39 := by simpa using hj1
    rw [hG.sg j hj3]
    simp at hj2
    rw [← hj2]
  have hln : ((List.range 39).map fun i => Value.string (signB i)).length = 39 := by simp
  have hat : ∀ i, i < 39 → ((List.range 39).map fun i => Value.string (signB i)).toArray[i]? = some (.string (signB i)) := fun i hi => by simp [hi]
  have hone : ((List.range 39).map fun i => Value.string (signB i)).toArray.all (·.oneCell') = true := by simp [Value.oneCell']
  generalize ((List.range 39).map fun i => Value.string (signB i)) = A at *
  obtain ⟨hzv, hzi⟩ := zero_of_info (show (Tryz.prog.info? 48).map (fun i => (i.zero, i.size)) = some (some (.agg (Array.replicate 39 (Value.string ⟨#[]⟩))), 39) from by kernel_rfl)
  have hst := run_storeCells_new (P := Tryz.prog) w 48 (Array.replicate 39 (Value.string ⟨#[]⟩)) A.toArray (by rw [hzi]; simp [hln]) (by simp [hln]) hone
  have HAT := Lib.hid hat
  clear hat hone
  go_enter Tryz.func10, Tryz.ntmps10
  go_upto_region 1 with fail
  refine wp_region_lit (wpList_load_mid rfl 48 _ rfl 1 0 rfl A (.array 39 9) hld (by kernel_rfl) rfl (by rw [hln]; kernel_rfl) ?_)
  clear hld hzi
  have HLN := Lib.hid hln
  clear hln
  go_wp2_with fail
  go_ret
  exact ⟨w.heap.size, 39, rfl, Nat.le_refl _, fun i hi => by rw [World.cell?_alloc_new]; exact HAT.out i hi, (Below.refl _ _).alloc (Nat.le_refl _) _⟩
end Go.Proofs.YtogmipbdnffegaaGreatDoor
