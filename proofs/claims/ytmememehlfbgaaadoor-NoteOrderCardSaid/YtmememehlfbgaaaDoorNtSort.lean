/- note.Sort. Conditions: the cells of the row. -/
import Derived.Test.YtmememehlfbgaaaDoorNtComp
import Derived.Test.YtmememehlfbgaaaDoorShelfSort
namespace Go.Proofs.YtmememehlfbgaaaDoor
open Go Go.RowKit Go.Sort Go.Lib
set_option linter.unusedVariables false
theorem below_mapBlock {B blk : Nat} (hB : B ≤ blk) (w : World) (f : Array Value → Array Value) : RowKit.Below B w (mapBlock w blk f) :=
  ⟨rfl, rfl, rfl, by simp [mapBlock], fun k hk => by
    have hne : blk ≠ k := by omega
    simp [mapBlock, Array.getElem?_modify, hne]⟩
theorem below_sortK {B blk : Nat} (hB : B ≤ blk) (w : World) (off n : Nat) (d : Array Nt) (os : Array Obj) (hs : B ≤ w.heap.size) : RowKit.Below B w (sortWorldK encN 5 w blk off n d os) := by
  have h0 : RowKit.Below B w (Sort.ahead w n) := ⟨rfl, rfl, rfl, Nat.le_refl _, fun _ _ => rfl⟩
  have h1 : RowKit.Below B w (putRowK encN 5 (Sort.ahead w n) blk off d) := h0.trans (below_mapBlock hB _ _)
  show RowKit.Below B w (Sort.grow (putRowK encN 5 (Sort.ahead w n) blk off d) os)
  refine h1.trans ⟨rfl, rfl, rfl, by simp [grow], fun k hk => ?_⟩
  have hk2 : k < (putRowK encN 5 (Sort.ahead w n) blk off d).heap.size := Nat.lt_of_lt_of_le (Nat.lt_of_lt_of_le hk hs) h1.size
  simp only [grow, Array.getElem?_append_left hk2]
/-- the list in order -/
def sortL (L : List Nt) : List Nt := L.mergeSort fun x y => !(ltN y x)
set_option maxHeartbeats 1000000 in
theorem sortf_ok (blk cap B : Nat) (d : Array Nt) (w : World) (hR : RN w blk 0 d) (hblk : blk < w.heap.size) (hB : B ≤ blk) (hsz : d.size ≤ 1000000000000) :
    Calls Tryd.prog 43 #[.slice (some ⟨blk, 0, none⟩) d.size cap, .func (.func 13) #[] #[]] w fun e w' => e = .returned (.tuple #[]) ∧ RN w' blk 0 (sortL d.toList).toArray ∧ Below B w w' := by
  have eg : ∀ args w, (callFunc 13 args).run Tryd.prog w = .ok (.enter 13 args) w := enters_of Tryd.func13 (by kernel_rfl) rfl
  have hcon := AnyQ.slices_SortFunc_total Tryd.sortNote 5 Tryd.isAgg35 Tryd.sizeOf35 encN encN_len encN_one cmpN ltN_swo 13 #[] blk 0 cap d w eg (fun m os dk _ x y => (cmp_ok x y _).mono fun _ _ ⟨he, q, os', hw⟩ => ⟨he, q, os', hw⟩) hR.holds hblk (by omega) (fun x y h1 h2 => ltN_total h1 h2)
  refine Calls.mono hcon fun e w' ⟨he, n, os, hw⟩ => ⟨he, ?_, ?_⟩
  · rw [hw]
    have hs : (sortL d.toList).toArray.size = d.size := by simp [sortL]
    refine RN.of_holds (show HoldsK encN 5 (Sort.grow (putRowK encN 5 (Sort.ahead w n) blk 0 (sortL d.toList).toArray) os) blk 0 (sortL d.toList).toArray from holdsK_grow encN 5 _ _ _ _ _ ?_ (holdsK_putRowK encN 5 (Sort.ahead w n) blk 0 d _ (holdsK_ahead encN 5 w n blk 0 d hR.holds) hs))
    have := (below_mapBlock (Nat.le_refl blk) (Sort.ahead w n) (putCells id 0 (flatK encN 5 (sortL d.toList).toArray))).size
    exact Nat.lt_of_lt_of_le hblk this
  · rw [hw]; exact below_sortK hB w 0 n _ os (by omega)
end Go.Proofs.YtmememehlfbgaaaDoor
