/- What a sorted list of messages is: for the law NoteOrder; and slices.Contains. -/
import Derived.Test.YtmememehlfbgaaaDoorNtSortM
import Derived.Test.YtmememehlfbgaaaDoorNtEq
namespace Go.Proofs.YtmememehlfbgaaaDoor
open Go Go.RowKit Go.Sort Go.Lib
set_option linter.unusedVariables false
theorem eqlN : EqlAt Tryd.prog 35 (fun x : Nt => .agg (encN x).toArray) eqD := by
  refine ⟨fun x y w => ?_, GuardAt.agg _ (by kernel_rfl)⟩
  show (binOp .eql _ (.agg #[.string x.f, .int .i64 x.l, .int .i64 x.c, .int .i64 x.e, .string x.t]) (.agg #[.string y.f, .int .i64 y.l, .int .i64 y.c, .int .i64 y.e, .string y.t])).run _ w = _
  rw [run_eql_struct, eqIn_N]
  rfl
theorem contains_yes (b off c : Nat) (L : List Nt) (x : Nt) (w : World) (hn : L.length ≤ 1000000000) (hx : x ∈ L) (hc : RR w b off L) :
    Calls Tryd.prog 22 #[.slice (some ⟨b, off, none⟩) L.length c, .agg (encN x).toArray] w fun e w' => e = .returned (.bool true) ∧ Below w.heap.size w w' := by
  have hcon := AnyQ.slices_Contains Tryd.containsNote 5 Tryd.isAgg35 Tryd.sizeOf35 encN encN_len eqD eqlN b off L.length c L x w (Nat.le_refl _) (by omega) hc.enc
  refine Calls.mono hcon fun e w' ⟨he, hb⟩ => ⟨?_, hb⟩
  rw [he, List.take_length, List.any_eq_true.2 ⟨x, hx, by simp [eqD]⟩]
theorem sortedN_get (L : List Nt) {i j : Nat} (hij : i < j) (hj : j < (sortedN L).length) : ltN (sortedN L)[i]! (sortedN L)[j]! = true := by
  have hl : (sortedN L).length = min 20 (kept L).length := by unfold sortedN; exact List.length_take
  have := kept_get L hij (show j < (kept L).length by omega)
  have e : ∀ q, q < (sortedN L).length → (sortedN L)[q]! = (kept L)[q]! := fun q hq => by
    rw [getElem!_pos (sortedN L) q hq, getElem!_pos (kept L) q (by omega)]
    exact List.getElem_take
  rw [e i (by omega), e j hj]; exact this
theorem sortedN_mem (L : List Nt) (x : Nt) (h : x ∈ sortedN L) : x ∈ L := (mem_kept L x).1 (List.mem_of_mem_take h)
theorem sortedN_short (L : List Nt) (h : (sortedN L).length < 20) (x : Nt) (hx : x ∈ L) : x ∈ sortedN L := by
  have hl : (sortedN L).length = min 20 (kept L).length := by unfold sortedN; exact List.length_take
  unfold sortedN
  rw [List.take_of_length_le (by omega)]
  exact (mem_kept L x).2 hx
theorem sortedN_last (L : List Nt) (h : 1 ≤ (sortedN L).length) (x : Nt) (hx : x ∈ L) (hlt : ltN x (sortedN L)[(sortedN L).length - 1]! = true) : x ∈ sortedN L := by
  have hl : (sortedN L).length = min 20 (kept L).length := by unfold sortedN; exact List.length_take
  have hk := (mem_kept L x).2 hx
  obtain ⟨p, hp, e⟩ := List.mem_iff_getElem.1 hk
  have e' : (kept L)[p]! = x := by rw [getElem!_pos (kept L) p hp]; exact e
  have eq : (sortedN L)[(sortedN L).length - 1]! = (kept L)[(sortedN L).length - 1]! := by
    rw [getElem!_pos (sortedN L) _ (by omega), getElem!_pos (kept L) _ (by omega)]
    exact List.getElem_take
  have hpl : p < (sortedN L).length := by
    rcases Nat.lt_or_ge p (sortedN L).length with h1 | h1
    · exact h1
    · exfalso
      have := kept_get L (show (sortedN L).length - 1 < p by omega) hp
      rw [e', ← eq] at this
      rw [ltN_asym this] at hlt; cases hlt
  rw [← e]
  exact List.mem_iff_getElem.2 ⟨p, hpl, List.getElem_take⟩
theorem kept_of_inc (G : List Nt) (h : ∀ i j, i < j → j < G.length → ltN G[i]! G[j]! = true) : kept G = G := by
  have hp : G.Pairwise fun x y => (!(ltN y x)) = true := by
    refine List.pairwise_iff_getElem.2 fun i j hi hj hij => ?_
    have := h i j hij hj
    rw [getElem!_pos G i hi, getElem!_pos G j hj] at this
    rw [ltN_asym this]; rfl
  have hs : sortL G = G := List.mergeSort_of_pairwise hp
  unfold kept
  rw [hs]
  have e := compactUpTo_all G.toArray G.length (fun j hj => by
    rcases Nat.eq_zero_or_pos j with h0 | h0
    · subst h0; exact keeps_lt_one _ 0 (by omega)
    · refine keeps_pos fun e => ?_
      have h1 := h (j - 1) j (by omega) hj
      have e1 : G.toArray[j]! = G[j]! := by simp [getElem!_def]
      have e2 : G.toArray[j - 1]! = G[j - 1]! := by simp [getElem!_def]
      rw [e1, e2] at e
      rw [e, ltN_self] at h1; cases h1)
  rw [e]
  have := range_map_get G.toArray
  simpa using this
theorem sortedN_again (L : List Nt) : sortedN (sortedN L) = sortedN L := by
  have hl : (sortedN L).length ≤ 20 := by unfold sortedN; rw [List.length_take]; omega
  show (kept (sortedN L)).take 20 = _
  rw [kept_of_inc _ (fun i j hij hj => sortedN_get L hij hj), List.take_of_length_le hl]
end Go.Proofs.YtmememehlfbgaaaDoor
