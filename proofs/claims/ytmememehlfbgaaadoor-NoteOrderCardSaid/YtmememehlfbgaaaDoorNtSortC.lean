/- note.Sort: its contract. Conditions: the cells of the list. -/
import Derived.Test.YtmememehlfbgaaaDoorNtSort
namespace Go.Proofs.YtmememehlfbgaaaDoor
open Go Go.RowKit Go.Sort Go.Lib
set_option linter.unusedVariables false
/-- what note.Sort hands back -/
def kept (L : List Nt) : List Nt := compactUpTo (sortL L).toArray (sortL L).length
def sortedN (L : List Nt) : List Nt := (kept L).take 20
theorem sortL_len (L : List Nt) : (sortL L).length = L.length := by unfold sortL; simp
theorem kept_len (L : List Nt) : (kept L).length ≤ L.length := by
  unfold kept compactUpTo
  rw [List.length_map]
  refine Nat.le_trans (List.length_filter_le _ _) ?_
  rw [List.length_range, sortL_len]; exact Nat.le_refl _
theorem own_mono {w : World} {B B' : Nat} {T : TypeId} {n k : Nat} {v : Value} {xs : List Value} (h : w.ownsRow B T k v n xs) (hB : B' ≤ B) : w.ownsRow B' T k v n xs := by
  obtain ⟨h0, h1 | ⟨g, cap, cur, h1, h2, h3⟩⟩ := h
  · exact ⟨h0, .inl h1⟩
  · exact ⟨h0, .inr ⟨g, cap, cur, h1, by omega, h3⟩⟩
theorem RR.take {w : World} {blk off : Nat} {L : List Nt} (h : RR w blk off L) (k : Nat) : RR w blk off (L.take k) := fun j hj c hc => by
  have hj' : j < L.length := by rw [List.length_take] at hj; omega
  have hjk : j < k := by rw [List.length_take] at hj; omega
  rw [h j hj' c hc]
  have e : (L.take k)[j]! = L[j]! := by
    rw [getElem!_pos (L.take k) j hj, getElem!_pos L j hj', List.getElem_take]
  rw [e]
set_option maxHeartbeats 2000000 in
set_option maxRecDepth 100000 in
theorem sort_ok (bl off cap : Nat) (L : List Nt) (w : World) (hn : L.length ≤ 1000000000) (hc : RR w bl off L) :
    Calls Tryd.prog 16 #[.slice (some ⟨bl, off, none⟩) L.length cap] w fun e w' => ∃ v, e = .returned v ∧ w'.ownsRow w.heap.size 35 5 v (sortedN L).length (flatN (sortedN L)) ∧ v ≠ .slice none 0 0 ∧ Below w.heap.size w w' := by
  have HC := Lib.hid hc
  clear hc
  have hsl := sortL_len L
  have hkl := kept_len L
  go_enter Tryd.func16, Tryd.ntmps16
  go_wp2_with fail
  refine (clone_ok bl off cap L _ (by omega) HC.out).mono ?_
  rintro e w1 ⟨v1, rfl, ho, hv, hb1⟩
  obtain ⟨g, cap1, rfl, hg, hcap, hlt, hR⟩ := own_rn ho rfl hv
  clear ho hv
  have HB := Lib.hid hb1
  have hsz : L.toArray.size = L.length := by simp
  have C1 := Lib.hid (sortf_ok g cap1 w.heap.size L.toArray w1 hR hlt hg (by rw [hsz]; omega))
  rw [hsz] at C1
  clear hR hb1
  go_wp2_with fail
  refine C1.out.mono ?_
  rintro e w2 ⟨rfl, hR, hb2⟩
  replace HB := Lib.hid (HB.out.trans hb2)
  have hsz2 : (sortL L).toArray.size = L.length := by simp [hsl]
  have C2 := Lib.hid (compact_ok g 0 cap1 w.heap.size (sortL L).toArray w2 hR hg (by rw [hsz2]; omega) (by rw [hsz2]; exact hcap))
  rw [hsz2] at C2
  clear hR hb2 C1
  go_wp2_with fail
  refine C2.out.mono ?_
  rintro e w3 ⟨rfl, hR, hb3⟩
  replace HB := Lib.hid (HB.out.trans hb3)
  have ek : compactUpTo (sortL L).toArray L.length = kept L := by unfold kept; rw [hsl]
  rw [ek] at hR ⊢
  have HK := Lib.hid hR
  clear hR hb3 C2 ek
  obtain ⟨K, hK⟩ : ∃ K, kept L = K := ⟨_, rfl⟩
  have HS : Hid (sortedN L = K.take 20) := by unfold sortedN; rw [hK]; exact Lib.hid rfl
  rw [hK] at hkl HK ⊢
  clear hK hlt hsz hsz2
  by_cases hk : K.length ≤ 20
  · have m1 : min (K.length : Int) 20 = K.length := by omega
    have hcp : K.length ≤ cap1 := by omega
    go_wp2_with fail
    refine (clone_ok g 0 cap1 K _ (by omega) HK.out).mono ?_
    rintro e w4 ⟨v4, rfl, ho, hv, hb4⟩
    go_wp2_with fail
    go_ret
    rw [HS.out, List.take_of_length_le hk]
    exact ⟨_, rfl, own_mono ho HB.out.size, hv, HB.out.trans (hb4.mono HB.out.size)⟩
  · have m1 : min (K.length : Int) 20 = 20 := by omega
    have hcp : 20 ≤ cap1 := by omega
    have hl : (K.take 20).length = 20 := by rw [List.length_take]; omega
    have C4 := Lib.hid (clone_ok g 0 cap1 (K.take 20) w3 (by omega) (HK.out.take 20))
    rw [hl] at C4
    go_wp2_with fail
    refine C4.out.mono ?_
    rintro e w4 ⟨v4, rfl, ho, hv, hb4⟩
    go_wp2_with fail
    go_ret
    rw [HS.out, hl]
    exact ⟨_, rfl, own_mono ho HB.out.size, hv, HB.out.trans (hb4.mono HB.out.size)⟩
set_option maxHeartbeats 1000000 in
theorem clone_nil (n c : Nat) (w : World) : Calls Tryd.prog 42 #[.slice none n c] w fun e w' => e = .returned (.slice none 0 0) ∧ w' = w := by
  have q32 : ∀ (w : World) (a : Option Addr) (n c n' c' : Nat), (binOp .eql 32 (.slice a n c) (.slice none n' c')).run Tryd.prog w = .ok (.bool a.isNone) w := fun w a n c n' c' => Lib.run_eql_slice_nil w _ _ a n c n' c' Tryd.underlying32
  go_enter Tryd.func42, Tryd.ntmps42
  go_wp2_with fail
  go_ret
  exact ⟨rfl, rfl⟩
set_option maxHeartbeats 1000000 in
theorem compact_nil (p : Option Addr) (c : Nat) (w : World) : Calls Tryd.prog 44 #[.slice p 0 c] w fun e w' => e = .returned (.slice p 0 c) ∧ w' = w := by
  go_enter Tryd.func44, Tryd.ntmps44
  go_wp2_with fail
  go_ret
  exact ⟨rfl, rfl⟩
theorem sortf_nil (p : Option Addr) (cap : Nat) (fv : Value) (w : World) : Calls Tryd.prog 43 #[.slice p 0 cap, fv] w fun e w' => e = .returned (.tuple #[]) ∧ w' = w := AnyF.slices_SortFunc_none Tryd.sortNote p cap fv w
set_option maxHeartbeats 1000000 in
theorem sort_nil (w : World) : Calls Tryd.prog 16 #[.slice none 0 0] w fun e w' => e = .returned (.slice none 0 0) ∧ w' = w := by
  go_enter Tryd.func16, Tryd.ntmps16
  go_wp2_with fail
  refine (clone_nil 0 0 _).mono ?_
  rintro e w1 ⟨rfl, rfl⟩
  go_wp2_with fail
  refine (sortf_nil none 0 _ _).mono ?_
  rintro e w2 ⟨rfl, rfl⟩
  go_wp2_with fail
  refine (compact_nil none 0 _).mono ?_
  rintro e w3 ⟨rfl, rfl⟩
  go_wp2_with fail
  refine (clone_nil 0 0 _).mono ?_
  rintro e w4 ⟨rfl, rfl⟩
  go_wp2_with fail
  go_ret
  exact ⟨rfl, rfl⟩
end Go.Proofs.YtmememehlfbgaaaDoor
