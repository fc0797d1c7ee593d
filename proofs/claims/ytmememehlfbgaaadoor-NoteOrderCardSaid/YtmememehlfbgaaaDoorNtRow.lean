/- Rows of messages: slices.Clone and slices.Compact at []api.Note. Conditions: the cells of the row. -/
import Derived.Test.YtmememehlfbgaaaDoorNtOrd
import Derived.Lib.SlicesCompact
import Derived.Lib.SliceRun
import Derived.Laws.AppendOwn
import Derived.Lib.Walk
import Derived.Shelf.GgSortFunc.RowK
import Derived.Shelf.RegionOpenPlain
namespace Go.Proofs.YtmememehlfbgaaaDoor
open Go Go.RowKit Go.Sort Go.Lib
set_option linter.unusedVariables false
/-- a row of messages, none of its cells frozen -/
def RN (w : World) (blk off : Nat) (d : Array Nt) : Prop := ∀ j, j < d.size → ∀ c, c < 5 → w.cell? ⟨blk, off + j * 5 + c, none⟩ = some (encN d[j]!)[c]! ∧ w.frozen? ⟨blk, off + j * 5 + c, none⟩ = false
/-- .. to be read alone -/
def RR (w : World) (blk off : Nat) (L : List Nt) : Prop := ∀ j, j < L.length → ∀ c, c < 5 → w.cell? ⟨blk, off + j * 5 + c, none⟩ = some (encN L[j]!)[c]!
theorem encN_len (x : Nt) : (encN x).length = 5 := rfl
theorem encN_one (x : Nt) : ∀ v ∈ encN x, v.oneCell' = true := by
  intro v hv
  simp [encN] at hv
  rcases hv with rfl | rfl | rfl | rfl | rfl <;> rfl
theorem RN.holds {w : World} {blk off : Nat} {d : Array Nt} (h : RN w blk off d) : HoldsK encN 5 w blk off d := by
  intro t ht
  rw [size_flatK] at ht
  have e : t = t / 5 * 5 + t % 5 := by omega
  have := h (t / 5) (by omega) (t % 5) (Nat.mod_lt _ (by decide))
  rw [get_flatK _ _ _ _ ht, show off + t = off + t / 5 * 5 + t % 5 by omega]
  exact this
theorem RN.of_holds {w : World} {blk off : Nat} {d : Array Nt} (h : HoldsK encN 5 w blk off d) : RN w blk off d := fun j hj c hc => h.cell hj hc
theorem RN.below {w w' : World} {blk off : Nat} {d : Array Nt} (h : RN w blk off d) (hb : Below w.heap.size w w') : RN w' blk off d := fun j hj c hc => by
  obtain ⟨h1, h2⟩ := h j hj c hc
  have hlt := World.block_lt_of_cell? w _ h1
  exact ⟨(hb.cell (p := ⟨blk, off + j * 5 + c, none⟩) hlt).trans h1, (hb.frozen (p := ⟨blk, off + j * 5 + c, none⟩) hlt).trans h2⟩
theorem RR.below {w w' : World} {blk off : Nat} {L : List Nt} (h : RR w blk off L) (hb : Below w.heap.size w w') : RR w' blk off L := fun j hj c hc =>
  (hb.cell (p := ⟨blk, off + j * 5 + c, none⟩) (World.block_lt_of_cell? w _ (h j hj c hc))).trans (h j hj c hc)
theorem RN.rr {w : World} {blk off : Nat} {d : Array Nt} (h : RN w blk off d) : RR w blk off d.toList := fun j hj c hc => by
  have := (h j (by simpa using hj) c hc).1
  rw [this]; congr 3
  simp [getElem!_def]
/-- the cells of a list of messages, one behind the other -/
def flatN (L : List Nt) : List Value := L.flatMap encN
theorem flatN_len : ∀ L : List Nt, (flatN L).length = L.length * 5
  | [] => rfl
  | x :: L => by
    have := flatN_len L
    unfold flatN at *
    rw [List.flatMap_cons, List.length_append, this, encN_len]; simp; omega
theorem flatN_get : ∀ (L : List Nt) (j c : Nat), j < L.length → c < 5 → (flatN L)[j * 5 + c]? = some (encN L[j]!)[c]!
  | [], j, c, h, _ => by simp at h
  | x :: L, 0, c, h, hc => by
    unfold flatN
    rw [List.flatMap_cons, List.getElem?_append_left (by rw [encN_len]; omega)]
    simp only [Nat.zero_mul, Nat.zero_add]
    rw [List.getElem?_eq_getElem (by rw [encN_len]; exact hc), getElem!_pos (c := encN (x :: L)[0]!) (i := c) (by rw [encN_len]; exact hc)]
    rfl
  | x :: L, j + 1, c, h, hc => by
    have := flatN_get L j c (by simpa using h) hc
    unfold flatN at *
    rw [List.flatMap_cons, List.getElem?_append_right (by rw [encN_len]; omega), encN_len, show (j + 1) * 5 + c - 5 = j * 5 + c by omega, this]
    simp
theorem flatN_one (L : List Nt) : ∀ v ∈ flatN L, v.oneCell' = true := by
  intro v hv
  obtain ⟨x, _, hx⟩ := List.mem_flatMap.1 hv
  exact encN_one x v hx
theorem RR.flat {w : World} {blk off : Nat} {L : List Nt} (h : RR w blk off L) : ∀ (j : Nat) (u : Value), (flatN L)[j]? = some u → w.cell? ⟨blk, off + j, none⟩ = some u := by
  intro j u hj
  have hlt : j < L.length * 5 := by rw [← flatN_len]; exact (List.getElem?_eq_some_iff.1 hj).1
  rw [show j = j / 5 * 5 + j % 5 by omega] at hj ⊢
  rw [flatN_get L (j / 5) (j % 5) (by omega) (Nat.mod_lt _ (by decide))] at hj
  rw [← Nat.add_assoc, h (j / 5) (by omega) (j % 5) (Nat.mod_lt _ (by decide)), ← hj]
/-- a row of its own reads as the list -/
theorem own_rn {w : World} {base n : Nat} {v : Value} {L : List Nt} {T : TypeId} (h : w.ownsRow base T 5 v n (flatN L)) (hn : n = L.length) (hv : v ≠ .slice none 0 0) : ∃ g cap, v = .slice (some ⟨g, 0, none⟩) n cap ∧ base ≤ g ∧ n ≤ cap ∧ g < w.heap.size ∧ RN w g 0 L.toArray := by
  obtain ⟨h0, ⟨h1, _⟩ | ⟨g, cap, cur, h1, h2, h3, h4, h5, h6, h7⟩⟩ := h
  · exact absurd h1 hv
  · refine ⟨g, cap, h1, h2, h4, (Array.getElem?_eq_some_iff.1 h3).1, fun j hj c hc => ?_⟩
    have hj' : j < L.length := by simpa using hj
    have e1 := flatN_get L j c hj' hc
    have hlt : j * 5 + c < n * 5 := by rw [hn]; have := Nat.mul_le_mul_right 5 (show j + 1 ≤ L.length from hj'); omega
    rw [← h7, List.getElem?_take_of_lt hlt] at e1
    have e2 : cur[j * 5 + c]? = some (encN L[j]!)[c]! := by simpa using e1
    have e3 : L.toArray[j]! = L[j]! := by simp
    rw [e3]
    constructor
    · simp [World.cell?, h3, e2]
    · simp [World.frozen?, h3]
theorem infoN : (Tryd.prog.info? 35).map (fun i => (i.zero, i.size, i.bytes)) = some (some (.agg #[.string ⟨#[]⟩, .int .i64 0, .int .i64 0, .int .i64 0, .string ⟨#[]⟩]), 5, 56) := by kernel_rfl
set_option maxHeartbeats 2000000 in
set_option maxRecDepth 100000 in
theorem clone_ok (b off cap : Nat) (L : List Nt) (w : World) (hbig : L.length * 64 ≤ 140737488355328) (hc : RR w b off L) :
    Calls Tryd.prog 42 #[.slice (some ⟨b, off, none⟩) L.length cap] w fun e w' => ∃ v', e = .returned v' ∧ w'.ownsRow w.heap.size 35 5 v' L.length (flatN L) ∧ v' ≠ .slice none 0 0 ∧ Below w.heap.size w w' := by
  have A := Lib.hid hc.flat
  clear hc
  have hl := flatN_len L
  have h1 := Lib.hid (flatN_one L)
  have q32 : ∀ (w : World) (a : Option Addr) (n c n' c' : Nat), (binOp .eql 32 (.slice a n c) (.slice none n' c')).run Tryd.prog w = .ok (.bool a.isNone) w := fun w a n c n' c' => Lib.run_eql_slice_nil w _ _ a n c n' c' Tryd.underlying32
  go_enter Tryd.func42, Tryd.ntmps42
  obtain ⟨i0, hi, hz0, hz1, hz2⟩ := info_parts infoN
  go_wp2_with (at_builtin; refine wpList_append_own _ rfl _ _ 32 rfl w.heap.size 35 i0 _ 5 56 Tryd.underlying32 hi hz0 hz1 hz2 rfl (by decide) _ _ _ rfl (World.ownsRow_made w #[] 0 (Nat.le_refl _) (Nat.zero_le _) rfl) ⟨b, off, none⟩ L.length cap (flatN L) rfl ?qc1 ?qc2 ?qc3 ?qc4 ?qc5 ?qc6 ?_)
  case qc1 => exact hl
  case qc2 =>
    intro j u hj
    rw [Addr.add_lit]
    exact Lib.cell?_alloc_some _ (A.out j u hj)
  case qc3 => exact h1.out
  case qc4 => unfold maxLen; omega
  case qc5 => omega
  case qc6 => simp
  intro v' w1 hown hgrow hnil
  go_wp2_with fail
  go_ret
  refine ⟨v', rfl, by simpa using hown, ?_, ?_⟩
  · simpa using hnil
  · exact ((Below.refl _ w).alloc (Nat.le_refl _) _).grown hgrow (by simp) (by intro k hk; simp [Value.ownBlock] at hk; omega)
end Go.Proofs.YtmememehlfbgaaaDoor
