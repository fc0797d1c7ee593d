/- Whether a text is a word of the language: the program's isWord.
   A token in memory: nine cells of a block. -/
import Derived.Test.YtogmipbdnffegaaGreatDoorMgCls
import Derived.Test.YtogmipbdnffegaaGreatDoorLxWords
import Derived.Test.YtogmipbdnffegaaGreatDoorShelfSearch
import Derived.RegionTactic
import Derived.Deep.CutBlock
import Derived.Deep.DeepCutAuto
import Derived.LoopTactic
namespace Go.Proofs.YtogmipbdnffegaaGreatDoor
open Go Go.RowKit Go.Sort Go.Lib
set_option linter.unusedVariables false
/-- the package-level variables that the calls lean on -/
structure LG (w : World) : Prop where
  wd : ∀ i, i < 54 → w.cell? ⟨0, i, none⟩ = some (.string (wordB i))
  sg : ∀ i, i < 39 → w.cell? ⟨1, i, none⟩ = some (.string (signB i))
  mx : ∃ m : Int, w.cell? ⟨2, 0, none⟩ = some (.int .i64 m)
theorem LG.below {w w' : World} (h : LG w) (hb : Below w.heap.size w w') : LG w' := by
  obtain ⟨m, hm⟩ := h.mx
  exact ⟨fun i hi => (hb.cell (p := ⟨_, i, none⟩) (World.block_lt_of_cell? w _ (h.wd i hi))).trans (h.wd i hi), fun i hi => (hb.cell (p := ⟨_, i, none⟩) (World.block_lt_of_cell? w _ (h.sg i hi))).trans (h.sg i hi), m, (hb.cell (p := ⟨_, 0, none⟩) (World.block_lt_of_cell? w _ hm)).trans hm⟩
theorem wordB_list (i : Nat) : (wordB i).toList = wordL.getD i [] := by rw [ByteArray.toList_eq]; rfl
set_option maxHeartbeats 1000000 in
theorem key_clo (s : ByteArray) (b i : Nat) (hi : i < 54) (W : World) (hg : W.cell? ⟨0, i, none⟩ = some (.string (wordB i))) (hb : W.cell? ⟨b, 0, none⟩ = some (.string s)) :
    Calls Tryz.prog 43 (#[.int .i64 i] ++ #[.pointer (some ⟨b, 0, none⟩)]) W fun e w' => e = .returned (.bool (wGe s.data.toList i)) ∧ ∃ q, w' = W.drewN q := by
  have HV : Hid (wGe s.data.toList i = !(Op.bytesLess (wordB i).toList s.toList)) := Lib.hid (by unfold wGe; rw [wordB_list, ByteArray.toList_eq])
  generalize wordB i = x at hg HV
  have hiz : (i : Int) < 54 := by omega
  have hi0 : (0 : Int) ≤ (i : Int) := by omega
  go_enter Tryz.func43, Tryz.ntmps43
  go_wp2_with fail
  go_region
  all_goals go_wp2_with fail
  all_goals go_ret
  all_goals exact ⟨by rw [HV.out]; rfl, 1, rfl⟩
set_option maxRecDepth 100000 in
set_option maxHeartbeats 2000000 in
theorem isWord_any (s : ByteArray) (w : World) (hG : LG w) :
    Calls Tryz.prog 27 #[.string s] w fun e w' => e = .returned (.bool (isKey s.data.toList)) ∧ Below w.heap.size w w' := by
  obtain ⟨W0, hW0⟩ : ∃ W0, W0 = w.alloc (.cells #[.string s] 9) := ⟨_, rfl⟩
  have hb0 : Below w.heap.size w W0 := by rw [hW0]; exact (Below.refl _ _).alloc (Nat.le_refl _) _
  have hsz : W0.heap.size = w.heap.size + 1 := by rw [hW0]; simp
  have cs : W0.cell? ⟨w.heap.size, 0, none⟩ = some (.string s) := by rw [hW0]; exact cell_new_sl w _ _
  have G0 := hG.below hb0
  have eg : ∀ args w, (callFunc 43 args).run Tryz.prog w = .ok (.enter 43 args) w := enters_of Tryz.func43 (by kernel_rfl) rfl
  have hS := Any.sort_Search Tryz.search 43 #[.pointer (some ⟨w.heap.size, 0, none⟩)] 54 (wGe s.data.toList) W0 eg (by omega)
    (fun m os i hi => (key_clo s w.heap.size i hi _ (cell_grown (World.block_lt_of_cell? W0 _ (G0.wd i hi)) (G0.wd i hi) m os) (cell_grown (show w.heap.size < W0.heap.size by omega) cs m os)).mono fun _ _ ⟨he, q, hq⟩ => ⟨he, q, #[], by rw [hq, grow_empty]⟩) (wGe_mono _)
  change Calls Tryz.prog 42 #[.int .i64 54, .func (.func 43) #[] #[.pointer (some ⟨w.heap.size, 0, none⟩)]] W0 _ at hS
  have HS := Lib.hid hS
  have hle := wAt_le s.data.toList
  have HK := Lib.hid (key_iff s.data.toList)
  have HA := Lib.hid (show (List.range 54).countP (fun i => !wGe s.data.toList i) = wAt s.data.toList from rfl)
  have HG0 := Lib.hid G0
  have HC := Lib.hid cs
  clear hS cs G0 hG
  generalize wAt s.data.toList = k at hle HK HA
  go_enter Tryz.func27, Tryz.ntmps27
  go_wp2_with fail
  rw [← hW0]
  refine HS.out.mono ?_
  rintro e w1 ⟨rfl, q, os, rfl⟩
  rw [HA.out]
  have hb1 : Below W0.heap.size W0 (grow (W0.drewN q) os) := below_grown_sl W0.heap.size W0 q os (Nat.le_refl _)
  have hb : Below w.heap.size w (grow (W0.drewN q) os) := hb0.trans (hb1.mono hb0.size)
  have c1 := (hb1.cell (p := ⟨w.heap.size, 0, none⟩) (show w.heap.size < W0.heap.size by omega)).trans HC.out
  have G1 := Lib.hid (HG0.out.below hb1)
  generalize grow (W0.drewN q) os = W2 at hb1 hb c1 G1 ⊢
  clear HS HA
  by_cases h : k < 54
  · have hi : (k : Int) < 54 := by omega
    have hi0 : (0 : Int) ≤ (k : Int) := by omega
    have cg := G1.out.wd k h
    have HV : Hid (isKey s.data.toList = ((wordB k).toList == s.toList)) := Lib.hid (by rw [HK.out, decide_eq_true h, Bool.true_and, wordB_list, ByteArray.toList_eq])
    generalize wordB k = x at cg HV
    clear h
    go_wp2_with fail
    go_region
    all_goals go_wp2_with fail
    all_goals go_ret
    all_goals exact ⟨by rw [HV.out]; rfl, hb.drew⟩
  · obtain rfl : k = 54 := by omega
    have HV : Hid (isKey s.data.toList = false) := Lib.hid (by rw [HK.out, decide_eq_false h, Bool.false_and])
    clear h
    go_wp2_with fail
    go_region
    all_goals go_wp2_with fail
    all_goals go_ret
    all_goals exact ⟨by rw [HV.out]; rfl, hb.drew⟩
end Go.Proofs.YtogmipbdnffegaaGreatDoor
namespace Go.Proofs.YtogmipbdnffegaaGreatDoor
open Go Go.RowKit
set_option linter.unusedVariables false
structure Tk where
  k : Int
  l : Int
  c : Int
  t : ByteArray
  q : Bool
  n : Int
  v : Int
  x : Int
  s : Bool
def Tk.val (a : Tk) : Value := .agg #[.int .i64 a.k, .int .i64 a.l, .int .i64 a.c, .string a.t, .bool a.q, .int .i64 a.n, .int .u64 a.v, .int .u64 a.x, .bool a.s]
structure TB (w : World) (p : Nat) (k l c : Int) (t : ByteArray) (q : Bool) (n v x : Int) (s : Bool) : Prop where
  c0 : w.cell? ⟨p, 0, none⟩ = some (.int .i64 k)
  c1 : w.cell? ⟨p, 1, none⟩ = some (.int .i64 l)
  c2 : w.cell? ⟨p, 2, none⟩ = some (.int .i64 c)
  c3 : w.cell? ⟨p, 3, none⟩ = some (.string t)
  c4 : w.cell? ⟨p, 4, none⟩ = some (.bool q)
  c5 : w.cell? ⟨p, 5, none⟩ = some (.int .i64 n)
  c6 : w.cell? ⟨p, 6, none⟩ = some (.int .u64 v)
  c7 : w.cell? ⟨p, 7, none⟩ = some (.int .u64 x)
  c8 : w.cell? ⟨p, 8, none⟩ = some (.bool s)
  fz : ∀ o, w.frozen? ⟨p, o, none⟩ = false
theorem TB.lt {w : World} {p : Nat} {k l c : Int} {t : ByteArray} {q : Bool} {n v x : Int} {s : Bool} (h : TB w p k l c t q n v x s) : p < w.heap.size := World.block_lt_of_cell? w _ h.c0
theorem TB.below {w w' : World} {p : Nat} {k l c : Int} {t : ByteArray} {q : Bool} {n v x : Int} {s : Bool} (h : TB w p k l c t q n v x s) (hb : Below w.heap.size w w') : TB w' p k l c t q n v x s :=
  ⟨(hb.cell (p := ⟨p, 0, none⟩) h.lt).trans h.c0, (hb.cell (p := ⟨p, 1, none⟩) h.lt).trans h.c1, (hb.cell (p := ⟨p, 2, none⟩) h.lt).trans h.c2, (hb.cell (p := ⟨p, 3, none⟩) h.lt).trans h.c3, (hb.cell (p := ⟨p, 4, none⟩) h.lt).trans h.c4, (hb.cell (p := ⟨p, 5, none⟩) h.lt).trans h.c5, (hb.cell (p := ⟨p, 6, none⟩) h.lt).trans h.c6, (hb.cell (p := ⟨p, 7, none⟩) h.lt).trans h.c7, (hb.cell (p := ⟨p, 8, none⟩) h.lt).trans h.c8, fun o => (hb.frozen (p := ⟨p, o, none⟩) h.lt).trans (h.fz o)⟩
theorem TB.new (w : World) (k l c : Int) (t : ByteArray) (q : Bool) (n v x : Int) (s : Bool) : TB (w.alloc (.cells #[.int .i64 k, .int .i64 l, .int .i64 c, .string t, .bool q, .int .i64 n, .int .u64 v, .int .u64 x, .bool s] 42)) w.heap.size k l c t q n v x s :=
  ⟨by go_simp, by go_simp, by go_simp, by go_simp, by go_simp, by go_simp, by go_simp, by go_simp, by go_simp, fun o => by go_simp⟩
theorem cell_set_ne {w : World} {p i j : Nat} {u : Value} (h : i ≠ j) : (w.setCell ⟨p, i, none⟩ u).cell? ⟨p, j, none⟩ = w.cell? ⟨p, j, none⟩ := by
  apply World.cell?_setCell_other
  simp <;> omega
theorem cell_set_eq {w : World} {p i : Nat} {u u0 : Value} (h : w.cell? ⟨p, i, none⟩ = some u0) (hf : w.frozen? ⟨p, i, none⟩ = false) : (w.setCell ⟨p, i, none⟩ u).cell? ⟨p, i, none⟩ = some u := by
  go_simp
theorem frozen_set {w : World} {p i j : Nat} {u : Value} : (w.setCell ⟨p, i, none⟩ u).frozen? ⟨p, j, none⟩ = w.frozen? ⟨p, j, none⟩ := by
  go_simp
/-- a whole token is stored -/
def setTk (w : World) (p : Nat) (k l c : Int) (t : ByteArray) (q : Bool) (n v x : Int) (s : Bool) : World :=
  ((((((((w.setCell ⟨p, 0, none⟩ (.int .i64 k)).setCell ⟨p, 1, none⟩ (.int .i64 l)).setCell ⟨p, 2, none⟩ (.int .i64 c)).setCell ⟨p, 3, none⟩ (.string t)).setCell ⟨p, 4, none⟩ (.bool q)).setCell ⟨p, 5, none⟩ (.int .i64 n)).setCell ⟨p, 6, none⟩ (.int .u64 v)).setCell ⟨p, 7, none⟩ (.int .u64 x)).setCell ⟨p, 8, none⟩ (.bool s)
theorem TB.set {w : World} {p : Nat} {k l c : Int} {t : ByteArray} {q : Bool} {n v x : Int} {s : Bool} (h : TB w p k l c t q n v x s) (k' l' c' : Int) (t' : ByteArray) (q' : Bool) (n' v' x' : Int) (s' : Bool) : TB (setTk w p k' l' c' t' q' n' v' x' s') p k' l' c' t' q' n' v' x' s' := by
  obtain ⟨h0, h1, h2, h3, h4, h5, h6, h7, h8, hf⟩ := h
  have F : ∀ o, (setTk w p k' l' c' t' q' n' v' x' s').frozen? ⟨p, o, none⟩ = false := fun o => by
    unfold setTk; simp only [frozen_set]; exact hf o
  have K : ∀ {W : World} {i : Nat} {u u0 : Value}, W.cell? ⟨p, i, none⟩ = some u0 → (∀ o, W.frozen? ⟨p, o, none⟩ = false) → (W.setCell ⟨p, i, none⟩ u).cell? ⟨p, i, none⟩ = some u := fun h hf => cell_set_eq h (hf _)
  have N : ∀ {W : World} {i j : Nat} {u : Value}, i ≠ j → (W.setCell ⟨p, i, none⟩ u).cell? ⟨p, j, none⟩ = W.cell? ⟨p, j, none⟩ := fun h => cell_set_ne h
  have R : ∀ {W : World} {i : Nat} {u : Value}, (∀ o, W.frozen? ⟨p, o, none⟩ = false) → ∀ o, (W.setCell ⟨p, i, none⟩ u).frozen? ⟨p, o, none⟩ = false := fun h o => by rw [frozen_set]; exact h o
  unfold setTk
  refine ⟨?_, ?_, ?_, ?_, ?_, ?_, ?_, ?_, ?_, fun o => by have := F o; unfold setTk at this; exact this⟩
  · rw [N (by decide), N (by decide), N (by decide), N (by decide), N (by decide), N (by decide), N (by decide), N (by decide)]; exact K h0 hf
  · rw [N (by decide), N (by decide), N (by decide), N (by decide), N (by decide), N (by decide), N (by decide)]; exact K ((N (by decide)).trans h1) (R hf)
  · rw [N (by decide), N (by decide), N (by decide), N (by decide), N (by decide), N (by decide)]; exact K ((N (by decide)).trans ((N (by decide)).trans h2)) (R (R hf))
  · rw [N (by decide), N (by decide), N (by decide), N (by decide), N (by decide)]; exact K ((N (by decide)).trans ((N (by decide)).trans ((N (by decide)).trans h3))) (R (R (R hf)))
  · rw [N (by decide), N (by decide), N (by decide), N (by decide)]; exact K ((N (by decide)).trans ((N (by decide)).trans ((N (by decide)).trans ((N (by decide)).trans h4)))) (R (R (R (R hf))))
  · rw [N (by decide), N (by decide), N (by decide)]; exact K ((N (by decide)).trans ((N (by decide)).trans ((N (by decide)).trans ((N (by decide)).trans ((N (by decide)).trans h5))))) (R (R (R (R (R hf)))))
  · rw [N (by decide), N (by decide)]; exact K ((N (by decide)).trans ((N (by decide)).trans ((N (by decide)).trans ((N (by decide)).trans ((N (by decide)).trans ((N (by decide)).trans h6)))))) (R (R (R (R (R (R hf))))))
  · rw [N (by decide)]; exact K ((N (by decide)).trans ((N (by decide)).trans ((N (by decide)).trans ((N (by decide)).trans ((N (by decide)).trans ((N (by decide)).trans ((N (by decide)).trans h7))))))) (R (R (R (R (R (R (R hf)))))))
  · exact K ((N (by decide)).trans ((N (by decide)).trans ((N (by decide)).trans ((N (by decide)).trans ((N (by decide)).trans ((N (by decide)).trans ((N (by decide)).trans ((N (by decide)).trans h8)))))))) (R (R (R (R (R (R (R (R hf))))))))
theorem below_setTk {B : Nat} {a w : World} {p : Nat} (h : Below B a w) (hp : B ≤ p) (k l c : Int) (t : ByteArray) (q : Bool) (n v x : Int) (s : Bool) : Below B a (setTk w p k l c t q n v x s) :=
  ((((((((h.setCell hp _).setCell hp _).setCell hp _).setCell hp _).setCell hp _).setCell hp _).setCell hp _).setCell hp _).setCell hp _
end Go.Proofs.YtogmipbdnffegaaGreatDoor
