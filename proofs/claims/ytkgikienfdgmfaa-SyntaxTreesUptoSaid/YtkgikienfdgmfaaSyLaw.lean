/- Trees: the law. -/
import Derived.Test.YtkgikienfdgmfaaSyFactB
import Derived.Test.YtkgikienfdgmfaaSySameR
import Derived.Test.YtkgikienfdgmfaaSyWalk
import Derived.Test.YtkgikienfdgmfaaSyList
namespace Go.Proofs.Ytkgikienfdgmfaa
open Go Go.RowKit
set_option linter.unusedVariables false
theorem OI.fr {B B' p : Nat} {w w' : World} {v : Value} {l : List Int} (h : OI B w v l) (hf : Fr B' p w w') (hB : w.heap.size ≤ B') (hp : p < B) : OI B w' v l := by
  refine ⟨h.1, ?_⟩
  rcases h.2 with h1 | ⟨g, cap, cur, hv, hb, hg, hr⟩
  · exact .inl h1
  · have hl : g < w.heap.size := (Array.getElem?_eq_some_iff.1 hg).1
    exact .inr ⟨g, cap, cur, hv, hb, (hf.block g hl (by omega) (.inl (by omega))).trans hg, hr⟩
theorem OI.at {B : Nat} {w : World} {v : Value} {l : List Int} (h : OI B w v l) (hl : 1 ≤ l.length) : ∃ g cap, v = .slice (some ⟨g, 0, none⟩) l.length cap ∧ l.length ≤ cap ∧ ∀ j (hj : j < l.length), w.cell? ⟨g, j, none⟩ = some (.int .i64 l[j]) := by
  have hh := h
  rcases h.2 with ⟨_, h0⟩ | ⟨g, cap, cur, hv, hb, hg, hc, _⟩
  · omega
  · subst hv
    refine ⟨g, cap, rfl, hc, fun j hj => ?_⟩
    have := World.ownsRow.cellAt hh j (by omega)
    rw [this]
    simp [IC, List.getElem?_eq_getElem hj]
set_option maxRecDepth 100000 in
set_option maxHeartbeats 2000000 in
theorem sameFile_any (A B : Nd) (a b : Nat) (w : World) (hc : A.cnt ≤ 3000000000000) (hA : Nin w A) (hB : Nin w B) (ra : NCs w a 0 A) (rb : NCs w b 0 B) :
    Calls Try.prog 9 #[.agg #[.slice (some ⟨a, 0, none⟩) 1 1, .slice none 0 0], .agg #[.slice (some ⟨b, 0, none⟩) 1 1, .slice none 0 0]] w fun e w' => e = .returned (.bool (same A B)) ∧ Below w.heap.size w w' := by
  have e1 : sameL [A] [B] = same A B := by simp [sameL]
  have hr : ∀ {w1 : World}, Below w.heap.size w w1 → Row w1 (some ⟨a, 0, none⟩) 1 [A] := fun hb => ⟨Nat.le_refl _, fun _ => ⟨a, 0, rfl, fun j h => by
    obtain rfl : j = 0 := by simp at h; omega
    exact ra.below hb⟩⟩
  have hr' : ∀ {w1 : World}, Below w.heap.size w w1 → Row w1 (some ⟨b, 0, none⟩) 1 [B] := fun hb => ⟨Nat.le_refl _, fun _ => ⟨b, 0, rfl, fun j h => by
    obtain rfl : j = 0 := by simp at h; omega
    exact rb.below hb⟩⟩
  have hE := fun w1 (hb : Below w.heap.size w w1) => equalF (sameTo_all A.dep) (some ⟨a, 0, none⟩) (some ⟨b, 0, none⟩) 1 1 [A] [B] w1 (by simp [depL]) (by simp [cntL]; omega) (hr hb) (fun T h => by rw [List.mem_singleton.1 h]; exact hA.keep hb) (hr' hb) (fun T h => by rw [List.mem_singleton.1 h]; exact hB.keep hb)
  rw [e1] at hE
  simp only [List.length_singleton] at hE
  have HE := Lib.hid hE
  clear hE hr hr' e1 hA hB ra rb
  generalize same A B = V at *
  go_enter Try.func9, Try.ntmps9
  go_wp2_with (refine (HE.out _ (((Below.refl _ _).alloc (Nat.le_refl _) _).alloc (by simp <;> omega) _)).mono ?_; rintro e w3 ⟨rfl, hb3⟩)
  go_ret
  exact ⟨rfl, (((Below.refl _ _).alloc (Nat.le_refl _) _).alloc (by simp <;> omega) _).trans (hb3.mono (by simp <;> omega))⟩
structure LZ (w w' : World) (A B : Nd) (stop : Int) : Prop where
  bel : Below w.heap.size w w'
  ra : NCs w' w.heap.size 0 A
  rb : NCs w' (w.heap.size + 1) 0 B
  cs : w'.cell? ⟨w.heap.size + 1 + 1, 0, none⟩ = some (.int .i64 stop)
  l0 : w.heap.size < w'.heap.size
  l1 : w.heap.size + 1 < w'.heap.size
  l2 : w.heap.size + 1 + 1 < w'.heap.size
theorem LZ.next {w w' w'' : World} {A B : Nd} {stop : Int} (h : LZ w w' A B stop) (hb : Below w'.heap.size w' w'') : LZ w w'' A B stop :=
  ⟨h.bel.trans (hb.mono h.bel.size), h.ra.below hb, h.rb.below hb, (hb.cell (p := ⟨w.heap.size + 1 + 1, 0, none⟩) (World.block_lt_of_cell? w' _ h.cs)).trans h.cs, Nat.lt_of_lt_of_le h.l0 hb.size, Nat.lt_of_lt_of_le h.l1 hb.size, Nat.lt_of_lt_of_le h.l2 hb.size⟩
theorem two_nc (w : World) (k l c : Int) (nm tx : ByteArray) (n v x : Int) (s : Bool) (a : Option Addr) (len cap : Nat) (k' l' c' : Int) (nm' tx' : ByteArray) (n' v' x' : Int) (s' : Bool) (a' : Option Addr) (len' cap' : Nat) :
    NC ((w.alloc (.cells #[.int .i64 k, .int .i64 l, .int .i64 c, .string nm, .string tx, .int .i64 n, .int .u64 v, .int .u64 x, .bool s, .slice a len cap] 27)).alloc (.cells #[.int .i64 k', .int .i64 l', .int .i64 c', .string nm', .string tx', .int .i64 n', .int .u64 v', .int .u64 x', .bool s', .slice a' len' cap'] 27)) w.heap.size 0 k l c nm tx n v x s a len cap ∧ NC ((w.alloc (.cells #[.int .i64 k, .int .i64 l, .int .i64 c, .string nm, .string tx, .int .i64 n, .int .u64 v, .int .u64 x, .bool s, .slice a len cap] 27)).alloc (.cells #[.int .i64 k', .int .i64 l', .int .i64 c', .string nm', .string tx', .int .i64 n', .int .u64 v', .int .u64 x', .bool s', .slice a' len' cap'] 27)) (w.heap.size + 1) 0 k' l' c' nm' tx' n' v' x' s' a' len' cap' ∧ Below w.heap.size w ((w.alloc (.cells #[.int .i64 k, .int .i64 l, .int .i64 c, .string nm, .string tx, .int .i64 n, .int .u64 v, .int .u64 x, .bool s, .slice a len cap] 27)).alloc (.cells #[.int .i64 k', .int .i64 l', .int .i64 c', .string nm', .string tx', .int .i64 n', .int .u64 v', .int .u64 x', .bool s', .slice a' len' cap'] 27)) :=
  ⟨⟨by go_simp, by go_simp, by go_simp, by go_simp, by go_simp, by go_simp, by go_simp, by go_simp, by go_simp, by go_simp⟩, ⟨by go_simp, by go_simp, by go_simp, by go_simp, by go_simp, by go_simp, by go_simp, by go_simp, by go_simp, by go_simp⟩, ((Below.refl _ _).alloc (Nat.le_refl _) _).alloc (by simp) _⟩
theorem setup {w : World} {q : Nat} {stop : Int} (hq : w.cell? ⟨q, 0, none⟩ = some (.int .i64 stop)) (hl : q < w.heap.size) :
    ∃ W, W = ((w.alloc (.cells #[.slice none 0 0] 36)).alloc (.cells #[.slice none 0 0] 36)).alloc (.cells #[listF w.heap.size q (w.heap.size + 1 + 1)] 37) ∧ Below w.heap.size w W ∧ GS W.heap.size W w.heap.size q stop (.slice none 0 0) [] ∧ W.cell? ⟨w.heap.size + 1, 0, none⟩ = some (.slice none 0 0) ∧ W.frozen? ⟨w.heap.size + 1, 0, none⟩ = false ∧ W.cell? ⟨w.heap.size + 1 + 1, 0, none⟩ = some (listF w.heap.size q (w.heap.size + 1 + 1)) ∧ W.heap.size = w.heap.size + 3 := by
  have hb : Below w.heap.size w (((w.alloc (.cells #[.slice none 0 0] 36)).alloc (.cells #[.slice none 0 0] 36)).alloc (.cells #[listF w.heap.size q (w.heap.size + 1 + 1)] 37)) := (((Below.refl _ _).alloc (Nat.le_refl _) _).alloc (by simp) _).alloc (by simp <;> omega) _
  refine ⟨_, rfl, hb, ⟨World.ownsRow_nil _ _ _ _, by go_simp, by go_simp, (hb.cell (p := ⟨q, 0, none⟩) hl).trans hq, by simp <;> omega, by simp <;> omega, by omega, Nat.le_refl _⟩, by go_simp, by go_simp, by unfold listF; go_simp, by simp⟩
end Go.Proofs.Ytkgikienfdgmfaa
