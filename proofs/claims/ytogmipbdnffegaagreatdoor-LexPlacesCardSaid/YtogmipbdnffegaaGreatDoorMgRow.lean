/- Rows of tokens.
   How a text is divided into tokens: all ways. No program here. -/
import Derived.Test.YtogmipbdnffegaaGreatDoorMgRt
import Derived.Laws.AppendOwn
import Derived.Test.YtogmipbdnffegaaGreatDoorMgNx
namespace Go.Proofs.YtogmipbdnffegaaGreatDoor
open Go Go.RowKit
set_option linter.unusedVariables false
def encT (a : Tk) : List Value := [.int .i64 a.k, .int .i64 a.l, .int .i64 a.c, .string a.t, .bool a.q, .int .i64 a.n, .int .u64 a.v, .int .u64 a.x, .bool a.s]
def flatT (L : List Tk) : List Value := L.flatMap encT
theorem encT_len (a : Tk) : (encT a).length = 9 := rfl
theorem encT_one (a : Tk) : ∀ u ∈ encT a, u.oneCell' = true := by
  intro u hu
  simp only [encT, List.mem_cons, List.mem_nil_iff, or_false] at hu
  rcases hu with rfl | rfl | rfl | rfl | rfl | rfl | rfl | rfl | rfl <;> rfl
theorem flatT_len : ∀ L : List Tk, (flatT L).length = L.length * 9
  | [] => rfl
  | a :: L => by
    have := flatT_len L
    unfold flatT at this ⊢
    rw [List.flatMap_cons, List.length_append, this, encT_len, List.length_cons]
    omega
theorem flatT_snoc (L : List Tk) (a : Tk) : flatT (L ++ [a]) = flatT L ++ encT a := by
  unfold flatT
  simp
theorem flatT_get : ∀ (L : List Tk) (j c : Nat) (hj : j < L.length) (hc : c < 9), (flatT L)[j * 9 + c]? = (encT L[j])[c]?
  | a :: L, 0, c, _, hc => by
    show (encT a ++ flatT L)[0 * 9 + c]? = _
    rw [Nat.zero_mul, Nat.zero_add, List.getElem?_append_left (by rw [encT_len]; exact hc)]
    rfl
  | a :: L, j + 1, c, hj, hc => by
    have ih := flatT_get L j c (by simpa using hj) hc
    show (encT a ++ flatT L)[(j + 1) * 9 + c]? = _
    rw [List.getElem?_append_right (by rw [encT_len]; omega), encT_len, show (j + 1) * 9 + c - 9 = j * 9 + c by omega, ih]
    rfl
def OT (B : Nat) (w : World) (v : Value) (L : List Tk) : Prop := w.ownsRow B 42 9 v L.length (flatT L)
theorem OT.nil (B : Nat) (w : World) : OT B w (.slice none 0 0) [] := World.ownsRow_nil _ _ _ _
theorem OT.below {w w' : World} {B : Nat} {v : Value} {L : List Tk} (h : OT B w v L) (hb : Below w.heap.size w w') : OT B w' v L :=
  World.ownsRow.kept (row := none) h ⟨hb.os, hb.tape, hb.output, hb.size, fun k hk _ => hb.block k hk⟩ (by cases v.ownBlock <;> simp)
theorem OT.but {w w' : World} {B : Nat} {S : Nat → Prop} {v : Value} {L : List Tk} (h : OT B w v L) (hb : But S w.heap.size w w') (hS : ∀ k, S k → k < B) : OT B w' v L := by
  refine ⟨h.1, ?_⟩
  rcases h.2 with h1 | ⟨g, cap, cur, hv, hbg, hg, hr⟩
  · exact .inl h1
  · have hl : g < w.heap.size := (Array.getElem?_eq_some_iff.1 hg).1
    exact .inr ⟨g, cap, cur, hv, hbg, (hb.block g hl (fun x => by have := hS g x; omega)).trans hg, hr⟩
theorem OT.keep {w w' : World} {B : Nat} {v : Value} {L : List Tk} (h : OT B w v L) (hb : ∀ q, v.ownBlock = some q → w'.heap[q]? = w.heap[q]?) : OT B w' v L := by
  refine ⟨h.1, ?_⟩
  rcases h.2 with h1 | ⟨g, cap, cur, hv, hbg, hg, hr⟩
  · exact .inl h1
  · exact .inr ⟨g, cap, cur, hv, hbg, (hb g (by rw [hv]; rfl)).trans hg, hr⟩
theorem TB.place {W : World} {p : Nat} {k : Int} {t : ByteArray} {q : Bool} {n v x : Int} {s : Bool} (h : TB W p k 0 0 t q n v x s) (Y X : Int) : TB ((W.setCell ⟨p, 1, none⟩ (.int .i64 Y)).setCell ⟨p, 2, none⟩ (.int .i64 X)).drew p k Y X t q n v x s := by
  obtain ⟨h0, h1, h2, h3, h4, h5, h6, h7, h8, hf⟩ := h
  refine TB.below (w := (W.setCell ⟨p, 1, none⟩ (.int .i64 Y)).setCell ⟨p, 2, none⟩ (.int .i64 X)) ?_ (Below.refl _ _).drew
  refine ⟨?_, ?_, ?_, ?_, ?_, ?_, ?_, ?_, ?_, fun o => frozen_set.trans (frozen_set.trans (hf o))⟩
  · exact (cell_set_ne (by decide)).trans ((cell_set_ne (by decide)).trans h0)
  · exact (cell_set_ne (by decide)).trans (cell_set_eq h1 (hf 1))
  · exact cell_set_eq ((cell_set_ne (by decide)).trans h2) (frozen_set.trans (hf 2))
  · exact (cell_set_ne (by decide)).trans ((cell_set_ne (by decide)).trans h3)
  · exact (cell_set_ne (by decide)).trans ((cell_set_ne (by decide)).trans h4)
  · exact (cell_set_ne (by decide)).trans ((cell_set_ne (by decide)).trans h5)
  · exact (cell_set_ne (by decide)).trans ((cell_set_ne (by decide)).trans h6)
  · exact (cell_set_ne (by decide)).trans ((cell_set_ne (by decide)).trans h7)
  · exact (cell_set_ne (by decide)).trans ((cell_set_ne (by decide)).trans h8)
theorem OT.block {w : World} {B : Nat} {v : Value} {L : List Tk} (h : OT B w v L) : ∀ q, v.ownBlock = some q → B ≤ q ∧ q < w.heap.size := by
  intro q hq
  rcases h.2 with ⟨h1, _⟩ | ⟨g, cap, cur, hv, hbg, hg, _⟩
  · rw [h1] at hq; simp [Value.ownBlock] at hq
  · rw [hv] at hq
    simp [Value.ownBlock] at hq
    subst hq
    exact ⟨hbg, (Array.getElem?_eq_some_iff.1 hg).1⟩
theorem OT.mono {w : World} {B B' : Nat} {v : Value} {L : List Tk} (h : OT B w v L) (hB : B' ≤ B) : OT B' w v L := by
  refine ⟨h.1, ?_⟩
  rcases h.2 with h1 | ⟨g, cap, cur, hv, hb, hr⟩
  · exact .inl h1
  · exact .inr ⟨g, cap, cur, hv, by omega, hr⟩
theorem OT.form {w : World} {B : Nat} {v : Value} {L : List Tk} (h : OT B w v L) : ∃ a cap, v = .slice a L.length cap := by
  rcases h.2 with ⟨h1, h0⟩ | ⟨g, cap, cur, hv, _⟩
  · exact ⟨none, 0, by rw [h1, h0]⟩
  · exact ⟨_, _, hv⟩
/-- the tokens' cells, where there are some -/
theorem OT.at {B : Nat} {w : World} {v : Value} {L : List Tk} (h : OT B w v L) (hl : 1 ≤ L.length) : ∃ g cap, v = .slice (some ⟨g, 0, none⟩) L.length cap ∧ L.length ≤ cap ∧ ∀ j (hj : j < L.length) c, c < 9 → w.cell? ⟨g, j * 9 + c, none⟩ = (encT L[j])[c]? := by
  have hh := h
  rcases h.2 with ⟨_, h0⟩ | ⟨g, cap, cur, hv, hb, hg, hc, _⟩
  · omega
  · subst hv
    refine ⟨g, cap, rfl, hc, fun j hj c hc9 => ?_⟩
    have := World.ownsRow.cellAt hh (j * 9 + c) (by omega)
    rw [this]
    exact flatT_get L j c hj hc9
theorem infoT : (Tryz.prog.info? 42).map (fun i => (i.zero, i.size, i.bytes)) = some (some (.agg #[.int .i64 0, .int .i64 0, .int .i64 0, .string ⟨#[]⟩, .bool false, .int .i64 0, .int .u64 0, .int .u64 0, .bool false]), 9, 80) := by kernel_rfl
theorem infoT_parts : ∃ i, Tryz.prog.info? 42 = some i ∧ i.zero = some (.agg #[.int .i64 0, .int .i64 0, .int .i64 0, .string ⟨#[]⟩, .bool false, .int .i64 0, .int .u64 0, .int .u64 0, .bool false]) ∧ i.size = 9 ∧ i.bytes = 80 := by
  have h := infoT
  cases hi : Tryz.prog.info? 42 with
  | none => rw [hi] at h; cases h
  | some i =>
    rw [hi] at h
    simp only [Option.map_some, Option.some.injEq, Prod.mk.injEq] at h
    exact ⟨i, rfl, h.1, h.2.1, h.2.2⟩
end Go.Proofs.YtogmipbdnffegaaGreatDoor
namespace Go.Proofs.YtogmipbdnffegaaGreatDoor
open Go Go.RowKit
set_option linter.unusedVariables false
/-- the tokens, or the place and the code of what is wrong -/
inductive Fin
  | done (l : List Tk)
  | bad (y x e : Int)
def tkAt (s : ByteArray) (p : Nat) (k : Int) (t : ByteArray) (q : Bool) (n v x : Int) (sg : Bool) : Tk := ⟨k, ((plcT s p).1 : Nat), ((plcT s p).2 : Nat), t, q, n, v, x, sg⟩
inductive Lx (s : ByteArray) : Nat → List Tk → Fin → Prop
  | fin {acc : List Tk} : Lx s s.size acc (.done (acc ++ [tkAt s s.size 0 ⟨#[]⟩ false 0 0 0 false]))
  | hop {p n : Nat} {acc : List Tk} {F : Fin} (h : p < s.size) (hn : hop (rst s p) = some (some n)) (r : Lx s (p + n) acc F) : Lx s p acc F
  | short {p : Nat} {acc : List Tk} (h : p < s.size) (hn : hop (rst s p) = some none) : Lx s p acc (.bad ((plcT s p).1 : Nat) ((plcT s p).2 : Nat) 11)
  | tok {p : Nat} {acc : List Tk} {F : Fin} {k : Int} {t : ByteArray} {q : Bool} {n v x : Int} {sg : Bool} {z : Nat} (h : p < s.size) (hn : hop (rst s p) = none) (hR : Rt (rst s p) (.ok k t q n v x sg z)) (r : Lx s (p + z) (acc ++ [tkAt s p k t q n v x sg]) F) : Lx s p acc F
  | bad {p : Nat} {acc : List Tk} {e : Int} (h : p < s.size) (hn : hop (rst s p) = none) (hR : Rt (rst s p) (.er e)) : Lx s p acc (.bad ((plcT s p).1 : Nat) ((plcT s p).2 : Nat) e)
theorem lx_total (s : ByteArray) (hs : s.size ≤ 2000) : ∀ (f p : Nat) (acc : List Tk), p ≤ s.size → s.size - p ≤ f → ∃ F, Lx s p acc F := by
  intro f
  induction f with
  | zero =>
    intro p acc h1 h2
    obtain rfl : p = s.size := by omega
    exact ⟨_, .fin⟩
  | succ f ih =>
    intro p acc h1 h2
    by_cases h : p < s.size
    · have hz : 0 < (rst s p).size := by rw [rst_size]; omega
      cases hn : hop (rst s p) with
      | none =>
        obtain ⟨R, hR⟩ := rt_total (rst s p) hz
        cases R with
        | ok k t q n v x sg z =>
          have hp := scan_rt (rst s p) (by rw [rst_size]; omega) hz _ hR
          obtain ⟨_, _, h3, h4, _⟩ := hp
          rw [rst_size] at h4
          obtain ⟨F, hF⟩ := ih (p + z) (acc ++ [tkAt s p k t q n v x sg]) (by omega) (by omega)
          exact ⟨F, .tok h hn hR hF⟩
        | er e => exact ⟨_, .bad h hn hR⟩
      | some o =>
        cases o with
        | none => exact ⟨_, .short h hn⟩
        | some n =>
          have hp := hop_pos hz hn
          rw [rst_size] at hp
          obtain ⟨F, hF⟩ := ih (p + n) acc (by omega) (by omega)
          exact ⟨F, .hop h hn hF⟩
    · obtain rfl : p = s.size := by omega
      exact ⟨_, .fin⟩
/-- what the next call of the reader meets -/
inductive Nx (s : ByteArray) (B : Nat) (acc : List Tk) (F : Fin) : Int → Prop
  | short (h : F = .bad ((plcT s B).1 : Nat) ((plcT s B).2 : Nat) 11) : Nx s B acc F 11
  | fin (hB : B = s.size) (h : F = .done (acc ++ [tkAt s s.size 0 ⟨#[]⟩ false 0 0 0 false])) : Nx s B acc F 0
  | tok {k : Int} {t : ByteArray} {q : Bool} {n v x : Int} {sg : Bool} {z : Nat} (hB : B < s.size) (hR : Rt (rst s B) (.ok k t q n v x sg z)) (r : Lx s (B + z) (acc ++ [tkAt s B k t q n v x sg]) F) : Nx s B acc F 0
  | bad {e : Int} (hB : B < s.size) (hR : Rt (rst s B) (.er e)) (h : F = .bad ((plcT s B).1 : Nat) ((plcT s B).2 : Nat) e) : Nx s B acc F 0
theorem lx_next {s : ByteArray} {p : Nat} {acc : List Tk} {F : Fin} (h : Lx s p acc F) : ∃ B E, Sk s p B E ∧ p ≤ B ∧ Nx s B acc F E := by
  induction h with
  | fin => exact ⟨_, _, .fin, Nat.le_refl _, .fin rfl rfl⟩
  | hop h hn r ih =>
    obtain ⟨B, E, h1, h2, h3⟩ := ih
    exact ⟨B, E, .go h hn h1, by omega, h3⟩
  | short h hn => exact ⟨_, _, .short h hn, Nat.le_refl _, .short rfl⟩
  | tok h hn hR r ih => exact ⟨_, _, .stop h hn, Nat.le_refl _, .tok h hR r⟩
  | bad h hn hR => exact ⟨_, _, .stop h hn, Nat.le_refl _, .bad h hR rfl⟩
theorem Lx.le {s : ByteArray} {p : Nat} {acc : List Tk} {F : Fin} (h : Lx s p acc F) : p ≤ s.size := by
  cases h with
  | fin => exact Nat.le_refl _
  | hop h => omega
  | short h => omega
  | tok h => omega
  | bad h => omega
end Go.Proofs.YtogmipbdnffegaaGreatDoor
