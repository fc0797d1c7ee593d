/- Tokens of a text that the makers have put together, and of one token alone; the example.
   The law on tokens with something between them. -/
import Derived.Test.YtogmipbdnffegaaGreatDoorMgLpB
import Derived.RegionTactic
import Derived.Deep.RegionHeld3
namespace Go.Proofs.YtogmipbdnffegaaGreatDoor
open Go Go.RowKit
set_option linter.unusedVariables false
/-- the pieces so far -/
structure PcOk (L : List ByteArray) (D : ByteArray → Td) (j : Nat) (P : List Pc) : Prop where
  len : P.length = j
  at_ : ∀ i (h : i < j) (h2 : i < L.length), ∃ sp, P[i]? = some (L[i].data.toList, D L[i], sp) ∧ Sep sp
theorem pc_nil (L : List ByteArray) (D : ByteArray → Td) : PcOk L D 0 [] := ⟨rfl, fun i h => absurd h (Nat.not_lt_zero i)⟩
theorem pc_next {L : List ByteArray} {D : ByteArray → Td} {j : Nat} {P : List Pc} (h : PcOk L D j P) (hj : j < L.length) (sp : List UInt8) (hs : Sep sp) : PcOk L D (j + 1) (P ++ [(L[j].data.toList, D L[j], sp)]) := by
  refine ⟨by rw [List.length_append, h.len]; rfl, fun i hi h2 => ?_⟩
  by_cases hij : i < j
  · obtain ⟨sp2, h3, h4⟩ := h.at_ i hij h2
    exact ⟨sp2, by rw [List.getElem?_append_left (by rw [h.len]; exact hij)]; exact h3, h4⟩
  · obtain rfl : i = j := by omega
    exact ⟨sp, by rw [List.getElem?_append_right (by rw [h.len]; exact Nat.le_refl _), h.len]; simp, hs⟩
theorem ptx_snoc (P : List Pc) (x : Pc) : ptx (P ++ [x]) = ptx P ++ (x.1 ++ x.2.2) := by unfold ptx; simp
theorem pc_all {L : List ByteArray} {D : ByteArray → Td} {P : List Pc} (h : PcOk L D L.length P) (hD : ∀ x ∈ L, Gd x.data.toList (D x)) : ∀ x ∈ P, Gd x.1 x.2.1 ∧ Sep x.2.2 := by
  intro x hx
  obtain ⟨i, hi, rfl⟩ := List.mem_iff_getElem.1 hx
  have hi2 : i < L.length := by rw [h.len] at hi; exact hi
  obtain ⟨sp, h1, h2⟩ := h.at_ i hi2 hi2
  rw [List.getElem?_eq_getElem hi] at h1
  injection h1 with h1
  rw [h1]
  exact ⟨hD _ (List.getElem_mem hi2), h2⟩
theorem toks_get (s : ByteArray) : ∀ (P : List Pc) (p i : Nat) (x : Pc), P[i]? = some x → (toks s p P)[i]? = some (x.2.1.at s (p + (ptx (P.take i)).length))
  | [], p, i, x, h => by simp at h
  | y :: P, p, 0, x, h => by
    simp at h
    subst h
    simp [toks, ptx]
  | y :: P, p, i + 1, x, h => by
    have ih := toks_get s P (p + y.1.length + y.2.2.length) i x (by simpa using h)
    have e : (ptx ((y :: P).take (i + 1))).length = y.1.length + y.2.2.length + (ptx (P.take i)).length := by simp [ptx, Nat.add_assoc]
    rw [e]
    show (toks s (p + y.1.length + y.2.2.length) P)[i]? = _
    rw [ih]
    congr 2
    omega
/-- a token in a row in memory -/
structure TA (w : World) (g o : Nat) (d : Td) (y x : Int) : Prop where
  c0 : w.cell? ⟨g, o, none⟩ = some (.int .i64 d.k)
  c1 : w.cell? ⟨g, o + 1, none⟩ = some (.int .i64 y)
  c2 : w.cell? ⟨g, o + 2, none⟩ = some (.int .i64 x)
  c3 : w.cell? ⟨g, o + 3, none⟩ = some (.string d.t)
  c4 : w.cell? ⟨g, o + 4, none⟩ = some (.bool d.q)
  c5 : w.cell? ⟨g, o + 5, none⟩ = some (.int .i64 d.n)
  c6 : w.cell? ⟨g, o + 6, none⟩ = some (.int .u64 d.v)
  c7 : w.cell? ⟨g, o + 7, none⟩ = some (.int .u64 d.x)
  c8 : w.cell? ⟨g, o + 8, none⟩ = some (.bool d.s)
theorem TA.below {w w' : World} {g o : Nat} {d : Td} {y x : Int} (h : TA w g o d y x) (hb : Below w.heap.size w w') : TA w' g o d y x := by
  have K : ∀ {g i : Nat} {v : Value}, w.cell? ⟨g, i, none⟩ = some v → w'.cell? ⟨g, i, none⟩ = some v := fun {g i v} hc => (hb.cell (p := ⟨g, i, none⟩) (World.block_lt_of_cell? w _ hc)).trans hc
  exact ⟨K h.c0, K h.c1, K h.c2, K h.c3, K h.c4, K h.c5, K h.c6, K h.c7, K h.c8⟩
theorem ta_of {w : World} {g i : Nat} {T : List Tk} {d : Td} {s : ByteArray} {p : Nat} (hi : i < T.length) (hc : ∀ j (hj : j < T.length) c, c < 9 → w.cell? ⟨g, j * 9 + c, none⟩ = (encT T[j])[c]?) (he : T[i] = d.at s p) : TA w g (i * 9) d ((plcT s p).1 : Nat) ((plcT s p).2 : Nat) := by
  have h := fun c hc9 => hc i hi c hc9
  rw [he] at h
  exact ⟨h 0 (by decide), h 1 (by decide), h 2 (by decide), h 3 (by decide), h 4 (by decide), h 5 (by decide), h 6 (by decide), h 7 (by decide), h 8 (by decide)⟩
/-- what Tokens answers of a text of pieces -/
def PtAns (W w' : World) (X : ByteArray) (L : List ByteArray) (D : ByteArray → Td) (P : List Pc) (n : Nat) (e : Ending) : Prop :=
  ∃ g c, e = .returned (.tuple #[.slice (some ⟨g, 0, none⟩) (n + 1) c, .int .i64 0, .int .i64 0, .int .i64 0]) ∧ n + 1 ≤ c ∧
    (∀ i (h : i < L.length), TA w' g (i * 9) (D L[i]) ((plcT X (ptx (P.take i)).length).1 : Nat) ((plcT X (ptx (P.take i)).length).2 : Nat)) ∧
    w'.cell? ⟨g, n * 9 + 1, none⟩ = some (.int .i64 ((plcT X X.size).1 : Nat)) ∧ w'.cell? ⟨g, n * 9 + 2, none⟩ = some (.int .i64 ((plcT X X.size).2 : Nat)) ∧ Below W.heap.size W w' ∧ W.heap.size ≤ g
theorem parts_tokens (X : ByteArray) (L : List ByteArray) (D : ByteArray → Td) (P : List Pc) (hX : X.data.toList = ptx P) (hP : PcOk L D L.length P) (hD : ∀ x ∈ L, Gd x.data.toList (D x)) (hs : X.size ≤ 2000) (n : Nat) (hn : L.length = n) (W : World) (hG : PG W) :
    Calls Tryz.prog 21 #[.string X] W fun e w' => PtAns W w' X L D P n e := by
  subst hn
  have hq : X = qbs (ptx P) := qbs_ext hX
  have hlx := lx_go P [] [] (pc_all hP hD)
  simp only [List.nil_append, List.length_nil] at hlx
  rw [← hq] at hlx
  refine (prog_tokens X hs _ hlx W hG).mono ?_
  rintro e w' ⟨⟨v, rfl, ho⟩, hb⟩
  have hl : (toks X 0 P ++ [tkAt X X.size 0 ⟨#[]⟩ false 0 0 0 false]).length = L.length + 1 := by rw [List.length_append, toks_len, hP.len]; rfl
  have hblk := ho.block
  obtain ⟨g, cap, rfl, hc, ha⟩ := ho.at (by rw [hl]; omega)
  have hge : W.heap.size ≤ g := (hblk g rfl).1
  rw [hl] at hc
  refine ⟨g, cap, by rw [hl], hc, fun i hi => ?_, ?_, ?_, hb, hge⟩
  · obtain ⟨sp, h1, h2⟩ := hP.at_ i hi hi
    have hg := toks_get X P 0 i _ h1
    have hi2 : i < (toks X 0 P).length := by rw [toks_len, hP.len]; exact hi
    rw [List.getElem?_eq_getElem hi2] at hg
    injection hg with hg
    have hget : (toks X 0 P ++ [tkAt X X.size 0 ⟨#[]⟩ false 0 0 0 false])[i]'(by rw [hl]; omega) = (D L[i]).at X (0 + (ptx (P.take i)).length) := by
      rw [List.getElem_append_left hi2]
      exact hg
    have := ta_of (by rw [hl]; omega) ha hget
    rw [Nat.zero_add] at this
    exact this
  · have h := ha L.length (by rw [hl]; omega) 1 (by decide)
    have hn : L.length = (toks X 0 P).length := by rw [toks_len, hP.len]
    rw [h]
    simp only [hn, List.getElem_append_right (Nat.le_refl _), Nat.sub_self, List.getElem_cons_zero]
    rfl
  · have h := ha L.length (by rw [hl]; omega) 2 (by decide)
    have hn : L.length = (toks X 0 P).length := by rw [toks_len, hP.len]
    rw [h]
    simp only [hn, List.getElem_append_right (Nat.le_refl _), Nat.sub_self, List.getElem_cons_zero]
    rfl
theorem alone_tokens (x : ByteArray) (d : Td) (hd : Gd x.data.toList d) (W : World) (hG : PG W) :
    Calls Tryz.prog 21 #[.string x] W fun e w' => ∃ g c y z, e = .returned (.tuple #[.slice (some ⟨g, 0, none⟩) 2 c, .int .i64 0, .int .i64 0, .int .i64 0]) ∧ 2 ≤ c ∧ TA w' g 0 d y z ∧ Below W.heap.size W w' := by
  have hq : x = qbs x.data.toList := (qbs_of x).symm
  have hsz : x.size ≤ 2000 := by have := hd.hi; rw [len_list] at this; omega
  have hlx := lx_alone x.data.toList d hd
  rw [← hq] at hlx
  refine (prog_tokens x hsz _ hlx W hG).mono ?_
  rintro e w' ⟨⟨v, rfl, ho⟩, hb⟩
  obtain ⟨g, cap, rfl, hc, ha⟩ := ho.at (show 1 ≤ 2 by decide)
  exact ⟨g, cap, _, _, rfl, hc, ta_of (i := 0) (T := [d.at x 0, tkAt x x.size 0 ⟨#[]⟩ false 0 0 0 false]) (show 0 < 2 by decide) ha rfl, hb⟩
set_option maxRecDepth 100000 in
set_option maxHeartbeats 4000000 in
theorem chopped_ok (w : World) (hG : PG w) : Calls Tryz.prog 18 #[] w fun e w' => e = .returned (.bool true) ∧ Below w.heap.size w w' := by
  have hP := prog_tokens chT (by decide) _ lx_ch w hG
  have hP2 : Calls Tryz.prog 21 #[.string ⟨#[97, 47, 42, 32, 42, 47, 98, 32, 47, 47, 32, 99, 10, 100]⟩] w fun e w' => ∃ g cap, e = .returned (.tuple #[.slice (some ⟨g, 0, none⟩) 4 cap, .int .i64 0, .int .i64 0, .int .i64 0]) ∧ 4 ≤ cap ∧ (∀ j (hj : j < chL.length) c, c < 9 → w'.cell? ⟨g, j * 9 + c, none⟩ = (encT chL[j])[c]?) ∧ Below w.heap.size w w' := by
    refine hP.mono ?_
    rintro e w' ⟨⟨v, rfl, ho⟩, hb⟩
    obtain ⟨g, cap, rfl, hc, ha⟩ := ho.at (by decide)
    exact ⟨g, cap, rfl, hc, ha, hb⟩
  have HP := Lib.hid hP2
  clear hP hP2 hG
  go_enter Tryz.func18, Tryz.ntmps18
  go_upto_region 2 with (go_at_call 21; refine HP.out.mono ?_; rintro e w1 ⟨g, cap, rfl, hc, ha, hb⟩)
  have a13 : w1.cell? ⟨g, 12, none⟩ = some (.string ⟨#[98]⟩) := ha 1 (by decide) 3 (by decide)
  have a21 : w1.cell? ⟨g, 19, none⟩ = some (.int .i64 2) := ha 2 (by decide) 1 (by decide)
  have a22 : w1.cell? ⟨g, 20, none⟩ = some (.int .i64 1) := ha 2 (by decide) 2 (by decide)
  clear ha HP
  go_wp2_with fail
  go_ret
  exact ⟨rfl, hb⟩
end Go.Proofs.YtogmipbdnffegaaGreatDoor
namespace Go.Proofs.YtogmipbdnffegaaGreatDoor
open Go Go.RowKit
set_option linter.unusedVariables false
theorem sl_below {a : Option Addr} {len : Nat} {w w' : World} (h : Sl a len w) (hb : Below w.heap.size w w') : Sl a len w' :=
  ⟨h.le, fun j hj => by
    obtain ⟨bl, off, z, h1, h2⟩ := h.el j hj
    exact ⟨bl, off, z, h1, (hb.cell (p := ⟨bl, off + j, none⟩) (World.block_lt_of_cell? w _ h2)).trans h2⟩⟩
theorem choose_td (L : List ByteArray) (h : ∀ x ∈ L, isGood x.data.toList) : ∃ D : ByteArray → Td, ∀ x ∈ L, Gd x.data.toList (D x) := by
  classical
  refine ⟨fun x => if h : isGood x.data.toList then Classical.choose h else ⟨0, ⟨#[]⟩, false, 0, 0, 0, false⟩, fun x hx => ?_⟩
  simp only [dif_pos (h x hx)]
  exact Classical.choose_spec (h x hx)
def sepB (i : Nat) : ByteArray := [⟨#[32]⟩, ⟨#[10]⟩, ⟨#[9]⟩, ⟨#[32, 47, 42, 32, 120, 32, 42, 47, 32]⟩, ⟨#[32, 47, 47, 32, 121, 10]⟩, ⟨#[10, 10]⟩].getD i ⟨#[]⟩
theorem sepB_ok (i : Nat) (h : i < 6) : Sep (sepB i).data.toList ∧ (sepB i).size ≤ 9 := by
  match i, h with
  | 0, _ => exact ⟨sep32, by decide⟩
  | 1, _ => exact ⟨sep10, by decide⟩
  | 2, _ => exact ⟨sep9, by decide⟩
  | 3, _ => exact ⟨sepR1, by decide⟩
  | 4, _ => exact ⟨sepR2, by decide⟩
  | 5, _ => exact ⟨sep1010, by decide⟩
/-- a text so far -/
structure PT (L : List ByteArray) (D : ByteArray → Td) (j : Nat) (P : List Pc) (X : ByteArray) : Prop where
  eq : X.data.toList = ptx P
  ok : PcOk L D j P
  sz : X.size ≤ 29 * j
theorem app_list (a b : ByteArray) : (a ++ b).data.toList = a.data.toList ++ b.data.toList := by simp [ByteArray.data_append]
theorem PT.next {L : List ByteArray} {D : ByteArray → Td} {j : Nat} {P : List Pc} {X : ByteArray} (h : PT L D j P X) (hD : ∀ x ∈ L, Gd x.data.toList (D x)) (hj : j < L.length) (s : ByteArray) (hs : Sep s.data.toList) (hz : s.size ≤ 9) : PT L D (j + 1) (P ++ [(L[j].data.toList, D L[j], s.data.toList)]) (X ++ (L[j] ++ s)) := by
  have hg := hD _ (List.getElem_mem hj)
  have hh := hg.hi
  rw [len_list] at hh
  refine ⟨?_, pc_next h.ok hj _ hs, ?_⟩
  · rw [app_list, app_list, ptx_snoc, h.eq]
  · rw [ByteArray.size_append, ByteArray.size_append]
    have := h.sz
    omega
theorem two_tk (W : World) (k l c : Int) (t : ByteArray) (g : Bool) (n v x : Int) (s : Bool) (k' l' c' : Int) (t' : ByteArray) (g' : Bool) (n' v' x' : Int) (s' : Bool) :
    TB (((W.alloc (.cells #[.int .i64 k, .int .i64 l, .int .i64 c, .string t, .bool g, .int .i64 n, .int .u64 v, .int .u64 x, .bool s] 42)).alloc (.cells #[.int .i64 k', .int .i64 l', .int .i64 c', .string t', .bool g', .int .i64 n', .int .u64 v', .int .u64 x', .bool s'] 42)).drew) W.heap.size k l c t g n v x s ∧
    TB (((W.alloc (.cells #[.int .i64 k, .int .i64 l, .int .i64 c, .string t, .bool g, .int .i64 n, .int .u64 v, .int .u64 x, .bool s] 42)).alloc (.cells #[.int .i64 k', .int .i64 l', .int .i64 c', .string t', .bool g', .int .i64 n', .int .u64 v', .int .u64 x', .bool s'] 42)).drew) (W.heap.size + 1) k' l' c' t' g' n' v' x' s' ∧
    Below W.heap.size W (((W.alloc (.cells #[.int .i64 k, .int .i64 l, .int .i64 c, .string t, .bool g, .int .i64 n, .int .u64 v, .int .u64 x, .bool s] 42)).alloc (.cells #[.int .i64 k', .int .i64 l', .int .i64 c', .string t', .bool g', .int .i64 n', .int .u64 v', .int .u64 x', .bool s'] 42)).drew) := by
  have h1 := TB.new W k l c t g n v x s
  have h2 := TB.new (W.alloc (.cells #[.int .i64 k, .int .i64 l, .int .i64 c, .string t, .bool g, .int .i64 n, .int .u64 v, .int .u64 x, .bool s] 42)) k' l' c' t' g' n' v' x' s'
  have e : (W.alloc (.cells #[.int .i64 k, .int .i64 l, .int .i64 c, .string t, .bool g, .int .i64 n, .int .u64 v, .int .u64 x, .bool s] 42)).heap.size = W.heap.size + 1 := by simp
  have b1 := ((Below.refl (W.alloc (.cells #[.int .i64 k, .int .i64 l, .int .i64 c, .string t, .bool g, .int .i64 n, .int .u64 v, .int .u64 x, .bool s] 42)).heap.size (W.alloc (.cells #[.int .i64 k, .int .i64 l, .int .i64 c, .string t, .bool g, .int .i64 n, .int .u64 v, .int .u64 x, .bool s] 42))).alloc (Nat.le_refl _) (.cells #[.int .i64 k', .int .i64 l', .int .i64 c', .string t', .bool g', .int .i64 n', .int .u64 v', .int .u64 x', .bool s'] 42)).drew
  have h3 := h2.below (Below.refl _ _).drew
  rw [e] at h3
  exact ⟨h1.below b1, h3, (((Below.refl _ _).alloc (Nat.le_refl _) _).alloc (by simp) _).drew⟩
theorem TB.oth {w : World} {p q : Nat} {k l c : Int} {t : ByteArray} {g : Bool} {n v x : Int} {s : Bool} (h : TB w p k l c t g n v x s) (hne : p ≠ q) (i : Nat) (u : Value) : TB (w.setCell ⟨q, i, none⟩ u) p k l c t g n v x s := by
  have K : ∀ {j : Nat} {y : Value}, w.cell? ⟨p, j, none⟩ = some y → (w.setCell ⟨q, i, none⟩ u).cell? ⟨p, j, none⟩ = some y := fun hc => (World.cell?_setCell_other _ _ _ _ (qne_blk (Ne.symm hne))).trans hc
  exact ⟨K h.c0, K h.c1, K h.c2, K h.c3, K h.c4, K h.c5, K h.c6, K h.c7, K h.c8, fun o => by rw [World.frozen?_setCell]; exact h.fz o⟩
theorem TB.z1 {w : World} {p : Nat} {k l c : Int} {t : ByteArray} {g : Bool} {n v x : Int} {s : Bool} (h : TB w p k l c t g n v x s) (l' : Int) : TB (w.setCell ⟨p, 1, none⟩ (.int .i64 l')) p k l' c t g n v x s := by
  have K : ∀ {j : Nat} {y : Value}, 1 ≠ j → w.cell? ⟨p, j, none⟩ = some y → (w.setCell ⟨p, 1, none⟩ (.int .i64 l')).cell? ⟨p, j, none⟩ = some y := fun hj hc => (World.cell?_setCell_other _ _ _ _ (qne_off hj)).trans hc
  exact ⟨K (by decide) h.c0, World.cell?_setCell_same _ _ _ h.c1, K (by decide) h.c2, K (by decide) h.c3, K (by decide) h.c4, K (by decide) h.c5, K (by decide) h.c6, K (by decide) h.c7, K (by decide) h.c8, fun o => by rw [World.frozen?_setCell]; exact h.fz o⟩
theorem TB.z2 {w : World} {p : Nat} {k l c : Int} {t : ByteArray} {g : Bool} {n v x : Int} {s : Bool} (h : TB w p k l c t g n v x s) (c' : Int) : TB (w.setCell ⟨p, 2, none⟩ (.int .i64 c')) p k l c' t g n v x s := by
  have K : ∀ {j : Nat} {y : Value}, 2 ≠ j → w.cell? ⟨p, j, none⟩ = some y → (w.setCell ⟨p, 2, none⟩ (.int .i64 c')).cell? ⟨p, j, none⟩ = some y := fun hj hc => (World.cell?_setCell_other _ _ _ _ (qne_off hj)).trans hc
  exact ⟨K (by decide) h.c0, K (by decide) h.c1, World.cell?_setCell_same _ _ _ h.c2, K (by decide) h.c3, K (by decide) h.c4, K (by decide) h.c5, K (by decide) h.c6, K (by decide) h.c7, K (by decide) h.c8, fun o => by rw [World.frozen?_setCell]; exact h.fz o⟩
set_option maxRecDepth 100000 in
set_option maxHeartbeats 16000000 in
theorem parts_any (a : Option Addr) (len cap : Nat) (w : World) (hS : Sl a len w) (hG : PG w) : Calls Tryz.prog 4 #[.slice a len cap] w fun e w' => e = .returned (.bool true) ∧ Below w.heap.size w w' := by
  have HS0 := Lib.hid hS
  have HG0 := Lib.hid hG
  clear hS hG
  go_enter Tryz.func4, Tryz.ntmps4
  go_upto_region 3 with (go_at_call 18; refine (chopped_ok _ HG0.out).mono ?_; rintro e w1 ⟨rfl, hb1⟩)
  have G1 := HG0.out.below hb1
  have S1 := sl_below HS0.out hb1
  have HB1 := Lib.hid hb1
  clear HS0 HG0 hb1
  obtain ⟨W2, hW2⟩ : ∃ W, W = w1.alloc (.cells #[.slice a len cap, .int .i64 0] 31) := ⟨_, rfl⟩
  have hStr := S1.str cap W2 hW2
  have hlow : Below w1.heap.size w1 W2 := by rw [hW2]; exact (Below.refl _ _).alloc (Nat.le_refl _) _
  go_upto_region 4 with fail
  rw [← hW2]
  clear hW2
  go_upto_region 5 with (go_at_call 19; refine (tokens_made a len cap 0 (by omega) w1 W2 G1 S1 hStr hlow).mono ?_; rintro e w3 ⟨v, L, k0, rfl, hk0, M0⟩)
  clear hStr hlow
  obtain ⟨ad, cp, rfl⟩ := os_slice M0.own
  obtain ⟨D, hD⟩ := choose_td L M0.good
  have hn30 := M0.ll
  obtain ⟨n, hn⟩ : ∃ n, L.length = n := ⟨_, rfl⟩
  rw [hn] at M0 hn30 ⊢
  have HN := Lib.hid hn
  have HD := Lib.hid hD
  have HM0 := Lib.hid M0
  have HG1 := Lib.hid G1
  clear hn hD M0 S1 G1
  have z32 : (ByteArray.mk #[32]).size = 1 := rfl
  go_upto_block 0 with fail
  go_cut [5, 6] (fun x y wx => ∃ (P Q : List Pc) (X Y : ByteArray) (k : Nat), x = .string X ∧ y = .string Y ∧ PT L D n P X ∧ PT L D n Q Y ∧ Mk w1 a len cap (.slice ad n cp) L 30 k wx)
  case first =>
    go_wp2_with fail
    go_loopw [5, 6, 34] (fun x y i wr => ∃ (j : Nat) (P Q : List Pc) (X Y : ByteArray) (k : Nat), j ≤ n ∧ i = .int .i64 (j : Int) ∧ x = .string X ∧ y = .string Y ∧ PT L D j P X ∧ PT L D j Q Y ∧ k ≤ 100 + j ∧ Mk w1 a len cap (.slice ad n cp) L 30 k wr) (fun _ _ i _ => n - (intOf i).toNat)
    case atStart => exact ⟨0, [], [], ⟨#[]⟩, ⟨#[]⟩, k0, Nat.zero_le _, rfl, rfl, rfl, ⟨rfl, pc_nil L D, by decide⟩, ⟨rfl, pc_nil L D, by decide⟩, by omega, HM0.out⟩
    case round =>
      obtain ⟨j, P, Q, X, Y, k, hj, rfl, rfl, rfl, TP, TQ, hk, M⟩ := hrel
      rename World => WR
      have hj0 : (0 : Int) ≤ (j : Int) := by omega
      by_cases hjn : j < n
      · have hji : (j : Int) < (n : Int) := by omega
        have hjL : j < L.length := by rw [HN.out]; exact hjn
        obtain ⟨g, cp2, hv, hcp, hrow⟩ := M.own.at (by omega)
        injection hv with hv1 hv2 hv3
        subst hv1
        have hc := hrow j hjL
        have hcap : n ≤ cp := by rw [hv3, ← HN.out]; exact hcp
        clear hv2 hv3 hrow hcp
        have hgx := (HD.out _ (List.getElem_mem hjL)).hi
        rw [len_list] at hgx
        have sX := TP.sz
        have sY := TQ.sz
        have HTP := Lib.hid (fun (s : ByteArray) (hs : Sep s.data.toList) (hz : s.size ≤ 9) => TP.next HD.out hjL s hs hz)
        have HTQ := Lib.hid (fun (s : ByteArray) (hs : Sep s.data.toList) (hz : s.size ≤ 9) => TQ.next HD.out hjL s hs hz)
        clear TP TQ
        generalize L[j] = x at *
        have M2 := M.below (W' := WR.alloc (Obj.cells #[.string ⟨#[32]⟩, .string ⟨#[10]⟩, .string ⟨#[9]⟩, .string ⟨#[32, 47, 42, 32, 120, 32, 42, 47, 32]⟩, .string ⟨#[32, 47, 47, 32, 121, 10]⟩, .string ⟨#[10, 10]⟩] 9)) ((Below.refl _ _).alloc (Nat.le_refl _) _)
        have l1 := M.lt
        have T1 : TxtRow (WR.alloc (Obj.cells #[.string ⟨#[32]⟩, .string ⟨#[10]⟩, .string ⟨#[9]⟩, .string ⟨#[32, 47, 42, 32, 120, 32, 42, 47, 32]⟩, .string ⟨#[32, 47, 47, 32, 121, 10]⟩, .string ⟨#[10, 10]⟩] 9)) WR.heap.size 6 sepB := fun i hi => by
          rw [World.cell?_alloc_new]
          match i, hi with
          | 0, _ => rfl
          | 1, _ => rfl
          | 2, _ => rfl
          | 3, _ => rfl
          | 4, _ => rfl
          | 5, _ => rfl
        clear M
        have hX' := (HTP.out ⟨#[32]⟩ sep32 (by decide)).sz
        go_wp2_with (go_at_call 20; refine (next_any w1.heap.size len cap a _ 6 (by omega) (by omega) (by omega) _ M2.str).mono ?_; rintro e w4 ⟨q, hq, rfl, A4⟩; replace T1 := T1.adv A4 l1; obtain ⟨k3, hk3, M3⟩ := M2.adv A4; clear A4 M2; have cq := T1 q (by omega); clear T1; have hq0 : (0 : Int) ≤ (q : Int) := (by omega); have hsq := sepB_ok q (by omega); have hsz := hsq.2; have HP2 := Lib.hid (HTP.out ⟨#[32]⟩ sep32 (by decide)); have HQ2 := Lib.hid (HTQ.out _ hsq.1 hsq.2); clear hsq HTP HTQ; generalize sepB q = sp at *; have HM3 := Lib.hid M3; clear M3)
        go_roundw
        case rel => exact ⟨j + 1, _, _, _, _, k3, by omega, by go_num, rfl, rfl, HP2.out, HQ2.out, by omega, HM3.out⟩
        case measure => simp [intOf] <;> omega
      · obtain rfl : j = n := by omega
        have HP2 := Lib.hid TP
        have HQ2 := Lib.hid TQ
        have HM3 := Lib.hid M
        clear TP TQ M
        go_wp2_with fail
        go_meet
        exact ⟨P, Q, X, Y, k, rfl, rfl, HP2.out, HQ2.out, HM3.out⟩
  case rest =>
  obtain ⟨P, Q, X, Y, k, rfl, rfl, TP, TQ, M⟩ := hcut
  rename World => W4
  have G4 := HG1.out.below M.low
  have sX := TP.sz
  have sY := TQ.sz
  have HPX := Lib.hid (show X.data.toList = ptx P ∧ PcOk L D L.length P from ⟨TP.eq, by rw [HN.out]; exact TP.ok⟩)
  have HQY := Lib.hid (show Y.data.toList = ptx Q ∧ PcOk L D L.length Q from ⟨TQ.eq, by rw [HN.out]; exact TQ.ok⟩)
  clear TP TQ HG1 HM0
  have HM := Lib.hid M
  clear M
  go_upto_region 13 with (go_at_call 21; refine (parts_tokens X L D P HPX.out.1 HPX.out.2 HD.out (by omega) n HN.out _ G4).mono ?_; rintro e w5 ⟨ga, ca, rfl, hca, hA, -, -, hb5, -⟩)
  have G5 := G4.below hb5
  go_upto_region 14 with (go_at_call 21; refine (parts_tokens Y L D Q HQY.out.1 HQY.out.2 HD.out (by omega) n HN.out _ G5).mono ?_; rintro e w6 ⟨gb, cb, rfl, hcb, hB, -, -, hb6, -⟩)
  have G6 := G5.below hb6
  have HA := Lib.hid (fun i (h : i < L.length) => (hA i h).below hb6)
  have HB := Lib.hid hB
  have b46 : Below W4.heap.size W4 w6 := hb5.trans (hb6.mono hb5.size)
  have HB46 := Lib.hid b46
  have HG6 := Lib.hid G6
  clear hA hB hb5 hb6 b46 G4 G5 G6 HPX HQY sX sY
  go_upto_region 16 with fail
  go_wp2_with fail
  go_loopw [89] (fun i wr => ∃ j : Nat, j ≤ n ∧ i = .int .i64 (j : Int) ∧ Hid (Below w6.heap.size w6 wr)) (fun i _ => n - (intOf i).toNat)
  case atStart => exact ⟨0, Nat.zero_le _, rfl, Lib.hid (Below.refl _ _)⟩
  case round =>
    obtain ⟨j, hj, rfl, hlo⟩ := hrel
    rename World => WR
    have hj0 : (0 : Int) ≤ (j : Int) := by omega
    by_cases hjn : j < n
    · have hji : (j : Int) < (n : Int) := by omega
      have hjL : j < L.length := by rw [HN.out]; exact hjn
      obtain ⟨g, cp2, hv, hcp, hrow⟩ := HM.out.own.at (by omega)
      injection hv with hv1 hv2 hv3
      subst hv1
      have hcap : n ≤ cp := by rw [hv3, ← HN.out]; exact hcp
      have hc := ((hlo.out.mono (Nat.le_refl _)).cell (p := ⟨g, j, none⟩) (Nat.lt_of_lt_of_le (World.block_lt_of_cell? _ _ (hrow j hjL)) HB46.out.size)).trans ((HB46.out.cell (p := ⟨g, j, none⟩) (World.block_lt_of_cell? _ _ (hrow j hjL))).trans (hrow j hjL))
      clear hv2 hv3 hrow hcp
      have TA1 := (HA.out j hjL).below hlo.out
      have TB1 := (HB.out j hjL).below hlo.out
      have GR := HG6.out.below hlo.out
      have HG := Lib.hid (HD.out _ (List.getElem_mem hjL))
      generalize L[j] = x at *
      obtain ⟨d, hd⟩ : ∃ d, D x = d := ⟨_, rfl⟩
      rw [hd] at TA1 TB1 HG
      clear hd
      generalize (((plcT X (ptx (P.take j)).length).1 : Nat) : Int) = y1 at *
      generalize (((plcT X (ptx (P.take j)).length).2 : Nat) : Int) = z1 at *
      generalize (((plcT Y (ptx (Q.take j)).length).1 : Nat) : Int) = y2 at *
      generalize (((plcT Y (ptx (Q.take j)).length).2 : Nat) : Int) = z2 at *
      have HAL := Lib.hid (fun (W : World) (hb : Below WR.heap.size WR W) => alone_tokens x d HG.out W (GR.below hb))
      obtain ⟨KK, T, QQ, NN, V, X2, SG⟩ := d
      obtain ⟨a0, a1, a2, a3, a4, a5, a6, a7, a8⟩ := TA1
      obtain ⟨b0, b1, b2, b3, b4, b5, b6, b7, b8⟩ := TB1
      have hga := World.block_lt_of_cell? WR _ a0
      have hgb := World.block_lt_of_cell? WR _ b0
      replace hga : ga < WR.heap.size := hga
      replace hgb : gb < WR.heap.size := hgb
      clear HG GR
      have hj1 : (j : Int) < (n : Int) + 1 := by omega
      go_upto_region 19 with fail
      go_cut [18, 19] (fun u v wx => ∃ p q : Nat, u = .pointer (some ⟨p, 0, none⟩) ∧ v = .pointer (some ⟨q, 0, none⟩) ∧ p ≠ q ∧ WR.heap.size ≤ p ∧ WR.heap.size ≤ q ∧ TB wx p KK y1 z1 T QQ NN V X2 SG ∧ TB wx q KK y2 z2 T QQ NN V X2 SG ∧ Below WR.heap.size WR wx)
      case first =>
        go_region_held3 (fun w' => w'.cell? ⟨ga, j * 9, none⟩ = some (.int .i64 KK) ∧ w'.cell? ⟨ga, j * 9 + 1, none⟩ = some (.int .i64 y1) ∧ w'.cell? ⟨ga, j * 9 + 2, none⟩ = some (.int .i64 z1) ∧ w'.cell? ⟨ga, j * 9 + 3, none⟩ = some (.string T) ∧ w'.cell? ⟨ga, j * 9 + 4, none⟩ = some (.bool QQ) ∧ w'.cell? ⟨ga, j * 9 + 5, none⟩ = some (.int .i64 NN) ∧ w'.cell? ⟨ga, j * 9 + 6, none⟩ = some (.int .u64 V) ∧ w'.cell? ⟨ga, j * 9 + 7, none⟩ = some (.int .u64 X2) ∧ w'.cell? ⟨ga, j * 9 + 8, none⟩ = some (.bool SG) ∧ w'.cell? ⟨gb, j * 9, none⟩ = some (.int .i64 KK) ∧ w'.cell? ⟨gb, j * 9 + 1, none⟩ = some (.int .i64 y2) ∧ w'.cell? ⟨gb, j * 9 + 2, none⟩ = some (.int .i64 z2) ∧ w'.cell? ⟨gb, j * 9 + 3, none⟩ = some (.string T) ∧ w'.cell? ⟨gb, j * 9 + 4, none⟩ = some (.bool QQ) ∧ w'.cell? ⟨gb, j * 9 + 5, none⟩ = some (.int .i64 NN) ∧ w'.cell? ⟨gb, j * 9 + 6, none⟩ = some (.int .u64 V) ∧ w'.cell? ⟨gb, j * 9 + 7, none⟩ = some (.int .u64 X2) ∧ w'.cell? ⟨gb, j * 9 + 8, none⟩ = some (.bool SG) ∧ WR.heap.size ≤ w'.heap.size) (refine ⟨?_, ?_, ?_, ?_, ?_, ?_, ?_, ?_, ?_, ?_, ?_, ?_, ?_, ?_, ?_, ?_, ?_, ?_, ?_⟩ <;> first | (go_keep; done) | (simp <;> omega)) (fail)
        all_goals (clear a0 a1 a2 a3 a4 a5 a6 a7 a8 b0 b1 b2 b3 b4 b5 b6 b7 b8)
        all_goals go_wp2_with fail
        all_goals go_meet
        all_goals first
          | exact ⟨WR.heap.size, WR.heap.size + 1, rfl, rfl, by omega, Nat.le_refl _, by omega, two_tk WR _ _ _ _ _ _ _ _ _ _ _ _ _ _ _ _ _ _⟩
          | exact ⟨WR.heap.size + 1, WR.heap.size, rfl, rfl, by omega, by omega, Nat.le_refl _, (two_tk WR _ _ _ _ _ _ _ _ _ _ _ _ _ _ _ _ _ _).2.1, (two_tk WR _ _ _ _ _ _ _ _ _ _ _ _ _ _ _ _ _ _).1, (two_tk WR _ _ _ _ _ _ _ _ _ _ _ _ _ _ _ _ _ _).2.2⟩
      case rest =>
      obtain ⟨p, q, rfl, rfl, hpq, hp, hq, T1, T2, hb⟩ := hcut
      rename World => W7
      have hqp := Ne.symm hpq
      have T3 := (((T1.z1 0).z2 0).oth hpq 1 (.int .i64 0)).oth hpq 2 (.int .i64 0)
      have T4 := (((T2.oth hqp 1 (.int .i64 0)).oth hqp 2 (.int .i64 0)).z1 0).z2 0
      have hb7 := (((hb.setCell (p := ⟨p, 1, none⟩) hp (.int .i64 0)).setCell (p := ⟨p, 2, none⟩) hp (.int .i64 0)).setCell (p := ⟨q, 1, none⟩) hq (.int .i64 0)).setCell (p := ⟨q, 2, none⟩) hq (.int .i64 0)
      have HT := Lib.hid (And.intro T3 (And.intro T4 hb7))
      obtain ⟨-, e1, e2, -, -, -, -, -, -, ef⟩ := T1
      obtain ⟨-, h1, h2, -, -, -, -, -, -, hf⟩ := T2
      clear T3 T4 hb7 a0 a1 a2 a3 a4 a5 a6 a7 a8 b0 b1 b2 b3 b4 b5 b6 b7 b8 hb
      go_upto_region 21 with fail
      generalize (((W7.setCell ⟨p, 1, none⟩ (.int .i64 0)).setCell ⟨p, 2, none⟩ (.int .i64 0)).setCell ⟨q, 1, none⟩ (.int .i64 0)).setCell ⟨q, 2, none⟩ (.int .i64 0) = W8 at HT ⊢
      clear e1 e2 ef h1 h2 hf
      obtain ⟨T5, T6, hb8⟩ := HT.out
      clear HT
      have hc8 := (hb8.cell (p := ⟨g, j, none⟩) (World.block_lt_of_cell? _ _ hc)).trans hc
      clear hc
      go_upto_region 22 with (go_at_call 21; refine (HAL.out _ hb8).mono ?_; rintro e w9 ⟨gz, cz, y3, z3, rfl, hcz, TZ, hb9⟩)
      have T7 := T5.below hb9
      have T8 := T6.below hb9
      clear T5 T6 hc8 HAL
      have HB9 := Lib.hid (hb8.trans (hb9.mono hb8.size))
      clear hb8 hb9
      have lp := T7.lt
      have lq := T8.lt
      obtain ⟨i0, i1, i2, i3, i4, i5, i6, i7, i8, ix⟩ := T7
      obtain ⟨k0', k1, k2, k3, k4, k5, k6, k7, k8, kx⟩ := T8
      obtain ⟨m0, m1, m2, m3, m4, m5, m6, m7, m8⟩ := TZ
      simp only [Nat.zero_add] at m1 m2 m3 m4 m5 m6 m7 m8
      clear ix kx
      go_upto_region 24 with fail
      clear k0' k1 k2 k3 k4 k5 k6 k7 k8
      go_wp2_with fail
      go_roundw
      case rel =>
        have b9 := hlo.out.trans (HB9.out.mono hlo.out.size)
        exact ⟨j + 1, by omega, by go_num, Lib.hid (b9.alloc b9.size _)⟩
      case measure => simp [intOf] <;> omega
    · obtain rfl : j = n := by omega
      go_wp2_with fail
      go_ret
      exact ⟨rfl, ((HB1.out.trans (HM.out.low.mono HB1.out.size)).trans (HB46.out.mono (Nat.le_trans HB1.out.size HM.out.low.size))).trans (hlo.out.mono (Nat.le_trans (Nat.le_trans HB1.out.size HM.out.low.size) HB46.out.size))⟩
end Go.Proofs.YtogmipbdnffegaaGreatDoor
