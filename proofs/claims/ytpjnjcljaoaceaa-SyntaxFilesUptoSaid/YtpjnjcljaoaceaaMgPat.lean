/- A text divided at blanks: the reference's Split; any text.
   The table of the reference: its words. No program here but its constant.
   Rows of forms: what the reference's table holds. -/
import Derived.Test.YtpjnjcljaoaceaaSyMtW
import Derived.Test.YtpjnjcljaoaceaaMgStr
import Derived.Lib.BufferRead
import Derived.Deep.RegionLaw
import Derived.LoopTactic
import Derived.Laws.AppendOwn
import Derived.Test.YtpjnjcljaoaceaaSyForm
namespace Go.Proofs.Ytpjnjcljaoaceaa
open Go Go.RowKit
set_option linter.unusedVariables false
/-- the words so far, and where the next one begins -/
def spS (s : ByteArray) : Nat → List ByteArray × Nat
  | 0 => ([], 0)
  | i + 1 => if i = s.size ∨ gb s i = 32 then (if (spS s i).2 < i then (spS s i).1 ++ [s.extract (spS s i).2 i] else (spS s i).1, i + 1) else spS s i
theorem spS_le (s : ByteArray) : ∀ i, (spS s i).2 ≤ i ∧ (spS s i).1.length ≤ i
  | 0 => ⟨Nat.le_refl _, Nat.le_refl _⟩
  | i + 1 => by
    have h := spS_le s i
    unfold spS
    split
    · split
      · simp; omega
      · simp; omega
    · omega
def OS (B : Nat) (w : World) (v : Value) (l : List ByteArray) : Prop := w.ownsRow B 9 1 v l.length (l.map Value.string)
theorem OS.below {w w' : World} {B : Nat} {v : Value} {l : List ByteArray} (h : OS B w v l) (hb : Below w.heap.size w w') : OS B w' v l :=
  World.ownsRow.kept (row := none) h ⟨hb.os, hb.tape, hb.output, hb.size, fun k hk _ => hb.block k hk⟩ (by cases v.ownBlock <;> simp)
theorem OS.at {B : Nat} {w : World} {v : Value} {l : List ByteArray} (h : OS B w v l) (hl : 1 ≤ l.length) : ∃ g cap, v = .slice (some ⟨g, 0, none⟩) l.length cap ∧ l.length ≤ cap ∧ ∀ j (hj : j < l.length), w.cell? ⟨g, j, none⟩ = some (.string l[j]) := by
  have hh := h
  rcases h.2 with ⟨_, h0⟩ | ⟨g, cap, cur, hv, hb, hg, hc, _⟩
  · omega
  · subst hv
    refine ⟨g, cap, rfl, hc, fun j hj => ?_⟩
    have := World.ownsRow.cellAt hh j (by omega)
    rw [this]
    simp [List.getElem?_eq_getElem hj]
theorem infoS : (Try.prog.info? 9).map (fun i => (i.zero, i.size, i.bytes)) = some (some (.string ⟨#[]⟩), 1, 16) := by kernel_rfl
theorem infoS_parts : ∃ i, Try.prog.info? 9 = some i ∧ i.zero = some (.string ⟨#[]⟩) ∧ i.size = 1 ∧ i.bytes = 16 := by
  have h := infoS
  cases hi : Try.prog.info? 9 with
  | none => rw [hi] at h; cases h
  | some i =>
    rw [hi] at h
    simp only [Option.map_some, Option.some.injEq, Prod.mk.injEq] at h
    exact ⟨i, rfl, h.1, h.2.1, h.2.2⟩
set_option maxRecDepth 100000 in
set_option maxHeartbeats 2000000 in
theorem split_any (s : ByteArray) (hs : s.size ≤ 1000000) (L : List ByteArray) (HL : Hid ((spS s (s.size + 1)).1 = L)) (w : World) :
    Calls Try.prog 20 #[.string s] w fun e w' => ∃ v, e = .returned v ∧ OS w.heap.size w' v L ∧ Below w.heap.size w w' := by
  obtain ⟨i0, hi, hz0, hz1, hz2⟩ := infoS_parts
  go_enter Try.func20, Try.ntmps20
  go_wp2_with fail
  go_loopw [3, 4, 5] (fun u f i wr => ∃ (k F : Nat) (l : List ByteArray), k ≤ s.size + 1 ∧ F ≤ k ∧ l.length ≤ k ∧ i = .int .i64 (k : Int) ∧ f = .int .i64 (F : Int) ∧ Hid (spS s k = (l, F)) ∧ Hid (OS w.heap.size wr u l) ∧ Below w.heap.size w wr) (fun _ _ i _ => s.size + 1 - (intOf i).toNat)
  case atStart => exact ⟨0, 0, [], Nat.zero_le _, Nat.le_refl _, Nat.le_refl _, rfl, rfl, Lib.hid rfl, Lib.hid (World.ownsRow_nil _ _ _ _), Below.refl _ _⟩
  case round =>
    obtain ⟨k, F, l, hk, hF, hll, rfl, rfl, hd, hown, hlo⟩ := hrel
    rename World => WR
    have hk0 : (0 : Int) ≤ (k : Int) := by omega
    have hF0 : (0 : Int) ≤ (F : Int) := by omega
    have hFk : (F : Int) ≤ (k : Int) := by omega
    by_cases hlt : k ≤ s.size
    · have hks : (k : Int) ≤ (s.size : Int) := by omega
      by_cases hb : k = s.size ∨ gb s k = 32
      · by_cases hf : F < k
        · have HD : Hid (spS s (k + 1) = (l ++ [s.extract F k], k + 1)) := Lib.hid (by
            show (if k = s.size ∨ gb s k = 32 then _ else _) = _
            rw [if_pos hb, hd.out, if_pos hf])
          have hfi : (F : Int) < (k : Int) := by omega
          have hown' := hown.out
          clear hd hown
          have HO := Lib.hid hown'
          clear hown'
          by_cases he : k = s.size
          · have hei : ((k : Int) == (s.size : Int)) = true := by rw [he]; simp
            clear he hb
            go_upto_region 8 with fail
            go_wp2_with (at_builtin; refine wpList_append_own _ rfl _ _ 49 rfl w.heap.size 9 i0 (.string ⟨#[]⟩) 1 16 Try.underlying49 hi hz0 hz1 hz2 rfl (by decide) _ _ _ rfl (World.ownsRow.alloc (show WR.ownsRow w.heap.size 9 1 _ l.length (l.map Value.string) from HO.out) _) ⟨WR.heap.size, 0, none⟩ 1 1 [.string (s.extract F k)] rfl rfl ?d1 ?d2 ?d3 ?d4 ?d5 ?_)
            try case d1 =>
              intro q u hq
              match q, hq with
              | 0, hq => simp at hq; subst hq; simp [Addr.add]
            case d2 => first | (intro u hu; simp at hu; subst hu; rfl) | rfl
            case d3 => unfold maxLen; omega
            case d4 => omega
            case d5 => have := hlo.size; simp; omega
            intro v5 w5 hown5 hgr5 _
            have hown6 : OS w.heap.size w5 v5 (l ++ [s.extract F k]) := by
              unfold OS
              simpa using hown5
            have hlo6 : Below w.heap.size w w5 := (hlo.alloc hlo.size _).grown hgr5 (by have := hlo.size; simp; omega) (fun q hq => ((show WR.ownsRow w.heap.size 9 1 _ l.length (l.map Value.string) from HO.out).lt q hq).1)
            clear hown5 hgr5 HO
            have HO6 := Lib.hid hown6
            clear hown6
            go_wp2_with fail
            go_roundw
            case rel => exact ⟨k + 1, k + 1, l ++ [s.extract F k], by omega, by omega, by simp; omega, by go_num, by go_num, HD, HO6, hlo6⟩
            case measure => simp [intOf] <;> omega
          · have hei : ((k : Int) == (s.size : Int)) = false := beq_eq_false_iff_ne.2 (by omega)
            have hk1 : (k : Int) < (s.size : Int) := by omega
            have hk2 : k < s.size := by omega
            have hat : s[k].toNat = 32 := (gb_at s k hk2).trans (hb.resolve_left he)
            clear he hb
            go_upto_region 8 with fail
            go_wp2_with (at_builtin; refine wpList_append_own _ rfl _ _ 49 rfl w.heap.size 9 i0 (.string ⟨#[]⟩) 1 16 Try.underlying49 hi hz0 hz1 hz2 rfl (by decide) _ _ _ rfl (World.ownsRow.alloc (show WR.ownsRow w.heap.size 9 1 _ l.length (l.map Value.string) from HO.out) _) ⟨WR.heap.size, 0, none⟩ 1 1 [.string (s.extract F k)] rfl rfl ?d1 ?d2 ?d3 ?d4 ?d5 ?_)
            try case d1 =>
              intro q u hq
              match q, hq with
              | 0, hq => simp at hq; subst hq; simp [Addr.add]
            case d2 => first | (intro u hu; simp at hu; subst hu; rfl) | rfl
            case d3 => unfold maxLen; omega
            case d4 => omega
            case d5 => have := hlo.size; simp; omega
            intro v5 w5 hown5 hgr5 _
            have hown6 : OS w.heap.size w5 v5 (l ++ [s.extract F k]) := by
              unfold OS
              simpa using hown5
            have hlo6 : Below w.heap.size w w5 := (hlo.alloc hlo.size _).grown hgr5 (by have := hlo.size; simp; omega) (fun q hq => ((show WR.ownsRow w.heap.size 9 1 _ l.length (l.map Value.string) from HO.out).lt q hq).1)
            clear hown5 hgr5 HO
            have HO6 := Lib.hid hown6
            clear hown6
            go_wp2_with fail
            go_roundw
            case rel => exact ⟨k + 1, k + 1, l ++ [s.extract F k], by omega, by omega, by simp; omega, by go_num, by go_num, HD, HO6, hlo6⟩
            case measure => simp [intOf] <;> omega
        · have HD : Hid (spS s (k + 1) = (l, k + 1)) := Lib.hid (by
            show (if k = s.size ∨ gb s k = 32 then _ else _) = _
            rw [if_pos hb, hd.out, if_neg hf])
          have hfi : ¬ ((F : Int) < (k : Int)) := by omega
          by_cases he : k = s.size
          · have hei : ((k : Int) == (s.size : Int)) = true := by rw [he]; simp
            go_wp2_with fail
            go_roundw
            case rel => exact ⟨k + 1, k + 1, l, by omega, by omega, by omega, by go_num, by go_num, HD, hown, hlo⟩
            case measure => simp [intOf] <;> omega
          · have hei : ((k : Int) == (s.size : Int)) = false := beq_eq_false_iff_ne.2 (by omega)
            have hk1 : (k : Int) < (s.size : Int) := by omega
            have hk2 : k < s.size := by omega
            have hat : s[k].toNat = 32 := (gb_at s k hk2).trans (hb.resolve_left he)
            go_wp2_with fail
            go_roundw
            case rel => exact ⟨k + 1, k + 1, l, by omega, by omega, by omega, by go_num, by go_num, HD, hown, hlo⟩
            case measure => simp [intOf] <;> omega
      · have HD : Hid (spS s (k + 1) = (l, F)) := Lib.hid (by
          show (if k = s.size ∨ gb s k = 32 then _ else _) = _
          rw [if_neg hb, hd.out])
        have he : k ≠ s.size := fun e => hb (.inl e)
        have hei : ((k : Int) == (s.size : Int)) = false := beq_eq_false_iff_ne.2 (by omega)
        have hk1 : (k : Int) < (s.size : Int) := by omega
        have hk2 : k < s.size := by omega
        have hat : ((s[k].toNat : Int) == 32) = false := beq_eq_false_iff_ne.2 (by rw [gb_at s k hk2]; have : gb s k ≠ 32 := fun e => hb (.inr e); omega)
        go_wp2_with fail
        go_roundw
        case rel => exact ⟨k + 1, F, l, by omega, by omega, by omega, by go_num, by first | rfl | go_num, HD, hown, hlo⟩
        case measure => simp [intOf] <;> omega
    · obtain rfl : k = s.size + 1 := by omega
      have hks : ¬ ((s.size + 1 : Nat) : Int) ≤ (s.size : Int) := by omega
      have hLl : l = L := by have := hd.out; rw [← HL.out, this]
      subst hLl
      clear hd HL
      have hks2 : ¬ ((s.size : Int) + 1 ≤ (s.size : Int)) := by omega
      go_wp2_with fail
      go_ret
      exact ⟨_, rfl, hown.out, hlo⟩
end Go.Proofs.Ytpjnjcljaoaceaa
namespace Go.Proofs.Ytpjnjcljaoaceaa
open Go Go.RowKit
set_option linter.unusedVariables false
def patT : ByteArray := ⟨((((([45, 32, 45, 32, 45, 32, 47, 32, 70, 32, 73, 42, 32, 45, 32, 47, 32, 73, 32, 112, 113, 98, 32, 78, 32, 47, 32, 73, 32, 112, 105, 32, 78, 32, 47].append [32, 112, 32, 80, 42, 32, 45, 32, 47, 32, 80, 32, 69, 32, 78, 32, 47, 32, 113, 32, 81, 42, 32, 45, 32, 47, 32, 81, 32, 84, 32, 78, 32, 47, 32, 81]).append ([32, 84, 32, 78, 32, 47, 32, 81, 32, 84, 69, 63, 32, 78, 32, 47, 32, 81, 32, 110, 110, 32, 78, 32, 47, 32, 98, 32, 77, 42, 32, 45, 32, 47, 32, 105].append [32, 86, 42, 32, 45, 32, 47, 32, 110, 32, 45, 32, 78, 32, 47, 32, 84, 32, 82, 63, 32, 83, 32, 47, 32, 84, 32, 45, 32, 78, 32, 47, 32, 82, 32, 69])).append (([69, 32, 45, 32, 47, 32, 77, 86, 32, 84, 68, 43, 32, 45, 32, 47, 32, 77, 118, 32, 84, 68, 43, 32, 45, 32, 47, 32, 68, 32, 82, 63, 69, 63, 32, 78].append [32, 47, 32, 73, 77, 32, 69, 32, 78, 32, 47, 32, 73, 77, 32, 82, 109, 43, 32, 78, 32, 47, 32, 109, 32, 69, 63, 32, 78, 32, 47, 32, 73, 77, 32, 102]).append ([43, 32, 78, 32, 47, 32, 102, 32, 84, 32, 78, 32, 47, 32, 86, 32, 100, 43, 32, 78, 32, 47, 32, 100, 32, 45, 32, 78, 32, 47, 32, 100, 32, 45, 32, 78].append [32, 47, 32, 73, 77, 32, 84, 97, 104, 32, 78, 32, 47, 32, 97, 32, 103, 42, 32, 45, 32, 47, 32, 103, 32, 84, 32, 78, 32, 47, 32, 104, 32, 118, 42, 83]))).append ((([42, 32, 45, 32, 47, 32, 77, 32, 116, 69, 32, 45, 32, 47, 32, 77, 32, 83, 32, 45, 32, 47, 32, 77, 32, 101, 83, 32, 45, 32, 47, 32, 77, 32, 83].append [32, 45, 32, 47, 32, 77, 32, 83, 32, 45, 32, 47, 32, 101, 32, 71, 43, 32, 45, 32, 47, 32, 71, 32, 116, 32, 45, 32, 47, 32, 71, 32, 116, 32, 45, 32]).append ([47, 32, 71, 32, 116, 32, 45, 32, 47, 32, 77, 32, 110, 120, 120, 32, 78, 32, 47, 32, 77, 32, 110, 120, 32, 78, 32, 47, 32, 120, 32, 66, 42, 32, 45, 32].append [47, 32, 66, 32, 69, 32, 78, 32, 47, 32, 77, 32, 110, 69, 69, 98, 32, 78, 32, 47, 32, 77, 119, 32, 69, 98, 119, 63, 32, 78, 32, 47, 32, 119, 32, 98])).append (([32, 78, 32, 47, 32, 77, 32, 116, 88, 88, 32, 78, 32, 47, 32, 77, 32, 116, 88, 88, 32, 78, 32, 47, 32, 88, 32, 69, 32, 45, 32, 47, 32, 88, 32, 88].append [69, 117, 63, 88, 32, 45, 32, 47, 32, 88, 32, 88, 88, 43, 32, 45, 32, 47, 32, 88, 32, 88, 88, 32, 45, 32, 47, 32, 88, 32, 88, 69, 117, 63, 32, 45]).append ([32, 47, 32, 117, 32, 45, 32, 45, 32, 47, 32, 83, 32, 83, 42, 32, 45, 32, 47, 32, 83, 32, 69, 83, 83, 63, 32, 45, 32, 47, 32, 83, 32, 69, 67, 42].append [32, 45, 32, 47, 32, 83, 32, 69, 67, 42, 32, 45, 32, 47, 32, 83, 32, 69, 67, 42, 32, 45, 32, 47, 32, 67, 32, 69, 42, 83, 32, 45, 32, 47, 32, 83])))).append (((([32, 69, 83, 32, 45, 32, 47, 32, 83, 32, 69, 83, 32, 45, 32, 47, 32, 83, 32, 69, 69, 83, 32, 78, 32, 47, 32, 83, 32, 69, 69, 83, 32, 78, 32].append [47, 32, 83, 32, 116, 69, 69, 63, 32, 45, 32, 47, 32, 83, 32, 116, 69, 69, 63, 32, 45, 32, 47, 32, 83, 32, 69, 32, 45, 32, 47, 32, 83, 32, 101, 32]).append ([45, 32, 47, 32, 83, 32, 69, 32, 45, 32, 47, 32, 83, 32, 69, 42, 32, 88, 32, 47, 32, 83, 32, 69, 42, 32, 88, 32, 47, 32, 83, 32, 69, 42, 32, 88].append [32, 47, 32, 83, 32, 69, 42, 32, 88, 32, 47, 32, 83, 32, 69, 32, 88, 32, 47, 32, 83, 32, 45, 32, 45, 32, 47, 32, 83, 32, 45, 32, 45, 32, 47, 32])).append (([69, 117, 32, 45, 32, 86, 32, 47, 32, 69, 117, 116, 32, 45, 32, 78, 32, 47, 32, 69, 117, 116, 32, 69, 32, 78, 32, 47, 32, 69, 117, 116, 32, 69, 69, 32].append [45, 32, 47, 32, 69, 117, 116, 32, 69, 69, 69, 32, 45, 32, 47, 32, 69, 117, 116, 32, 69, 69, 69, 32, 45, 32, 47, 32, 69, 117, 32, 69, 42, 32, 78, 32]).append ([47, 32, 69, 117, 32, 69, 32, 45, 32, 47, 32, 69, 117, 32, 69, 32, 45, 32, 47, 32, 69, 117, 32, 69, 32, 45, 32, 47, 32, 69, 117, 32, 69, 32, 45, 32].append [47, 32, 69, 117, 32, 69, 32, 45, 32, 47, 32, 69, 117, 32, 69, 32, 45, 32, 47, 32, 69, 117, 32, 69, 32, 45, 32, 47, 32, 69, 117, 32, 69, 69, 32, 45]))).append ((([32, 47, 32, 69, 117, 32, 69, 69, 32, 45, 32, 47, 32, 69, 117, 32, 69, 69, 32, 45, 32, 47, 32, 69, 117, 32, 69, 69, 32, 45, 32, 47, 32, 69, 117].append [32, 69, 69, 32, 45, 32, 47, 32, 69, 117, 32, 69, 69, 32, 45, 32, 47, 32, 69, 117, 32, 69, 69, 32, 45, 32, 47, 32, 69, 117, 32, 69, 69, 32, 45, 32]).append ([47, 32, 69, 117, 32, 69, 69, 32, 45, 32, 47, 32, 69, 117, 32, 69, 69, 32, 45, 32, 47, 32, 69, 117, 32, 69, 69, 32, 45, 32, 47, 32, 69, 117, 32, 69].append [69, 32, 45, 32, 47, 32, 69, 117, 32, 69, 69, 32, 45, 32, 47, 32, 69, 117, 32, 69, 69, 32, 45, 32, 47, 32, 69, 117, 32, 69, 69, 32, 45, 32, 47, 32])).append (([69, 117, 32, 69, 69, 32, 45, 32, 47, 32, 69, 117, 32, 69, 69, 32, 45, 32, 47, 32, 69, 117, 32, 69, 69, 32, 45, 32, 47, 32, 69, 117, 32, 69, 69, 32].append [45, 32, 47, 32, 69, 117, 32, 69, 69, 32, 45, 32, 47, 32, 69, 117, 32, 69, 69, 32, 45, 32, 47, 32, 69, 117, 32, 69, 69, 69, 32, 45, 32, 47, 32, 69]).append ([117, 116, 32, 69, 43, 32, 45, 32, 47, 32, 69, 117, 32, 69, 69, 32, 45, 32, 47, 32, 69, 117, 32, 69, 32, 45, 32, 47, 32, 69, 117, 32, 69, 32, 45, 32].append [47, 32, 69, 117, 32, 69, 69, 32, 45, 32, 47, 32, 69, 117, 32, 69, 32, 45, 32, 47, 32, 69, 117, 32, 69, 32, 45, 32, 47, 32, 69, 117, 32, 45, 32, 45]))))).toArray⟩
/-- the words of a row, and the sign behind them -/
def patL : List (List UInt8) := (formL.flatMap fun r => [if r.1 = [] then [45] else r.1, if r.2.1 = [] then [45] else r.2.1, if r.2.2 = [] then [45] else r.2.2, [47]]).dropLast
theorem patT_size : patT.size = 1148 := by kernel_rfl
/-- the words of a text, one byte after the other -/
def wsL : List UInt8 → List UInt8 → List (List UInt8)
  | cur, [] => if cur = [] then [] else [cur]
  | cur, c :: r => if c = 32 then (if cur = [] then wsL [] r else cur :: wsL [] r) else wsL (cur ++ [c]) r
theorem wsL_next (cur : List UInt8) (c : UInt8) (r : List UInt8) (h : ¬ c = 32) : wsL cur (c :: r) = wsL (cur ++ [c]) r := by rw [wsL, if_neg h]
theorem gbL_get (s : ByteArray) (k : Nat) (h : k < s.data.toList.length) : gb s k = s.data.toList[k].toNat := by
  unfold gb
  have h' : k < s.data.size := by simpa using h
  rw [getElem!_pos s.data k h']
  simp
theorem ext_list (s : ByteArray) (F k : Nat) : (s.extract F k).data.toList = (s.data.toList.take k).drop F := by
  rw [ByteArray.data_extract, List.drop_take]
  simp
theorem spS_ws (s : ByteArray) : ∀ k, k ≤ s.size → (spS s k).1.map (·.data.toList) ++ wsL ((s.data.toList.take k).drop (spS s k).2) (s.data.toList.drop k) = wsL [] s.data.toList
  | 0, _ => by simp [spS]
  | k + 1, h => by
    have ih := spS_ws s k (by omega)
    have hF := (spS_le s k).1
    have hk : k < s.data.toList.length := by have : s.data.toList.length = s.size := Array.length_toList
                                             omega
    have hg := gbL_get s k hk
    have hne : ¬ k = s.size := by omega
    have hd : s.data.toList.drop k = s.data.toList[k] :: s.data.toList.drop (k + 1) := List.drop_eq_getElem_cons hk
    have ht : s.data.toList.take (k + 1) = s.data.toList.take k ++ [s.data.toList[k]] := by rw [List.take_succ_eq_append_getElem hk]
    rw [hd] at ih
    by_cases h32 : s.data.toList[k] = 32
    · have hgb : gb s k = 32 := by rw [hg, h32]; rfl
      have hc : k = s.size ∨ gb s k = 32 := .inr hgb
      by_cases hf : (spS s k).2 < k
      · have e : spS s (k + 1) = ((spS s k).1 ++ [s.extract (spS s k).2 k], k + 1) := by
          show (if k = s.size ∨ gb s k = 32 then _ else _) = _
          rw [if_pos hc, if_pos hf]
        have hcur : (s.data.toList.take k).drop (spS s k).2 ≠ [] := by
          intro e0
          have := congrArg List.length e0
          simp at this
          omega
        have hz : (s.data.toList.take (k + 1)).drop (k + 1) = [] := by apply List.drop_eq_nil_of_le; simp; omega
        rw [e]
        simp only
        rw [hz, ← ih]
        simp only [List.map_append, List.map_cons, List.map_nil, List.append_assoc, ext_list]
        rw [wsL, if_pos h32, if_neg hcur]
        simp
      · have e : spS s (k + 1) = ((spS s k).1, k + 1) := by
          show (if k = s.size ∨ gb s k = 32 then _ else _) = _
          rw [if_pos hc, if_neg hf]
        have hcur : (s.data.toList.take k).drop (spS s k).2 = [] := by apply List.drop_eq_nil_of_le; simp; omega
        have hz : (s.data.toList.take (k + 1)).drop (k + 1) = [] := by apply List.drop_eq_nil_of_le; simp; omega
        rw [e]
        simp only
        rw [hz, ← ih, hcur, wsL, if_pos h32, if_pos rfl]
    · have hgb : ¬ gb s k = 32 := by
        rw [hg]
        intro e
        exact h32 (UInt8.toNat_inj.1 e)
      have e : spS s (k + 1) = spS s k := by
        show (if k = s.size ∨ gb s k = 32 then _ else _) = _
        rw [if_neg (by rintro (e | e); exact hne e; exact hgb e)]
      rw [e, ← ih, ht, List.drop_append_of_le_length (by simp; omega), wsL_next _ _ _ h32]
theorem spS_all (s : ByteArray) : (spS s (s.size + 1)).1.map (·.data.toList) = wsL [] s.data.toList := by
  have ih := spS_ws s s.size (Nat.le_refl _)
  have hF := (spS_le s s.size).1
  have hl : s.data.toList.length = s.size := Array.length_toList
  rw [show s.data.toList.drop s.size = [] from List.drop_eq_nil_of_le (by omega), show s.data.toList.take s.size = s.data.toList from List.take_of_length_le (by omega)] at ih
  have e : spS s (s.size + 1) = (if (spS s s.size).2 < s.size then (spS s s.size).1 ++ [s.extract (spS s s.size).2 s.size] else (spS s s.size).1, s.size + 1) := by
    show (if s.size = s.size ∨ gb s s.size = 32 then _ else _) = _
    rw [if_pos (.inl rfl)]
  rw [e, ← ih]
  simp only
  split
  · rename_i hf
    have hcur : s.data.toList.drop (spS s s.size).2 ≠ [] := by
      intro e0
      have := congrArg List.length e0
      simp at this
      omega
    rw [wsL, if_neg hcur]
    simp only [List.map_append, List.map_cons, List.map_nil, ext_list]
    rw [List.take_of_length_le (by omega)]
  · rename_i hf
    have hcur : s.data.toList.drop (spS s s.size).2 = [] := List.drop_eq_nil_of_le (by omega)
    rw [wsL, if_pos hcur]
    simp
set_option maxRecDepth 1000000 in
theorem pat_ws : wsL [] patT.data.toList = patL := by decide +kernel
theorem pat_split : (spS patT (patT.size + 1)).1.map (·.data.toList) = patL := by rw [spS_all, pat_ws]
/-- the words, as texts -/
theorem list_bytes : ∀ (a : List ByteArray) (b : List (List UInt8)), a.map (·.data.toList) = b → a = b.map bs
  | [], b, h => by simp at h; subst h; rfl
  | x :: a, [], h => by simp at h
  | x :: a, y :: b, h => by
    simp only [List.map_cons, List.cons.injEq] at h
    rw [List.map_cons, ← list_bytes a b h.2]
    congr 1
    obtain ⟨x⟩ := x
    have := h.1
    simp only at this
    subst this
    simp [bs]
theorem pat_words : (spS patT (patT.size + 1)).1 = patL.map bs := list_bytes _ _ pat_split
end Go.Proofs.Ytpjnjcljaoaceaa
namespace Go.Proofs.Ytpjnjcljaoaceaa
open Go Go.RowKit
set_option linter.unusedVariables false
abbrev F3 := List UInt8 × List UInt8 × List UInt8
def encF (r : F3) : List Value := [.string (bs r.1), .string (bs r.2.1), .string (bs r.2.2)]
def flatF (L : List F3) : List Value := L.flatMap encF
theorem encF_one (a : F3) : ∀ u ∈ encF a, u.oneCell' = true := by
  intro u hu
  simp only [encF, List.mem_cons, List.mem_nil_iff, or_false] at hu
  rcases hu with rfl | rfl | rfl <;> rfl
theorem flatF_len : ∀ L : List F3, (flatF L).length = L.length * 3
  | [] => rfl
  | a :: L => by
    have := flatF_len L
    unfold flatF at this ⊢
    rw [List.flatMap_cons, List.length_append, this, List.length_cons]
    show 3 + _ = _
    omega
theorem flatF_snoc (L : List F3) (a : F3) : flatF (L ++ [a]) = flatF L ++ encF a := by
  unfold flatF
  simp
theorem flatF_get : ∀ (L : List F3) (j c : Nat) (hj : j < L.length) (hc : c < 3), (flatF L)[j * 3 + c]? = (encF L[j])[c]?
  | a :: L, 0, c, _, hc => by
    show (encF a ++ flatF L)[0 * 3 + c]? = _
    rw [Nat.zero_mul, Nat.zero_add, List.getElem?_append_left hc]
    rfl
  | a :: L, j + 1, c, hj, hc => by
    have ih := flatF_get L j c (by simpa using hj) hc
    show (encF a ++ flatF L)[(j + 1) * 3 + c]? = _
    rw [List.getElem?_append_right (by show 3 ≤ _; omega)]
    show (flatF L)[(j + 1) * 3 + c - 3]? = _
    rw [show (j + 1) * 3 + c - 3 = j * 3 + c by omega, ih]
    rfl
def OF (B : Nat) (w : World) (v : Value) (L : List F3) : Prop := w.ownsRow B 47 3 v L.length (flatF L)
theorem OF.nil (B : Nat) (w : World) : OF B w (.slice none 0 0) [] := World.ownsRow_nil _ _ _ _
theorem OF.below {w w' : World} {B : Nat} {v : Value} {L : List F3} (h : OF B w v L) (hb : Below w.heap.size w w') : OF B w' v L :=
  World.ownsRow.kept (row := none) h ⟨hb.os, hb.tape, hb.output, hb.size, fun k hk _ => hb.block k hk⟩ (by cases v.ownBlock <;> simp)
theorem OF.keep {w w' : World} {B : Nat} {v : Value} {L : List F3} (h : OF B w v L) (hb : ∀ q, v.ownBlock = some q → w'.heap[q]? = w.heap[q]?) : OF B w' v L := by
  refine ⟨h.1, ?_⟩
  rcases h.2 with h1 | ⟨g, cap, cur, hv, hbg, hg, hr⟩
  · exact .inl h1
  · exact .inr ⟨g, cap, cur, hv, hbg, (hb g (by rw [hv]; rfl)).trans hg, hr⟩
theorem OF.block {w : World} {B : Nat} {v : Value} {L : List F3} (h : OF B w v L) : ∀ q, v.ownBlock = some q → B ≤ q ∧ q < w.heap.size := fun q hq => h.lt q hq
theorem OF.mono {w : World} {B B' : Nat} {v : Value} {L : List F3} (h : OF B w v L) (hB : B' ≤ B) : OF B' w v L := by
  refine ⟨h.1, ?_⟩
  rcases h.2 with h1 | ⟨g, cap, cur, hv, hb, hr⟩
  · exact .inl h1
  · exact .inr ⟨g, cap, cur, hv, by omega, hr⟩
theorem OF.form {w : World} {B : Nat} {v : Value} {L : List F3} (h : OF B w v L) : ∃ a cap, v = .slice a L.length cap := by
  rcases h.2 with ⟨h1, h0⟩ | ⟨g, cap, cur, hv, _⟩
  · exact ⟨none, 0, by rw [h1, h0]⟩
  · exact ⟨_, _, hv⟩
theorem OF.at {B : Nat} {w : World} {v : Value} {L : List F3} (h : OF B w v L) (hl : 1 ≤ L.length) : ∃ g cap, v = .slice (some ⟨g, 0, none⟩) L.length cap ∧ L.length ≤ cap ∧ ∀ j (hj : j < L.length), w.cell? ⟨g, j * 3, none⟩ = some (.string (bs L[j].1)) ∧ w.cell? ⟨g, j * 3 + 1, none⟩ = some (.string (bs L[j].2.1)) ∧ w.cell? ⟨g, j * 3 + 2, none⟩ = some (.string (bs L[j].2.2)) := by
  have hh := h
  rcases h.2 with ⟨_, h0⟩ | ⟨g, cap, cur, hv, hb, hg, hc, _⟩
  · omega
  · subst hv
    refine ⟨g, cap, rfl, hc, fun j hj => ⟨?_, ?_, ?_⟩⟩
    · have := World.ownsRow.cellAt hh (j * 3 + 0) (by omega)
      rw [flatF_get L j 0 hj (by omega)] at this
      exact this
    · have := World.ownsRow.cellAt hh (j * 3 + 1) (by omega)
      rw [flatF_get L j 1 hj (by omega)] at this
      exact this
    · have := World.ownsRow.cellAt hh (j * 3 + 2) (by omega)
      rw [flatF_get L j 2 hj (by omega)] at this
      exact this
theorem infoF : (Try.prog.info? 47).map (fun i => (i.zero, i.size, i.bytes)) = some (some (.agg #[.string ⟨#[]⟩, .string ⟨#[]⟩, .string ⟨#[]⟩]), 3, 48) := by kernel_rfl
theorem infoF_parts : ∃ i, Try.prog.info? 47 = some i ∧ i.zero = some (.agg #[.string ⟨#[]⟩, .string ⟨#[]⟩, .string ⟨#[]⟩]) ∧ i.size = 3 ∧ i.bytes = 48 := by
  have h := infoF
  cases hi : Try.prog.info? 47 with
  | none => rw [hi] at h; cases h
  | some i =>
    rw [hi] at h
    simp only [Option.map_some, Option.some.injEq, Prod.mk.injEq] at h
    exact ⟨i, rfl, h.1, h.2.1, h.2.2⟩
/-- all words, with the sign behind the last row -/
def allL : List (List UInt8) := patL ++ [[47]]
def dash (l : List UInt8) : List UInt8 := if l = [] then [45] else l
/-- the reference's table -/
def formR : List F3 := formL.map fun r => (dash r.1, r.2.1, dash r.2.2)
theorem formR_len : formR.length = 122 := by decide +kernel
theorem allL_len : allL.length = 488 := by decide +kernel
/-- the words of a row that have been read -/
def oneL (k : Nat) : List (List UInt8) := (allL.take k).drop (4 * (k / 4))
theorem sign_at : ∀ k : Fin 488, (allL.getD k.1 [] == [47]) = decide (k.1 % 4 = 3) := by decide +kernel
theorem row_at : ∀ i : Fin 122, formR.getD i.1 ([], [], []) = (allL.getD (4 * i.1) [], if allL.getD (4 * i.1 + 1) [] = [45] then [] else allL.getD (4 * i.1 + 1) [], allL.getD (4 * i.1 + 2) []) := by decide +kernel
theorem oneL_len (k : Nat) (h : k ≤ 488) : (oneL k).length = k % 4 := by
  unfold oneL
  rw [List.length_drop, List.length_take, allL_len]
  omega
theorem oneL_word (k : Nat) (h : k < 488) (h3 : k % 4 ≠ 3) : oneL (k + 1) = oneL k ++ [allL.getD k []] := by
  unfold oneL
  have hl : k < allL.length := by rw [allL_len]; exact h
  rw [show (k + 1) / 4 = k / 4 by omega, List.take_succ_eq_append_getElem hl, List.drop_append_of_le_length (by rw [List.length_take]; omega)]
  simp [hl]
theorem oneL_sign (k : Nat) (h : k < 488) (h3 : k % 4 = 3) : oneL (k + 1) = [] := by
  refine List.eq_nil_of_length_eq_zero ?_
  rw [oneL_len _ (by omega)]
  omega
theorem oneL_three (k : Nat) (h : k < 488) (h3 : k % 4 = 3) : oneL k = [allL.getD (4 * (k / 4)) [], allL.getD (4 * (k / 4) + 1) [], allL.getD (4 * (k / 4) + 2) []] := by
  have hl := allL_len
  have e : k = 4 * (k / 4) + 3 := by omega
  generalize k / 4 = i at e
  subst e
  unfold oneL
  rw [show (4 * i + 3) / 4 = i by omega]
  apply List.ext_getElem
  · rw [List.length_drop, List.length_take, hl]; simp; omega
  · intro n h1 h2
    simp only [List.length_cons, List.length_nil] at h2
    rw [List.getElem_drop, List.getElem_take]
    match n, h2 with
    | 0, _ => simp [show 4 * i < allL.length by omega]
    | 1, _ => simp [show 4 * i + 1 < allL.length by omega]
    | 2, _ => simp [show 4 * i + 2 < allL.length by omega]
theorem formR_next (k : Nat) (h : k < 488) (h3 : k % 4 = 3) : formR.take ((k + 1) / 4) = formR.take (k / 4) ++ [(allL.getD (4 * (k / 4)) [], if allL.getD (4 * (k / 4) + 1) [] = [45] then [] else allL.getD (4 * (k / 4) + 1) [], allL.getD (4 * (k / 4) + 2) [])] := by
  have hi : k / 4 < 122 := by omega
  have hl : k / 4 < formR.length := by rw [formR_len]; exact hi
  rw [show (k + 1) / 4 = k / 4 + 1 by omega, List.take_succ_eq_append_getElem hl]
  have := row_at ⟨k / 4, hi⟩
  simp only [List.getD_eq_getElem?_getD] at this
  rw [List.getElem?_eq_getElem hl, Option.getD_some] at this
  rw [this]
  simp only [List.getD_eq_getElem?_getD]
end Go.Proofs.Ytpjnjcljaoaceaa
