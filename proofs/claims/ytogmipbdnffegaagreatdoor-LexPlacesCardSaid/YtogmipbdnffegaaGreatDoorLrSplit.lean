/- A text divided at blanks: the reference's Split; its signs. -/
import Derived.Test.YtogmipbdnffegaaGreatDoorMgStr
import Derived.Test.YtogmipbdnffegaaGreatDoorLxWords
import Derived.Laws.AppendOwn
namespace Go.Proofs.YtogmipbdnffegaaGreatDoor
open Go Go.RowKit
set_option linter.unusedVariables false
/-- the words so far, and where the next one begins -/
def spS (s : ByteArray) : Nat → List ByteArray × Nat
  | 0 => ([], 0)
  | i + 1 => if i = s.size ∨ gb s i = 32 then (if (spS s i).2 < i then (spS s i).1 ++ [s.extract (spS s i).2 i] else (spS s i).1, i + 1) else spS s i
theorem spS_le (s : ByteArray) : ∀ i, (spS s i).2 ≤ i ∧ (spS s i).1.length ≤ i
  | 0 => ⟨Nat.le_refl _, Nat.le_refl _⟩
  | i + 1 => by
    have h := spS_le s i
    unfold spS
    split
    · split
      · simp; omega
      · simp; omega
    · omega
def OS (B : Nat) (w : World) (v : Value) (l : List ByteArray) : Prop := w.ownsRow B 9 1 v l.length (l.map Value.string)
theorem OS.below {w w' : World} {B : Nat} {v : Value} {l : List ByteArray} (h : OS B w v l) (hb : Below w.heap.size w w') : OS B w' v l :=
  World.ownsRow.kept (row := none) h ⟨hb.os, hb.tape, hb.output, hb.size, fun k hk _ => hb.block k hk⟩ (by cases v.ownBlock <;> simp)
theorem OS.at {B : Nat} {w : World} {v : Value} {l : List ByteArray} (h : OS B w v l) (hl : 1 ≤ l.length) : ∃ g cap, v = .slice (some ⟨g, 0, none⟩) l.length cap ∧ l.length ≤ cap ∧ ∀ j (hj : j < l.length), w.cell? ⟨g, j, none⟩ = some (.string l[j]) := by
  have hh := h
  rcases h.2 with ⟨_, h0⟩ | ⟨g, cap, cur, hv, hb, hg, hc, _⟩
  · omega
  · subst hv
    refine ⟨g, cap, rfl, hc, fun j hj => ?_⟩
    have := World.ownsRow.cellAt hh j (by omega)
    rw [this]
    simp [List.getElem?_eq_getElem hj]
theorem infoS : (Tryz.prog.info? 9).map (fun i => (i.zero, i.size, i.bytes)) = some (some (.string ⟨#[]⟩), 1, 16) := by kernel_rfl
theorem infoS_parts : ∃ i, Tryz.prog.info? 9 = some i ∧ i.zero = some (.string ⟨#[]⟩) ∧ i.size = 1 ∧ i.bytes = 16 := by
  have h := infoS
  cases hi : Tryz.prog.info? 9 with
  | none => rw [hi] at h; cases h
  | some i =>
    rw [hi] at h
    simp only [Option.map_some, Option.some.injEq, Prod.mk.injEq] at h
    exact ⟨i, rfl, h.1, h.2.1, h.2.2⟩
set_option maxRecDepth 100000 in
set_option maxHeartbeats 2000000 in
theorem split_any (s : ByteArray) (hs : s.size ≤ 1000000) (L : List ByteArray) (HL : Hid ((spS s (s.size + 1)).1 = L)) (w : World) :
    Calls Tryz.prog 23 #[.string s] w fun e w' => ∃ v, e = .returned v ∧ OS w.heap.size w' v L ∧ Below w.heap.size w w' := by
  obtain ⟨i0, hi, hz0, hz1, hz2⟩ := infoS_parts
  go_enter Tryz.func23, Tryz.ntmps23
  go_wp2_with fail
  go_loopw [3, 4, 5] (fun u f i wr => ∃ (k F : Nat) (l : List ByteArray), k ≤ s.size + 1 ∧ F ≤ k ∧ l.length ≤ k ∧ i = .int .i64 (k : Int) ∧ f = .int .i64 (F : Int) ∧ Hid (spS s k = (l, F)) ∧ Hid (OS w.heap.size wr u l) ∧ Below w.heap.size w wr) (fun _ _ i _ => s.size + 1 - (intOf i).toNat)
  case atStart => exact ⟨0, 0, [], Nat.zero_le _, Nat.le_refl _, Nat.le_refl _, rfl, rfl, Lib.hid rfl, Lib.hid (World.ownsRow_nil _ _ _ _), Below.refl _ _⟩
  case round =>
    obtain ⟨k, F, l, hk, hF, hll, rfl, rfl, hd, hown, hlo⟩ := hrel
    rename World => WR
    have hk0 : (0 : Int) ≤ (k : Int) := by omega
    have hF0 : (0 : Int) ≤ (F : Int) := by omega
    have hFk : (F : Int) ≤ (k : Int) := by omega
    by_cases hlt : k ≤ s.size
    · have hks : (k : Int) ≤ (s.size : Int) := by omega
      by_cases hb : k = s.size ∨ gb s k = 32
      · by_cases hf : F < k
        · have HD : Hid (spS s (k + 1) = (l ++ [s.extract F k], k + 1)) := Lib.hid (by
            show (if k = s.size ∨ gb s k = 32 then _ else _) = _
            rw [if_pos hb, hd.out, if_pos hf])
          have hfi : (F : Int) < (k : Int) := by omega
          have hown' := hown.out
          clear hd hown
          have HO := Lib.hid hown'
          clear hown'
          by_cases he : k = s.size
          · have hei : ((k : Int) == (s.size : Int)) = true := by rw [he]; simp
            clear he hb
            go_upto_region 8 with fail
            go_wp2_with (at_builtin; refine wpList_append_own _ rfl _ _ 24 rfl w.heap.size 9 i0 (.string ⟨#[]⟩) 1 16 Tryz.underlying24 hi hz0 hz1 hz2 rfl (by decide) _ _ _ rfl (World.ownsRow.alloc (show WR.ownsRow w.heap.size 9 1 _ l.length (l.map Value.string) from HO.out) _) ⟨WR.heap.size, 0, none⟩ 1 1 [.string (s.extract F k)] rfl rfl ?d1 ?d2 ?d3 ?d4 ?d5 ?_)
            try case d1 =>
              intro q u hq
              match q, hq with
              | 0, hq => simp at hq; subst hq; simp [Addr.add]
            case d2 => first | (intro u hu; simp at hu; subst hu; rfl) | rfl
            case d3 => unfold maxLen; omega
            case d4 => omega
            case d5 => have := hlo.size; simp; omega
            intro v5 w5 hown5 hgr5 _
            have hown6 : OS w.heap.size w5 v5 (l ++ [s.extract F k]) := by
              unfold OS
              simpa using hown5
            have hlo6 : Below w.heap.size w w5 := (hlo.alloc hlo.size _).grown hgr5 (by have := hlo.size; simp; omega) (fun q hq => ((show WR.ownsRow w.heap.size 9 1 _ l.length (l.map Value.string) from HO.out).lt q hq).1)
            clear hown5 hgr5 HO
            have HO6 := Lib.hid hown6
            clear hown6
            go_wp2_with fail
            go_roundw
            case rel => exact ⟨k + 1, k + 1, l ++ [s.extract F k], by omega, by omega, by simp; omega, by go_num, by go_num, HD, HO6, hlo6⟩
            case measure => simp [intOf] <;> omega
          · have hei : ((k : Int) == (s.size : Int)) = false := beq_eq_false_iff_ne.2 (by omega)
            have hk1 : (k : Int) < (s.size : Int) := by omega
            have hk2 : k < s.size := by omega
            have hat : s[k].toNat = 32 := (gb_at s k hk2).trans (hb.resolve_left he)
            clear he hb
            go_upto_region 8 with fail
            go_wp2_with (at_builtin; refine wpList_append_own _ rfl _ _ 24 rfl w.heap.size 9 i0 (.string ⟨#[]⟩) 1 16 Tryz.underlying24 hi hz0 hz1 hz2 rfl (by decide) _ _ _ rfl (World.ownsRow.alloc (show WR.ownsRow w.heap.size 9 1 _ l.length (l.map Value.string) from HO.out) _) ⟨WR.heap.size, 0, none⟩ 1 1 [.string (s.extract F k)] rfl rfl ?d1 ?d2 ?d3 ?d4 ?d5 ?_)
            try case d1 =>
              intro q u hq
              match q, hq with
              | 0, hq => simp at hq; subst hq; simp [Addr.add]
            case d2 => first | (intro u hu; simp at hu; subst hu; rfl) | rfl
            case d3 => unfold maxLen; omega
            case d4 => omega
            case d5 => have := hlo.size; simp; omega
            intro v5 w5 hown5 hgr5 _
            have hown6 : OS w.heap.size w5 v5 (l ++ [s.extract F k]) := by
              unfold OS
              simpa using hown5
            have hlo6 : Below w.heap.size w w5 := (hlo.alloc hlo.size _).grown hgr5 (by have := hlo.size; simp; omega) (fun q hq => ((show WR.ownsRow w.heap.size 9 1 _ l.length (l.map Value.string) from HO.out).lt q hq).1)
            clear hown5 hgr5 HO
            have HO6 := Lib.hid hown6
            clear hown6
            go_wp2_with fail
            go_roundw
            case rel => exact ⟨k + 1, k + 1, l ++ [s.extract F k], by omega, by omega, by simp; omega, by go_num, by go_num, HD, HO6, hlo6⟩
            case measure => simp [intOf] <;> omega
        · have HD : Hid (spS s (k + 1) = (l, k + 1)) := Lib.hid (by
            show (if k = s.size ∨ gb s k = 32 then _ else _) = _
            rw [if_pos hb, hd.out, if_neg hf])
          have hfi : ¬ ((F : Int) < (k : Int)) := by omega
          by_cases he : k = s.size
          · have hei : ((k : Int) == (s.size : Int)) = true := by rw [he]; simp
            go_wp2_with fail
            go_roundw
            case rel => exact ⟨k + 1, k + 1, l, by omega, by omega, by omega, by go_num, by go_num, HD, hown, hlo⟩
            case measure => simp [intOf] <;> omega
          · have hei : ((k : Int) == (s.size : Int)) = false := beq_eq_false_iff_ne.2 (by omega)
            have hk1 : (k : Int) < (s.size : Int) := by omega
            have hk2 : k < s.size := by omega
            have hat : s[k].toNat = 32 := (gb_at s k hk2).trans (hb.resolve_left he)
            go_wp2_with fail
            go_roundw
            case rel => exact ⟨k + 1, k + 1, l, by omega, by omega, by omega, by go_num, by go_num, HD, hown, hlo⟩
            case measure => simp [intOf] <;> omega
      · have HD : Hid (spS s (k + 1) = (l, F)) := Lib.hid (by
          show (if k = s.size ∨ gb s k = 32 then _ else _) = _
          rw [if_neg hb, hd.out])
        have he : k ≠ s.size := fun e => hb (.inl e)
        have hei : ((k : Int) == (s.size : Int)) = false := beq_eq_false_iff_ne.2 (by omega)
        have hk1 : (k : Int) < (s.size : Int) := by omega
        have hk2 : k < s.size := by omega
        have hat : ((s[k].toNat : Int) == 32) = false := beq_eq_false_iff_ne.2 (by rw [gb_at s k hk2]; have : gb s k ≠ 32 := fun e => hb (.inr e); omega)
        go_wp2_with fail
        go_roundw
        case rel => exact ⟨k + 1, F, l, by omega, by omega, by omega, by go_num, by first | rfl | go_num, HD, hown, hlo⟩
        case measure => simp [intOf] <;> omega
    · obtain rfl : k = s.size + 1 := by omega
      have hks : ¬ ((s.size + 1 : Nat) : Int) ≤ (s.size : Int) := by omega
      have hLl : l = L := by have := hd.out; rw [← HL.out, this]
      subst hLl
      clear hd HL
      have hks2 : ¬ ((s.size : Int) + 1 ≤ (s.size : Int)) := by omega
      go_wp2_with fail
      go_ret
      exact ⟨_, rfl, hown.out, hlo⟩
/-- the row of signs -/
def signsT : ByteArray := ⟨([33, 61, 61, 32, 61, 61, 61, 32, 62, 62, 62, 32, 33, 61, 32, 38, 38, 32, 43, 58, 32, 45, 62, 32, 60, 60, 32, 60, 61, 32, 61, 61, 32, 61, 62, 32, 62, 61, 32, 62, 62, 32, 124, 124, 32, 33, 32].append [35, 32, 37, 32, 38, 32, 40, 32, 41, 32, 42, 32, 43, 32, 44, 32, 45, 32, 46, 32, 47, 32, 58, 32, 59, 32, 60, 32, 61, 32, 62, 32, 63, 32, 91, 32, 93, 32, 94, 32, 123, 32, 124, 32, 125, 32, 126]).toArray⟩
def signsB : List ByteArray := (List.range 39).map signB
theorem signsT_size : signsT.size = 94 := by kernel_rfl
theorem signs_split : (spS signsT (signsT.size + 1)).1.map (·.data.toList) = signL := by rw [signsT_size]; decide +kernel
theorem signs_split2 : (spS signsT (signsT.size + 1)).1 = signsB := by
  have h := signs_split
  have e : signsB.map (·.data.toList) = signL := by decide +kernel
  have inj : ∀ (a b : List ByteArray), a.map (·.data.toList) = b.map (·.data.toList) → a = b := by
    intro a
    induction a with
    | nil => intro b h; cases b <;> simp_all
    | cons x a ih =>
      intro b h
      cases b with
      | nil => simp at h
      | cons y b =>
        simp only [List.map_cons, List.cons.injEq] at h
        rw [ih b h.2]
        congr 1
        cases x; cases y
        have := h.1
        simp only at this
        exact ByteArray.ext (Array.ext' this)
  exact inj _ _ (h.trans e.symm)
set_option maxRecDepth 100000 in
theorem lexSigns_any (w : World) : Calls Tryz.prog 11 #[] w fun e w' => ∃ v, e = .returned v ∧ OS w.heap.size w' v signsB ∧ Below w.heap.size w w' := by
  have h := fun w1 => split_any signsT (by rw [signsT_size]; decide) signsB (Lib.hid signs_split2) w1
  unfold signsT at h
  have H := Lib.hid h
  clear h
  go_enter Tryz.func11, Tryz.ntmps11
  go_wp2_with (go_at_call 23; refine (H.out _).mono ?_; rintro e w1 ⟨v, rfl, ho, hb⟩)
  go_ret
  exact ⟨_, rfl, ho, hb⟩
end Go.Proofs.YtogmipbdnffegaaGreatDoor
