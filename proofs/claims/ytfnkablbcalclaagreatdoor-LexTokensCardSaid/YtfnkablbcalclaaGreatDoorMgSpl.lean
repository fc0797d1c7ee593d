/- A text divided at blanks: the reference's Split; its signs.
   The reference's token: signs. -/
import Derived.Test.YtfnkablbcalclaaGreatDoorMgStr
import Derived.Test.YtfnkablbcalclaaGreatDoorLxWords
import Derived.Laws.AppendOwn
import Derived.Test.YtfnkablbcalclaaGreatDoorMgTkA
import Derived.Test.YtfnkablbcalclaaGreatDoorMgRt
namespace Go.Proofs.YtfnkablbcalclaaGreatDoor
open Go Go.RowKit
set_option linter.unusedVariables false
/-- the words so far, and where the next one begins -/
def spS (s : ByteArray) : Nat → List ByteArray × Nat
  | 0 => ([], 0)
  | i + 1 => if i = s.size ∨ gb s i = 32 then (if (spS s i).2 < i then (spS s i).1 ++ [s.extract (spS s i).2 i] else (spS s i).1, i + 1) else spS s i
theorem spS_le (s : ByteArray) : ∀ i, (spS s i).2 ≤ i ∧ (spS s i).1.length ≤ i
  | 0 => ⟨Nat.le_refl _, Nat.le_refl _⟩
  | i + 1 => by
    have h := spS_le s i
    unfold spS
    split
    · split
      · simp; omega
      · simp; omega
    · omega
def OS (B : Nat) (w : World) (v : Value) (l : List ByteArray) : Prop := w.ownsRow B 9 1 v l.length (l.map Value.string)
theorem OS.below {w w' : World} {B : Nat} {v : Value} {l : List ByteArray} (h : OS B w v l) (hb : Below w.heap.size w w') : OS B w' v l :=
  World.ownsRow.kept (row := none) h ⟨hb.os, hb.tape, hb.output, hb.size, fun k hk _ => hb.block k hk⟩ (by cases v.ownBlock <;> simp)
theorem OS.at {B : Nat} {w : World} {v : Value} {l : List ByteArray} (h : OS B w v l) (hl : 1 ≤ l.length) : ∃ g cap, v = .slice (some ⟨g, 0, none⟩) l.length cap ∧ l.length ≤ cap ∧ ∀ j (hj : j < l.length), w.cell? ⟨g, j, none⟩ = some (.string l[j]) := by
  have hh := h
  rcases h.2 with ⟨_, h0⟩ | ⟨g, cap, cur, hv, hb, hg, hc, _⟩
  · omega
  · subst hv
    refine ⟨g, cap, rfl, hc, fun j hj => ?_⟩
    have := World.ownsRow.cellAt hh j (by omega)
    rw [this]
    simp [List.getElem?_eq_getElem hj]
theorem infoS : (Tryz.prog.info? 9).map (fun i => (i.zero, i.size, i.bytes)) = some (some (.string ⟨#[]⟩), 1, 16) := by kernel_rfl
theorem infoS_parts : ∃ i, Tryz.prog.info? 9 = some i ∧ i.zero = some (.string ⟨#[]⟩) ∧ i.size = 1 ∧ i.bytes = 16 := by
  have h := infoS
  cases hi : Tryz.prog.info? 9 with
  | none => rw [hi] at h; cases h
  | some i =>
    rw [hi] at h
    simp only [Option.map_some, Option.some.injEq, Prod.mk.injEq] at h
    exact ⟨i, rfl, h.1, h.2.1, h.2.2⟩
set_option maxRecDepth 100000 in
set_option maxHeartbeats 2000000 in
theorem split_any (s : ByteArray) (hs : s.size ≤ 1000000) (L : List ByteArray) (HL : Hid ((spS s (s.size + 1)).1 = L)) (w : World) :
    Calls Tryz.prog 42 #[.string s] w fun e w' => ∃ v, e = .returned v ∧ OS w.heap.size w' v L ∧ Below w.heap.size w w' := by
  obtain ⟨i0, hi, hz0, hz1, hz2⟩ := infoS_parts
  go_enter Tryz.func42, Tryz.ntmps42
  go_wp2_with fail
  go_loopw [3, 4, 5] (fun u f i wr => ∃ (k F : Nat) (l : List ByteArray), k ≤ s.size + 1 ∧ F ≤ k ∧ l.length ≤ k ∧ i = .int .i64 (k : Int) ∧ f = .int .i64 (F : Int) ∧ Hid (spS s k = (l, F)) ∧ Hid (OS w.heap.size wr u l) ∧ Below w.heap.size w wr) (fun _ _ i _ => s.size + 1 - (intOf i).toNat)
  case atStart => exact ⟨0, 0, [], Nat.zero_le _, Nat.le_refl _, Nat.le_refl _, rfl, rfl, Lib.hid rfl, Lib.hid (World.ownsRow_nil _ _ _ _), Below.refl _ _⟩
  case round =>
    obtain ⟨k, F, l, hk, hF, hll, rfl, rfl, hd, hown, hlo⟩ := hrel
    rename World => WR
    have hk0 : (0 : Int) ≤ (k : Int) := by omega
    have hF0 : (0 : Int) ≤ (F : Int) := by omega
    have hFk : (F : Int) ≤ (k : Int) := by omega
    by_cases hlt : k ≤ s.size
    · have hks : (k : Int) ≤ (s.size : Int) := by omega
      by_cases hb : k = s.size ∨ gb s k = 32
      · by_cases hf : F < k
        · have HD : Hid (spS s (k + 1) = (l ++ [s.extract F k], k + 1)) := Lib.hid (by
            show (if k = s.size ∨ gb s k = 32 then _ else _) = _
            rw [if_pos hb, hd.out, if_pos hf])
          have hfi : (F : Int) < (k : Int) := by omega
          have hown' := hown.out
          clear hd hown
          have HO := Lib.hid hown'
          clear hown'
          by_cases he : k = s.size
          · have hei : ((k : Int) == (s.size : Int)) = true := by rw [he]; simp
            clear he hb
            go_upto_region 8 with fail
            go_wp2_with (at_builtin; refine wpList_append_own _ rfl _ _ 48 rfl w.heap.size 9 i0 (.string ⟨#[]⟩) 1 16 Tryz.underlying48 hi hz0 hz1 hz2 rfl (by decide) _ _ _ rfl (World.ownsRow.alloc (show WR.ownsRow w.heap.size 9 1 _ l.length (l.map Value.string) from HO.out) _) ⟨WR.heap.size, 0, none⟩ 1 1 [.string (s.extract F k)] rfl rfl ?d1 ?d2 ?d3 ?d4 ?d5 ?_)
            try case d1 =>
              intro q u hq
              match q, hq with
              | 0, hq => simp at hq; subst hq; simp [Addr.add]
            case d2 => first | (intro u hu; simp at hu; subst hu; rfl) | rfl
            case d3 => unfold maxLen; omega
            case d4 => omega
            case d5 => have := hlo.size; simp; omega
            intro v5 w5 hown5 hgr5 _
            have hown6 : OS w.heap.size w5 v5 (l ++ [s.extract F k]) := by
              unfold OS
              simpa using hown5
            have hlo6 : Below w.heap.size w w5 := (hlo.alloc hlo.size _).grown hgr5 (by have := hlo.size; simp; omega) (fun q hq => ((show WR.ownsRow w.heap.size 9 1 _ l.length (l.map Value.string) from HO.out).lt q hq).1)
            clear hown5 hgr5 HO
            have HO6 := Lib.hid hown6
            clear hown6
            go_wp2_with fail
            go_roundw
            case rel => exact ⟨k + 1, k + 1, l ++ [s.extract F k], by omega, by omega, by simp; omega, by go_num, by go_num, HD, HO6, hlo6⟩
            case measure => simp [intOf] <;> omega
          · have hei : ((k : Int) == (s.size : Int)) = false := beq_eq_false_iff_ne.2 (by omega)
            have hk1 : (k : Int) < (s.size : Int) := by omega
            have hk2 : k < s.size := by omega
            have hat : s[k].toNat = 32 := (gb_at s k hk2).trans (hb.resolve_left he)
            clear he hb
            go_upto_region 8 with fail
            go_wp2_with (at_builtin; refine wpList_append_own _ rfl _ _ 48 rfl w.heap.size 9 i0 (.string ⟨#[]⟩) 1 16 Tryz.underlying48 hi hz0 hz1 hz2 rfl (by decide) _ _ _ rfl (World.ownsRow.alloc (show WR.ownsRow w.heap.size 9 1 _ l.length (l.map Value.string) from HO.out) _) ⟨WR.heap.size, 0, none⟩ 1 1 [.string (s.extract F k)] rfl rfl ?d1 ?d2 ?d3 ?d4 ?d5 ?_)
            try case d1 =>
              intro q u hq
              match q, hq with
              | 0, hq => simp at hq; subst hq; simp [Addr.add]
            case d2 => first | (intro u hu; simp at hu; subst hu; rfl) | rfl
            case d3 => unfold maxLen; omega
            case d4 => omega
            case d5 => have := hlo.size; simp; omega
            intro v5 w5 hown5 hgr5 _
            have hown6 : OS w.heap.size w5 v5 (l ++ [s.extract F k]) := by
              unfold OS
              simpa using hown5
            have hlo6 : Below w.heap.size w w5 := (hlo.alloc hlo.size _).grown hgr5 (by have := hlo.size; simp; omega) (fun q hq => ((show WR.ownsRow w.heap.size 9 1 _ l.length (l.map Value.string) from HO.out).lt q hq).1)
            clear hown5 hgr5 HO
            have HO6 := Lib.hid hown6
            clear hown6
            go_wp2_with fail
            go_roundw
            case rel => exact ⟨k + 1, k + 1, l ++ [s.extract F k], by omega, by omega, by simp; omega, by go_num, by go_num, HD, HO6, hlo6⟩
            case measure => simp [intOf] <;> omega
        · have HD : Hid (spS s (k + 1) = (l, k + 1)) := Lib.hid (by
            show (if k = s.size ∨ gb s k = 32 then _ else _) = _
            rw [if_pos hb, hd.out, if_neg hf])
          have hfi : ¬ ((F : Int) < (k : Int)) := by omega
          by_cases he : k = s.size
          · have hei : ((k : Int) == (s.size : Int)) = true := by rw [he]; simp
            go_wp2_with fail
            go_roundw
            case rel => exact ⟨k + 1, k + 1, l, by omega, by omega, by omega, by go_num, by go_num, HD, hown, hlo⟩
            case measure => simp [intOf] <;> omega
          · have hei : ((k : Int) == (s.size : Int)) = false := beq_eq_false_iff_ne.2 (by omega)
            have hk1 : (k : Int) < (s.size : Int) := by omega
            have hk2 : k < s.size := by omega
            have hat : s[k].toNat = 32 := (gb_at s k hk2).trans (hb.resolve_left he)
            go_wp2_with fail
            go_roundw
            case rel => exact ⟨k + 1, k + 1, l, by omega, by omega, by omega, by go_num, by go_num, HD, hown, hlo⟩
            case measure => simp [intOf] <;> omega
      · have HD : Hid (spS s (k + 1) = (l, F)) := Lib.hid (by
          show (if k = s.size ∨ gb s k = 32 then _ else _) = _
          rw [if_neg hb, hd.out])
        have he : k ≠ s.size := fun e => hb (.inl e)
        have hei : ((k : Int) == (s.size : Int)) = false := beq_eq_false_iff_ne.2 (by omega)
        have hk1 : (k : Int) < (s.size : Int) := by omega
        have hk2 : k < s.size := by omega
        have hat : ((s[k].toNat : Int) == 32) = false := beq_eq_false_iff_ne.2 (by rw [gb_at s k hk2]; have : gb s k ≠ 32 := fun e => hb (.inr e); omega)
        go_wp2_with fail
        go_roundw
        case rel => exact ⟨k + 1, F, l, by omega, by omega, by omega, by go_num, by first | rfl | go_num, HD, hown, hlo⟩
        case measure => simp [intOf] <;> omega
    · obtain rfl : k = s.size + 1 := by omega
      have hks : ¬ ((s.size + 1 : Nat) : Int) ≤ (s.size : Int) := by omega
      have hLl : l = L := by have := hd.out; rw [← HL.out, this]
      subst hLl
      clear hd HL
      have hks2 : ¬ ((s.size : Int) + 1 ≤ (s.size : Int)) := by omega
      go_wp2_with fail
      go_ret
      exact ⟨_, rfl, hown.out, hlo⟩
/-- the row of signs -/
def signsT : ByteArray := ⟨([33, 61, 61, 32, 61, 61, 61, 32, 62, 62, 62, 32, 33, 61, 32, 38, 38, 32, 43, 58, 32, 45, 62, 32, 60, 60, 32, 60, 61, 32, 61, 61, 32, 61, 62, 32, 62, 61, 32, 62, 62, 32, 124, 124, 32, 33, 32].append [35, 32, 37, 32, 38, 32, 40, 32, 41, 32, 42, 32, 43, 32, 44, 32, 45, 32, 46, 32, 47, 32, 58, 32, 59, 32, 60, 32, 61, 32, 62, 32, 63, 32, 91, 32, 93, 32, 94, 32, 123, 32, 124, 32, 125, 32, 126]).toArray⟩
def signsB : List ByteArray := (List.range 39).map signB
theorem signsT_size : signsT.size = 94 := by kernel_rfl
theorem signs_split : (spS signsT (signsT.size + 1)).1.map (·.data.toList) = signL := by rw [signsT_size]; decide +kernel
theorem signs_split2 : (spS signsT (signsT.size + 1)).1 = signsB := by
  have h := signs_split
  have e : signsB.map (·.data.toList) = signL := by decide +kernel
  have inj : ∀ (a b : List ByteArray), a.map (·.data.toList) = b.map (·.data.toList) → a = b := by
    intro a
    induction a with
    | nil => intro b h; cases b <;> simp_all
    | cons x a ih =>
      intro b h
      cases b with
      | nil => simp at h
      | cons y b =>
        simp only [List.map_cons, List.cons.injEq] at h
        rw [ih b h.2]
        congr 1
        cases x; cases y
        have := h.1
        simp only at this
        exact ByteArray.ext (Array.ext' this)
  exact inj _ _ (h.trans e.symm)
set_option maxRecDepth 100000 in
theorem lexSigns_any (w : World) : Calls Tryz.prog 22 #[] w fun e w' => ∃ v, e = .returned v ∧ OS w.heap.size w' v signsB ∧ Below w.heap.size w w' := by
  have h := fun w1 => split_any signsT (by rw [signsT_size]; decide) signsB (Lib.hid signs_split2) w1
  unfold signsT at h
  have H := Lib.hid h
  clear h
  go_enter Tryz.func22, Tryz.ntmps22
  go_wp2_with (go_at_call 42; refine (H.out _).mono ?_; rintro e w1 ⟨v, rfl, ho, hb⟩)
  go_ret
  exact ⟨_, rfl, ho, hb⟩
end Go.Proofs.YtfnkablbcalclaaGreatDoor
namespace Go.Proofs.YtfnkablbcalclaaGreatDoor
open Go Go.RowKit
set_option linter.unusedVariables false
theorem pre_zero (s t : ByteArray) (h : t.size ≤ s.size) : ((s.extract 0 t.size).toList == t.toList) = Lib.hasPrefix s.data.toList t.data.toList := by
  have h1 := occ_piece s t 0 (by omega)
  rw [Nat.zero_add] at h1
  rw [beq_str, ← h1]
  simp [Lib.occAt, Lib.hasPrefix]
theorem pre_long (s t : ByteArray) (h : s.size < t.size) : Lib.hasPrefix s.data.toList t.data.toList = false := by
  cases hp : Lib.hasPrefix s.data.toList t.data.toList
  · rfl
  · have h1 := (List.isPrefixOf_iff_prefix.1 hp).length_le
    rw [len_list, len_list] at h1
    omega
theorem lexSigns_at (w : World) : Calls Tryz.prog 22 #[] w fun e w' => ∃ g cap, e = .returned (.slice (some ⟨g, 0, none⟩) 39 cap) ∧ (39 ≤ cap ∧ ∀ j, j < 39 → w'.cell? ⟨g, j, none⟩ = some (.string (signB j))) ∧ Below w.heap.size w w' := by
  refine (lexSigns_any w).mono ?_
  rintro e w1 ⟨v, rfl, ho, hb⟩
  have hl : signsB.length = 39 := by simp [signsB]
  obtain ⟨g, cap, rfl, hc, ha⟩ := OS.at ho (by omega)
  rw [hl] at hc ⊢
  refine ⟨g, cap, rfl, ⟨hc, fun j hj => ?_⟩, hb⟩
  have := ha j (by omega)
  rw [this]
  simp [signsB]
set_option maxRecDepth 100000 in
set_option maxHeartbeats 4000000 in
theorem token_sign (s : ByteArray) (hs : s.size ≤ 100000) (hs1 : 1 ≤ s.size) (HL : Hid (isL (gb s 0) = false)) (n92 : gb s 0 ≠ 92) (n34 : gb s 0 ≠ 34) (hW0 : span inW s = 0) (v : Value) (H1 : Hid (∀ i, sgn s.data.toList = some i → v = .tuple #[.agg #[.int .i64 5, .int .i64 0, .int .i64 0, .string (signB i), .bool false, .int .i64 0, .int .u64 0, .int .u64 0, .bool false], .int .i64 (signB i).size, .int .i64 0])) (H0 : Hid (sgn s.data.toList = none → v = .tuple #[.agg #[.int .i64 0, .int .i64 0, .int .i64 0, .string ⟨#[]⟩, .bool false, .int .i64 0, .int .u64 0, .int .u64 0, .bool false], .int .i64 0, .int .i64 10])) (w : World) :
    Calls Tryz.prog 10 #[.string s] w fun e w' => e = .returned v ∧ Below w.heap.size w w' := by
  have hs0 : 0 < s.size := by omega
  have hs1i : (1 : Int) ≤ (s.size : Int) := by omega
  have hb : s[0].toNat = gb s 0 := gb_at s 0 hs0
  have hg := gb_le s 0
  obtain ⟨NW, hNW⟩ : ∃ NW, span inW s = NW := ⟨_, rfl⟩
  have hNs : NW ≤ s.size := by rw [← hNW]; exact span_le _ _
  have hR := fun w1 => run_W s (by omega) w1
  rw [hNW] at hR
  have hI := fun w1 => isL_r (gb s 0) hg w1
  rw [HL.out] at hI
  rw [hNW] at hW0
  subst hW0
  have k92 : ((gb s 0 : Int) == 92) = false := beq_eq_false_iff_ne.2 (by omega)
  have k34 : ((gb s 0 : Int) == 34) = false := beq_eq_false_iff_ne.2 (by omega)
  generalize gb s 0 = c0 at *
  have HR := Lib.hid hR
  have HI := Lib.hid hI
  clear hR hI HL
  go_enter Tryz.func10, Tryz.ntmps10
  go_upto_region 1 with fail
  obtain ⟨W1, hW1⟩ : ∃ W, W = w.alloc (Obj.cells #[Value.int IntKind.i64 0, Value.int IntKind.i64 0, Value.int IntKind.i64 0, Value.string { data := #[] }, Value.bool false, Value.int IntKind.i64 0, Value.int IntKind.u64 0, Value.int IntKind.u64 0, Value.bool false] 32) := ⟨_, rfl⟩
  have b0 : Below w.heap.size w W1 := by rw [hW1]; exact (Below.refl _ _).alloc (Nat.le_refl _) _
  have T0 : TB W1 w.heap.size 0 0 0 ⟨#[]⟩ false 0 0 0 false := by rw [hW1]; exact TB.new w 0 0 0 ⟨#[]⟩ false 0 0 0 false
  rw [← hW1]
  clear hW1
  have hlt := T0.lt
  go_upto_region 20 with (first | (go_at_call 15; refine (HR.out _).mono ?_; rintro e w1 ⟨rfl, rfl⟩) | (go_at_call 17; refine (HI.out _).mono ?_; rintro e w1 ⟨rfl, rfl⟩))
  clear HR HI
  go_upto_region 21 with (go_at_call 22; refine (lexSigns_at _).mono ?_; rintro e w2 ⟨g2, cap2, rfl, HC2, hb2⟩)
  have T2 := T0.below hb2
  have b2 : Below w.heap.size w w2 := b0.trans (hb2.mono b0.size)
  have hcap2 := HC2.1
  have HCC := Lib.hid HC2.2
  clear T0 hb2 HC2
  go_loop [94] (fun u => ∃ i : Nat, i ≤ 39 ∧ u = .int .i64 i ∧ Hid (sgF s.data.toList i = none)) (fun u => 39 - (intOf u).toNat)
  case atStart => exact ⟨0, by omega, rfl, rfl⟩
  case round =>
    obtain ⟨i, hi, rfl, hno⟩ := hrel
    by_cases hlt39 : i < 39
    · have hix := HCC.out i hlt39
      have hi0 : (0 : Int) ≤ (i : Int) := by omega
      have hi1 : (i : Int) < 39 := by omega
      obtain ⟨g, hg⟩ : ∃ g, signB i = g := ⟨_, rfl⟩
      rw [hg] at hix
      cases hp : Lib.hasPrefix s.data.toList g.data.toList
      · have HN : Hid (sgF s.data.toList (i + 1) = none) := Lib.hid (by
          show (match sgF s.data.toList i with | some i => some i | none => _) = _
          rw [hno.out]
          show (if _ then _ else _) = _
          rw [← signB_list, hg, hp]; rfl)
        by_cases hgs : g.size ≤ s.size
        · have hq := pre_zero s g hgs
          rw [hp] at hq
          have hgi : (g.size : Int) ≤ (s.size : Int) := by omega
          clear hp hg
          go_wp2_with fail
          go_round
          case rel => exact ⟨i + 1, by omega, by go_num, HN⟩
          case measure => simp [intOf] <;> omega
        · have hgi : ¬ (g.size : Int) ≤ (s.size : Int) := by omega
          clear hp hg
          go_wp2_with fail
          go_round
          case rel => exact ⟨i + 1, by omega, by go_num, HN⟩
          case measure => simp [intOf] <;> omega
      · have hgs : g.size ≤ s.size := by
          apply Nat.le_of_not_lt
          intro h
          rw [pre_long s g h] at hp
          cases hp
        have hq := pre_zero s g hgs
        rw [hp] at hq
        have hgi : (g.size : Int) ≤ (s.size : Int) := by omega
        have HV : Hid (v = .tuple #[.agg #[.int .i64 5, .int .i64 0, .int .i64 0, .string g, .bool false, .int .i64 0, .int .u64 0, .int .u64 0, .bool false], .int .i64 g.size, .int .i64 0]) := Lib.hid (by
          rw [← hg]
          refine H1.out i (sgF_stay _ (n := i + 1) ?_ 39 (by omega))
          show (match sgF s.data.toList i with | some i => some i | none => _) = _
          rw [hno.out]
          show (if _ then _ else _) = _
          rw [← signB_list, hg, hp]; rfl)
        clear hp hg
        obtain ⟨x0, x1, x2, x3, x4, x5, x6, x7, x8, xf⟩ := id T2
        go_wp2_with fail
        obtain ⟨q0, q1, q2, q3, q4, q5, q6, q7, q8, -⟩ := T2.set 5 0 0 g false 0 0 0 false
        unfold setTk at q0 q1 q2 q3 q4 q5 q6 q7 q8
        exact bodyPost_ret (v := .tuple #[.agg #[.int .i64 5, .int .i64 0, .int .i64 0, .string g, .bool false, .int .i64 0, .int .u64 0, .int .u64 0, .bool false], .int .i64 g.size, .int .i64 0]) (by simp [results, Tryz.results10, go_sem, q0, q1, q2, q3, q4, q5, q6, q7, q8]) rfl ⟨by rw [HV.out], below_setTk b2 (Nat.le_refl _) _ _ _ _ _ _ _ _ _⟩
    · obtain rfl : i = 39 := by omega
      have HV : Hid (v = .tuple #[.agg #[.int .i64 0, .int .i64 0, .int .i64 0, .string ⟨#[]⟩, .bool false, .int .i64 0, .int .u64 0, .int .u64 0, .bool false], .int .i64 0, .int .i64 10]) := Lib.hid (H0.out hno.out)
      obtain ⟨x0, x1, x2, x3, x4, x5, x6, x7, x8, xf⟩ := id T2
      go_wp2_with fail
      obtain ⟨q0, q1, q2, q3, q4, q5, q6, q7, q8, -⟩ := T2.set 0 0 0 ⟨#[]⟩ false 0 0 0 false
      unfold setTk at q0 q1 q2 q3 q4 q5 q6 q7 q8
      exact bodyPost_ret (v := .tuple #[.agg #[.int .i64 0, .int .i64 0, .int .i64 0, .string ⟨#[]⟩, .bool false, .int .i64 0, .int .u64 0, .int .u64 0, .bool false], .int .i64 0, .int .i64 10]) (by simp [results, Tryz.results10, go_sem, q0, q1, q2, q3, q4, q5, q6, q7, q8]) rfl ⟨by rw [HV.out], below_setTk b2 (Nat.le_refl _) _ _ _ _ _ _ _ _ _⟩
end Go.Proofs.YtfnkablbcalclaaGreatDoor
