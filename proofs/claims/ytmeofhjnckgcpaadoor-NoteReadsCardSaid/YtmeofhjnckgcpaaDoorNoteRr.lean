/- The reference's NoteRead of any text. -/
import Derived.Test.YtmeofhjnckgcpaaDoorNoteRb
import Derived.Test.YtmeofhjnckgcpaaDoorNotePl
import Derived.Test.YtmeofhjnckgcpaaDoorNoteF
import Derived.Test.YtmeofhjnckgcpaaDoorNoteWd
namespace Go.Proofs.YtmeofhjnckgcpaaDoor
open Go Go.RowKit Go.Sort
set_option linter.unusedVariables false
section
variable {w : World} {g R : Nat} {f t : ByteArray} {l c e : Int}
theorem MsgAt.put0 (h : MsgAt w g f l c e t) (x : ByteArray) : MsgAt (w.setCell ⟨g, 0, none⟩ (.string x)) g x l c e t := by
  obtain ⟨h0, h1, h2, h3, h4, hf⟩ := h
  exact ⟨by go_simp, by go_simp, by go_simp, by go_simp, by go_simp, fun o => by go_simp⟩
theorem MsgAt.put1 (h : MsgAt w g f l c e t) (x : Int) : MsgAt (w.setCell ⟨g, 1, none⟩ (.int .i64 x)) g f x c e t := by
  obtain ⟨h0, h1, h2, h3, h4, hf⟩ := h
  exact ⟨by go_simp, by go_simp, by go_simp, by go_simp, by go_simp, fun o => by go_simp⟩
theorem MsgAt.put2 (h : MsgAt w g f l c e t) (x : Int) : MsgAt (w.setCell ⟨g, 2, none⟩ (.int .i64 x)) g f l x e t := by
  obtain ⟨h0, h1, h2, h3, h4, hf⟩ := h
  exact ⟨by go_simp, by go_simp, by go_simp, by go_simp, by go_simp, fun o => by go_simp⟩
theorem MsgAt.put3 (h : MsgAt w g f l c e t) (x : Int) : MsgAt (w.setCell ⟨g, 3, none⟩ (.int .i64 x)) g f l c x t := by
  obtain ⟨h0, h1, h2, h3, h4, hf⟩ := h
  exact ⟨by go_simp, by go_simp, by go_simp, by go_simp, by go_simp, fun o => by go_simp⟩
theorem MsgAt.put4 (h : MsgAt w g f l c e t) (x : ByteArray) : MsgAt (w.setCell ⟨g, 4, none⟩ (.string x)) g f l c e x := by
  obtain ⟨h0, h1, h2, h3, h4, hf⟩ := h
  exact ⟨by go_simp, by go_simp, by go_simp, by go_simp, by go_simp, fun o => by go_simp⟩
theorem MsgAt.other (h : MsgAt w R f l c e t) (hne : R ≠ g) (o : Nat) (u : Value) : MsgAt (w.setCell ⟨g, o, none⟩ u) R f l c e t := by
  obtain ⟨h0, h1, h2, h3, h4, hf⟩ := h
  exact ⟨by go_simp, by go_simp, by go_simp, by go_simp, by go_simp, fun o => by go_simp⟩
end
theorem MsgAt.lt2 {w : World} {g : Nat} {f t : ByteArray} {l c e : Int} (h : MsgAt w g f l c e t) : g < w.heap.size := World.block_lt_of_cell? w _ h.c0
theorem MsgAt.below2 {w w' : World} {g : Nat} {f t : ByteArray} {l c e : Int} (h : MsgAt w g f l c e t) (hb : Below w.heap.size w w') : MsgAt w' g f l c e t :=
  ⟨(hb.cell (p := ⟨g, 0, none⟩) h.lt2).trans h.c0, (hb.cell (p := ⟨g, 1, none⟩) h.lt2).trans h.c1, (hb.cell (p := ⟨g, 2, none⟩) h.lt2).trans h.c2, (hb.cell (p := ⟨g, 3, none⟩) h.lt2).trans h.c3, (hb.cell (p := ⟨g, 4, none⟩) h.lt2).trans h.c4, fun o => (hb.frozen (p := ⟨g, o, none⟩) h.lt2).trans (h.fz o)⟩
/-- the two messages of the reference's NoteRead -/
structure Two (w : World) (R g : Nat) (F : ByteArray) (L C e : Int) (t : ByteArray) (wr : World) : Prop where
  r : MsgAt wr R ⟨#[]⟩ 0 0 0 ⟨#[]⟩
  n : MsgAt wr g F L C e t
  lo : Below w.heap.size w wr
theorem Two.below {w wr w' : World} {R g : Nat} {F t : ByteArray} {L C e : Int} (h : Two w R g F L C e t wr) (hb : Below wr.heap.size wr w') : Two w R g F L C e t w' :=
  ⟨h.r.below2 hb, h.n.below2 hb, h.lo.trans (hb.mono h.lo.size)⟩
theorem ext_list (s : ByteArray) (f k : Nat) : (s.extract f k).data.toList = (s.data.toList.drop f).take (k - f) := by
  rw [← Lib.toList_data, Lib.extract_toList]
theorem rd_all {s : List UInt8} {f : Nat} {F : ByteArray} {L C : Int} (h : Three s f F.data.toList L C) (q1 : pP s = true) {W T : ByteArray} (hW : pW s = W.data.toList) (hT : pT s = T.data.toList) (hB : pT s = [] → pB s = false) :
    (codeF W.data.toList = 0 → rdErr s = 10 ∧ rdVal s = .agg #[.string ⟨#[]⟩, .int .i64 0, .int .i64 0, .int .i64 0, .string ⟨#[]⟩]) ∧
    (codeF W.data.toList ≠ 0 → ∀ r, noteChk F.data.toList L C (codeF W.data.toList : Nat) T.data.toList = r →
      (r = 0 → rdErr s = 0 ∧ rdVal s = .agg #[.string F, .int .i64 L, .int .i64 C, .int .i64 (codeF W.data.toList : Nat), .string T]) ∧
      (r ≠ 0 → rdErr s = r ∧ rdVal s = .agg #[.string ⟨#[]⟩, .int .i64 0, .int .i64 0, .int .i64 0, .string ⟨#[]⟩])) := by
  have h0 : 0 ≤ pL s ∧ 0 ≤ pC s := by
    obtain ⟨-, -, ⟨n, rfl, e1⟩, ⟨m, rfl, e2⟩⟩ := h
    rw [e1, e2]; omega
  have h5 : (!(pT s).isEmpty || !pB s) = true := by
    cases hp : pT s with
    | nil => rw [hB hp]; rfl
    | cons a r => rfl
  constructor
  · intro hc
    apply rd_bad
    unfold okL; rw [hW, hc]; simp
  · intro hc r hr
    have ho : okL s = true := by
      unfold okL; rw [hW, q1, h5, decide_eq_true h0.1, decide_eq_true h0.2, decide_eq_true hc]; rfl
    obtain ⟨f1, -, ⟨n, e1, e2⟩, ⟨m, e3, e4⟩⟩ := h
    have hk : noteChk (nF s) (pL s) (pC s) (codeF (pW s)) (pT s) = r := by rw [f1, e2, e4, hW, hT, chk_two]; exact hr
    constructor
    · intro h1
      subst h1
      have hz := chk_zero hr
      obtain ⟨g1, g2⟩ := rd_good ho hk
      refine ⟨g1, ?_⟩
      rw [g2, f1, e2, e4, hW, hT, Int.min_eq_left (by omega), Int.min_eq_left (by omega)]
    · intro h1
      obtain ⟨g1, g2⟩ := rd_fault ho (by rw [hk]; exact h1)
      exact ⟨g1.trans hk, g2⟩
theorem okL_t {s : List UInt8} (h1 : pT s = []) (h2 : pB s = true) : okL s = false := by unfold okL; rw [h1, h2]; simp
theorem cut_parts {s l : List UInt8} (q2 : pTl s = l) {a b : List UInt8} {c : Bool} (h : Lib.cut l [32] = (a, b, c)) : pW s = a ∧ pT s = b ∧ pB s = c := by
  unfold pW pT pB; rw [q2, h]; exact ⟨rfl, rfl, rfl⟩
/-- the code that is known before word j is looked at -/
def cdAt (l : List UInt8) (j : Nat) : Int := if 1 ≤ codeF l ∧ codeF l < j then (codeF l : Nat) else 0
theorem cdAt_one (l : List UInt8) : cdAt l 1 = 0 := by unfold cdAt; rw [if_neg (by omega)]
theorem cdAt_hit {l : List UInt8} {j : Nat} (h1 : 1 ≤ j) (h2 : j < 23) (h : wordsL.getD j [] = l) : cdAt l (j + 1) = j := by
  have e := (code_iff h1 h2 l).1 h
  unfold cdAt; rw [e, if_pos (by omega)]
theorem cdAt_no {l : List UInt8} {j : Nat} (h1 : 1 ≤ j) (h2 : j < 23) (h : ¬ wordsL.getD j [] = l) : cdAt l (j + 1) = cdAt l j := by
  have e : codeF l ≠ j := fun e => h ((code_iff h1 h2 l).2 e)
  unfold cdAt
  by_cases hc : 1 ≤ codeF l ∧ codeF l < j
  · rw [if_pos hc, if_pos (by omega)]
  · rw [if_neg hc, if_neg (by omega)]
theorem cdAt_end (l : List UInt8) : cdAt l 23 = (codeF l : Nat) := by
  have := codeF_lt l
  unfold cdAt; split <;> omega
theorem three_ok {s : List UInt8} {f : Nat} {F : List UInt8} {L C : Int} (h : Three s f F L C) : 0 ≤ pL s ∧ 0 ≤ pC s := by
  obtain ⟨-, -, ⟨n, rfl, e1⟩, ⟨m, rfl, e2⟩⟩ := h
  rw [e1, e2]; omega
theorem three_bad {s : List UInt8} {f : Nat} {F : List UInt8} {L C : Int} (h : Three s f F L C) (h2 : (s.drop f).head? ≠ some 32) : okL s = false := by
  apply okL_p
  unfold pP
  rw [h.r3]
  unfold Lib.hasPrefix
  cases hd : s.drop f with
  | nil => rfl
  | cons a r =>
    rw [hd] at h2
    have : ((32 : UInt8) == a) = false := by
      apply beq_eq_false_iff_ne.2
      intro e; apply h2; rw [e]; rfl
    simp [List.isPrefixOf, this]
/-- the parts behind the blank -/
theorem three_rest {s : List UInt8} {f : Nat} {F : List UInt8} {L C : Int} (h : Three s f F L C) (hf : f < s.length) (h2 : s[f] = 32) : pP s = true ∧ pTl s = s.drop (f + 1) := by
  have e : s.drop f = 32 :: s.drop (f + 1) := by rw [List.drop_eq_getElem_cons hf, h2]
  constructor
  · unfold pP; rw [h.r3, e]; rfl
  · unfold pTl; rw [h.r3, e]; rfl
set_option maxRecDepth 100000 in
set_option maxHeartbeats 8000000 in
theorem refRead_any (s : ByteArray) (hs : s.size ≤ 1000) (w : World) :
    Calls Tryd.prog 20 #[.string s] w fun e' w' => e' = .returned (.tuple #[rdVal s.data.toList, .int .i64 (rdErr s.data.toList)]) ∧ Below w.heap.size w w' := by
  have hsl := len_toList s
  have HSL := Lib.hid hsl
  clear hsl
  go_enter Tryd.func20, Tryd.ntmps20
  go_wp2_with fail
  have T0 : Two w w.heap.size (w.heap.size + 1) ⟨#[]⟩ 0 0 0 ⟨#[]⟩ ((w.alloc (Obj.cells #[Value.string ⟨#[]⟩, Value.int IntKind.i64 0, Value.int IntKind.i64 0, Value.int IntKind.i64 0, Value.string ⟨#[]⟩] 24)).alloc (Obj.cells #[Value.string ⟨#[]⟩, Value.int IntKind.i64 0, Value.int IntKind.i64 0, Value.int IntKind.i64 0, Value.string ⟨#[]⟩] 24)) :=
    ⟨⟨by go_simp, by go_simp, by go_simp, by go_simp, by go_simp, fun o => by go_simp⟩, ⟨by go_simp, by go_simp, by go_simp, by go_simp, by go_simp, fun o => by go_simp⟩, ((Below.refl _ _).alloc (Nat.le_refl _) _).alloc (by simp) _⟩
  go_loopw [5, 6, 7] (fun part fr i wr => ∃ (p f k : Nat) (F : ByteArray) (L C : Int), k ≤ s.size ∧ part = .int .i64 p ∧ fr = .int .i64 f ∧ i = .int .i64 k ∧ Hid (Scan s.data.toList p f k F.data.toList L C) ∧ Two w w.heap.size (w.heap.size + 1) F L C 0 ⟨#[]⟩ wr) (fun _ _ i _ => s.size - (intOf i).toNat)
  case atStart => exact ⟨0, 0, 0, ⟨#[]⟩, 0, 0, Nat.zero_le _, rfl, rfl, rfl, .p0 (by intro x hx; simp at hx), T0⟩
  case round =>
    obtain ⟨p, f, k, F, L, C, hk, rfl, rfl, rfl, hsc, T⟩ := hrel
    clear T0
    have hp3 := hsc.out.le
    by_cases h3 : p < 3
    · by_cases hlt : k < s.size
      · have hfk := hsc.out.from_le h3
        by_cases h58 : s[k].toNat = 58
        · have hne1 : ((s[k].toNat : Int) != 58) = false := by rw [h58]; rfl
          have hc58 : ∀ h : k < s.data.toList.length, s.data.toList[k] = 58 := fun h => by apply UInt8.toNat_inj.1; show s[k].toNat = 58; exact h58
          have HC := Lib.hid hc58
          clear hc58 h58
          rcases (show p = 0 ∨ p = 1 ∨ p = 2 by omega) with hp | hp | hp
          · subst hp
            obtain ⟨f0, L0, C0, sc⟩ := hsc.out.at0 (by rw [HSL.out]; exact hlt) (HC.out _)
            subst f0 L0 C0
            have SC : Hid (Scan s.data.toList 1 (k + 1) (k + 1) (s.extract 0 k).data.toList 0 0) := by
              show Scan _ _ _ _ _ _ _
              rw [ext_list]; exact sc
            clear sc
            obtain ⟨⟨r0, r1, r2, r3, r4, rf⟩, ⟨y0, y1, y2, y3, y4, yf⟩, lo⟩ := id T
            go_wp2_with fail
            go_roundw
            case rel => exact ⟨1, k + 1, k + 1, _, 0, 0, by omega, rfl, by go_num, by go_num, SC, ⟨T.r.other (by omega) _ _, T.n.put0 _, T.lo.setCell (Nat.le_succ _) _⟩⟩
            case measure => simp [intOf]; omega
          · subst hp
            have hxz : (s.extract f k).size ≤ 1000000 := by simp; omega
            cases hb : nbad (s.extract f k).data.toList
            · have hb2 := hb
              rw [ext_list] at hb2
              obtain ⟨-, C0, sc⟩ := hsc.out.at1 (by rw [HSL.out]; exact hlt) (HC.out _) hb2
              subst C0
              have SC := Lib.hid sc
              clear sc
              have hpl := Lib.hid (plain_good (s.extract f k) hxz hb)
              rw [ext_list] at hpl
              generalize hN : numR ((s.data.toList.drop f).take (k - f)) = N at SC hpl
              clear hb hb2 hN
              go_wp2_with fail
              refine (hpl.out _).mono ?_
              rintro e w1 ⟨rfl, hb1⟩
              have T1 := T.below hb1
              clear hb1 T
              obtain ⟨⟨r0, r1, r2, r3, r4, rf⟩, ⟨y0, y1, y2, y3, y4, yf⟩, lo⟩ := id T1
              go_wp2_with fail
              go_roundw
              case rel => exact ⟨2, k + 1, k + 1, F, (N : Int), 0, by omega, rfl, by go_num, by go_num, SC, ⟨T1.r.other (by omega) _ _, T1.n.put1 _, T1.lo.setCell (Nat.le_succ _) _⟩⟩
              case measure => simp [intOf]; omega
            · have hb2 := hb
              rw [ext_list] at hb2
              have HE := Lib.hid (rd_bad (hsc.out.bad1 (by rw [HSL.out]; exact hlt) (HC.out _) hb2))
              have hpl := Lib.hid (plain_bad (s.extract f k) hxz hb)
              clear hb hb2
              go_wp2_with fail
              refine (hpl.out _).mono ?_
              rintro e w1 ⟨rfl, hb1⟩
              have T1 := T.below hb1
              clear hb1 T
              obtain ⟨⟨r0, r1, r2, r3, r4, rf⟩, ⟨y0, y1, y2, y3, y4, yf⟩, lo⟩ := id T1
              go_wp2_with fail
              exact bodyPost_ret (v := .tuple #[.agg #[.string ⟨#[]⟩, .int .i64 0, .int .i64 0, .int .i64 0, .string ⟨#[]⟩], .int .i64 10]) (by simp [results, Tryd.results20, go_sem, r0, r1, r2, r3, r4, rf]) rfl ⟨by rw [HE.out.1, HE.out.2], by (repeat (first | (with_reducible exact lo) | (with_reducible exact Nat.le_refl _) | (with_reducible refine Below.setCell ?_ ?_ _) | (with_reducible refine Below.alloc ?_ ?_ _) | (with_reducible refine below_drewN ?_ _) | (with_reducible refine Below.drew ?_))) <;> (first | omega | (simp <;> omega))⟩
          · subst hp
            have hxz : (s.extract f k).size ≤ 1000000 := by simp; omega
            cases hb : nbad (s.extract f k).data.toList
            · have hb2 := hb
              rw [ext_list] at hb2
              have SC := Lib.hid (hsc.out.at2 (by rw [HSL.out]; exact hlt) (HC.out _) hb2)
              have hpl := Lib.hid (plain_good (s.extract f k) hxz hb)
              rw [ext_list] at hpl
              generalize hN : numR ((s.data.toList.drop f).take (k - f)) = N at SC hpl
              clear hb hb2 hN
              go_wp2_with fail
              refine (hpl.out _).mono ?_
              rintro e w1 ⟨rfl, hb1⟩
              have T1 := T.below hb1
              clear hb1 T
              obtain ⟨⟨r0, r1, r2, r3, r4, rf⟩, ⟨y0, y1, y2, y3, y4, yf⟩, lo⟩ := id T1
              go_wp2_with fail
              go_roundw
              case rel => exact ⟨3, k + 1, k + 1, F, L, (N : Int), by omega, rfl, by go_num, by go_num, SC.out.2, ⟨T1.r.other (by omega) _ _, T1.n.put2 _, T1.lo.setCell (Nat.le_succ _) _⟩⟩
              case measure => simp [intOf]; omega
            · have hb2 := hb
              rw [ext_list] at hb2
              have HE := Lib.hid (rd_bad (hsc.out.bad2 (by rw [HSL.out]; exact hlt) (HC.out _) hb2))
              have hpl := Lib.hid (plain_bad (s.extract f k) hxz hb)
              clear hb hb2
              go_wp2_with fail
              refine (hpl.out _).mono ?_
              rintro e w1 ⟨rfl, hb1⟩
              have T1 := T.below hb1
              clear hb1 T
              obtain ⟨⟨r0, r1, r2, r3, r4, rf⟩, ⟨y0, y1, y2, y3, y4, yf⟩, lo⟩ := id T1
              go_wp2_with fail
              exact bodyPost_ret (v := .tuple #[.agg #[.string ⟨#[]⟩, .int .i64 0, .int .i64 0, .int .i64 0, .string ⟨#[]⟩], .int .i64 10]) (by simp [results, Tryd.results20, go_sem, r0, r1, r2, r3, r4, rf]) rfl ⟨by rw [HE.out.1, HE.out.2], by (repeat (first | (with_reducible exact lo) | (with_reducible exact Nat.le_refl _) | (with_reducible refine Below.setCell ?_ ?_ _) | (with_reducible refine Below.alloc ?_ ?_ _) | (with_reducible refine below_drewN ?_ _) | (with_reducible refine Below.drew ?_))) <;> (first | omega | (simp <;> omega))⟩
        · have hne1 : ((s[k].toNat : Int) != 58) = true := by simp; omega
          have SC : Hid (Scan s.data.toList p f (k + 1) F.data.toList L C) := hsc.out.no h3 (by rw [HSL.out]; exact hlt) (fun e => h58 (by
            have e2 : (s.data.toList[k]'(by rw [HSL.out]; exact hlt)).toNat = 58 := by rw [e]; rfl
            exact e2))
          clear h58
          have hp3' : (p : Int) < 3 := by omega
          go_wp2_with fail
          go_roundw
          case rel => exact ⟨p, f, k + 1, F, L, C, by omega, rfl, rfl, by go_num, SC, T⟩
          case measure => simp [intOf]; omega
      · have hks : k = s.data.toList.length := by rw [HSL.out]; omega
        have hsc2 := hsc.out
        rw [hks] at hsc2
        have HE := Lib.hid (rd_bad (hsc2.short h3))
        clear hks hsc2
        have hp3' : (p : Int) < 3 := by omega
        obtain ⟨⟨r0, r1, r2, r3, r4, rf⟩, ⟨y0, y1, y2, y3, y4, yf⟩, lo⟩ := id T
        go_wp2_with fail
        exact bodyPost_ret (v := .tuple #[.agg #[.string ⟨#[]⟩, .int .i64 0, .int .i64 0, .int .i64 0, .string ⟨#[]⟩], .int .i64 10]) (by simp [results, Tryd.results20, go_sem, r0, r1, r2, r3, r4, rf]) rfl ⟨by rw [HE.out.1, HE.out.2], by (repeat (first | (with_reducible exact lo) | (with_reducible exact Nat.le_refl _) | (with_reducible refine Below.setCell ?_ ?_ _) | (with_reducible refine Below.alloc ?_ ?_ _) | (with_reducible refine below_drewN ?_ _) | (with_reducible refine Below.drew ?_))) <;> (first | omega | (simp <;> omega))⟩
    · obtain rfl : p = 3 := by omega
      have TH := Lib.hid hsc.out.three
      have HFZ : Hid (F.size ≤ 9223372036854775807) := by
        show _ ≤ _
        have h9 := cut_len s.data.toList [58]
        have h8 : F.data.toList = (Lib.cut s.data.toList [58]).1 := TH.out.f1.symm
        rw [← len_toList, h8]; rw [HSL.out] at h9; omega
      clear hsc hp3 h3
      by_cases hlt : k < s.size
      all_goals
        by_cases hfs : f < s.size
        · by_cases h32 : s[f].toNat = 32
          · have hne1 : ((s[f].toNat : Int) != 32) = false := by rw [h32]; rfl
            have H32 := Lib.hid h32
            clear h32
            go_wp2_with fail
            obtain ⟨q1, q2⟩ := three_rest TH.out (by rw [HSL.out]; exact hfs) (by apply UInt8.toNat_inj.1; show s[f].toNat = 32; exact H32.out)
            have hrl : (s.extract (f + 1) s.size).data.toList = s.data.toList.drop (f + 1) := by
              rw [ext_list]; exact List.take_of_length_le (by simp)
            have hrz : (s.extract (f + 1) s.size).size ≤ 1000 := by simp; omega
            generalize s.extract (f + 1) s.size = rest at hrl hrz ⊢
            rw [← hrl] at q2
            have Q1 := Lib.hid q1
            have Q2 := Lib.hid q2
            clear q1 q2 hrl
            go_loop [12] (fun v => ∃ m : Nat, m ≤ rest.size ∧ v = .int .i64 m ∧ Hid (No 32 (rest.data.toList.take m))) (fun v => rest.size - (intOf v).toNat)
            case atStart => exact ⟨0, Nat.zero_le _, rfl, (by intro x hx; simp at hx)⟩
            case round =>
              obtain ⟨m, hm, rfl, hno⟩ := hrel
              by_cases hmr : m < rest.size
              · have hml : m < rest.data.toList.length := by rw [len_toList]; exact hmr
                by_cases hb : rest[m].toNat = 32
                · have hcut : Lib.cut rest.data.toList [32] = (rest.data.toList.take m, rest.data.toList.drop (m + 1), true) := cut_here hno.out hml (by apply UInt8.toNat_inj.1; show rest[m].toNat = 32; exact hb)
                  obtain ⟨g1, g2, g3⟩ := cut_parts Q2.out hcut
                  have htl : (rest.extract (m + 1) rest.size).data.toList = rest.data.toList.drop (m + 1) := by rw [ext_list]; exact List.take_of_length_le (by simp)
                  have HPW : Hid (pW s.data.toList = (rest.extract 0 m).data.toList) := by show _ = _; rw [g1, ext_list]; rfl
                  have HPT : Hid (pT s.data.toList = (rest.extract (m + 1) rest.size).data.toList) := by show _ = _; rw [g2, htl]
                  have hne2 : ((rest[m].toNat : Int) != 32) = false := by rw [hb]; rfl
                  have HTZ : Hid ((rest.extract (m + 1) rest.size).size ≤ 9223372036854775807) := by show _ ≤ _; simp; omega
                  have hm1 : (m : Int) + 1 ≤ (rest.size : Int) := by omega
                  by_cases hend : m + 1 = rest.size
                  · have hd : rest.data.toList.drop (m + 1) = [] := List.drop_of_length_le (by rw [len_toList]; omega)
                    have HE := Lib.hid (rd_bad (okL_t (by rw [g2, hd]) g3))
                    have t0 : (rest.extract (m + 1) rest.size).toList = [] := by rw [Lib.toList_data, htl, hd]
                    have t1 : (rest.extract (m + 1) rest.size).toList.isEmpty = true := by rw [t0]; rfl
                    clear g1 g2 g3 hcut htl hb hd hend
                    obtain ⟨⟨r0, r1, r2, r3, r4, rf⟩, ⟨y0, y1, y2, y3, y4, yf⟩, lo⟩ := id T
                    go_wp2_with fail
                    exact bodyPost_ret (v := .tuple #[.agg #[.string ⟨#[]⟩, .int .i64 0, .int .i64 0, .int .i64 0, .string ⟨#[]⟩], .int .i64 10]) (by simp [results, Tryd.results20, go_sem, r0, r1, r2, r3, r4, rf]) rfl ⟨by rw [HE.out.1, HE.out.2], by (repeat (first | (with_reducible exact lo) | (with_reducible exact Nat.le_refl _) | (with_reducible refine Below.setCell ?_ ?_ _) | (with_reducible refine Below.alloc ?_ ?_ _) | (with_reducible refine below_drewN ?_ _) | (with_reducible refine Below.drew ?_))) <;> (first | omega | (simp <;> omega))⟩
                  · have hd : rest.data.toList.drop (m + 1) ≠ [] := fun e => by
                      have e2 := congrArg List.length e
                      rw [List.length_drop, len_toList] at e2
                      simp at e2; omega
                    have t0 : ¬ (rest.extract (m + 1) rest.size).toList = [] := by rw [Lib.toList_data, htl]; exact hd
                    have t1 : (rest.extract (m + 1) rest.size).toList.isEmpty = false := by simpa using t0
                    have HPB : Hid (pT s.data.toList = [] → pB s.data.toList = false) := fun e => absurd (g2.symm.trans e) hd
                    clear g1 g2 g3 hcut htl hb hd hend
                    have TW : Two w w.heap.size (w.heap.size + 1) F L C 0 (rest.extract (m + 1) rest.size) (wr.setCell ⟨w.heap.size + 1, 4, none⟩ (.string (rest.extract (m + 1) rest.size))) := ⟨T.r.other (by omega) _ _, T.n.put4 _, T.lo.setCell (Nat.le_succ _) _⟩
                    obtain ⟨⟨r0, r1, r2, r3, r4, rf⟩, ⟨y0, y1, y2, y3, y4, yf⟩, lo⟩ := id T
                    go_wp2_with fail
                    clear r0 r1 r2 r3 r4 rf y0 y1 y2 y3 y4 yf lo T t0 t1
                    have X3 := Lib.hid (cdAt_one (rest.extract 0 m).data.toList)
                    go_loopw [13] (fun v wq => ∃ j : Nat, 1 ≤ j ∧ j ≤ 23 ∧ v = .int .i64 j ∧ Two w w.heap.size (w.heap.size + 1) F L C (cdAt (rest.extract 0 m).data.toList j) (rest.extract (m + 1) rest.size) wq) (fun v _ => 23 - (intOf v).toNat)
                    case atStart => exact ⟨1, by omega, by omega, rfl, by rw [X3.out]; exact TW⟩
                    case round =>
                      obtain ⟨j, j1, j2, rfl, T3⟩ := hrel
                      clear TW
                      by_cases hj : j < 23
                      · have cW : ∀ d os, Calls Tryd.prog 16 #[.int .i64 j] (grow (redrawn wr d) os) fun e w'' => e = .returned (.string (wordB j)) ∧ ∃ p : Regrown, w'' = grow (redrawn wr p.d) p.os := fun d os => Calls.regrown_of (noteWord_in j hj _)
                        have hm0 : (0 : Int) ≤ (m : Int) := by omega
                        have hm1 : (m : Int) ≤ (rest.size : Int) := by omega
                        have hj' : (j : Int) ≤ 22 := by omega
                        by_cases hw : wordsL.getD j [] = (rest.extract 0 m).data.toList
                        · have HCD := Lib.hid (cdAt_hit j1 hj hw)
                          have he2 : ((wordB j).toList == (rest.extract 0 m).toList) = true := by
                            rw [Lib.toList_data, Lib.toList_data, show (wordB j).data.toList = wordsL.getD j [] from rfl, hw]; exact beq_self_eq_true _
                          clear hw
                          go_wp2_with fail
                          refine wp_region_quiet_below (by kernel_rfl) (by kernel_rfl) ?_
                          repeat (quiet_step (first | (with_reducible exact cW _ _)))
                          refine wpQuiet_nil ?_
                          intro _ hw'
                          obtain ⟨⟨dq, osq⟩, hw''⟩ := hw'
                          subst hw''
                          have T4 := T3.below (below_regrown _ dq osq)
                          clear T3 cW
                          generalize grow (redrawn wr dq) osq = wt at T4 ⊢
                          obtain ⟨⟨r0, r1, r2, r3, r4, rf⟩, ⟨y0, y1, y2, y3, y4, yf⟩, lo⟩ := id T4
                          go_wp2_with fail
                          go_roundw
                          case rel => exact ⟨j + 1, by omega, by omega, by go_num, by rw [HCD.out]; exact ⟨T4.r.other (by omega) _ _, T4.n.put3 _, T4.lo.setCell (Nat.le_succ _) _⟩⟩
                          case measure => simp [intOf]; omega
                        · have HCD := Lib.hid (cdAt_no j1 hj hw)
                          have he2 : ((wordB j).toList == (rest.extract 0 m).toList) = false := by
                            rw [Lib.toList_data, Lib.toList_data, show (wordB j).data.toList = wordsL.getD j [] from rfl]; exact beq_eq_false_iff_ne.2 hw
                          clear hw
                          go_wp2_with fail
                          refine wp_region_quiet_below (by kernel_rfl) (by kernel_rfl) ?_
                          repeat (quiet_step (first | (with_reducible exact cW _ _)))
                          refine wpQuiet_nil ?_
                          intro _ hw'
                          obtain ⟨⟨dq, osq⟩, hw''⟩ := hw'
                          subst hw''
                          have T4 := T3.below (below_regrown _ dq osq)
                          clear T3 cW
                          generalize grow (redrawn wr dq) osq = wt at T4 ⊢
                          go_wp2_with fail
                          go_roundw
                          case rel => exact ⟨j + 1, by omega, by omega, by go_num, by rw [HCD.out]; exact T4⟩
                          case measure => simp [intOf]; omega
                      · obtain rfl : j = 23 := by omega
                        rw [cdAt_end] at T3
                        have HALL0 := rd_all TH.out Q1.out HPW.out HPT.out HPB.out
                        generalize codeF (rest.extract 0 m).data.toList = cv at T3 HALL0
                        have HALL := Lib.hid HALL0
                        clear HALL0
                        by_cases h0 : cv = 0
                        · have HE := Lib.hid (HALL.out.1 h0)
                          have hz : ((cv : Int) == 0) = true := by rw [h0]; rfl
                          clear h0
                          obtain ⟨⟨r0, r1, r2, r3, r4, rf⟩, ⟨y0, y1, y2, y3, y4, yf⟩, lo⟩ := id T3
                          go_wp2_with fail
                          exact bodyPost_ret (v := .tuple #[.agg #[.string ⟨#[]⟩, .int .i64 0, .int .i64 0, .int .i64 0, .string ⟨#[]⟩], .int .i64 10]) (by simp [results, Tryd.results20, go_sem, r0, r1, r2, r3, r4, rf]) rfl ⟨by rw [HE.out.1, HE.out.2], by (repeat (first | (with_reducible exact lo) | (with_reducible exact Nat.le_refl _) | (with_reducible refine Below.setCell ?_ ?_ _) | (with_reducible refine Below.alloc ?_ ?_ _) | (with_reducible refine below_drewN ?_ _) | (with_reducible refine Below.drew ?_))) <;> (first | omega | (simp <;> omega))⟩
                        · obtain ⟨r, hr⟩ : ∃ r, noteChk F.data.toList L C (cv : Int) ((rest.extract (m + 1) rest.size) : ByteArray).data.toList = r := ⟨_, rfl⟩
                          have hz : ((cv : Int) == 0) = false := by apply beq_eq_false_iff_ne.2; omega
                          have HALL2 := Lib.hid (HALL.out.2 h0 r hr)
                          have HRR := Lib.hid hr
                          clear hr h0 HALL
                          obtain ⟨⟨r0, r1, r2, r3, r4, rf⟩, ⟨y0, y1, y2, y3, y4, yf⟩, lo⟩ := id T3
                          go_wp2_with fail
                          refine (flt_any F (rest.extract (m + 1) rest.size) L C cv HFZ.out HTZ.out _).mono ?_
                          rintro e w4 ⟨rfl, hb4⟩
                          rw [HRR.out]
                          have T5 := T3.below hb4
                          clear r0 r1 r2 r3 r4 rf y0 y1 y2 y3 y4 yf lo hb4 T3
                          obtain ⟨⟨r0, r1, r2, r3, r4, rf⟩, ⟨y0, y1, y2, y3, y4, yf⟩, lo⟩ := id T5
                          by_cases hr0 : r = 0
                          · have HE := Lib.hid (HALL2.out.1 hr0)
                            subst hr0
                            go_wp2_with fail
                            exact bodyPost_ret (v := .tuple #[.agg #[.string F, .int .i64 L, .int .i64 C, .int .i64 cv, .string (rest.extract (m + 1) rest.size)], .int .i64 0]) (by simp [results, Tryd.results20, go_sem, r0, r1, r2, r3, r4, rf]) rfl ⟨by rw [HE.out.1, HE.out.2], by (repeat (first | (with_reducible exact lo) | (with_reducible exact Nat.le_refl _) | (with_reducible refine Below.setCell ?_ ?_ _) | (with_reducible refine Below.alloc ?_ ?_ _) | (with_reducible refine below_drewN ?_ _) | (with_reducible refine Below.drew ?_))) <;> (first | omega | (simp <;> omega))⟩
                          · have HE := Lib.hid (HALL2.out.2 hr0)
                            have hz1 : (r == 0) = false := by simpa using hr0
                            have hz2 : (r != 0) = true := by simpa using hr0
                            clear hr0
                            go_wp2_with fail
                            exact bodyPost_ret (v := .tuple #[.agg #[.string ⟨#[]⟩, .int .i64 0, .int .i64 0, .int .i64 0, .string ⟨#[]⟩], .int .i64 r]) (by simp [results, Tryd.results20, go_sem, r0, r1, r2, r3, r4, rf]) rfl ⟨by rw [HE.out.1, HE.out.2], by (repeat (first | (with_reducible exact lo) | (with_reducible exact Nat.le_refl _) | (with_reducible refine Below.setCell ?_ ?_ _) | (with_reducible refine Below.alloc ?_ ?_ _) | (with_reducible refine below_drewN ?_ _) | (with_reducible refine Below.drew ?_))) <;> (first | omega | (simp <;> omega))⟩
                · have hne2 : ((rest[m].toNat : Int) != 32) = true := by simp; omega
                  have HNO := Lib.hid (no_snoc hno.out hml (fun e => hb (by
                    have e2 : rest.data.toList[m].toNat = 32 := by rw [e]; rfl
                    exact e2)))
                  clear hb
                  go_wp2_with fail
                  go_round
                  case rel => exact ⟨m + 1, by omega, by go_num, HNO⟩
                  case measure => simp [intOf]; omega
              · have hcut : Lib.cut rest.data.toList [32] = (rest.data.toList, [], false) := cut_all (by
                  have h9 := hno.out
                  rw [List.take_of_length_le (by rw [len_toList]; omega)] at h9; exact h9)
                have HCUT := Lib.hid hcut
                clear hcut
                go_wp2_with fail
                obtain ⟨g1, g2, g3⟩ := cut_parts Q2.out HCUT.out
                have HPW : Hid (pW s.data.toList = (rest.extract 0 m).data.toList) := by
                  show _ = _
                  rw [g1, ext_list]; exact (List.take_of_length_le (by rw [len_toList]; omega)).symm
                have HPT : Hid (pT s.data.toList = (⟨#[]⟩ : ByteArray).data.toList) := g2
                have HPB : Hid (pT s.data.toList = [] → pB s.data.toList = false) := fun _ => g3
                clear g1 g2 g3
                have HTZ : Hid ((⟨#[]⟩ : ByteArray).size ≤ 9223372036854775807) := by show _ ≤ _; decide
                have X3 := Lib.hid (cdAt_one (rest.extract 0 m).data.toList)
                go_loopw [13] (fun v wq => ∃ j : Nat, 1 ≤ j ∧ j ≤ 23 ∧ v = .int .i64 j ∧ Two w w.heap.size (w.heap.size + 1) F L C (cdAt (rest.extract 0 m).data.toList j) ⟨#[]⟩ wq) (fun v _ => 23 - (intOf v).toNat)
                case atStart => exact ⟨1, by omega, by omega, rfl, by rw [X3.out]; exact T⟩
                case round =>
                  obtain ⟨j, j1, j2, rfl, T3⟩ := hrel
                  clear T
                  by_cases hj : j < 23
                  · have cW : ∀ d os, Calls Tryd.prog 16 #[.int .i64 j] (grow (redrawn wr d) os) fun e w'' => e = .returned (.string (wordB j)) ∧ ∃ p : Regrown, w'' = grow (redrawn wr p.d) p.os := fun d os => Calls.regrown_of (noteWord_in j hj _)
                    have hm0 : (0 : Int) ≤ (m : Int) := by omega
                    have hm1 : (m : Int) ≤ (rest.size : Int) := by omega
                    have hj' : (j : Int) ≤ 22 := by omega
                    by_cases hw : wordsL.getD j [] = (rest.extract 0 m).data.toList
                    · have HCD := Lib.hid (cdAt_hit j1 hj hw)
                      have he2 : ((wordB j).toList == (rest.extract 0 m).toList) = true := by
                        rw [Lib.toList_data, Lib.toList_data, show (wordB j).data.toList = wordsL.getD j [] from rfl, hw]; exact beq_self_eq_true _
                      clear hw
                      go_wp2_with fail
                      refine wp_region_quiet_below (by kernel_rfl) (by kernel_rfl) ?_
                      repeat (quiet_step (first | (with_reducible exact cW _ _)))
                      refine wpQuiet_nil ?_
                      intro _ hw'
                      obtain ⟨⟨dq, osq⟩, hw''⟩ := hw'
                      subst hw''
                      have T4 := T3.below (below_regrown _ dq osq)
                      clear T3 cW
                      generalize grow (redrawn wr dq) osq = wt at T4 ⊢
                      obtain ⟨⟨r0, r1, r2, r3, r4, rf⟩, ⟨y0, y1, y2, y3, y4, yf⟩, lo⟩ := id T4
                      go_wp2_with fail
                      go_roundw
                      case rel => exact ⟨j + 1, by omega, by omega, by go_num, by rw [HCD.out]; exact ⟨T4.r.other (by omega) _ _, T4.n.put3 _, T4.lo.setCell (Nat.le_succ _) _⟩⟩
                      case measure => simp [intOf]; omega
                    · have HCD := Lib.hid (cdAt_no j1 hj hw)
                      have he2 : ((wordB j).toList == (rest.extract 0 m).toList) = false := by
                        rw [Lib.toList_data, Lib.toList_data, show (wordB j).data.toList = wordsL.getD j [] from rfl]; exact beq_eq_false_iff_ne.2 hw
                      clear hw
                      go_wp2_with fail
                      refine wp_region_quiet_below (by kernel_rfl) (by kernel_rfl) ?_
                      repeat (quiet_step (first | (with_reducible exact cW _ _)))
                      refine wpQuiet_nil ?_
                      intro _ hw'
                      obtain ⟨⟨dq, osq⟩, hw''⟩ := hw'
                      subst hw''
                      have T4 := T3.below (below_regrown _ dq osq)
                      clear T3 cW
                      generalize grow (redrawn wr dq) osq = wt at T4 ⊢
                      go_wp2_with fail
                      go_roundw
                      case rel => exact ⟨j + 1, by omega, by omega, by go_num, by rw [HCD.out]; exact T4⟩
                      case measure => simp [intOf]; omega
                  · obtain rfl : j = 23 := by omega
                    rw [cdAt_end] at T3
                    have HALL0 := rd_all TH.out Q1.out HPW.out HPT.out HPB.out
                    generalize codeF (rest.extract 0 m).data.toList = cv at T3 HALL0
                    have HALL := Lib.hid HALL0
                    clear HALL0
                    by_cases h0 : cv = 0
                    · have HE := Lib.hid (HALL.out.1 h0)
                      have hz : ((cv : Int) == 0) = true := by rw [h0]; rfl
                      clear h0
                      obtain ⟨⟨r0, r1, r2, r3, r4, rf⟩, ⟨y0, y1, y2, y3, y4, yf⟩, lo⟩ := id T3
                      go_wp2_with fail
                      exact bodyPost_ret (v := .tuple #[.agg #[.string ⟨#[]⟩, .int .i64 0, .int .i64 0, .int .i64 0, .string ⟨#[]⟩], .int .i64 10]) (by simp [results, Tryd.results20, go_sem, r0, r1, r2, r3, r4, rf]) rfl ⟨by rw [HE.out.1, HE.out.2], by (repeat (first | (with_reducible exact lo) | (with_reducible exact Nat.le_refl _) | (with_reducible refine Below.setCell ?_ ?_ _) | (with_reducible refine Below.alloc ?_ ?_ _) | (with_reducible refine below_drewN ?_ _) | (with_reducible refine Below.drew ?_))) <;> (first | omega | (simp <;> omega))⟩
                    · obtain ⟨r, hr⟩ : ∃ r, noteChk F.data.toList L C (cv : Int) (⟨#[]⟩ : ByteArray).data.toList = r := ⟨_, rfl⟩
                      have hz : ((cv : Int) == 0) = false := by apply beq_eq_false_iff_ne.2; omega
                      have HALL2 := Lib.hid (HALL.out.2 h0 r hr)
                      have HRR := Lib.hid hr
                      clear hr h0 HALL
                      obtain ⟨⟨r0, r1, r2, r3, r4, rf⟩, ⟨y0, y1, y2, y3, y4, yf⟩, lo⟩ := id T3
                      go_wp2_with fail
                      refine (flt_any F ⟨#[]⟩ L C cv HFZ.out HTZ.out _).mono ?_
                      rintro e w4 ⟨rfl, hb4⟩
                      rw [HRR.out]
                      have T5 := T3.below hb4
                      clear r0 r1 r2 r3 r4 rf y0 y1 y2 y3 y4 yf lo hb4 T3
                      obtain ⟨⟨r0, r1, r2, r3, r4, rf⟩, ⟨y0, y1, y2, y3, y4, yf⟩, lo⟩ := id T5
                      by_cases hr0 : r = 0
                      · have HE := Lib.hid (HALL2.out.1 hr0)
                        subst hr0
                        go_wp2_with fail
                        exact bodyPost_ret (v := .tuple #[.agg #[.string F, .int .i64 L, .int .i64 C, .int .i64 cv, .string ⟨#[]⟩], .int .i64 0]) (by simp [results, Tryd.results20, go_sem, r0, r1, r2, r3, r4, rf]) rfl ⟨by rw [HE.out.1, HE.out.2], by (repeat (first | (with_reducible exact lo) | (with_reducible exact Nat.le_refl _) | (with_reducible refine Below.setCell ?_ ?_ _) | (with_reducible refine Below.alloc ?_ ?_ _) | (with_reducible refine below_drewN ?_ _) | (with_reducible refine Below.drew ?_))) <;> (first | omega | (simp <;> omega))⟩
                      · have HE := Lib.hid (HALL2.out.2 hr0)
                        have hz1 : (r == 0) = false := by simpa using hr0
                        have hz2 : (r != 0) = true := by simpa using hr0
                        clear hr0
                        go_wp2_with fail
                        exact bodyPost_ret (v := .tuple #[.agg #[.string ⟨#[]⟩, .int .i64 0, .int .i64 0, .int .i64 0, .string ⟨#[]⟩], .int .i64 r]) (by simp [results, Tryd.results20, go_sem, r0, r1, r2, r3, r4, rf]) rfl ⟨by rw [HE.out.1, HE.out.2], by (repeat (first | (with_reducible exact lo) | (with_reducible exact Nat.le_refl _) | (with_reducible refine Below.setCell ?_ ?_ _) | (with_reducible refine Below.alloc ?_ ?_ _) | (with_reducible refine below_drewN ?_ _) | (with_reducible refine Below.drew ?_))) <;> (first | omega | (simp <;> omega))⟩
          · have hne1 : ((s[f].toNat : Int) != 32) = true := by simp; omega
            have HE := Lib.hid (rd_bad (three_bad TH.out (by
              rw [List.head?_drop, List.getElem?_eq_getElem (by rw [HSL.out]; exact hfs)]
              intro e
              have e2 : s.data.toList[f]'(by rw [HSL.out]; exact hfs) = 32 := by simpa using e
              apply h32
              show (s.data.toList[f]'(by rw [HSL.out]; exact hfs)).toNat = 32
              rw [e2]; rfl)))
            clear h32
            obtain ⟨⟨r0, r1, r2, r3, r4, rf⟩, ⟨y0, y1, y2, y3, y4, yf⟩, lo⟩ := id T
            go_wp2_with fail
            exact bodyPost_ret (v := .tuple #[.agg #[.string ⟨#[]⟩, .int .i64 0, .int .i64 0, .int .i64 0, .string ⟨#[]⟩], .int .i64 10]) (by simp [results, Tryd.results20, go_sem, r0, r1, r2, r3, r4, rf]) rfl ⟨by rw [HE.out.1, HE.out.2], by (repeat (first | (with_reducible exact lo) | (with_reducible exact Nat.le_refl _) | (with_reducible refine Below.setCell ?_ ?_ _) | (with_reducible refine Below.alloc ?_ ?_ _) | (with_reducible refine below_drewN ?_ _) | (with_reducible refine Below.drew ?_))) <;> (first | omega | (simp <;> omega))⟩
        · have HE := Lib.hid (rd_bad (three_bad TH.out (by rw [List.drop_of_length_le (by rw [HSL.out]; omega)]; simp)))
          obtain ⟨⟨r0, r1, r2, r3, r4, rf⟩, ⟨y0, y1, y2, y3, y4, yf⟩, lo⟩ := id T
          go_wp2_with fail
          exact bodyPost_ret (v := .tuple #[.agg #[.string ⟨#[]⟩, .int .i64 0, .int .i64 0, .int .i64 0, .string ⟨#[]⟩], .int .i64 10]) (by simp [results, Tryd.results20, go_sem, r0, r1, r2, r3, r4, rf]) rfl ⟨by rw [HE.out.1, HE.out.2], by (repeat (first | (with_reducible exact lo) | (with_reducible exact Nat.le_refl _) | (with_reducible refine Below.setCell ?_ ?_ _) | (with_reducible refine Below.alloc ?_ ?_ _) | (with_reducible refine below_drewN ?_ _) | (with_reducible refine Below.drew ?_))) <;> (first | omega | (simp <;> omega))⟩
end Go.Proofs.YtmeofhjnckgcpaaDoor
