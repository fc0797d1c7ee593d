/- The error of a graph: the reference. -/
import Derived.Test.YtcpifmhcebfglaaGrSg
import Derived.Test.YtcpifmhcebfglaaMgRel
namespace Go.Proofs.Ytcpifmhcebfglaa
open Go Go.RowKit Go.Sort
set_option linter.unusedVariables false
def badL (n l : Int) : Bool := decide (l < 0) || decide (n ≤ l)
/-- one of the literals is not there -/
def anyB (n : Int) (l : List Int) : Bool := l.any (badL n)
def orL : List Int → Int
  | [] => 0
  | e :: l => if e = 0 then orL l else e
/-- the ands: the literals from the node n on -/
def andsF : Int → List (Int × Int) → Bool
  | _, [] => false
  | n, p :: l => badL n p.1 || badL n p.2 || andsF (n + 2) l
def baseL (g : Gr) : Int := 2 * (1 + (g.ins.length : Int) + (g.regs.length : Int))
def allL (g : Gr) : Int := baseL g + 2 * (g.ands.length : Int)
def namesE (g : Gr) : Int := orL [namesF (regNamesL g), namesF g.outN]
def faultG (g : Gr) : Int :=
  if 128 < g.ins.length ∨ 128 < g.outN.length ∨ 288 < g.regs.length ∨ 4000 < g.ands.length then 3
  else if g.outs.length ≠ g.outN.length then 4
  else if namesE g ≠ 0 then namesE g
  else if andsF (baseL g) g.ands = true ∨ (g.regs.any fun r => badL (allL g) r.nx) = true ∨ anyB (allL g) g.outs = true then 2
  else 0
set_option maxRecDepth 100000 in
set_option maxHeartbeats 1600000 in
theorem bad_any (n l : Int) (c : Nat) (w : World) (h : w.cell? ⟨c, 0, none⟩ = some (.int .i64 n)) : Calls Try.prog 133 #[.int .i64 l, .pointer (some ⟨c, 0, none⟩)] w fun e w' => e = .returned (.bool (badL n l)) ∧ w' = w := by
  by_cases h1 : l < 0
  · have HF : Hid (badL n l = true) := by show badL n l = true; simp [badL, h1]
    go_enter Try.func133, Try.ntmps133
    go_wp2_with fail
    go_ret
    exact ⟨ret_bool HF.out.symm, rfl⟩
  · by_cases h2 : n ≤ l
    · have HF : Hid (badL n l = true) := by show badL n l = true; simp [badL, h2]
      go_enter Try.func133, Try.ntmps133
      go_wp2_with fail
      go_ret
      exact ⟨ret_bool HF.out.symm, rfl⟩
    · have HF : Hid (badL n l = false) := by show badL n l = false; simp [badL, h1, h2]
      go_enter Try.func133, Try.ntmps133
      go_wp2_with fail
      go_ret
      exact ⟨ret_bool HF.out.symm, rfl⟩
theorem any_take {α : Type} [Inhabited α] {p : α → Bool} {l : List α} {j : Nat} (hj : j < l.length) (h : p l[j]! = true) : l.any p = true := List.any_eq_true.2 ⟨_, mem1 l hj, h⟩
set_option maxRecDepth 100000 in
set_option maxHeartbeats 1600000 in
theorem indexBad_any (n : Int) (c : Nat) (l : List Int) (v : Value) (hn : l.length ≤ 4000000000) (w : World) (hc : w.cell? ⟨c, 0, none⟩ = some (.int .i64 n)) (h : RowOf 1 encI l v w) : Calls Try.prog 178 #[v, .func (.func 133) #[] #[.pointer (some ⟨c, 0, none⟩)]] w fun e w' => ∃ k : Int, e = .returned (.int .i64 k) ∧ (anyB n l = true → 0 ≤ k) ∧ (anyB n l = false → k = -1) ∧ w' = w := by
  obtain ⟨ad, cp, rfl, k1, r⟩ := h.open'
  clear h
  go_enter Try.func178, Try.ntmps178
  go_wp2_with fail
  go_loopw [8] (fun i wr => ∃ j : Nat, j ≤ l.length ∧ i = .int .i64 (j : Int) ∧ Hid ((l.take j).any (badL n) = false) ∧ wr = w) (fun i _ => l.length - (intOf i).toNat)
  case atStart => exact ⟨0, Nat.zero_le _, rfl, rfl, rfl⟩
  case round =>
    obtain ⟨j, hj, rfl, hz, rfl⟩ := hrel
    have hj0 : (0 : Int) ≤ (j : Int) := by omega
    by_cases hlt : j < l.length
    · have hji : (j : Int) < (l.length : Int) := by omega
      have HT := Lib.hid (tk1 l hlt)
      have HA := Lib.hid (fun h => any_take (p := badL n) hlt h)
      obtain ⟨b, o, rfl, hcell⟩ := r.pick (by omega)
      have c0 := hcell j hlt 0 _ rfl
      simp only [Nat.mul_one, Nat.add_zero] at c0
      clear hcell
      generalize l[j]! = x at c0 HT HA
      have HB := Lib.hid (bad_any n x c wr hc)
      cases hb : badL n x with
      | true =>
        rw [hb] at HB
        have HR : Hid (anyB n l = true) := Lib.hid (HA.out hb)
        clear hb
        go_wp2_with (first | (go_at_call 133; refine HB.out.mono ?_; rintro e w3 ⟨rfl, rfl⟩))
        go_ret
        exact ⟨_, rfl, fun _ => hj0, (fun h => by rw [HR.out] at h; cases h), rfl⟩
      | false =>
        rw [hb] at HB
        have HS : Hid ((l.take (j + 1)).any (badL n) = false) := by
          show (l.take (j + 1)).any (badL n) = false
          rw [HT.out, List.any_append, hz.out]; simp [hb]
        clear hb
        go_wp2_with (first | (go_at_call 133; refine HB.out.mono ?_; rintro e w3 ⟨rfl, rfl⟩))
        go_roundw
        case rel => exact ⟨j + 1, by omega, by go_num, HS, by first | rfl | trivial⟩
        case measure => first | done | (simp [intOf]; done) | (simp [intOf]; omega)
    · have hji : ¬ (j : Int) < (l.length : Int) := by omega
      have HR : Hid (anyB n l = false) := by
        show l.any (badL n) = false
        have := hz.out
        rwa [List.take_of_length_le (by omega)] at this
      go_wp2_with fail
      go_ret
      exact ⟨-1, rfl, (fun h => by rw [HR.out] at h; cases h), fun _ => rfl, rfl⟩
set_option maxRecDepth 100000 in
theorem containsBad_any (n : Int) (c : Nat) (l : List Int) (v : Value) (hn : l.length ≤ 4000000000) (w : World) (hc : w.cell? ⟨c, 0, none⟩ = some (.int .i64 n)) (h : RowOf 1 encI l v w) : Calls Try.prog 134 #[v, .func (.func 133) #[] #[.pointer (some ⟨c, 0, none⟩)]] w fun e w' => e = .returned (.bool (anyB n l)) ∧ w' = w := by
  have H := Lib.hid (indexBad_any n c l v hn w hc h)
  clear h hc
  go_enter Try.func134, Try.ntmps134
  go_wp2_with fail
  refine H.out.mono ?_
  rintro e w' ⟨k, rfl, h1, h2, rfl⟩
  cases hm : anyB n l with
  | true =>
    have h3 := h1 hm
    have HM := Lib.hid hm
    clear h1 h2 hm
    go_wp2_with fail
    go_ret
    exact ⟨ret_bool HM.out.symm, rfl⟩
  | false =>
    obtain rfl := h2 hm
    have HM := Lib.hid hm
    clear h1 h2 hm
    go_wp2_with fail
    go_ret
    exact ⟨ret_bool HM.out.symm, rfl⟩
theorem or_drop {l : List Int} {j : Nat} (hj : j < l.length) (h : orL l = orL (l.drop j)) : (l[j]! = 0 → orL l = orL (l.drop (j + 1))) ∧ (l[j]! ≠ 0 → orL l = l[j]!) := by
  have e : l.drop j = l[j]! :: l.drop (j + 1) := by rw [getElem!_pos l j hj]; exact List.drop_eq_getElem_cons hj
  rw [h, e]
  constructor
  · intro h0; show (if l[j]! = 0 then _ else _) = _; rw [if_pos h0]
  · intro h0; show (if l[j]! = 0 then _ else _) = _; rw [if_neg h0]
set_option maxRecDepth 100000 in
set_option maxHeartbeats 1600000 in
theorem or_any (l : List Int) (v : Value) (hn : l.length ≤ 4000000000) (w : World) (h : RowOf 1 encI l v w) : Calls Try.prog 130 #[v] w fun e w' => e = .returned (.int .i64 (orL l)) ∧ Below w.heap.size w w' := by
  obtain ⟨ad, cp, rfl, k1, r⟩ := h.open'
  clear h
  go_enter Try.func130, Try.ntmps130
  go_wp2_with fail
  go_loopw [8] (fun i wr => ∃ j : Nat, j ≤ l.length ∧ i = .int .i64 (j : Int) ∧ Hid (orL l = orL (l.drop j)) ∧ wr = w) (fun i _ => l.length - (intOf i).toNat)
  case atStart => exact ⟨0, Nat.zero_le _, rfl, rfl, rfl⟩
  case round =>
    obtain ⟨j, hj, rfl, hz, rfl⟩ := hrel
    have hj0 : (0 : Int) ≤ (j : Int) := by omega
    by_cases hlt : j < l.length
    · have hji : (j : Int) < (l.length : Int) := by omega
      have HD := Lib.hid (or_drop hlt hz.out)
      obtain ⟨b, o, rfl, hcell⟩ := r.pick (by omega)
      have c0 := hcell j hlt 0 _ rfl
      simp only [Nat.mul_one, Nat.add_zero] at c0
      clear hcell
      generalize l[j]! = x at c0 HD
      by_cases h0 : x = 0
      · subst h0
        have HS := Lib.hid (HD.out.1 rfl)
        go_wp2_with fail
        go_roundw
        case rel => exact ⟨j + 1, by omega, by go_num, HS, by first | rfl | trivial⟩
        case measure => first | done | (simp [intOf]; done) | (simp [intOf]; omega)
      · have hb : (x == 0) = false := beq_eq_false_iff_ne.2 h0
        have hb2 : (x != 0) = true := by simp [bne, hb]
        have HR := Lib.hid (HD.out.2 h0)
        clear h0 HD
        go_wp2_with fail
        go_ret
        exact ⟨ret_num HR.out.symm, Below.refl _ _⟩
    · have hji : ¬ (j : Int) < (l.length : Int) := by omega
      have HR : Hid (orL l = 0) := by
        show _ = _
        rw [hz.out, List.drop_of_length_le (by omega)]; rfl
      go_wp2_with fail
      go_ret
      exact ⟨ret_num HR.out.symm, Below.refl _ _⟩
theorem rnames_row (l : List ByteArray) (v : Value) (hn : l.length ≤ 9000000000) (hz : ∀ x ∈ l, x.size ≤ 9000000000000000000) (w : World) (h : RowOf 1 encT l v w) : Calls Try.prog 131 #[v] w fun e w' => e = .returned (.int .i64 (namesF l)) ∧ Below w.heap.size w w' := by
  obtain ⟨ad, cp, rfl, k1, r⟩ := h.open'
  exact (rnames_any l ad cp k1 (by omega) (fun x hx => by have := hz x hx; omega) w r).mono fun _ _ ⟨h1, h2⟩ => ⟨h1, by rw [h2]; exact Below.refl _ _⟩
theorem regNames_row (g : Gr) (v : Value) (sg : Small g) (w : World) (hG : GO g v w) : Calls Try.prog 132 #[v] w fun e w' => ∃ v, e = .returned v ∧ RowOf 1 encT (regNamesL g) v w' ∧ Below w.heap.size w w' :=
  (regNames_any g v sg.ins sg.outs sg.regs w hG).mono fun _ _ ⟨u, h1, h2, h3⟩ => ⟨u, h1, h2.row, h3⟩
theorem row_sta {α : Type} [Inhabited α] (k : Nat) (enc : α → List Value) (l : List α) : Sta (RowOf k enc l) := fun _ _ _ h hb => h.below hb
end Go.Proofs.Ytcpifmhcebfglaa
