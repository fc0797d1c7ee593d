/- The law on cones: its walk. Asked: what is said here of Cone and Support, and the fact. -/
import Derived.Test.YtbphhcjepeamcaaGlC
import Derived.Test.YtbphhcjepeamcaaGlEq
import Derived.Test.YtbphhcjepeamcaaGrRe
import Derived.Test.YtbphhcjepeamcaaGrOk
namespace Go.Proofs.Ytbphhcjepeamcaa
open Go Go.RowKit Go.Sort
set_option linter.unusedVariables false
set_option maxRecDepth 100000 in
set_option maxHeartbeats 1600000 in
theorem coneBad_any (l : Int) (c kk n0 : Nat) (dd : Option Addr) (m dc : Nat) (w : World) (h : w.cell? ⟨c, 0, none⟩ = some (.int .i64 (n0 : Int))) (hk : w.cell? ⟨kk, 3, none⟩ = some (.slice dd m dc)) (hz : n0 ≤ 9000000000 ∧ m ≤ 9000000000) : Calls Try.prog 59 #[.int .i64 l, .pointer (some ⟨c, 0, none⟩), .pointer (some ⟨kk, 0, none⟩)] w fun e w' => e = .returned (.bool (badL (2 * ((n0 : Int) + m)) l)) ∧ w' = w := by
  obtain ⟨z1, z2⟩ := hz
  by_cases h1 : l < 0
  · have HF : Hid (badL (2 * ((n0 : Int) + m)) l = true) := by show badL _ l = true; simp [badL, h1]
    go_enter Try.func59, Try.ntmps59
    go_wp2_with fail
    go_ret
    exact ⟨ret_bool HF.out.symm, rfl⟩
  · have h0 : 0 ≤ l := by omega
    by_cases h2 : (n0 : Int) + m ≤ l / 2
    · have HF : Hid (badL (2 * ((n0 : Int) + m)) l = true) := by show badL _ l = true; simp [badL]; omega
      have h3 : ¬ l / 2 < (n0 : Int) + m := by omega
      go_enter Try.func59, Try.ntmps59
      go_wp2_with fail
      go_ret
      exact ⟨ret_bool HF.out.symm, rfl⟩
    · have HF : Hid (badL (2 * ((n0 : Int) + m)) l = false) := by show badL _ l = false; simp [badL]; omega
      go_enter Try.func59, Try.ntmps59
      go_wp2_with fail
      go_ret
      exact ⟨ret_bool HF.out.symm, rfl⟩
set_option maxRecDepth 100000 in
set_option maxHeartbeats 1600000 in
theorem coneIdx_any (c kk n0 : Nat) (dd : Option Addr) (m dc : Nat) (l : List Int) (v : Value) (hn : l.length ≤ 4000000000) (w : World) (hc : w.cell? ⟨c, 0, none⟩ = some (.int .i64 (n0 : Int))) (hk : w.cell? ⟨kk, 3, none⟩ = some (.slice dd m dc)) (hz1 : n0 ≤ 9000000000 ∧ m ≤ 9000000000) (h : RowOf 1 encI l v w) : Calls Try.prog 89 #[v, .func (.func 59) #[] #[.pointer (some ⟨c, 0, none⟩), .pointer (some ⟨kk, 0, none⟩)]] w fun e w' => ∃ k : Int, e = .returned (.int .i64 k) ∧ (anyB (2 * ((n0 : Int) + m)) l = true → 0 ≤ k) ∧ (anyB (2 * ((n0 : Int) + m)) l = false → k = -1) ∧ w' = w := by
  obtain ⟨ad, cp, rfl, k1, r⟩ := h.open'
  clear h
  go_enter Try.func89, Try.ntmps89
  go_wp2_with fail
  go_loopw [8] (fun i wr => ∃ j : Nat, j ≤ l.length ∧ i = .int .i64 (j : Int) ∧ Hid ((l.take j).any (badL (2 * ((n0 : Int) + m))) = false) ∧ wr = w) (fun i _ => l.length - (intOf i).toNat)
  case atStart => exact ⟨0, Nat.zero_le _, rfl, rfl, rfl⟩
  case round =>
    obtain ⟨j, hj, rfl, hz, rfl⟩ := hrel
    have hj0 : (0 : Int) ≤ (j : Int) := by omega
    by_cases hlt : j < l.length
    · have hji : (j : Int) < (l.length : Int) := by omega
      have HT := Lib.hid (tk1 l hlt)
      have HA := Lib.hid (fun h => any_take (p := badL (2 * ((n0 : Int) + m))) hlt h)
      obtain ⟨b, o, rfl, hcell⟩ := r.pick (by omega)
      have c0 := hcell j hlt 0 _ rfl
      simp only [Nat.mul_one, Nat.add_zero] at c0
      clear hcell
      generalize l[j]! = x at c0 HT HA
      have HB := Lib.hid (coneBad_any x c kk n0 dd m dc wr hc hk hz1)
      cases hb : badL (2 * ((n0 : Int) + m)) x with
      | true =>
        rw [hb] at HB
        have HR : Hid (anyB (2 * ((n0 : Int) + m)) l = true) := Lib.hid (HA.out hb)
        clear hb
        go_wp2_with (first | (go_at_call 59; refine HB.out.mono ?_; rintro e w3 ⟨rfl, rfl⟩))
        go_ret
        exact ⟨_, rfl, fun _ => hj0, (fun h => by rw [HR.out] at h; cases h), rfl⟩
      | false =>
        rw [hb] at HB
        have HS : Hid ((l.take (j + 1)).any (badL (2 * ((n0 : Int) + m))) = false) := by
          show (l.take (j + 1)).any (badL (2 * ((n0 : Int) + m))) = false
          rw [HT.out, List.any_append, hz.out]; simp [hb]
        clear hb
        go_wp2_with (first | (go_at_call 59; refine HB.out.mono ?_; rintro e w3 ⟨rfl, rfl⟩))
        go_roundw
        case rel => exact ⟨j + 1, by omega, by go_num, HS, by first | rfl | trivial⟩
        case measure => first | done | (simp [intOf]; done) | (simp [intOf]; omega)
    · have hji : ¬ (j : Int) < (l.length : Int) := by omega
      have HR : Hid (anyB (2 * ((n0 : Int) + m)) l = false) := by
        show l.any (badL (2 * ((n0 : Int) + m))) = false
        have := hz.out
        rwa [List.take_of_length_le (by omega)] at this
      go_wp2_with fail
      go_ret
      exact ⟨-1, rfl, (fun h => by rw [HR.out] at h; cases h), fun _ => rfl, rfl⟩
set_option maxRecDepth 100000 in
theorem coneCon_any (c kk n0 : Nat) (dd : Option Addr) (m dc : Nat) (l : List Int) (v : Value) (hn : l.length ≤ 4000000000) (w : World) (hc : w.cell? ⟨c, 0, none⟩ = some (.int .i64 (n0 : Int))) (hk : w.cell? ⟨kk, 3, none⟩ = some (.slice dd m dc)) (hz1 : n0 ≤ 9000000000 ∧ m ≤ 9000000000) (h : RowOf 1 encI l v w) : Calls Try.prog 58 #[v, .func (.func 59) #[] #[.pointer (some ⟨c, 0, none⟩), .pointer (some ⟨kk, 0, none⟩)]] w fun e w' => e = .returned (.bool (anyB (2 * ((n0 : Int) + m)) l)) ∧ w' = w := by
  have H := Lib.hid (coneIdx_any c kk n0 dd m dc l v hn w hc hk hz1 h)
  clear h hc hk
  go_enter Try.func58, Try.ntmps58
  go_wp2_with fail
  refine H.out.mono ?_
  rintro e w' ⟨k, rfl, h1, h2, rfl⟩
  cases hm : anyB (2 * ((n0 : Int) + m)) l with
  | true =>
    have h3 := h1 hm
    have HM := Lib.hid hm
    clear h1 h2 hm
    go_wp2_with fail
    go_ret
    exact ⟨ret_bool HM.out.symm, rfl⟩
  | false =>
    obtain rfl := h2 hm
    have HM := Lib.hid hm
    clear h1 h2 hm
    go_wp2_with fail
    go_ret
    exact ⟨ret_bool HM.out.symm, rfl⟩
/-- two rows of a call's own that do not meet -/
structure Two (B : Nat) (t : TypeId) {α : Type} (f : α → Value) (u v : Value) (l m : List α) (w : World) : Prop where
  a : Own B t f w u l
  b : Own B t f w v m
  ne : ∀ k, u.ownBlock = some k → v.ownBlock ≠ some k
section
variable {B : Nat} {t : TypeId} {α : Type} {f : α → Value} {u v : Value} {l m : List α} {w w' : World}
theorem Two.below (h : Two B t f u v l m w) (hb : Below w.heap.size w w') : Two B t f u v l m w' := ⟨h.a.below hb, h.b.below hb, h.ne⟩
theorem Two.flip (h : Two B t f u v l m w) : Two B t f v u m l w := ⟨h.b, h.a, fun k hk e => h.ne k e hk⟩
theorem Two.step (h : Two B t f u v l m w) {x : α} {g n cap : Nat} (ho : Own B t f w' (.slice (some ⟨g, 0, none⟩) n cap) (l ++ [x])) (hg : w.grownBy w' u.ownBlock) (hl : u.ownBlock = some g ∨ g = w.heap.size) : Two B t f (.slice (some ⟨g, 0, none⟩) n cap) v (l ++ [x]) m w' := by
  refine ⟨ho, World.ownsRow.kept h.b hg ?_, fun k hk e => ?_⟩
  · cases hv : v.ownBlock with
    | none => exact .inl rfl
    | some b => exact .inr (fun e => h.ne b e.symm hv)
  · have hkg : g = k := by simpa [Value.ownBlock] using hk
    subst hkg
    rcases hl with h1 | h1
    · exact h.ne g h1 e
    · have := (World.ownsRow.lt h.b g e).2; omega
end
theorem wpList_append_far {P : Program} {α : Type} {f : α → Value} (hf : ∀ x, (f x).oneCell' = true) {w : World} {ops : Array Oper} {rest : List Oper} {o : Oper} {a : Act} {Q : Exit → Act → World → Prop} (hgd : o.guard = none) (s x : Operand) (t : TypeId)
    (ho : o.op = .call { callee := .builtin .append, args := #[s, x], argTypes := #[t, t] }) (base : Nat) (e : TypeId) (i : TypeInfo) (z : Value) (bytes : Nat) (ht : P.underlying t = some (.slice e)) (hi : P.info? e = some i) (hz : i.zero = some z) (hsize : i.size = 1) (hby : i.bytes = bytes) (hzs : z.cells.size = 1)
    (v : Value) (xs : List α) (hs : a.eval s = v) (hown : Own base e f w v xs) (r : Nat) (y : α) (cap : Nat) (hx : a.eval x = .slice (some ⟨r, 0, none⟩) 1 cap) (hy : w.cell? ⟨r, 0, none⟩ = some (f y))
    (h63 : xs.length + 1 ≤ maxLen) (hbytes : (xs.length + 1) * bytes ≤ 140737488355328) (hbase : base ≤ w.heap.size)
    (h : ∀ g cap w', Own base e f w' (.slice (some ⟨g, 0, none⟩) (xs.length + 1) cap) (xs ++ [y]) → Below base w w' → w.grownBy w' v.ownBlock → (v.ownBlock = some g ∨ g = w.heap.size) → wpList P ops Q rest (a.put o.dst (.slice (some ⟨g, 0, none⟩) (xs.length + 1) cap)) w') : wpList P ops Q (o :: rest) a w := by
  refine wpList_append_lies w hgd s x t ho base e i z 1 bytes ht hi hz hsize hby hzs (by decide) v xs.length (xs.map f) hs hown ⟨r, 0, none⟩ 1 cap [f y] hx rfl (fun j u hj => ?_) (fun u hu => by simp at hu; subst hu; exact hf y) (by decide) h63 hbytes hbase _ rfl ?_
  · match j, hj with
    | 0, hj =>
      simp only [List.getElem?_cons_zero, Option.some.injEq] at hj
      subst hj
      rw [show (⟨r, 0, none⟩ : Addr).add 0 = ⟨r, 0 + 0, none⟩ from Addr.add_lit _ _ _]; exact hy
    | j + 1, hj => simp at hj
  · intro g cap' w' ho' hg hl _
    refine h g cap' w' ?_ ((Below.refl base w).grown hg hbase (fun q hq => (World.ownsRow.lt hown q hq).1)) hg hl
    unfold Own
    simpa using ho'
theorem infoJ : (Try.prog.info? 3).map (fun i => (i.zero, i.size, i.bytes)) = some (some (.int .i64 0), 1, 8) := by kernel_rfl
theorem infoJ_parts : ∃ i, Try.prog.info? 3 = some i ∧ i.zero = some (.int .i64 0) ∧ i.size = 1 ∧ i.bytes = 8 := by
  have h := infoJ
  cases hi : Try.prog.info? 3 with
  | none => rw [hi] at h; cases h
  | some i =>
    rw [hi] at h
    simp only [Option.map_some, Option.some.injEq, Prod.mk.injEq] at h
    exact ⟨i, rfl, h.1, h.2.1, h.2.2⟩
def coneE (g : Gr) (rs : List Int) : Int := if faultG g = 0 then (if anyB (allL g) rs = true then 2 else 0) else faultG g
/-- the numbers of the places that are marked, of the first j -/
def idxL (p : Nat → Bool) (M : List Bool) (j : Nat) : List Int := ((List.range j).filter fun i => M[i]! && p i).map Int.ofNat
theorem idx_succ (p : Nat → Bool) (M : List Bool) (j : Nat) : idxL p M (j + 1) = if (M[j]! && p j) = true then idxL p M j ++ [(j : Int)] else idxL p M j := by
  unfold idxL
  rw [List.range_succ, List.filter_append, List.map_append]
  split
  · rename_i h; simp only [List.filter_cons, h, if_true, List.filter_nil]; rfl
  · rename_i h; rw [Bool.not_eq_true] at h; simp only [List.filter_cons, h, Bool.false_eq_true, if_false, List.filter_nil, List.map_nil, List.append_nil]
theorem idx_len (p : Nat → Bool) (M : List Bool) (j : Nat) : (idxL p M j).length ≤ j := by
  unfold idxL
  rw [List.length_map]
  exact Nat.le_trans (List.length_filter_le _ _) (by simp)
def nodesN (g : Gr) : Nat := n0L g + g.ands.length
def isSup (g : Gr) (i : Nat) : Bool := decide (0 < i) && decide (i < n0L g)
def coneL (g : Gr) (rs : List Int) : List Int := if coneE g rs = 0 then idxL (fun _ => true) (belowG g rs) (nodesN g) else []
def supL (g : Gr) (rs : List Int) : List Int := if coneE g rs = 0 then idxL (isSup g) (belowG g rs) (nodesN g) else []
def ConeC : Prop := ∀ (g : Gr) (v : Value) (rs : List Int) (vr : Value) (w : World), Small g → rs.length ≤ 4000000 → GO g v w → RowOf 1 encI rs vr w → Calls Try.prog 56 #[v, vr] w fun e w' => ∃ vl, e = .returned (.tuple #[vl, .int .i64 (coneE g rs)]) ∧ RowOf 1 encI (coneL g rs) vl w' ∧ Below w.heap.size w w'
def SupC : Prop := ∀ (g : Gr) (v : Value) (rs : List Int) (vr : Value) (w : World), Small g → rs.length ≤ 4000000 → GO g v w → RowOf 1 encI rs vr w → Calls Try.prog 57 #[v, vr] w fun e w' => ∃ vl, e = .returned (.tuple #[vl, .int .i64 (coneE g rs)]) ∧ RowOf 1 encI (supL g rs) vl w' ∧ Below w.heap.size w w'
set_option maxRecDepth 100000 in
set_option maxHeartbeats 8000000 in
theorem cones_law (hF : FactC) (hN : ConeC) (hS : SupC) (g : Gr) (v : Value) (rs : List Int) (vr : Value) (sg : Small g) (hrn : rs.length ≤ 4000000) (w : World) (hG : GO g v w) (hR : RowOf 1 encI rs vr w) : Calls Try.prog 10 #[v, vr] w fun e w' => e = .returned (.bool true) ∧ Below w.heap.size w w' := by
  have hG0 := hG
  obtain ⟨a, b, c, d0, e, a', b', c', d', e', rfl, hC, hA⟩ := hG.all
  clear hG
  have HF := Lib.hid (fun W => hF W)
  clear hF
  have n1 := sg.ins
  have n2 := sg.regs
  have n3 := sg.ands
  go_enter Try.func10, Try.ntmps10
  go_upto_region 1 with fail
  have bel := (Below.refl w.heap.size w).alloc (Nat.le_refl _) (.cells #[.slice a g.ins.length a', .slice b g.outN.length b', .slice c g.regs.length c', .slice d0 g.ands.length d', .slice e g.outs.length e'] 28)
  have X := GX.new w (.slice a g.ins.length a') (.slice b g.outN.length b') (.slice c g.regs.length c') (.slice d0 g.ands.length d') (.slice e g.outs.length e') 28
  generalize w.alloc (.cells #[.slice a g.ins.length a', .slice b g.outN.length b', .slice c g.regs.length c', .slice d0 g.ands.length d', .slice e g.outs.length e'] 28) = W0 at bel X ⊢
  generalize hk : w.heap.size = k at X ⊢
  have HK := Lib.hid hk
  clear hk
  obtain ⟨x0, x1, x2, x3, x4⟩ := id X
  replace hR := hR.below (bel.mono (by have := HK.out; omega))
  have H1 := Lib.hid (hN g _ rs vr W0 sg hrn (hG0.below bel) hR)
  go_upto_region 2 with (first | (go_at_call 56; refine H1.out.mono ?_; rintro ee W1 ⟨vl, rfl, R1, hb1⟩; replace bel := bel.trans (hb1.mono bel.size); replace X := X.below hb1; replace hR := hR.below hb1; clear hb1 H1 x0 x1 x2 x3 x4; obtain ⟨x0, x1, x2, x3, x4⟩ := id X))
  have H1 := Lib.hid (hS g _ rs vr W1 sg hrn (hG0.below bel) hR)
  go_upto_region 3 with (first | (go_at_call 57; refine H1.out.mono ?_; rintro ee W2 ⟨vm, rfl, R2, hb1⟩; replace bel := bel.trans (hb1.mono bel.size); replace X := X.below hb1; replace R1 := R1.below hb1; replace hR := hR.below hb1; clear hb1 H1 x0 x1 x2 x3 x4; obtain ⟨x0, x1, x2, x3, x4⟩ := id X))
  have H1 := Lib.hid (fault_any g _ sg W2 (hG0.below bel))
  go_upto_region 5 with (first | (go_at_call 30; refine H1.out.mono ?_; rintro ee W3 ⟨rfl, hb1⟩; replace bel := bel.trans (hb1.mono bel.size); replace X := X.below hb1; replace R1 := R1.below hb1; replace R2 := R2.below hb1; replace hR := hR.below hb1; clear hb1 H1 x0 x1 x2 x3 x4; obtain ⟨x0, x1, x2, x3, x4⟩ := id X))
  have hcn : (1 + (g.ins.length : Int) + (g.regs.length : Int)) = ((n0L g : Nat) : Int) := by unfold n0L; omega
  rw [hcn]
  have hc : (W3.alloc (.cells #[.int .i64 ((n0L g : Nat) : Int)] 3)).cell? ⟨W3.heap.size, 0, none⟩ = some (.int .i64 ((n0L g : Nat) : Int)) := by go_simp
  have hba := (Below.refl _ W3).alloc (Nat.le_refl _) (.cells #[.int .i64 ((n0L g : Nat) : Int)] 3)
  replace bel := bel.alloc bel.size (.cells #[.int .i64 ((n0L g : Nat) : Int)] 3)
  replace X := X.below hba
  replace R1 := R1.below hba
  replace R2 := R2.below hba
  replace hR := hR.below hba
  clear hba hcn
  generalize W3.alloc (.cells #[.int .i64 ((n0L g : Nat) : Int)] 3) = W4 at hc bel X R1 R2 hR ⊢
  generalize W3.heap.size = cb at hc ⊢
  clear x0 x1 x2 x3 x4
  obtain ⟨x0, x1, x2, x3, x4⟩ := id X
  have hz : n0L g ≤ 9000000000 ∧ g.ands.length ≤ 9000000000 := ⟨by unfold n0L; omega, by omega⟩
  have HCN := Lib.hid (fun W (h1 : W.cell? ⟨cb, 0, none⟩ = _) (h2 : W.cell? ⟨k, 3, none⟩ = _) h3 => coneCon_any cb k (n0L g) d0 g.ands.length d' rs vr (by omega) W h1 h2 hz h3)
  have hal : allL g = 2 * (((n0L g : Nat) : Int) + (g.ands.length : Int)) := by unfold n0L; rw [allL_eq]; push_cast; omega
  rw [← hal] at HCN
  by_cases hf : faultG g = 0
  rotate_left
  · have he : coneE g rs = faultG g := if_neg hf
    have q1 : coneL g rs = [] := if_neg (fun h => hf (he ▸ h))
    have q2 : supL g rs = [] := if_neg (fun h => hf (he ▸ h))
    rw [q1] at R1
    rw [q2] at R2
    rw [he]
    clear he q1 q2 hz HCN
    generalize faultG g = f at hf ⊢
    have hfb : (f == 0) = false := beq_eq_false_iff_ne.2 hf
    have hfc : (f != 0) = true := by simp [bne, hfb]
    obtain ⟨ad, cp, rfl, hcp, R1⟩ := R1.open'
    obtain ⟨ad2, cp2, rfl, hcp2, R2⟩ := R2.open'
    clear R1 R2 hG0 hC hA hR
    go_wp2_with (first | (go_at_call 15; refine (HF.out _).mono ?_; rintro ee w3 ⟨rfl, hb3⟩))
    go_ret
    exact ⟨rfl, bel.trans (hb3.mono bel.size)⟩
  · have vg := vg_of hf
    rw [hf]
    cases hb : anyB (allL g) rs with
    | true =>
      have he : coneE g rs = 2 := by unfold coneE; rw [if_pos hf, if_pos hb]
      have q1 : coneL g rs = [] := if_neg (fun h => by rw [he] at h; cases h)
      have q2 : supL g rs = [] := if_neg (fun h => by rw [he] at h; cases h)
      rw [q1] at R1
      rw [q2] at R2
      rw [he]
      rw [hb] at HCN
      have HCC := Lib.hid (HCN.out W4 hc x3 hR)
      clear he q1 q2 hz HCN hb hf vg
      clear hal
      obtain ⟨ad, cp, rfl, hcp, R1⟩ := R1.open'
      obtain ⟨ad2, cp2, rfl, hcp2, R2⟩ := R2.open'
      clear R1 R2 hG0 hC hA hR
      go_wp2_with (first | (go_at_call 58; refine HCC.out.mono ?_; rintro ee w2 ⟨rfl, rfl⟩) | (go_at_call 15; refine (HF.out _).mono ?_; rintro ee w3 ⟨rfl, hb3⟩))
      go_ret
      exact ⟨rfl, bel.trans (hb3.mono bel.size)⟩
    | false =>
      have he : coneE g rs = 0 := by unfold coneE; rw [if_pos hf, hb]; rfl
      have q1 : coneL g rs = idxL (fun _ => true) (belowG g rs) (nodesN g) := if_pos he
      have q2 : supL g rs = idxL (isSup g) (belowG g rs) (nodesN g) := if_pos he
      rw [q1] at R1
      rw [q2] at R2
      rw [he]
      rw [hb] at HCN
      have HCC := Lib.hid (HCN.out W4 hc x3 hR)
      have hrs : ∀ l ∈ rs, 0 ≤ l ∧ l < allL g := by
        intro l hl
        unfold anyB at hb
        refine bad_no ?_
        cases e : badL (allL g) l with
        | false => rfl
        | true => rw [List.any_eq_true.2 ⟨l, hl, e⟩] at hb; cases hb
      clear he q1 q2 HCN hb hf hal
      go_upto_region 10 with (first | (go_at_call 58; refine HCC.out.mono ?_; rintro ee w2 ⟨rfl, rfl⟩))
      clear HCC
      rename World => W5
      have HBL := Lib.hid (below_any g _ vr rs vg (by omega) hrs W5 (hG0.below bel) hR)
      clear hrs
      go_upto_block 0 with (first | (go_at_call 60; refine HBL.out.mono ?_; rintro ee W6 ⟨q, rfl, A1, hb1⟩; replace bel := bel.trans (hb1.mono bel.size); replace R1 := R1.below hb1; replace R2 := R2.below hb1; replace hc := (hb1.cell (p := ⟨cb, 0, none⟩) (World.block_lt_of_cell? _ _ hc)).trans hc; clear hb1 HBL x0 x1 x2 x3 x4))
      have HN := Lib.hid (show nodesN g = n0L g + g.ands.length from rfl)
      have hMn : n0L g + g.ands.length ≤ 5000 := by unfold n0L; have := vg.ins; have := vg.regs; have := vg.ands; omega
      have HML := Lib.hid (show (belowG g rs).length = n0L g + g.ands.length from belowG_len g rs)
      have HNL := Lib.hid (show ∀ i, isSup g i = (decide (0 < i) && decide (i < n0L g)) from fun i => rfl)
      rw [HN.out] at R1 R2
      rw [show ((n0L g : Nat) : Int) + (g.ands.length : Int) = ((n0L g + g.ands.length : Nat) : Int) by push_cast; rfl]
      clear hG0 hC hA hR X sg vg n1 n2 n3 hz HN
      generalize belowG g rs = M at R1 R2 A1 HML
      generalize isSup g = P at R2 HNL
      have HIL := Lib.hid (fun p => idx_len p M (n0L g + g.ands.length))
      have hn0 : n0L g ≤ n0L g + g.ands.length := by omega
      generalize n0L g + g.ands.length = N at R1 R2 A1 HML hMn hn0 HIL ⊢
      generalize n0L g = n0 at hc HNL hn0 ⊢
      obtain ⟨i0, hi0, hz0, hz1, hz2⟩ := infoJ_parts
      have hTW : Two W6.heap.size 3 (fun n => Value.int .i64 n) (.slice none 0 0) (.slice none 0 0) ([] : List Int) [] W6 := ⟨World.ownsRow_nil W6 W6.heap.size 3 1, World.ownsRow_nil W6 W6.heap.size 3 1, fun k hk => by cases hk⟩
      go_wp2_with fail
      go_loopw [11, 12, 71] (fun u1 u2 i wr => ∃ j : Nat, j ≤ N ∧ i = .int .i64 (j : Int) ∧ Hid (Two W6.heap.size 3 (fun n => Value.int .i64 n) u1 u2 (idxL (fun _ => true) M j) (idxL P M j) wr) ∧ Hid (Below W6.heap.size W6 wr)) (fun _ _ i _ => N - (intOf i).toNat)
      case atStart => exact ⟨0, Nat.zero_le _, rfl, Lib.hid hTW, Lib.hid (Below.refl _ _)⟩
      case round =>
        clear hTW
        obtain ⟨j, hj, rfl, hT, hB⟩ := hrel
        rename World => WR
        have hj0 : (0 : Int) ≤ (j : Int) := by omega
        by_cases hlt : j < N
        · have hji : (j : Int) < (N : Int) := by omega
          have hcr := (hB.out.cell (p := ⟨cb, 0, none⟩) (World.block_lt_of_cell? _ _ hc)).trans hc
          have a1 := (A1.below hB.out).cell (j := j) (by have := HML.out; omega)
          have HE1 := Lib.hid (idx_succ (fun _ => true) M j)
          have HE2 := Lib.hid (idx_succ P M j)
          have hl1 := idx_len (fun _ => true) M j
          have hl2 := idx_len P M j
          rw [HNL.out j] at HE2
          obtain ⟨K1, HK1⟩ : ∃ K, Hid (idxL (fun _ => true) M (j + 1) = K) := ⟨_, Lib.hid rfl⟩
          obtain ⟨K2, HK2⟩ : ∃ K, Hid (idxL P M (j + 1) = K) := ⟨_, Lib.hid rfl⟩
          rw [HK1.out] at HE1
          rw [HK2.out] at HE2
          generalize idxL (fun _ => true) M j = L1 at hT HE1 hl1
          generalize idxL P M j = L2 at hT HE2 hl2
          obtain ⟨ad, cpv, hv⟩ := hT.out.a.slice
          subst hv
          obtain ⟨ad2, cpv2, hv⟩ := hT.out.b.slice
          subst hv
          cases hm : M[j]! with
          | false =>
            rw [hm] at a1 HE1 HE2
            obtain rfl : K1 = L1 := HE1.out
            obtain rfl : K2 = L2 := HE2.out
            clear HE1 HE2 hm
            go_wp2_with fail
            go_roundw
            case rel => exact ⟨j + 1, by omega, by go_num, (by rw [HK1.out, HK2.out]; exact hT), hB⟩
            all_goals first | done | (simp [intOf]; done) | (simp [intOf]; omega)
          | true =>
            rw [hm] at a1 HE1 HE2
            obtain rfl : K1 = L1 ++ [(j : Int)] := HE1.out
            have HE3 := Lib.hid (show K2 = if (decide (0 < j) && decide (j < n0)) = true then L2 ++ [(j : Int)] else L2 by have := HE2.out; rwa [Bool.true_and] at this)
            clear HE1 HE2 hm
            have h4 := hB.out.size
            have T4 := hT.out.below ((Below.refl _ WR).alloc (Nat.le_refl _) (.cells #[.int .i64 (j : Int)] 3))
            have y4 : (WR.alloc (.cells #[.int .i64 (j : Int)] 3)).cell? ⟨WR.heap.size, 0, none⟩ = some (.int .i64 (j : Int)) := by go_simp
            go_wp2_with (at_builtin; refine wpList_append_far (f := fun n : Int => Value.int .i64 n) (fun _ => rfl) rfl _ _ 52 rfl W6.heap.size 3 i0 (.int .i64 0) 8 Try.underlying52 hi0 hz0 hz1 hz2 (by decide) _ L1 rfl T4.a WR.heap.size (j : Int) 1 rfl y4 (show L1.length + 1 ≤ maxLen by unfold maxLen; omega) (show (L1.length + 1) * 8 ≤ 140737488355328 by omega) (by first | omega | (simp; omega)) ?_)
            intro g5 cap5 w5 hO5 hb5 hg5 hl5
            have T5 := T4.step hO5 hg5 (hl5.imp id (fun h => by rw [h]; simp))
            have b5 := hB.out.trans (((Below.refl _ WR).alloc h4 _).trans hb5)
            have hcr5 := (b5.cell (p := ⟨cb, 0, none⟩) (World.block_lt_of_cell? _ _ hc)).trans hc
            clear hO5 hb5 hg5 hl5 T4 y4 hT hB h4 hcr a1
            by_cases q1 : 0 < j
            · have q1i : (0 : Int) < (j : Int) := by omega
              by_cases q2 : j < n0
              · have q2i : (j : Int) < (n0 : Int) := by omega
                obtain rfl : K2 = L2 ++ [(j : Int)] := by rw [HE3.out, if_pos (by simp [q1, q2])]
                clear HE3
                have T6 := T5.below ((Below.refl _ w5).alloc (Nat.le_refl _) (.cells #[.int .i64 (j : Int)] 3))
                have y6 : (w5.alloc (.cells #[.int .i64 (j : Int)] 3)).cell? ⟨w5.heap.size, 0, none⟩ = some (.int .i64 (j : Int)) := by go_simp
                have h6 := b5.size
                go_wp2_with (at_builtin; refine wpList_append_far (f := fun n : Int => Value.int .i64 n) (fun _ => rfl) rfl _ _ 52 rfl W6.heap.size 3 i0 (.int .i64 0) 8 Try.underlying52 hi0 hz0 hz1 hz2 (by decide) _ L2 rfl T6.b w5.heap.size (j : Int) 1 rfl y6 (show L2.length + 1 ≤ maxLen by unfold maxLen; omega) (show (L2.length + 1) * 8 ≤ 140737488355328 by omega) (by first | omega | (simp; omega)) ?_)
                intro g7 cap7 w7 hO7 hb7 hg7 hl7
                have T7 := Lib.hid (T6.flip.step hO7 hg7 (hl7.imp id (fun h => by rw [h]; simp))).flip
                have b7 := Lib.hid (b5.trans (((Below.refl _ w5).alloc h6 _).trans hb7))
                clear hO7 hb7 hg7 hl7 T6 y6 T5 b5 h6 hcr5
                go_wp2_with fail
                go_roundw
                case rel => exact ⟨j + 1, by omega, by go_num, (by rw [HK1.out, HK2.out]; exact T7), b7⟩
                all_goals first | done | (simp [intOf]; done) | (simp [intOf]; omega)
              · have q2i : ¬ (j : Int) < (n0 : Int) := by omega
                obtain rfl : K2 = L2 := by rw [HE3.out, if_neg (by simp [q2])]
                clear HE3
                have T7 := Lib.hid T5
                have b7 := Lib.hid b5
                clear T5 b5
                go_wp2_with fail
                go_roundw
                case rel => exact ⟨j + 1, by omega, by go_num, (by rw [HK1.out, HK2.out]; exact T7), b7⟩
                all_goals first | done | (simp [intOf]; done) | (simp [intOf]; omega)
            · have q1i : ¬ (0 : Int) < (j : Int) := by omega
              obtain rfl : K2 = L2 := by rw [HE3.out, if_neg (by simp [q1])]
              clear HE3
              have T7 := Lib.hid T5
              have b7 := Lib.hid b5
              clear T5 b5
              go_wp2_with fail
              go_roundw
              case rel => exact ⟨j + 1, by omega, by go_num, (by rw [HK1.out, HK2.out]; exact T7), b7⟩
              all_goals first | done | (simp [intOf]; done) | (simp [intOf]; omega)
        · obtain rfl : j = N := by omega
          have hji : ¬ (j : Int) < (j : Int) := by omega
          have b7 := hB.out
          have T7 := hT.out
          replace bel := bel.trans (b7.mono bel.size)
          replace R1 := R1.below b7
          replace R2 := R2.below b7
          have s1 := HIL.out (fun _ => true)
          have s2 := HIL.out P
          clear hT hB HIL HNL HML A1 hc
          generalize idxL (fun _ => true) M j = K1 at *
          generalize idxL P M j = K2 at *
          have HQ := Lib.hid (fun (K : List Int) (hk : K.length ≤ 4000000000) v1 v2 W q1 q2 => (by have := equalJ_any K K v1 v2 hk hk W q1 q2; rwa [decide_eq_true (rfl : K = K)] at this : Calls Try.prog 53 #[v1, v2] W fun e w' => e = .returned (.bool true) ∧ Below W.heap.size W w'))
          go_wp2_with (first | (go_at_call 15; refine (HF.out _).mono ?_; rintro ee w3 ⟨rfl, hb3⟩; replace bel := bel.trans (hb3.mono bel.size); replace R1 := R1.below hb3; replace R2 := R2.below hb3; replace T7 := T7.below hb3; clear hb3) | (go_at_call 53; first | (refine (HQ.out K1 (by omega) _ _ _ R1 T7.a.row).mono ?_; rintro ee w4 ⟨rfl, hb4⟩; replace bel := bel.trans (hb4.mono bel.size); replace R2 := R2.below hb4; replace T7 := T7.below hb4; clear R1 hb4) | (refine (HQ.out K2 (by omega) _ _ _ R2 T7.b.row).mono ?_; rintro ee w5 ⟨rfl, hb5⟩; replace bel := bel.trans (hb5.mono bel.size))))
          go_ret
          exact ⟨rfl, bel⟩
end Go.Proofs.Ytbphhcjepeamcaa
