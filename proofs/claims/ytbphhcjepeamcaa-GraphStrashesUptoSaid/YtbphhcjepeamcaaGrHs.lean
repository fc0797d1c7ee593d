/- A graph without trivial and double ands: the reference's Hashed. -/
import Derived.Test.YtbphhcjepeamcaaGrRm
namespace Go.Proofs.Ytbphhcjepeamcaa
open Go Go.RowKit Go.Sort
set_option linter.unusedVariables false
/-- the first place of a pair, counted from k on; -1 if it is not there -/
def idxF (p : Int × Int) : Nat → List (Int × Int) → Int
  | _, [] => -1
  | k, x :: l => if x = p then (k : Int) else idxF p (k + 1) l
def idxN (l : List (Int × Int)) (p : Int × Int) : Int := idxF p 0 l
theorem idxF_le (p : Int × Int) : ∀ (l : List (Int × Int)) (k : Nat), -1 ≤ idxF p k l ∧ idxF p k l < k + l.length ∨ idxF p k l = -1
  | [], k => .inr rfl
  | x :: l, k => by
    unfold idxF
    split
    · left; simp only [List.length_cons]; omega
    · rcases idxF_le p l (k + 1) with h | h
      · left; simp only [List.length_cons]; omega
      · exact .inr h
theorem idxF_drop {p : Int × Int} {l : List (Int × Int)} {j : Nat} (h : j < l.length) : idxF p j (l.drop j) = if l[j]! = p then (j : Int) else idxF p (j + 1) (l.drop (j + 1)) := by
  have e : l.drop j = l[j]! :: l.drop (j + 1) := by rw [getElem!_pos l j h]; exact List.drop_eq_getElem_cons h
  rw [e]; rfl
set_option maxRecDepth 100000 in
set_option maxHeartbeats 4000000 in
theorem indexN_any (l : List (Int × Int)) (p1 p2 : Int) (v : Value) (hn : l.length ≤ 4000000000) (w : World) (h : RowOf 2 encN l v w) : Calls Try.prog 99 #[v, .agg #[.int .i64 p1, .int .i64 p2]] w fun e w' => e = .returned (.int .i64 (idxN l (p1, p2))) ∧ Below w.heap.size w w' := by
  obtain ⟨ad, cp, rfl, hcp, r⟩ := h.open'
  clear h
  go_enter Try.func99, Try.ntmps99
  go_upto_region 1 with fail
  have ba := (Below.refl w.heap.size w).alloc (Nat.le_refl _) (.cells #[.int .i64 p1, .int .i64 p2] 110)
  have y0 : (w.alloc (.cells #[.int .i64 p1, .int .i64 p2] 110)).cell? ⟨w.heap.size, 0, none⟩ = some (.int .i64 p1) := by go_simp
  have y1 : (w.alloc (.cells #[.int .i64 p1, .int .i64 p2] 110)).cell? ⟨w.heap.size, 1, none⟩ = some (.int .i64 p2) := by go_simp
  have r0 := r.below ba
  generalize w.alloc (.cells #[.int .i64 p1, .int .i64 p2] 110) = W0 at ba y0 y1 r0 ⊢
  generalize hk : w.heap.size = k at y0 y1 ⊢
  clear hk
  clear r
  have HY := Lib.hid (And.intro y0 y1)
  clear y0 y1
  go_wp2_with fail
  go_loopw [8] (fun i wr => ∃ j : Nat, j ≤ l.length ∧ i = .int .i64 (j : Int) ∧ Hid (idxN l (p1, p2) = idxF (p1, p2) j (l.drop j)) ∧ Hid (Below W0.heap.size W0 wr)) (fun i _ => l.length - (intOf i).toNat)
  case atStart => exact ⟨0, Nat.zero_le _, rfl, rfl, Lib.hid (Below.refl _ _)⟩
  case round =>
    obtain ⟨j, hj, rfl, hE, hB⟩ := hrel
    rename World => WR
    have hj0 : (0 : Int) ≤ (j : Int) := by omega
    have y0 := (hB.out.cell (p := ⟨k, 0, none⟩) (World.block_lt_of_cell? _ _ HY.out.1)).trans HY.out.1
    have y1 := (hB.out.cell (p := ⟨k, 1, none⟩) (World.block_lt_of_cell? _ _ HY.out.2)).trans HY.out.2
    by_cases hlt : j < l.length
    · have hji : (j : Int) < (l.length : Int) := by omega
      have HD := Lib.hid (idxF_drop (p := (p1, p2)) hlt)
      obtain ⟨b1, o1, rfl, q1⟩ := (r0.below hB.out).pick (by omega)
      have a0 := q1 j hlt 0 _ rfl
      have a1 := q1 j hlt 1 _ rfl
      simp only [Nat.add_zero] at a0
      clear q1
      generalize l[j]! = x at a0 a1 HD
      obtain ⟨x1, x2⟩ := x
      simp only at a0 a1
      by_cases he1 : p1 = x1
      · by_cases he2 : p2 = x2
        · subst he1 he2
          have HF := Lib.hid (show idxN l (p1, p2) = (j : Int) by rw [hE.out, HD.out, if_pos rfl])
          clear hE HD
          go_upto_region 4 with fail
          go_region
          all_goals go_wp2_with fail
          all_goals go_ret
          all_goals exact ⟨ret_num HF.out.symm, ba.trans ((below_drewN hB.out 1).mono ba.size)⟩
        · subst he1
          have f1b : (p2 == x2) = false := beq_eq_false_iff_ne.2 he2
          have HS := Lib.hid (show idxN l (p1, p2) = idxF (p1, p2) (j + 1) (l.drop (j + 1)) by rw [hE.out, HD.out, if_neg (fun e => he2 (congrArg Prod.snd e).symm)])
          clear hE HD
          go_upto_region 4 with fail
          go_region
          all_goals go_wp2_with fail
          all_goals go_roundw
          case rel => exact ⟨j + 1, by omega, by go_num, HS, Lib.hid (below_drewN hB.out 1)⟩
          all_goals first | done | (simp [intOf]; done) | (simp [intOf]; omega)
      · have f0b : (p1 == x1) = false := beq_eq_false_iff_ne.2 he1
        have HS := Lib.hid (show idxN l (p1, p2) = idxF (p1, p2) (j + 1) (l.drop (j + 1)) by rw [hE.out, HD.out, if_neg (fun e => he1 (congrArg Prod.fst e).symm)])
        clear hE HD
        go_upto_region 4 with fail
        go_region
        all_goals go_wp2_with fail
        all_goals go_roundw
        case rel => exact ⟨j + 1, by omega, by go_num, HS, Lib.hid (below_drewN hB.out 1)⟩
        all_goals first | done | (simp [intOf]; done) | (simp [intOf]; omega)
    · have hji : ¬ (j : Int) < (l.length : Int) := by omega
      have HF := Lib.hid (show idxN l (p1, p2) = -1 by rw [hE.out, List.drop_of_length_le (by omega)]; rfl)
      clear y0 y1
      go_wp2_with fail
      go_ret
      exact ⟨ret_num HF.out.symm, ba.trans (hB.out.mono ba.size)⟩
theorem OwnK.aside {B B2 : Nat} {t t2 : TypeId} {k k2 : Nat} {α β : Type} {f : α → List Value} {f2 : β → List Value} {w w' : World} {v v2 : Value} {l : List α} {l2 : List β} (h : OwnK B t k f w v l) (h2 : OwnK B2 t2 k2 f2 w v2 l2) (ht : t ≠ t2) (hg : w.grownBy w' v2.ownBlock) : OwnK B t k f w' v l :=
  World.ownsRow.kept h hg (OwnK.tags h h2 ht)
def xr (y c : Int) : Int := bits BinOp.xor IntKind.i64 y c
/-- what a literal becomes -/
def toL (T : List Int) (l : Int) : Int := xr T[ndL l]! (l % 2)
def hPair (T : List Int) (p : Int × Int) : Int × Int := if toL T p.2 < toL T p.1 then (toL T p.2, toL T p.1) else (toL T p.1, toL T p.2)
def hStep (n : Nat) (S : List Int × List (Int × Int)) (p : Int × Int) : List Int × List (Int × Int) :=
  if (hPair S.1 p).1 = 0 ∨ xr (hPair S.1 p).1 1 = (hPair S.1 p).2 then (S.1 ++ [0], S.2)
  else if (hPair S.1 p).1 = 1 ∨ (hPair S.1 p).1 = (hPair S.1 p).2 then (S.1 ++ [(hPair S.1 p).2], S.2)
  else if 0 ≤ idxN S.2 (hPair S.1 p) then (S.1 ++ [2 * ((n : Int) + idxN S.2 (hPair S.1 p))], S.2)
  else (S.1 ++ [2 * ((n : Int) + (S.2.length : Int))], S.2 ++ [hPair S.1 p])
theorem hS0 (n : Nat) (S : List Int × List (Int × Int)) (p : Int × Int) {q1 q2 : Int} (h : hPair S.1 p = (q1, q2)) (c : q1 = 0 ∨ xr q1 1 = q2) : hStep n S p = (S.1 ++ [0], S.2) := by
  unfold hStep; rw [h, if_pos c]
theorem hS1 (n : Nat) (S : List Int × List (Int × Int)) (p : Int × Int) {q1 q2 : Int} (h : hPair S.1 p = (q1, q2)) (c0 : ¬ (q1 = 0 ∨ xr q1 1 = q2)) (c1 : q1 = 1 ∨ q1 = q2) : hStep n S p = (S.1 ++ [q2], S.2) := by
  unfold hStep; rw [h, if_neg c0, if_pos c1]
theorem hS2 (n : Nat) (S : List Int × List (Int × Int)) (p : Int × Int) {q1 q2 : Int} (h : hPair S.1 p = (q1, q2)) (c0 : ¬ (q1 = 0 ∨ xr q1 1 = q2)) (c1 : ¬ (q1 = 1 ∨ q1 = q2)) (c2 : 0 ≤ idxN S.2 (q1, q2)) : hStep n S p = (S.1 ++ [2 * ((n : Int) + idxN S.2 (q1, q2))], S.2) := by
  unfold hStep; rw [h, if_neg c0, if_neg c1, if_pos c2]
theorem hS3 (n : Nat) (S : List Int × List (Int × Int)) (p : Int × Int) {q1 q2 : Int} (h : hPair S.1 p = (q1, q2)) (c0 : ¬ (q1 = 0 ∨ xr q1 1 = q2)) (c1 : ¬ (q1 = 1 ∨ q1 = q2)) (c2 : ¬ 0 ≤ idxN S.2 (q1, q2)) : hStep n S p = (S.1 ++ [2 * ((n : Int) + (S.2.length : Int))], S.2 ++ [(q1, q2)]) := by
  unfold hStep; rw [h, if_neg c0, if_neg c1, if_neg c2]
def hBase (n : Nat) : List Int := (List.range n).map fun i : Nat => (i : Int) + (i : Int)
def hAll (g : Gr) (j : Nat) : List Int × List (Int × Int) := (g.ands.take j).foldl (hStep (n0L g)) (hBase (n0L g), [])
theorem hStep_len (n : Nat) (S : List Int × List (Int × Int)) (p : Int × Int) : (hStep n S p).1.length = S.1.length + 1 ∧ S.2.length ≤ (hStep n S p).2.length ∧ (hStep n S p).2.length ≤ S.2.length + 1 := by
  unfold hStep
  (repeat' split) <;> simp
theorem hAll_succ (g : Gr) {j : Nat} (h : j < g.ands.length) : hAll g (j + 1) = hStep (n0L g) (hAll g j) g.ands[j]! := by
  unfold hAll
  rw [tk1 g.ands h, List.foldl_append]; rfl
theorem hAll_len (g : Gr) : ∀ j, j ≤ g.ands.length → (hAll g j).1.length = n0L g + j ∧ (hAll g j).2.length ≤ j
  | 0, _ => by unfold hAll hBase; simp
  | j + 1, h => by
    obtain ⟨h1, h2⟩ := hAll_len g j (by omega)
    rw [hAll_succ g (by omega)]
    obtain ⟨h3, h4, h5⟩ := hStep_len (n0L g) (hAll g j) g.ands[j]!
    omega
def toR (T : List Int) (r : Rg) : Rg := ⟨r.nm, toL T r.nx, r.it⟩
def litsG (g : Gr) : List Int := (hAll g g.ands.length).1
def hashG (g : Gr) : Gr := ⟨g.ins, g.outN, g.regs.map (toR (litsG g)), (hAll g g.ands.length).2, g.outs.map (toL (litsG g))⟩
set_option maxRecDepth 100000 in
set_option maxHeartbeats 16000000 in
theorem hash_any (g : Gr) (v : Value) (vg : VG g) (w : World) (hG : GO g v w) : Calls Try.prog 65 #[v] w fun e w' => ∃ u vp, e = .returned (.tuple #[u, vp]) ∧ GO (hashG g) u w' ∧ RowOf 1 encI (litsG g) vp w' ∧ Below w.heap.size w w' := by
  obtain ⟨a, b, c, d0, e, a', b', c', d', e', rfl, hC, hA⟩ := hG.all
  clear hG
  have n1 := vg.ins
  have n2 := vg.regs
  have n3 := vg.ands
  go_enter Try.func65, Try.ntmps65
  go_upto_region 1 with fail
  have bel := ((Below.refl w.heap.size w).alloc (Nat.le_refl _) (.cells #[.slice a g.ins.length a', .slice b g.outN.length b', .slice c g.regs.length c', .slice d0 g.ands.length d', .slice e g.outs.length e'] 28))
  have X := GX.new w (.slice a g.ins.length a') (.slice b g.outN.length b') (.slice c g.regs.length c') (.slice d0 g.ands.length d') (.slice e g.outs.length e') 28
  have hsz : (w.alloc (.cells #[.slice a g.ins.length a', .slice b g.outN.length b', .slice c g.regs.length c', .slice d0 g.ands.length d', .slice e g.outs.length e'] 28)).heap.size = w.heap.size + 1 := by simp
  generalize w.alloc (.cells #[.slice a g.ins.length a', .slice b g.outN.length b', .slice c g.regs.length c', .slice d0 g.ands.length d', .slice e g.outs.length e'] 28) = Wa at bel X hsz ⊢
  rw [← hsz]
  generalize hk : w.heap.size = k at X ⊢
  have HK := Lib.hid hk
  have hka : k < Wa.heap.size := by omega
  clear hk hsz
  have ba : Below Wa.heap.size Wa (Wa.alloc (.cells #[.slice none 0 0, .slice none 0 0, .slice none 0 0, .slice none 0 0, .slice none 0 0] 28)) := (Below.refl _ Wa).alloc (Nat.le_refl _) _
  have A4 : Arr 28 fV Wa.heap.size zG (Wa.alloc (.cells #[.slice none 0 0, .slice none 0 0, .slice none 0 0, .slice none 0 0, .slice none 0 0] 28)) := Arr.alloc Wa zG _
  replace X := X.below ba
  replace bel := bel.trans (ba.mono bel.size)
  generalize Wa.alloc (.cells #[.slice none 0 0, .slice none 0 0, .slice none 0 0, .slice none 0 0, .slice none 0 0] 28) = W0 at X bel A4 ba ⊢
  generalize Wa.heap.size = t2 at A4 hka ba ⊢
  clear ba
  obtain ⟨x0, x1, x2, x3, x4⟩ := id X
  have hkw := X.lt
  have ht2 := A4.lt
  go_upto_block 0 with fail
  clear x0 x1 x2 x3 x4
  obtain ⟨iL, hiL, hzL, hsL, hbL⟩ := infoI_parts
  obtain ⟨iN, hiN, hzN, hsN, hbN⟩ := infoN2_parts
  have O0 : OwnK W0.heap.size 22 1 encI W0 (.slice none 0 0) (hBase 0) := OwnK.nil _ _ _ _ _
  have hnn : 1 + (g.ins.length : Int) + (g.regs.length : Int) = ((n0L g : Nat) : Int) := by unfold n0L; omega
  have hn0 : n0L g ≤ 1000 := by unfold n0L; omega
  rw [hnn]
  go_wp2_with fail
  go_loopw [5, 27] (fun u i wr => ∃ j : Nat, j ≤ n0L g ∧ i = .int .i64 (j : Int) ∧ Hid (OwnK W0.heap.size 22 1 encI wr u (hBase j)) ∧ Hid (Below W0.heap.size W0 wr)) (fun _ i _ => n0L g - (intOf i).toNat)
  case atStart => exact ⟨0, Nat.zero_le _, rfl, Lib.hid O0, Lib.hid (Below.refl _ _)⟩
  case round =>
    clear O0
    obtain ⟨j, hj, rfl, hO, hB⟩ := hrel
    rename World => WR
    have hj0 : (0 : Int) ≤ (j : Int) := by omega
    obtain ⟨ad, cp, hv⟩ := hO.out.slice
    subst hv
    by_cases hlt : j < n0L g
    · have hji : (j : Int) < ((n0L g : Nat) : Int) := by omega
      have HT := Lib.hid (show hBase (j + 1) = hBase j ++ [(j : Int) + (j : Int)] by unfold hBase; rw [List.range_succ, List.map_append]; rfl)
      have hxl : (hBase j).length ≤ 1000 := by unfold hBase; simp; omega
      obtain ⟨T, HTJ⟩ : ∃ T, Hid (hBase j = T) := ⟨_, Lib.hid rfl⟩
      rw [HTJ.out] at hO HT hxl
      rw [HTJ.out]
      clear HTJ
      have O4 := hO.out.below ((Below.refl _ WR).alloc (Nat.le_refl _) (.cells #[.int .i64 ((j : Int) + (j : Int))] 22))
      have hy : ∀ (q : Nat) (u : Value), (encI ((j : Int) + (j : Int)))[q]? = some u → (WR.alloc (.cells #[.int .i64 ((j : Int) + (j : Int))] 22)).cell? ⟨WR.heap.size, q, none⟩ = some u := by
        intro q u hq
        match q, hq with
        | 0, hq => cases hq; go_simp
      have h4 := hB.out.size
      go_wp2_with (at_builtin; refine wpList_append_one (enc := encI) (k := 1) (fun _ => rfl) (by decide) (fun x u hu => by simp at hu; rcases hu with rfl; rfl) rfl _ _ 26 rfl W0.heap.size 22 iL (.int .i64 0) 8 Try.underlying26 hiL hzL hsL hbL (by decide) _ T rfl O4 WR.heap.size 1 ((j : Int) + (j : Int)) rfl hy (show T.length + 1 ≤ maxLen by unfold maxLen; omega) (show (T.length + 1) * 8 ≤ 140737488355328 by omega) (by first | omega | (simp; omega)) ?_)
      intro v5 w5 O5 hb5 hg5
      have HO5 := Lib.hid O5
      have HB5 := Lib.hid (hB.out.trans (((Below.refl _ WR).alloc h4 _).trans hb5))
      clear O5 hb5 hg5 O4 hy hO hB
      go_wp2_with fail
      go_roundw
      case rel => exact ⟨j + 1, by omega, by go_num, (by rw [HT.out]; exact HO5), HB5⟩
      all_goals first | done | (simp [intOf]; done) | (simp [intOf]; omega)
    · obtain rfl : j = n0L g := by omega
      have hji : ¬ ((n0L g : Nat) : Int) < ((n0L g : Nat) : Int) := by omega
      have bR := hB.out
      have OT := hO.out
      clear hO hB
      have XR := X.below bR
      obtain ⟨x0, x1, x2, x3, x4⟩ := id XR
      go_upto_block 2 with fail
      clear x0 x1 x2 x3 x4
      have O0 : OwnK W0.heap.size 110 2 encN WR (.slice none 0 0) [] := OwnK.nil _ _ _ _ _
      have HX := Lib.hid (fun W (hb : Below W0.heap.size W0 W) => X.below hb)
      have HA := Lib.hid (fun W (hb : Below W0.heap.size W0 W) => hA.ands.below (bel.trans (hb.mono bel.size)))
      rw [show (.slice ad (hBase (n0L g)).length cp : Value) = .slice ad (hBase (n0L g)).length cp from rfl]
      go_wp2_with fail
      go_loopw [5, 7, 40] (fun u1 u2 i wr => ∃ j : Nat, j ≤ g.ands.length ∧ i = .int .i64 (j : Int) ∧ Hid (OwnK W0.heap.size 22 1 encI wr u1 (hAll g j).1) ∧ Hid (OwnK W0.heap.size 110 2 encN wr u2 (hAll g j).2) ∧ Hid (Below W0.heap.size W0 wr)) (fun _ _ i _ => g.ands.length - (intOf i).toNat)
      case atStart => exact ⟨0, Nat.zero_le _, rfl, Lib.hid (by unfold hAll; exact OT), Lib.hid (by unfold hAll; exact O0), Lib.hid bR⟩
      case round =>
        clear OT O0 bR XR
        obtain ⟨j, hj, rfl, hO1, hO2, hB⟩ := hrel
        rename World => WS
        have hj0 : (0 : Int) ≤ (j : Int) := by omega
        obtain ⟨ad1, cp1, hv⟩ := hO1.out.slice
        subst hv
        obtain ⟨ad2, cp2, hv⟩ := hO2.out.slice
        subst hv
        by_cases hlt : j < g.ands.length
        · have hji : (j : Int) < (g.ands.length : Int) := by omega
          obtain ⟨hl1, hl2⟩ := hAll_len g j (by omega)
          have HST := Lib.hid (hAll_succ g hlt)
          obtain ⟨bd, od, hdd, hcell⟩ := RowAt.pick (HA.out _ hB.out) (by omega)
          subst hdd
          have d1 := hcell j hlt 0 _ rfl
          have d2 := hcell j hlt 1 _ rfl
          simp only [Nat.add_zero] at d1
          clear hcell
          have hlit := vg.lits j hlt
          have hbl : baseL g = 2 * (n0L g : Int) := by unfold baseL n0L; omega
          obtain ⟨S', HS'⟩ : ∃ S, Hid (hAll g (j + 1) = S) := ⟨_, Lib.hid rfl⟩
          rw [HS'.out] at HST
          generalize g.ands[j]! = p at d1 d2 hlit HST
          obtain ⟨p1, p2⟩ := p
          simp only at d1 d2 hlit
          have l1 : ndL p1 < n0L g + j := by have := ndL_lt (n := (n0L g : Int) + j) hlit.1.1 (by omega); omega
          have l2 : ndL p2 < n0L g + j := by have := ndL_lt (n := (n0L g : Int) + j) hlit.2.1 (by omega); omega
          have hp1 := hlit.1.1
          have hp2 := hlit.2.1
          have hq1 : p1 / 2 < ((hAll g j).1.length : Int) := by rw [hl1]; unfold ndL at l1; omega
          have hq2 : p2 / 2 < ((hAll g j).1.length : Int) := by rw [hl1]; unfold ndL at l2; omega
          have hr1 : 0 ≤ p1 / 2 := by omega
          have hr2 : 0 ≤ p2 / 2 := by omega
          rw [← hl1] at l1 l2
          clear hlit hbl
          have hTl : (hAll g j).1.length ≤ 6000 := by omega
          have hNl : (hAll g j).2.length ≤ 5000 := by omega
          clear hl1 hl2
          generalize hAll g j = S at hO1 hO2 l1 l2 hq1 hq2 HST hTl hNl ⊢
          obtain ⟨T, N⟩ := S
          simp only at hO1 hO2 l1 l2 hq1 hq2 hTl hNl ⊢
          go_upto_region 12 with fail
          have b6 : Below WS.heap.size WS (WS.alloc (.cells #[.int .i64 p1, .int .i64 p2] 110)) := (Below.refl _ WS).alloc (Nat.le_refl _) _
          have y0 : (WS.alloc (.cells #[.int .i64 p1, .int .i64 p2] 110)).cell? ⟨WS.heap.size, 0, none⟩ = some (.int .i64 p1) := by go_simp
          have y1 : (WS.alloc (.cells #[.int .i64 p1, .int .i64 p2] 110)).cell? ⟨WS.heap.size, 1, none⟩ = some (.int .i64 p2) := by go_simp
          have O1 := hO1.out.below b6
          have O2 := hO2.out.below b6
          have bS := hB.out.trans (b6.mono hB.out.size)
          clear hO1 hO2 hB d1 d2
          generalize WS.alloc (.cells #[.int .i64 p1, .int .i64 p2] 110) = W6 at b6 y0 y1 O1 O2 bS ⊢
          generalize WS.heap.size = r at y0 y1 ⊢
          clear b6
          obtain ⟨adr, cpr, er, hcr, rr⟩ := (OwnK.row (k := 1) (enc := encI) (fun _ => rfl) O1).open'
          cases er
          obtain ⟨bb, oo, rfl, hcell⟩ := rr.pick (by omega)
          have c1 : W6.cell? ⟨bb, oo + (p1 / 2).toNat, none⟩ = some (.int .i64 T[ndL p1]!) := by have := hcell (ndL p1) l1 0 _ rfl; simpa only [Nat.mul_one, Nat.add_zero, ndL] using this
          have c2 : W6.cell? ⟨bb, oo + (p2 / 2).toNat, none⟩ = some (.int .i64 T[ndL p2]!) := by have := hcell (ndL p2) l2 0 _ rfl; simpa only [Nat.mul_one, Nat.add_zero, ndL] using this
          clear hcell rr hcr
          have HA1 := Lib.hid (show bits BinOp.xor IntKind.i64 T[ndL p1]! (bits BinOp.and IntKind.i64 p1 1) = toL T p1 by rw [band1]; rfl)
          have HA2 := Lib.hid (show bits BinOp.xor IntKind.i64 T[ndL p2]! (bits BinOp.and IntKind.i64 p2 1) = toL T p2 by rw [band1]; rfl)
          generalize T[ndL p1]! = z1 at c1 HA1
          generalize T[ndL p2]! = z2 at c2 HA2
          have g0 := cell_regrown y0
          have g1 := cell_regrown y1
          have g2 := cell_regrown c1
          have g3 := cell_regrown c2
          have HBW := Lib.hid (fun d os => below_regrown W6 d os)
          clear y0 y1 c1 c2
          refine wp_region_rel 22 (by kernel_rfl) (by kernel_rfl) ?_
          simp only [List.take_succ_cons, List.take_zero, List.drop_succ_cons, List.drop_zero]
          (refine rel_fix0 (fun K hK => ?_); go_simp; refine hK _ ?_; clear hK K)
          (refine rel_fix0 (fun K hK => ?_); go_simp; refine hK _ ?_; clear hK K)
          (refine rel_fix0 (fun K hK => ?_); go_simp; refine hK _ ?_; clear hK K)
          (refine rel_fix0 (fun K hK => ?_); go_simp; refine hK _ ?_; clear hK K)
          (refine rel_fix0 (fun K hK => ?_); go_simp; refine hK _ ?_; clear hK K)
          (refine rel_fix0 (fun K hK => ?_); go_simp; refine hK _ ?_; clear hK K)
          (refine rel_fix0 (fun K hK => ?_); go_simp; refine hK _ ?_; clear hK K)
          (refine rel_fix0 (fun K hK => ?_); go_simp; refine hK _ ?_; clear hK K)
          (refine rel_fix0 (fun K hK => ?_); go_simp; refine hK _ ?_; clear hK K)
          (refine rel_fix0 (fun K hK => ?_); go_simp; refine hK _ ?_; clear hK K)
          (refine rel_fix0 (fun K hK => ?_); go_simp; refine hK _ ?_; clear hK K)
          (refine rel_fix0 (fun K hK => ?_); go_simp; refine hK _ ?_; clear hK K)
          (refine rel_fix0 (fun K hK => ?_); go_simp; refine hK _ ?_; clear hK K)
          (refine rel_fix0 (fun K hK => ?_); go_simp; refine hK _ ?_; clear hK K)
          (refine rel_fix0 (fun K hK => ?_); go_simp; refine hK _ ?_; clear hK K)
          (refine rel_fix0 (fun K hK => ?_); go_simp; refine hK _ ?_; clear hK K)
          (refine rel_fix0 (fun K hK => ?_); go_simp; refine hK _ ?_; clear hK K)
          (refine rel_fix0 (fun K hK => ?_); go_simp; refine hK _ ?_; clear hK K)
          (refine rel_fix0 (fun K hK => ?_); go_simp; refine hK _ ?_; clear hK K)
          (refine rel_fix0 (fun K hK => ?_); go_simp; refine hK _ ?_; clear hK K)
          (refine rel_fix0 (fun K hK => ?_); go_simp; refine hK _ ?_; clear hK K)
          (refine rel_fix0 (fun K hK => ?_); go_simp; refine hK _ ?_; clear hK K)
          refine rel_nil ?_
          intro d os
          simp only [relAll]
          have hb7 := HBW.out d os
          have O17 := O1.below hb7
          have O27 := O2.below hb7
          have bS7 := bS.trans (hb7.mono bS.size)
          clear g0 g1 g2 g3 HBW hb7 O1 O2 bS
          generalize grow (redrawn W6 d) os = W7 at O17 O27 bS7 ⊢
          rw [HA1.out, HA2.out]
          have HP := Lib.hid (show hPair T (p1, p2) = if toL T p2 < toL T p1 then (toL T p2, toL T p1) else (toL T p1, toL T p2) from rfl)
          have HI := Lib.hid (fun q1 q2 => indexN_any N q1 q2 _ (by omega) W7 (OwnK.row (k := 2) (enc := encN) (fun _ => rfl) O27))
          clear HA1 HA2
          generalize toL T p1 = qa at HP ⊢
          generalize toL T p2 = qb at HP ⊢
          by_cases hsw : qb < qa
          · have HQ := Lib.hid (HP.out.trans (if_pos hsw))
            clear HP
            go_upto_region 15 with fail
            clear hsw
            go_upto_block 4 with (first | (go_at_call 99; refine (HI.out _ _).mono ?_; rintro ee W8 ⟨rfl, hb8⟩))
            replace O17 := O17.below hb8
            replace O27 := O27.below hb8
            replace bS7 := bS7.trans (hb8.mono bS7.size)
            clear hb8 HI
            have hI : -1 ≤ idxN N (qb, qa) ∧ idxN N (qb, qa) ≤ 5000 := by
              have := idxF_le (qb, qa) N 0
              unfold idxN
              omega
            obtain ⟨ix, HX⟩ : ∃ x, Hid (idxN N (qb, qa) = x) := ⟨_, Lib.hid rfl⟩
            rw [HX.out] at hI ⊢
            by_cases c0 : qb = 0
            · replace HST := Lib.hid (HST.out.trans (hS0 _ _ _ HQ.out (.inl c0)))
              clear HQ HX
              have O4 := O17.below ((Below.refl _ W8).alloc (Nat.le_refl _) (.cells #[.int .i64 (0)] 22))
              have N4 := O27.below ((Below.refl _ W8).alloc (Nat.le_refl _) (.cells #[.int .i64 (0)] 22))
              have hy : ∀ (q : Nat) (u : Value), (encI (0))[q]? = some u → (W8.alloc (.cells #[.int .i64 (0)] 22)).cell? ⟨W8.heap.size, q, none⟩ = some u := by
                intro q u hq
                match q, hq with
                | 0, hq => cases hq; go_simp
              have h4 := bS7.size
              go_wp2_with (at_builtin; refine wpList_append_one (enc := encI) (k := 1) (fun _ => rfl) (by decide) (fun x u hu => by simp at hu; rcases hu with rfl; rfl) rfl _ _ 26 rfl W0.heap.size 22 iL (.int .i64 0) 8 Try.underlying26 hiL hzL hsL hbL (by decide) _ T rfl O4 W8.heap.size 1 (0) rfl hy (show T.length + 1 ≤ maxLen by unfold maxLen; omega) (show (T.length + 1) * 8 ≤ 140737488355328 by omega) (by first | omega | (simp; omega)) ?_)
              intro v5 w5 O5 hb5 hg5
              have HO5 := Lib.hid O5
              have HN5 := Lib.hid (OwnK.aside N4 O4 (by decide) hg5)
              have HB5 := Lib.hid (bS7.trans (((Below.refl _ W8).alloc h4 _).trans hb5))
              clear O5 hb5 hg5 O4 N4 hy O17 O27 bS7
              go_wp2_with fail
              go_roundw
              case rel => exact ⟨j + 1, by omega, by go_num, (by rw [HS'.out, HST.out]; exact HO5), (by rw [HS'.out, HST.out]; exact HN5), HB5⟩
              all_goals first | done | (simp [intOf]; done) | (simp [intOf]; omega)
            · have c0b : (qb == 0) = false := beq_eq_false_iff_ne.2 c0
              by_cases cx : xr qb 1 = qa
              · replace HST := Lib.hid (HST.out.trans (hS0 _ _ _ HQ.out (.inr cx)))
                clear HQ HX
                have cxa : bits BinOp.xor IntKind.i64 qb 1 = qa := cx
                have cxb : (bits BinOp.xor IntKind.i64 qb 1 == qa) = true := beq_iff_eq.2 cx
                have O4 := O17.below ((Below.refl _ W8).alloc (Nat.le_refl _) (.cells #[.int .i64 (0)] 22))
                have N4 := O27.below ((Below.refl _ W8).alloc (Nat.le_refl _) (.cells #[.int .i64 (0)] 22))
                have hy : ∀ (q : Nat) (u : Value), (encI (0))[q]? = some u → (W8.alloc (.cells #[.int .i64 (0)] 22)).cell? ⟨W8.heap.size, q, none⟩ = some u := by
                  intro q u hq
                  match q, hq with
                  | 0, hq => cases hq; go_simp
                have h4 := bS7.size
                go_wp2_with (at_builtin; refine wpList_append_one (enc := encI) (k := 1) (fun _ => rfl) (by decide) (fun x u hu => by simp at hu; rcases hu with rfl; rfl) rfl _ _ 26 rfl W0.heap.size 22 iL (.int .i64 0) 8 Try.underlying26 hiL hzL hsL hbL (by decide) _ T rfl O4 W8.heap.size 1 (0) rfl hy (show T.length + 1 ≤ maxLen by unfold maxLen; omega) (show (T.length + 1) * 8 ≤ 140737488355328 by omega) (by first | omega | (simp; omega)) ?_)
                intro v5 w5 O5 hb5 hg5
                have HO5 := Lib.hid O5
                have HN5 := Lib.hid (OwnK.aside N4 O4 (by decide) hg5)
                have HB5 := Lib.hid (bS7.trans (((Below.refl _ W8).alloc h4 _).trans hb5))
                clear O5 hb5 hg5 O4 N4 hy O17 O27 bS7
                go_wp2_with fail
                go_roundw
                case rel => exact ⟨j + 1, by omega, by go_num, (by rw [HS'.out, HST.out]; exact HO5), (by rw [HS'.out, HST.out]; exact HN5), HB5⟩
                all_goals first | done | (simp [intOf]; done) | (simp [intOf]; omega)
              · have cxa : ¬ bits BinOp.xor IntKind.i64 qb 1 = qa := cx
                have cxb : (bits BinOp.xor IntKind.i64 qb 1 == qa) = false := beq_eq_false_iff_ne.2 cx
                have cn : ¬ (qb = 0 ∨ xr qb 1 = qa) := fun h => h.elim c0 cx
                by_cases c1 : qb = 1
                · replace HST := Lib.hid (HST.out.trans (hS1 _ _ _ HQ.out cn (.inl c1)))
                  clear HQ HX cn cx
                  subst c1
                  have O4 := O17.below ((Below.refl _ W8).alloc (Nat.le_refl _) (.cells #[.int .i64 (qa)] 22))
                  have N4 := O27.below ((Below.refl _ W8).alloc (Nat.le_refl _) (.cells #[.int .i64 (qa)] 22))
                  have hy : ∀ (q : Nat) (u : Value), (encI (qa))[q]? = some u → (W8.alloc (.cells #[.int .i64 (qa)] 22)).cell? ⟨W8.heap.size, q, none⟩ = some u := by
                    intro q u hq
                    match q, hq with
                    | 0, hq => cases hq; go_simp
                  have h4 := bS7.size
                  go_wp2_with (at_builtin; refine wpList_append_one (enc := encI) (k := 1) (fun _ => rfl) (by decide) (fun x u hu => by simp at hu; rcases hu with rfl; rfl) rfl _ _ 26 rfl W0.heap.size 22 iL (.int .i64 0) 8 Try.underlying26 hiL hzL hsL hbL (by decide) _ T rfl O4 W8.heap.size 1 (qa) rfl hy (show T.length + 1 ≤ maxLen by unfold maxLen; omega) (show (T.length + 1) * 8 ≤ 140737488355328 by omega) (by first | omega | (simp; omega)) ?_)
                  intro v5 w5 O5 hb5 hg5
                  have HO5 := Lib.hid O5
                  have HN5 := Lib.hid (OwnK.aside N4 O4 (by decide) hg5)
                  have HB5 := Lib.hid (bS7.trans (((Below.refl _ W8).alloc h4 _).trans hb5))
                  clear O5 hb5 hg5 O4 N4 hy O17 O27 bS7
                  go_wp2_with fail
                  go_roundw
                  case rel => exact ⟨j + 1, by omega, by go_num, (by rw [HS'.out, HST.out]; exact HO5), (by rw [HS'.out, HST.out]; exact HN5), HB5⟩
                  all_goals first | done | (simp [intOf]; done) | (simp [intOf]; omega)
                · have c1b : (qb == 1) = false := beq_eq_false_iff_ne.2 c1
                  by_cases ce : qb = qa
                  · replace HST := Lib.hid (HST.out.trans (hS1 _ _ _ HQ.out cn (.inr ce)))
                    have ceb : (qb == qa) = true := beq_iff_eq.2 ce
                    clear HQ HX cn cx
                    subst ce
                    have O4 := O17.below ((Below.refl _ W8).alloc (Nat.le_refl _) (.cells #[.int .i64 (qb)] 22))
                    have N4 := O27.below ((Below.refl _ W8).alloc (Nat.le_refl _) (.cells #[.int .i64 (qb)] 22))
                    have hy : ∀ (q : Nat) (u : Value), (encI (qb))[q]? = some u → (W8.alloc (.cells #[.int .i64 (qb)] 22)).cell? ⟨W8.heap.size, q, none⟩ = some u := by
                      intro q u hq
                      match q, hq with
                      | 0, hq => cases hq; go_simp
                    have h4 := bS7.size
                    go_wp2_with (at_builtin; refine wpList_append_one (enc := encI) (k := 1) (fun _ => rfl) (by decide) (fun x u hu => by simp at hu; rcases hu with rfl; rfl) rfl _ _ 26 rfl W0.heap.size 22 iL (.int .i64 0) 8 Try.underlying26 hiL hzL hsL hbL (by decide) _ T rfl O4 W8.heap.size 1 (qb) rfl hy (show T.length + 1 ≤ maxLen by unfold maxLen; omega) (show (T.length + 1) * 8 ≤ 140737488355328 by omega) (by first | omega | (simp; omega)) ?_)
                    intro v5 w5 O5 hb5 hg5
                    have HO5 := Lib.hid O5
                    have HN5 := Lib.hid (OwnK.aside N4 O4 (by decide) hg5)
                    have HB5 := Lib.hid (bS7.trans (((Below.refl _ W8).alloc h4 _).trans hb5))
                    clear O5 hb5 hg5 O4 N4 hy O17 O27 bS7
                    go_wp2_with fail
                    go_roundw
                    case rel => exact ⟨j + 1, by omega, by go_num, (by rw [HS'.out, HST.out]; exact HO5), (by rw [HS'.out, HST.out]; exact HN5), HB5⟩
                    all_goals first | done | (simp [intOf]; done) | (simp [intOf]; omega)
                  · have ceb : (qb == qa) = false := beq_eq_false_iff_ne.2 ce
                    have cm : ¬ (qb = 1 ∨ qb = qa) := fun h => h.elim c1 ce
                    by_cases c2 : 0 ≤ ix
                    · replace HST := Lib.hid (HST.out.trans (hS2 _ _ _ HQ.out cn cm (by rw [HX.out]; exact c2)))
                      rw [HX.out] at HST
                      clear HQ HX cn cx cm
                      have O4 := O17.below ((Below.refl _ W8).alloc (Nat.le_refl _) (.cells #[.int .i64 (2 * (((n0L g : Nat) : Int) + ix))] 22))
                      have N4 := O27.below ((Below.refl _ W8).alloc (Nat.le_refl _) (.cells #[.int .i64 (2 * (((n0L g : Nat) : Int) + ix))] 22))
                      have hy : ∀ (q : Nat) (u : Value), (encI (2 * (((n0L g : Nat) : Int) + ix)))[q]? = some u → (W8.alloc (.cells #[.int .i64 (2 * (((n0L g : Nat) : Int) + ix))] 22)).cell? ⟨W8.heap.size, q, none⟩ = some u := by
                        intro q u hq
                        match q, hq with
                        | 0, hq => cases hq; go_simp
                      have h4 := bS7.size
                      go_wp2_with (at_builtin; refine wpList_append_one (enc := encI) (k := 1) (fun _ => rfl) (by decide) (fun x u hu => by simp at hu; rcases hu with rfl; rfl) rfl _ _ 26 rfl W0.heap.size 22 iL (.int .i64 0) 8 Try.underlying26 hiL hzL hsL hbL (by decide) _ T rfl O4 W8.heap.size 1 (2 * (((n0L g : Nat) : Int) + ix)) rfl hy (show T.length + 1 ≤ maxLen by unfold maxLen; omega) (show (T.length + 1) * 8 ≤ 140737488355328 by omega) (by first | omega | (simp; omega)) ?_)
                      intro v5 w5 O5 hb5 hg5
                      have HO5 := Lib.hid O5
                      have HN5 := Lib.hid (OwnK.aside N4 O4 (by decide) hg5)
                      have HB5 := Lib.hid (bS7.trans (((Below.refl _ W8).alloc h4 _).trans hb5))
                      clear O5 hb5 hg5 O4 N4 hy O17 O27 bS7
                      go_wp2_with fail
                      go_roundw
                      case rel => exact ⟨j + 1, by omega, by go_num, (by rw [HS'.out, HST.out]; exact HO5), (by rw [HS'.out, HST.out]; exact HN5), HB5⟩
                      all_goals first | done | (simp [intOf]; done) | (simp [intOf]; omega)
                    · replace HST := Lib.hid (HST.out.trans (hS3 _ _ _ HQ.out cn cm (by rw [HX.out]; exact c2)))
                      clear HQ HX cn cx cm
                      have O4 := O17.below ((Below.refl _ W8).alloc (Nat.le_refl _) (.cells #[.int .i64 qb, .int .i64 qa] 110))
                      have N4 := O27.below ((Below.refl _ W8).alloc (Nat.le_refl _) (.cells #[.int .i64 qb, .int .i64 qa] 110))
                      have hy : ∀ (q : Nat) (u : Value), (encN (qb, qa))[q]? = some u → (W8.alloc (.cells #[.int .i64 qb, .int .i64 qa] 110)).cell? ⟨W8.heap.size, q, none⟩ = some u := by
                        intro q u hq
                        match q, hq with
                        | 0, hq => cases hq; go_simp
                        | 1, hq => cases hq; go_simp
                      have h4 := bS7.size
                      go_upto_region 17 with (at_builtin; refine wpList_append_one (enc := encN) (k := 2) (fun _ => rfl) (by decide) (fun x u hu => by simp at hu; rcases hu with rfl | rfl <;> rfl) rfl _ _ 25 rfl W0.heap.size 110 iN (.agg #[.int .i64 0, .int .i64 0]) 16 Try.underlying25 hiN hzN hsN hbN (by decide) _ N rfl N4 W8.heap.size 1 (qb, qa) rfl hy (show N.length + 1 ≤ maxLen by unfold maxLen; omega) (show (N.length + 1) * 16 ≤ 140737488355328 by omega) (by first | omega | (simp; omega)) ?_; intro v6 w6 O6 hb6 hg6)
                      replace O17 := OwnK.aside O4 N4 (by decide) hg6
                      replace O27 := O6
                      replace bS7 := bS7.trans (((Below.refl _ W8).alloc h4 _).trans hb6)
                      clear hb6 hg6 O4 N4 hy O6 h4
                      obtain ⟨ad6, cp6, hv6⟩ := O27.slice
                      subst hv6
                      obtain ⟨m, hm⟩ : ∃ m, (N ++ [(qb, qa)]).length = m := ⟨_, rfl⟩
                      have hmn : m = N.length + 1 := by rw [← hm]; simp
                      rw [hm] at O27 ⊢
                      clear hm
                      have hmb : 1 ≤ m ∧ m ≤ 5001 := by omega
                      replace HST := Lib.hid (HST.out.trans (show (T ++ [2 * (((n0L g : Nat) : Int) + (N.length : Int))], N ++ [(qb, qa)]) = (T ++ [2 * (((n0L g : Nat) : Int) + (m : Int) - 1)], N ++ [(qb, qa)]) by rw [show ((m : Int)) = (N.length : Int) + 1 by omega, Int.add_sub_assoc, Int.add_sub_cancel]))
                      clear hmn
                      have O4 := O17.below ((Below.refl _ w6).alloc (Nat.le_refl _) (.cells #[.int .i64 (2 * (((n0L g : Nat) : Int) + (m : Int) - 1))] 22))
                      have N4 := O27.below ((Below.refl _ w6).alloc (Nat.le_refl _) (.cells #[.int .i64 (2 * (((n0L g : Nat) : Int) + (m : Int) - 1))] 22))
                      have hy : ∀ (q : Nat) (u : Value), (encI (2 * (((n0L g : Nat) : Int) + (m : Int) - 1)))[q]? = some u → (w6.alloc (.cells #[.int .i64 (2 * (((n0L g : Nat) : Int) + (m : Int) - 1))] 22)).cell? ⟨w6.heap.size, q, none⟩ = some u := by
                        intro q u hq
                        match q, hq with
                        | 0, hq => cases hq; go_simp
                      have h4 := bS7.size
                      go_wp2_with (at_builtin; refine wpList_append_one (enc := encI) (k := 1) (fun _ => rfl) (by decide) (fun x u hu => by simp at hu; rcases hu with rfl; rfl) rfl _ _ 26 rfl W0.heap.size 22 iL (.int .i64 0) 8 Try.underlying26 hiL hzL hsL hbL (by decide) _ T rfl O4 w6.heap.size 1 (2 * (((n0L g : Nat) : Int) + (m : Int) - 1)) rfl hy (show T.length + 1 ≤ maxLen by unfold maxLen; omega) (show (T.length + 1) * 8 ≤ 140737488355328 by omega) (by first | omega | (simp; omega)) ?_)
                      intro v5 w5 O5 hb5 hg5
                      have HO5 := Lib.hid O5
                      have HN5 := Lib.hid (OwnK.aside N4 O4 (by decide) hg5)
                      have HB5 := Lib.hid (bS7.trans (((Below.refl _ w6).alloc h4 _).trans hb5))
                      clear O5 hb5 hg5 O4 N4 hy O17 O27 bS7
                      go_wp2_with fail
                      go_roundw
                      case rel => exact ⟨j + 1, by omega, by go_num, (by rw [HS'.out, HST.out]; exact HO5), (by rw [HS'.out, HST.out]; exact HN5), HB5⟩
                      all_goals first | done | (simp [intOf]; done) | (simp [intOf]; omega)
          · have HQ := Lib.hid (HP.out.trans (if_neg hsw))
            clear HP
            go_upto_region 15 with fail
            clear hsw
            go_upto_block 4 with (first | (go_at_call 99; refine (HI.out _ _).mono ?_; rintro ee W8 ⟨rfl, hb8⟩))
            replace O17 := O17.below hb8
            replace O27 := O27.below hb8
            replace bS7 := bS7.trans (hb8.mono bS7.size)
            clear hb8 HI
            have hI : -1 ≤ idxN N (qa, qb) ∧ idxN N (qa, qb) ≤ 5000 := by
              have := idxF_le (qa, qb) N 0
              unfold idxN
              omega
            obtain ⟨ix, HX⟩ : ∃ x, Hid (idxN N (qa, qb) = x) := ⟨_, Lib.hid rfl⟩
            rw [HX.out] at hI ⊢
            by_cases c0 : qa = 0
            · replace HST := Lib.hid (HST.out.trans (hS0 _ _ _ HQ.out (.inl c0)))
              clear HQ HX
              have O4 := O17.below ((Below.refl _ W8).alloc (Nat.le_refl _) (.cells #[.int .i64 (0)] 22))
              have N4 := O27.below ((Below.refl _ W8).alloc (Nat.le_refl _) (.cells #[.int .i64 (0)] 22))
              have hy : ∀ (q : Nat) (u : Value), (encI (0))[q]? = some u → (W8.alloc (.cells #[.int .i64 (0)] 22)).cell? ⟨W8.heap.size, q, none⟩ = some u := by
                intro q u hq
                match q, hq with
                | 0, hq => cases hq; go_simp
              have h4 := bS7.size
              go_wp2_with (at_builtin; refine wpList_append_one (enc := encI) (k := 1) (fun _ => rfl) (by decide) (fun x u hu => by simp at hu; rcases hu with rfl; rfl) rfl _ _ 26 rfl W0.heap.size 22 iL (.int .i64 0) 8 Try.underlying26 hiL hzL hsL hbL (by decide) _ T rfl O4 W8.heap.size 1 (0) rfl hy (show T.length + 1 ≤ maxLen by unfold maxLen; omega) (show (T.length + 1) * 8 ≤ 140737488355328 by omega) (by first | omega | (simp; omega)) ?_)
              intro v5 w5 O5 hb5 hg5
              have HO5 := Lib.hid O5
              have HN5 := Lib.hid (OwnK.aside N4 O4 (by decide) hg5)
              have HB5 := Lib.hid (bS7.trans (((Below.refl _ W8).alloc h4 _).trans hb5))
              clear O5 hb5 hg5 O4 N4 hy O17 O27 bS7
              go_wp2_with fail
              go_roundw
              case rel => exact ⟨j + 1, by omega, by go_num, (by rw [HS'.out, HST.out]; exact HO5), (by rw [HS'.out, HST.out]; exact HN5), HB5⟩
              all_goals first | done | (simp [intOf]; done) | (simp [intOf]; omega)
            · have c0b : (qa == 0) = false := beq_eq_false_iff_ne.2 c0
              by_cases cx : xr qa 1 = qb
              · replace HST := Lib.hid (HST.out.trans (hS0 _ _ _ HQ.out (.inr cx)))
                clear HQ HX
                have cxa : bits BinOp.xor IntKind.i64 qa 1 = qb := cx
                have cxb : (bits BinOp.xor IntKind.i64 qa 1 == qb) = true := beq_iff_eq.2 cx
                have O4 := O17.below ((Below.refl _ W8).alloc (Nat.le_refl _) (.cells #[.int .i64 (0)] 22))
                have N4 := O27.below ((Below.refl _ W8).alloc (Nat.le_refl _) (.cells #[.int .i64 (0)] 22))
                have hy : ∀ (q : Nat) (u : Value), (encI (0))[q]? = some u → (W8.alloc (.cells #[.int .i64 (0)] 22)).cell? ⟨W8.heap.size, q, none⟩ = some u := by
                  intro q u hq
                  match q, hq with
                  | 0, hq => cases hq; go_simp
                have h4 := bS7.size
                go_wp2_with (at_builtin; refine wpList_append_one (enc := encI) (k := 1) (fun _ => rfl) (by decide) (fun x u hu => by simp at hu; rcases hu with rfl; rfl) rfl _ _ 26 rfl W0.heap.size 22 iL (.int .i64 0) 8 Try.underlying26 hiL hzL hsL hbL (by decide) _ T rfl O4 W8.heap.size 1 (0) rfl hy (show T.length + 1 ≤ maxLen by unfold maxLen; omega) (show (T.length + 1) * 8 ≤ 140737488355328 by omega) (by first | omega | (simp; omega)) ?_)
                intro v5 w5 O5 hb5 hg5
                have HO5 := Lib.hid O5
                have HN5 := Lib.hid (OwnK.aside N4 O4 (by decide) hg5)
                have HB5 := Lib.hid (bS7.trans (((Below.refl _ W8).alloc h4 _).trans hb5))
                clear O5 hb5 hg5 O4 N4 hy O17 O27 bS7
                go_wp2_with fail
                go_roundw
                case rel => exact ⟨j + 1, by omega, by go_num, (by rw [HS'.out, HST.out]; exact HO5), (by rw [HS'.out, HST.out]; exact HN5), HB5⟩
                all_goals first | done | (simp [intOf]; done) | (simp [intOf]; omega)
              · have cxa : ¬ bits BinOp.xor IntKind.i64 qa 1 = qb := cx
                have cxb : (bits BinOp.xor IntKind.i64 qa 1 == qb) = false := beq_eq_false_iff_ne.2 cx
                have cn : ¬ (qa = 0 ∨ xr qa 1 = qb) := fun h => h.elim c0 cx
                by_cases c1 : qa = 1
                · replace HST := Lib.hid (HST.out.trans (hS1 _ _ _ HQ.out cn (.inl c1)))
                  clear HQ HX cn cx
                  subst c1
                  have O4 := O17.below ((Below.refl _ W8).alloc (Nat.le_refl _) (.cells #[.int .i64 (qb)] 22))
                  have N4 := O27.below ((Below.refl _ W8).alloc (Nat.le_refl _) (.cells #[.int .i64 (qb)] 22))
                  have hy : ∀ (q : Nat) (u : Value), (encI (qb))[q]? = some u → (W8.alloc (.cells #[.int .i64 (qb)] 22)).cell? ⟨W8.heap.size, q, none⟩ = some u := by
                    intro q u hq
                    match q, hq with
                    | 0, hq => cases hq; go_simp
                  have h4 := bS7.size
                  go_wp2_with (at_builtin; refine wpList_append_one (enc := encI) (k := 1) (fun _ => rfl) (by decide) (fun x u hu => by simp at hu; rcases hu with rfl; rfl) rfl _ _ 26 rfl W0.heap.size 22 iL (.int .i64 0) 8 Try.underlying26 hiL hzL hsL hbL (by decide) _ T rfl O4 W8.heap.size 1 (qb) rfl hy (show T.length + 1 ≤ maxLen by unfold maxLen; omega) (show (T.length + 1) * 8 ≤ 140737488355328 by omega) (by first | omega | (simp; omega)) ?_)
                  intro v5 w5 O5 hb5 hg5
                  have HO5 := Lib.hid O5
                  have HN5 := Lib.hid (OwnK.aside N4 O4 (by decide) hg5)
                  have HB5 := Lib.hid (bS7.trans (((Below.refl _ W8).alloc h4 _).trans hb5))
                  clear O5 hb5 hg5 O4 N4 hy O17 O27 bS7
                  go_wp2_with fail
                  go_roundw
                  case rel => exact ⟨j + 1, by omega, by go_num, (by rw [HS'.out, HST.out]; exact HO5), (by rw [HS'.out, HST.out]; exact HN5), HB5⟩
                  all_goals first | done | (simp [intOf]; done) | (simp [intOf]; omega)
                · have c1b : (qa == 1) = false := beq_eq_false_iff_ne.2 c1
                  by_cases ce : qa = qb
                  · replace HST := Lib.hid (HST.out.trans (hS1 _ _ _ HQ.out cn (.inr ce)))
                    have ceb : (qa == qb) = true := beq_iff_eq.2 ce
                    clear HQ HX cn cx
                    subst ce
                    have O4 := O17.below ((Below.refl _ W8).alloc (Nat.le_refl _) (.cells #[.int .i64 (qa)] 22))
                    have N4 := O27.below ((Below.refl _ W8).alloc (Nat.le_refl _) (.cells #[.int .i64 (qa)] 22))
                    have hy : ∀ (q : Nat) (u : Value), (encI (qa))[q]? = some u → (W8.alloc (.cells #[.int .i64 (qa)] 22)).cell? ⟨W8.heap.size, q, none⟩ = some u := by
                      intro q u hq
                      match q, hq with
                      | 0, hq => cases hq; go_simp
                    have h4 := bS7.size
                    go_wp2_with (at_builtin; refine wpList_append_one (enc := encI) (k := 1) (fun _ => rfl) (by decide) (fun x u hu => by simp at hu; rcases hu with rfl; rfl) rfl _ _ 26 rfl W0.heap.size 22 iL (.int .i64 0) 8 Try.underlying26 hiL hzL hsL hbL (by decide) _ T rfl O4 W8.heap.size 1 (qa) rfl hy (show T.length + 1 ≤ maxLen by unfold maxLen; omega) (show (T.length + 1) * 8 ≤ 140737488355328 by omega) (by first | omega | (simp; omega)) ?_)
                    intro v5 w5 O5 hb5 hg5
                    have HO5 := Lib.hid O5
                    have HN5 := Lib.hid (OwnK.aside N4 O4 (by decide) hg5)
                    have HB5 := Lib.hid (bS7.trans (((Below.refl _ W8).alloc h4 _).trans hb5))
                    clear O5 hb5 hg5 O4 N4 hy O17 O27 bS7
                    go_wp2_with fail
                    go_roundw
                    case rel => exact ⟨j + 1, by omega, by go_num, (by rw [HS'.out, HST.out]; exact HO5), (by rw [HS'.out, HST.out]; exact HN5), HB5⟩
                    all_goals first | done | (simp [intOf]; done) | (simp [intOf]; omega)
                  · have ceb : (qa == qb) = false := beq_eq_false_iff_ne.2 ce
                    have cm : ¬ (qa = 1 ∨ qa = qb) := fun h => h.elim c1 ce
                    by_cases c2 : 0 ≤ ix
                    · replace HST := Lib.hid (HST.out.trans (hS2 _ _ _ HQ.out cn cm (by rw [HX.out]; exact c2)))
                      rw [HX.out] at HST
                      clear HQ HX cn cx cm
                      have O4 := O17.below ((Below.refl _ W8).alloc (Nat.le_refl _) (.cells #[.int .i64 (2 * (((n0L g : Nat) : Int) + ix))] 22))
                      have N4 := O27.below ((Below.refl _ W8).alloc (Nat.le_refl _) (.cells #[.int .i64 (2 * (((n0L g : Nat) : Int) + ix))] 22))
                      have hy : ∀ (q : Nat) (u : Value), (encI (2 * (((n0L g : Nat) : Int) + ix)))[q]? = some u → (W8.alloc (.cells #[.int .i64 (2 * (((n0L g : Nat) : Int) + ix))] 22)).cell? ⟨W8.heap.size, q, none⟩ = some u := by
                        intro q u hq
                        match q, hq with
                        | 0, hq => cases hq; go_simp
                      have h4 := bS7.size
                      go_wp2_with (at_builtin; refine wpList_append_one (enc := encI) (k := 1) (fun _ => rfl) (by decide) (fun x u hu => by simp at hu; rcases hu with rfl; rfl) rfl _ _ 26 rfl W0.heap.size 22 iL (.int .i64 0) 8 Try.underlying26 hiL hzL hsL hbL (by decide) _ T rfl O4 W8.heap.size 1 (2 * (((n0L g : Nat) : Int) + ix)) rfl hy (show T.length + 1 ≤ maxLen by unfold maxLen; omega) (show (T.length + 1) * 8 ≤ 140737488355328 by omega) (by first | omega | (simp; omega)) ?_)
                      intro v5 w5 O5 hb5 hg5
                      have HO5 := Lib.hid O5
                      have HN5 := Lib.hid (OwnK.aside N4 O4 (by decide) hg5)
                      have HB5 := Lib.hid (bS7.trans (((Below.refl _ W8).alloc h4 _).trans hb5))
                      clear O5 hb5 hg5 O4 N4 hy O17 O27 bS7
                      go_wp2_with fail
                      go_roundw
                      case rel => exact ⟨j + 1, by omega, by go_num, (by rw [HS'.out, HST.out]; exact HO5), (by rw [HS'.out, HST.out]; exact HN5), HB5⟩
                      all_goals first | done | (simp [intOf]; done) | (simp [intOf]; omega)
                    · replace HST := Lib.hid (HST.out.trans (hS3 _ _ _ HQ.out cn cm (by rw [HX.out]; exact c2)))
                      clear HQ HX cn cx cm
                      have O4 := O17.below ((Below.refl _ W8).alloc (Nat.le_refl _) (.cells #[.int .i64 qa, .int .i64 qb] 110))
                      have N4 := O27.below ((Below.refl _ W8).alloc (Nat.le_refl _) (.cells #[.int .i64 qa, .int .i64 qb] 110))
                      have hy : ∀ (q : Nat) (u : Value), (encN (qa, qb))[q]? = some u → (W8.alloc (.cells #[.int .i64 qa, .int .i64 qb] 110)).cell? ⟨W8.heap.size, q, none⟩ = some u := by
                        intro q u hq
                        match q, hq with
                        | 0, hq => cases hq; go_simp
                        | 1, hq => cases hq; go_simp
                      have h4 := bS7.size
                      go_upto_region 17 with (at_builtin; refine wpList_append_one (enc := encN) (k := 2) (fun _ => rfl) (by decide) (fun x u hu => by simp at hu; rcases hu with rfl | rfl <;> rfl) rfl _ _ 25 rfl W0.heap.size 110 iN (.agg #[.int .i64 0, .int .i64 0]) 16 Try.underlying25 hiN hzN hsN hbN (by decide) _ N rfl N4 W8.heap.size 1 (qa, qb) rfl hy (show N.length + 1 ≤ maxLen by unfold maxLen; omega) (show (N.length + 1) * 16 ≤ 140737488355328 by omega) (by first | omega | (simp; omega)) ?_; intro v6 w6 O6 hb6 hg6)
                      replace O17 := OwnK.aside O4 N4 (by decide) hg6
                      replace O27 := O6
                      replace bS7 := bS7.trans (((Below.refl _ W8).alloc h4 _).trans hb6)
                      clear hb6 hg6 O4 N4 hy O6 h4
                      obtain ⟨ad6, cp6, hv6⟩ := O27.slice
                      subst hv6
                      obtain ⟨m, hm⟩ : ∃ m, (N ++ [(qa, qb)]).length = m := ⟨_, rfl⟩
                      have hmn : m = N.length + 1 := by rw [← hm]; simp
                      rw [hm] at O27 ⊢
                      clear hm
                      have hmb : 1 ≤ m ∧ m ≤ 5001 := by omega
                      replace HST := Lib.hid (HST.out.trans (show (T ++ [2 * (((n0L g : Nat) : Int) + (N.length : Int))], N ++ [(qa, qb)]) = (T ++ [2 * (((n0L g : Nat) : Int) + (m : Int) - 1)], N ++ [(qa, qb)]) by rw [show ((m : Int)) = (N.length : Int) + 1 by omega, Int.add_sub_assoc, Int.add_sub_cancel]))
                      clear hmn
                      have O4 := O17.below ((Below.refl _ w6).alloc (Nat.le_refl _) (.cells #[.int .i64 (2 * (((n0L g : Nat) : Int) + (m : Int) - 1))] 22))
                      have N4 := O27.below ((Below.refl _ w6).alloc (Nat.le_refl _) (.cells #[.int .i64 (2 * (((n0L g : Nat) : Int) + (m : Int) - 1))] 22))
                      have hy : ∀ (q : Nat) (u : Value), (encI (2 * (((n0L g : Nat) : Int) + (m : Int) - 1)))[q]? = some u → (w6.alloc (.cells #[.int .i64 (2 * (((n0L g : Nat) : Int) + (m : Int) - 1))] 22)).cell? ⟨w6.heap.size, q, none⟩ = some u := by
                        intro q u hq
                        match q, hq with
                        | 0, hq => cases hq; go_simp
                      have h4 := bS7.size
                      go_wp2_with (at_builtin; refine wpList_append_one (enc := encI) (k := 1) (fun _ => rfl) (by decide) (fun x u hu => by simp at hu; rcases hu with rfl; rfl) rfl _ _ 26 rfl W0.heap.size 22 iL (.int .i64 0) 8 Try.underlying26 hiL hzL hsL hbL (by decide) _ T rfl O4 w6.heap.size 1 (2 * (((n0L g : Nat) : Int) + (m : Int) - 1)) rfl hy (show T.length + 1 ≤ maxLen by unfold maxLen; omega) (show (T.length + 1) * 8 ≤ 140737488355328 by omega) (by first | omega | (simp; omega)) ?_)
                      intro v5 w5 O5 hb5 hg5
                      have HO5 := Lib.hid O5
                      have HN5 := Lib.hid (OwnK.aside N4 O4 (by decide) hg5)
                      have HB5 := Lib.hid (bS7.trans (((Below.refl _ w6).alloc h4 _).trans hb5))
                      clear O5 hb5 hg5 O4 N4 hy O17 O27 bS7
                      go_wp2_with fail
                      go_roundw
                      case rel => exact ⟨j + 1, by omega, by go_num, (by rw [HS'.out, HST.out]; exact HO5), (by rw [HS'.out, HST.out]; exact HN5), HB5⟩
                      all_goals first | done | (simp [intOf]; done) | (simp [intOf]; omega)
        · obtain rfl : j = g.ands.length := by omega
          have hji : ¬ (g.ands.length : Int) < (g.ands.length : Int) := by omega
          obtain ⟨hl1, hl2⟩ := hAll_len g g.ands.length (Nat.le_refl _)
          obtain ⟨S, HSS⟩ : ∃ S, Hid (hAll g g.ands.length = S) := ⟨_, Lib.hid rfl⟩
          rw [HSS.out] at hO1 hO2 hl1 hl2
          rw [HSS.out]
          obtain ⟨P, Nn⟩ := S
          simp only at hO1 hO2 hl1 hl2 ⊢
          have hPN := Lib.hid hl1
          obtain ⟨adN, hadN⟩ : ∃ x, x = ad2 := ⟨_, rfl⟩
          subst hadN
          obtain ⟨cpN, hcpN⟩ : ∃ x, x = cp2 := ⟨_, rfl⟩
          subst hcpN
          have hPo := hO1.out
          have hNo := hO2.out
          have bR := hB.out
          clear hO1 hO2 hB
          have XR := HX.out _ bR
          have A4R := A4.mono bR ht2
          have belR := bel.trans (bR.mono bel.size)
          obtain ⟨adr, cpr, er, hcr, rr⟩ := (OwnK.row (k := 1) (enc := encI) (fun _ => rfl) hPo).open'
          cases er
          obtain ⟨bb, oo, rfl, hcell⟩ := rr.pick (by omega)
          have hbb : bb < WS.heap.size := World.block_lt_of_cell? WS _ (hcell 0 (by omega) 0 _ rfl)
          obtain ⟨x0, x1, x2, x3, x4⟩ := id XR
          clear X bel A4 hl1
          go_upto_region 28 with fail
          have A12 : Arr 28 fV WS.heap.size [.slice a g.ins.length a', .slice b g.outN.length b', .slice none 0 0, .slice adN Nn.length cpN, .slice none 0 0] (WS.alloc (.cells #[.slice a g.ins.length a', .slice b g.outN.length b', .slice none 0 0, .slice adN Nn.length cpN, .slice none 0 0] 28)) := Arr.alloc WS [.slice a g.ins.length a', .slice b g.outN.length b', .slice none 0 0, .slice adN Nn.length cpN, .slice none 0 0] _
          have b5 : Below WS.heap.size WS (WS.alloc (.cells #[.slice a g.ins.length a', .slice b g.outN.length b', .slice none 0 0, .slice adN Nn.length cpN, .slice none 0 0] 28)) := (Below.refl _ WS).alloc (Nat.le_refl _) _
          have HPO := Lib.hid (fun (W : World) (hF : Fr WS.heap.size (WS.alloc (.cells #[.slice a g.ins.length a', .slice b g.outN.length b', .slice none 0 0, .slice adN Nn.length cpN, .slice none 0 0] 28)) W) => hPo.below (b5.trans (hF.under (Nat.le_refl _) b5.size)))
          have HNO := Lib.hid (fun (W : World) (hF : Fr WS.heap.size (WS.alloc (.cells #[.slice a g.ins.length a', .slice b g.outN.length b', .slice none 0 0, .slice adN Nn.length cpN, .slice none 0 0] 28)) W) => hNo.below (b5.trans (hF.under (Nat.le_refl _) b5.size)))
          have HC := Lib.hid (show ∀ (W : World) (hF : Fr WS.heap.size (WS.alloc (.cells #[.slice a g.ins.length a', .slice b g.outN.length b', .slice none 0 0, .slice adN Nn.length cpN, .slice none 0 0] 28)) W) (i : Nat) (hi : i < P.length), W.cell? ⟨bb, oo + i, none⟩ = some (.int .i64 P[i]!) from fun W hF i hi => hF.cell (show bb ≠ WS.heap.size by omega) ((b5.cell (p := ⟨bb, oo + i, none⟩) hbb).trans (by have := hcell i hi 0 _ rfl; simpa only [Nat.mul_one, Nat.add_zero] using this)))
          have A45 := A4R.below b5
          have X5 := XR.below b5
          have bel5 := belR.trans (b5.mono belR.size)
          have h4 := A4R.lt
          have hk5 := XR.lt
          have hw5 := belR.size
          clear hPo hNo A4R XR belR x0 x1 x2 x3 x4 b5 rr hcr hcell bR HX HA hbb
          generalize WS.alloc (.cells #[.slice a g.ins.length a', .slice b g.outN.length b', .slice none 0 0, .slice adN Nn.length cpN, .slice none 0 0] 28) = W5 at A12 HPO HNO HC A45 X5 bel5 ⊢
          generalize WS.heap.size = t12 at A12 HPO HNO HC h4 hk5 hw5 ⊢
          have hB2 := A12.lt
          obtain ⟨x0, x1, x2, x3, x4⟩ := id X5
          go_upto_block 5 with fail
          clear x0 x1 x2 x3 x4
          obtain ⟨iR, hiR, hzR, hsR, hbR⟩ := infoR2_parts
          have hzr : OwnK W5.heap.size 89 3 encR W5 (.slice none 0 0) [] := OwnK.nil _ _ _ _ _
          go_wp2_with fail
          go_loopw [129] (fun i wr => ∃ j : Nat, j ≤ g.regs.length ∧ i = .int .i64 (j : Int) ∧ Hid (∃ v2, Arr 28 fV t12 [.slice a g.ins.length a', .slice b g.outN.length b', v2, .slice adN Nn.length cpN, .slice none 0 0] wr ∧ OwnK W5.heap.size 89 3 encR wr v2 ((g.regs.take j).map (toR P))) ∧ Hid (Fr t12 W5 wr)) (fun i _ => g.regs.length - (intOf i).toNat)
          case atStart => exact ⟨0, Nat.zero_le _, rfl, Lib.hid ⟨_, A12, hzr⟩, Lib.hid (Fr.refl _ _)⟩
          case round =>
            clear hzr
            obtain ⟨j, hj, rfl, hZ, hF⟩ := hrel
            rename World => WS
            have hj0 : (0 : Int) ≤ (j : Int) := by omega
            obtain ⟨v2, hA2, hO2⟩ := hZ.out
            clear hZ
            obtain ⟨ad2, cp2, hv2⟩ := hO2.slice
            subst hv2
            by_cases hlt : j < g.regs.length
            · have hji : (j : Int) < (g.regs.length : Int) := by omega
              obtain ⟨bd, od, rfl, hcell⟩ := hA.regs.pick (by omega)
              have d0 := hcell j hlt 0 _ rfl
              have d1 := hcell j hlt 1 _ rfl
              have d2 := hcell j hlt 2 _ rfl
              simp only [Nat.add_zero] at d0
              clear hcell
              have hbd : bd < w.heap.size := World.block_lt_of_cell? w _ d0
              have e0 := hF.out.cell (show bd ≠ t12 by omega) ((bel5.cell (p := ⟨bd, od + j * 3, none⟩) hbd).trans d0)
              have e1 := hF.out.cell (show bd ≠ t12 by omega) ((bel5.cell (p := ⟨bd, od + j * 3 + 1, none⟩) hbd).trans d1)
              have e2 := hF.out.cell (show bd ≠ t12 by omega) ((bel5.cell (p := ⟨bd, od + j * 3 + 2, none⟩) hbd).trans d2)
              clear d0 d1 d2
              have hlit := vg.next g.regs[j]! (mem1 g.regs hlt)
              rw [allL_two] at hlit
              have HT := Lib.hid (show (g.regs.take (j + 1)).map (toR P) = (g.regs.take j).map (toR P) ++ [toR P g.regs[j]!] by rw [tk1 g.regs hlt, List.map_append]; rfl)
              have hxl : ((g.regs.take j).map (toR P)).length ≤ 4000 := by simp; omega
              generalize g.regs[j]! = rg at e0 e1 e2 hlit HT
              obtain ⟨r0, r1', r2⟩ := rg
              simp only at e0 e1 e2 hlit
              have l1 : ndL r1' < P.length := by have := ndL_lt hlit.1 hlit.2; have := hPN.out; omega
              have HLT := Lib.hid (And.intro hlit.1 l1)
              clear hlit l1
              generalize (g.regs.take j).map (toR P) = xs at hO2 hA2 HT hxl
              go_upto_region 31 with fail
              have b6 : Below WS.heap.size WS (WS.alloc (.cells #[.string r0, .int .i64 r1', .bool r2] 89)) := (Below.refl _ WS).alloc (Nat.le_refl _) _
              have y0 : (WS.alloc (.cells #[.string r0, .int .i64 r1', .bool r2] 89)).cell? ⟨WS.heap.size, 0, none⟩ = some (.string r0) := by go_simp
              have y1 : (WS.alloc (.cells #[.string r0, .int .i64 r1', .bool r2] 89)).cell? ⟨WS.heap.size, 1, none⟩ = some (.int .i64 r1') := by go_simp
              have y2 : (WS.alloc (.cells #[.string r0, .int .i64 r1', .bool r2] 89)).cell? ⟨WS.heap.size, 2, none⟩ = some (.bool r2) := by go_simp
              have O6 := hO2.below b6
              have A6 := hA2.below b6
              have F6 := hF.out.below b6
              clear hO2 hA2 hF e0 e1 e2
              generalize WS.alloc (.cells #[.string r0, .int .i64 r1', .bool r2] 89) = W6 at b6 y0 y1 y2 O6 A6 F6 ⊢
              generalize WS.heap.size = r at y0 y1 y2 ⊢
              clear b6
              have hc1 : W6.cell? ⟨bb, oo + (r1' / 2).toNat, none⟩ = some (.int .i64 P[ndL r1']!) := HC.out W6 F6 (ndL r1') HLT.out.2
              have hr00 : 0 ≤ r1' := HLT.out.1
              have hr0 : 0 ≤ r1' / 2 := by omega
              have hr1 : r1' / 2 < (P.length : Int) := by have := HLT.out.2; unfold ndL at this; omega
              have HA1 := Lib.hid (show bits BinOp.xor IntKind.i64 P[ndL r1']! (bits BinOp.and IntKind.i64 r1' 1) = toL P r1' by rw [band1]; rfl)
              generalize P[ndL r1']! = z1 at hc1 HA1
              rw [show toR P ⟨r0, r1', r2⟩ = ⟨r0, (bits BinOp.xor IntKind.i64 z1 (bits BinOp.and IntKind.i64 r1' 1)), r2⟩ from by unfold toR; rw [HA1.out]] at HT
              have o12 : W6.cell? ⟨t12, 2, none⟩ = some (.slice ad2 xs.length cp2) := A6.cell (j := 2) (by simp)
              have hb6 : W5.heap.size ≤ W6.heap.size := F6.size
              have HBW := Lib.hid (fun d os => below_regrown W6 d os)
              have g0 := cell_regrown o12
              have g1 := cell_regrown y0
              have g2 := cell_regrown y1
              have g4 := cell_regrown hc1
              have g3 := cell_regrown y2
              clear y0 y1 y2 hc1
              refine wp_region_rel 18 (by kernel_rfl) (by kernel_rfl) ?_
              simp only [List.take_succ_cons, List.take_zero, List.drop_succ_cons, List.drop_zero]
              (refine rel_fix0 (fun K hK => ?_); go_simp; refine hK _ ?_; clear hK K)
              (refine rel_fix0 (fun K hK => ?_); go_simp; refine hK _ ?_; clear hK K)
              (refine rel_fix0 (fun K hK => ?_); go_simp; refine hK _ ?_; clear hK K)
              (refine rel_fix0 (fun K hK => ?_); go_simp; refine hK _ ?_; clear hK K)
              (refine rel_fix0 (fun K hK => ?_); go_simp; refine hK _ ?_; clear hK K)
              (refine rel_fix0 (fun K hK => ?_); go_simp; refine hK _ ?_; clear hK K)
              (refine rel_fix0 (fun K hK => ?_); go_simp; refine hK _ ?_; clear hK K)
              (refine rel_fix0 (fun K hK => ?_); go_simp; refine hK _ ?_; clear hK K)
              (refine rel_fix0 (fun K hK => ?_); go_simp; refine hK _ ?_; clear hK K)
              (refine rel_fix0 (fun K hK => ?_); go_simp; refine hK _ ?_; clear hK K)
              (refine rel_fix0 (fun K hK => ?_); go_simp; refine hK _ ?_; clear hK K)
              (refine rel_fix0 (fun K hK => ?_); go_simp; refine hK _ ?_; clear hK K)
              (refine rel_fix0 (fun K hK => ?_); go_simp; refine hK _ ?_; clear hK K)
              (refine rel_fix0 (fun K hK => ?_); go_simp; refine hK _ ?_; clear hK K)
              (refine rel_fix0 (fun K hK => ?_); go_simp; refine hK _ ?_; clear hK K)
              (refine rel_fix0 (fun K hK => ?_); go_simp; refine hK _ ?_; clear hK K)
              (refine rel_fix0 (fun K hK => ?_); go_simp; refine hK _ ?_; clear hK K)
              refine rel_fact [] (FN [.string r0, .int .i64 (bits BinOp.xor IntKind.i64 z1 (bits BinOp.and IntKind.i64 r1' 1)), .bool r2]) 150 rfl (by simp [Act.put]) (fn_sta _) (by rfl) (by kernel_rfl) (by kernel_rfl) ?_ ?_
              · intro d os
                simp only [relAll]
                go_simp
                refine ⟨⟨_, rfl, fun q u hq => ?_⟩, (Below.refl _ _).alloc (Nat.le_of_eq Array.size_append.symm) _⟩
                match q, hq with
                | 0, hq => cases hq; show _ = some (Value.string r0); go_simp
                | 1, hq => cases hq; show _ = some (Value.int .i64 (bits BinOp.xor IntKind.i64 z1 (bits BinOp.and IntKind.i64 r1' 1))); go_simp
                | 2, hq => cases hq; show _ = some (Value.bool r2); go_simp
              refine rel_nil ?_
              intro d os
              simp only [relAll]
              rintro v150 ⟨r150, rfl, hy⟩
              clear g0 g1 g2 g3 g4 o12
              have hb7 := HBW.out d os
              have O7 := O6.below hb7
              have A7 := A6.below hb7
              have F7 := F6.below hb7
              have hs7 := Nat.le_trans hb6 hb7.size
              generalize grow (redrawn W6 d) os = W7 at hy O7 A7 F7 hs7 ⊢
              refine wpList_append_one (enc := encR) (k := 3) (fun _ => rfl) (by decide) (fun x u hu => by simp at hu; rcases hu with rfl | rfl | rfl <;> rfl) rfl _ _ 24 rfl W5.heap.size 89 iR (.agg #[.string ⟨#[]⟩, .int .i64 0, .bool false]) 32 Try.underlying24 hiR hzR hsR hbR (by decide) _ xs rfl O7 r150 1 (⟨r0, (bits BinOp.xor IntKind.i64 z1 (bits BinOp.and IntKind.i64 r1' 1)), r2⟩) rfl hy (show xs.length + 1 ≤ maxLen by unfold maxLen; omega) (show (xs.length + 1) * 32 ≤ 140737488355328 by omega) hs7 ?_
              intro v8 w8 O8 hb8 hg8
              have A8 := Arr.mono A7 hb8 hB2
              have F8 := F7.low hb8
              obtain ⟨ad8, n8, cp8, rfl⟩ := OwnK.slice4 O8
              have f8 := A8.free 2
              have o8 : w8.cell? ⟨t12, 2, none⟩ = some _ := A8.cell (j := 2) (by simp)
              have HA8 := Lib.hid (Arr.set A8 2 (.slice ad8 n8 cp8))
              have HF8 := Lib.hid (F8.set 2 (.slice ad8 n8 cp8))
              have HO8 := Lib.hid (owns_at O8 ⟨t12, 2, none⟩ (.slice ad8 n8 cp8) hB2)
              clear hb7 O6 A6 F6 O7 A7 F7 O8 A8 F8 hb8 hg8 hy
              go_wp2_with fail
              go_roundw
              case rel => exact ⟨j + 1, by omega, by go_num, Lib.hid ⟨_, HA8.out, by rw [HT.out]; exact HO8.out⟩, HF8⟩
              all_goals first | done | (simp [intOf]; done) | (simp [intOf]; omega)
            · obtain rfl : j = g.regs.length := by omega
              have hji : ¬ (g.regs.length : Int) < (g.regs.length : Int) := by omega
              have F1 := hF.out
              clear hF
              rw [List.take_of_length_le (Nat.le_refl _)] at hO2 hA2
              have X6 := X5.mono (B := t12) (F1.under (Nat.le_refl _) (Nat.le_of_lt hB2)) hk5
              obtain ⟨x0, x1, x2, x3, x4⟩ := id X6
              go_upto_block 7 with fail
              clear x0 x1 x2 x3 x4
              obtain ⟨iL, hiL, hzL, hsL, hbL⟩ := infoI_parts
              have hzr : OwnK W5.heap.size 22 1 encI WS (.slice none 0 0) [] := OwnK.nil _ _ _ _ _
              have n4 : g.outs.length ≤ 128 := by have := vg.same; have := vg.outN; omega
              go_wp2_with fail
              go_loopw [157] (fun i wr => ∃ j : Nat, j ≤ g.outs.length ∧ i = .int .i64 (j : Int) ∧ Hid (∃ v4, Arr 28 fV t12 [.slice a g.ins.length a', .slice b g.outN.length b', .slice ad2 (g.regs.map (toR P)).length cp2, .slice adN Nn.length cpN, v4] wr ∧ OwnK W5.heap.size 22 1 encI wr v4 ((g.outs.take j).map (toL P)) ∧ OwnK W5.heap.size 89 3 encR wr (.slice ad2 (g.regs.map (toR P)).length cp2) (g.regs.map (toR P))) ∧ Hid (Fr t12 W5 wr)) (fun i _ => g.outs.length - (intOf i).toNat)
              case atStart => exact ⟨0, Nat.zero_le _, rfl, Lib.hid ⟨_, hA2, hzr, hO2⟩, Lib.hid F1⟩
              case round =>
                clear hA2 hzr hO2 F1 X6
                obtain ⟨j, hj, rfl, hZ, hF⟩ := hrel
                rename World => WS
                have hj0 : (0 : Int) ≤ (j : Int) := by omega
                obtain ⟨v4, hA4, hO4, hO2⟩ := hZ.out
                clear hZ
                obtain ⟨ad4, cp4, hv4⟩ := hO4.slice
                subst hv4
                by_cases hlt : j < g.outs.length
                · have hji : (j : Int) < (g.outs.length : Int) := by omega
                  obtain ⟨bd, od, rfl, hcell⟩ := hA.outs.pick (by omega)
                  have d0 := hcell j hlt 0 _ rfl
                  simp only [Nat.mul_one, Nat.add_zero] at d0
                  clear hcell
                  have hbd : bd < w.heap.size := World.block_lt_of_cell? w _ d0
                  have e0 := hF.out.cell (show bd ≠ t12 by omega) ((bel5.cell (p := ⟨bd, od + j, none⟩) hbd).trans d0)
                  clear d0
                  have hlit := vg.out g.outs[j]! (mem1 g.outs hlt)
                  rw [allL_two] at hlit
                  have HT := Lib.hid (show (g.outs.take (j + 1)).map (toL P) = (g.outs.take j).map (toL P) ++ [toL P g.outs[j]!] by rw [tk1 g.outs hlt, List.map_append]; rfl)
                  have hxl : ((g.outs.take j).map (toL P)).length ≤ 4000 := by simp; omega
                  generalize g.outs[j]! = lt at e0 hlit HT
                  have l1 : ndL lt < P.length := by have := ndL_lt hlit.1 hlit.2; have := hPN.out; omega
                  have HLT := Lib.hid (And.intro hlit.1 l1)
                  clear hlit l1
                  generalize (g.outs.take j).map (toL P) = xs at hO4 hA4 HT hxl
                  go_upto_region 36 with fail
                  have O6 := hO4
                  have OY0 := hO2
                  have A6 := hA4
                  have F6 := hF.out
                  clear hO4 hO2 hA4 hF e0
                  generalize WS = W6 at O6 OY0 A6 F6 ⊢
                  have hc1 : W6.cell? ⟨bb, oo + (lt / 2).toNat, none⟩ = some (.int .i64 P[ndL lt]!) := HC.out W6 F6 (ndL lt) HLT.out.2
                  have hr00 : 0 ≤ lt := HLT.out.1
                  have hr0 : 0 ≤ lt / 2 := by omega
                  have hr1 : lt / 2 < (P.length : Int) := by have := HLT.out.2; unfold ndL at this; omega
                  have HA1 := Lib.hid (show bits BinOp.xor IntKind.i64 P[ndL lt]! (bits BinOp.and IntKind.i64 lt 1) = toL P lt by rw [band1]; rfl)
                  generalize P[ndL lt]! = z1 at hc1 HA1
                  rw [← HA1.out] at HT
                  have o12 : W6.cell? ⟨t12, 4, none⟩ = some (.slice ad4 xs.length cp4) := A6.cell (j := 4) (by simp)
                  have hb6 : W5.heap.size ≤ W6.heap.size := F6.size
                  have HBW := Lib.hid (fun d os => below_regrown W6 d os)
                  have g0 := cell_regrown o12
                  have g4 := cell_regrown hc1
                  clear hc1
                  refine wp_region_rel 11 (by kernel_rfl) (by kernel_rfl) ?_
                  simp only [List.take_succ_cons, List.take_zero, List.drop_succ_cons, List.drop_zero]
                  (refine rel_fix0 (fun K hK => ?_); go_simp; refine hK _ ?_; clear hK K)
                  (refine rel_fix0 (fun K hK => ?_); go_simp; refine hK _ ?_; clear hK K)
                  (refine rel_fix0 (fun K hK => ?_); go_simp; refine hK _ ?_; clear hK K)
                  (refine rel_fix0 (fun K hK => ?_); go_simp; refine hK _ ?_; clear hK K)
                  (refine rel_fix0 (fun K hK => ?_); go_simp; refine hK _ ?_; clear hK K)
                  (refine rel_fix0 (fun K hK => ?_); go_simp; refine hK _ ?_; clear hK K)
                  (refine rel_fix0 (fun K hK => ?_); go_simp; refine hK _ ?_; clear hK K)
                  (refine rel_fix0 (fun K hK => ?_); go_simp; refine hK _ ?_; clear hK K)
                  (refine rel_fix0 (fun K hK => ?_); go_simp; refine hK _ ?_; clear hK K)
                  (refine rel_fix0 (fun K hK => ?_); go_simp; refine hK _ ?_; clear hK K)
                  refine rel_fact [] (FN [.int .i64 (bits BinOp.xor IntKind.i64 z1 (bits BinOp.and IntKind.i64 lt 1))]) 171 rfl (by simp [Act.put]) (fn_sta _) (by rfl) (by kernel_rfl) (by kernel_rfl) ?_ ?_
                  · intro d os
                    simp only [relAll]
                    go_simp
                    refine ⟨⟨_, rfl, fun q u hq => ?_⟩, (Below.refl _ _).alloc (Nat.le_of_eq Array.size_append.symm) _⟩
                    match q, hq with
                    | 0, hq => cases hq; show _ = some (Value.int .i64 (bits BinOp.xor IntKind.i64 z1 (bits BinOp.and IntKind.i64 lt 1))); go_simp
                  refine rel_nil ?_
                  intro d os
                  simp only [relAll]
                  rintro v171 ⟨r171, rfl, hy⟩
                  clear g0 g4 o12
                  have hb7 := HBW.out d os
                  have O7 := O6.below hb7
                  have A7 := A6.below hb7
                  have F7 := F6.below hb7
                  have hs7 := Nat.le_trans hb6 hb7.size
                  have OX0 := OY0.below hb7
                  generalize grow (redrawn W6 d) os = W7 at hy O7 A7 F7 hs7 OX0 ⊢
                  refine wpList_append_one (enc := encI) (k := 1) (fun _ => rfl) (by decide) (fun x u hu => by simp at hu; rcases hu with rfl; rfl) rfl _ _ 26 rfl W5.heap.size 22 iL (.int .i64 0) 8 Try.underlying26 hiL hzL hsL hbL (by decide) _ xs rfl O7 r171 1 (bits BinOp.xor IntKind.i64 z1 (bits BinOp.and IntKind.i64 lt 1)) rfl hy (show xs.length + 1 ≤ maxLen by unfold maxLen; omega) (show (xs.length + 1) * 8 ≤ 140737488355328 by omega) hs7 ?_
                  intro v8 w8 O8 hb8 hg8
                  have A8 := Arr.mono A7 hb8 hB2
                  have F8 := F7.low hb8
                  have OX0 := OX0.kept hg8 (OwnK.tags OX0 O7 (by decide))
                  obtain ⟨ad8, n8, cp8, rfl⟩ := OwnK.slice4 O8
                  have f8 := A8.free 4
                  have o8 : w8.cell? ⟨t12, 4, none⟩ = some _ := A8.cell (j := 4) (by simp)
                  have HA8 := Lib.hid (Arr.set A8 4 (.slice ad8 n8 cp8))
                  have HF8 := Lib.hid (F8.set 4 (.slice ad8 n8 cp8))
                  have HO8 := Lib.hid (owns_at O8 ⟨t12, 4, none⟩ (.slice ad8 n8 cp8) hB2)
                  have HX0 := Lib.hid (owns_at OX0 ⟨t12, 4, none⟩ (.slice ad8 n8 cp8) hB2)
                  clear hb7 O6 A6 F6 O7 A7 F7 O8 A8 F8 hb8 hg8 hy OX0 OY0
                  go_wp2_with fail
                  go_roundw
                  case rel => exact ⟨j + 1, by omega, by go_num, Lib.hid ⟨_, HA8.out, by rw [HT.out]; exact HO8.out, HX0.out⟩, HF8⟩
                  all_goals first | done | (simp [intOf]; done) | (simp [intOf]; omega)
                · obtain rfl : j = g.outs.length := by omega
                  have hji : ¬ (g.outs.length : Int) < (g.outs.length : Int) := by omega
                  rw [List.take_of_length_le (Nat.le_refl _)] at hO4 hA4
                  have F1 := hF.out
                  clear hF
                  have A4S := Arr.fr A45 F1 (show t2 ≠ t12 by omega)
                  have PS := HPO.out WS F1
                  have NS := HNO.out WS F1
                  have hk4 : t2 < WS.heap.size := A4S.lt
                  have hk12 := hA4.lt
                  have z0 : WS.cell? ⟨t12, 0, none⟩ = some (.slice a g.ins.length a') := hA4.cell (j := 0) (by simp)
                  have z1 : WS.cell? ⟨t12, 1, none⟩ = some (.slice b g.outN.length b') := hA4.cell (j := 1) (by simp)
                  have z2 : WS.cell? ⟨t12, 2, none⟩ = some (.slice ad2 (g.regs.map (toR P)).length cp2) := hA4.cell (j := 2) (by simp)
                  have z3 : WS.cell? ⟨t12, 3, none⟩ = some (.slice adN Nn.length cpN) := hA4.cell (j := 3) (by simp)
                  have z4 : WS.cell? ⟨t12, 4, none⟩ = some (.slice ad4 (g.outs.map (toL P)).length cp4) := hA4.cell (j := 4) (by simp)
                  have f0 := A4S.free 0
                  have f1 := A4S.free 1
                  have f2 := A4S.free 2
                  have f3 := A4S.free 3
                  have f4 := A4S.free 4
                  have q0 : WS.cell? ⟨t2, 0, none⟩ = some (.slice none 0 0) := A4S.cell (j := 0) (by simp)
                  have q1 : WS.cell? ⟨t2, 1, none⟩ = some (.slice none 0 0) := A4S.cell (j := 1) (by simp)
                  have q2 : WS.cell? ⟨t2, 2, none⟩ = some (.slice none 0 0) := A4S.cell (j := 2) (by simp)
                  have q3 : WS.cell? ⟨t2, 3, none⟩ = some (.slice none 0 0) := A4S.cell (j := 3) (by simp)
                  have q4 : WS.cell? ⟨t2, 4, none⟩ = some (.slice none 0 0) := A4S.cell (j := 4) (by simp)
                  generalize hn2 : (g.regs.map (toR P)).length = nn2 at z2
                  generalize hn3 : Nn.length = nn3 at z3
                  generalize hn4 : (g.outs.map (toL P)).length = nn4 at z4
                  have HN := Lib.hid (And.intro hn2 (And.intro hn3 hn4))
                  clear hn2 hn3 hn4
                  go_wp2_with fail
                  have A9 : Arr 28 fV t2 [.slice a g.ins.length a', .slice b g.outN.length b', .slice ad2 nn2 cp2, .slice adN nn3 cpN, .slice ad4 nn4 cp4] (((((WS.setCell ⟨t2, 0, none⟩ (.slice a g.ins.length a')).setCell ⟨t2, 1, none⟩ (.slice b g.outN.length b')).setCell ⟨t2, 2, none⟩ (.slice ad2 nn2 cp2)).setCell ⟨t2, 3, none⟩ (.slice adN nn3 cpN)).setCell ⟨t2, 4, none⟩ (.slice ad4 nn4 cp4)) := ⟨(((((Arr.set A4S 0 (.slice a g.ins.length a')).set 1 (.slice b g.outN.length b')).set 2 (.slice ad2 nn2 cp2)).set 3 (.slice adN nn3 cpN)).set 4 (.slice ad4 nn4 cp4)).blk⟩
                  have hw4 : w.heap.size ≤ t2 := by have := HK.out; omega
                  have BW : Below w.heap.size w WS := bel5.trans (F1.under (by omega) bel5.size)
                  have B9 : Below w.heap.size w (((((WS.setCell ⟨t2, 0, none⟩ (.slice a g.ins.length a')).setCell ⟨t2, 1, none⟩ (.slice b g.outN.length b')).setCell ⟨t2, 2, none⟩ (.slice ad2 nn2 cp2)).setCell ⟨t2, 3, none⟩ (.slice adN nn3 cpN)).setCell ⟨t2, 4, none⟩ (.slice ad4 nn4 cp4)) := (((((BW.setCell (p := ⟨t2, 0, none⟩) hw4 (.slice a g.ins.length a')).setCell (p := ⟨t2, 1, none⟩) hw4 (.slice b g.outN.length b')).setCell (p := ⟨t2, 2, none⟩) hw4 (.slice ad2 nn2 cp2)).setCell (p := ⟨t2, 3, none⟩) hw4 (.slice adN nn3 cpN)).setCell (p := ⟨t2, 4, none⟩) hw4 (.slice ad4 nn4 cp4))
                  have ht45 : t2 < W5.heap.size := by omega
                  have keepO : ∀ {t : TypeId} {k : Nat} {v : Value} {n : Nat} {xs : List Value}, WS.ownsRow W5.heap.size t k v n xs → (((((WS.setCell ⟨t2, 0, none⟩ (.slice a g.ins.length a')).setCell ⟨t2, 1, none⟩ (.slice b g.outN.length b')).setCell ⟨t2, 2, none⟩ (.slice ad2 nn2 cp2)).setCell ⟨t2, 3, none⟩ (.slice adN nn3 cpN)).setCell ⟨t2, 4, none⟩ (.slice ad4 nn4 cp4)).ownsRow W5.heap.size t k v n xs := fun h => owns_at (owns_at (owns_at (owns_at (owns_at h ⟨t2, 0, none⟩ _ ht45) ⟨t2, 1, none⟩ _ ht45) ⟨t2, 2, none⟩ _ ht45) ⟨t2, 3, none⟩ _ ht45) ⟨t2, 4, none⟩ _ ht45
                  have ht40 : t2 < W0.heap.size := ht2
                  have keepP : ∀ {t : TypeId} {k : Nat} {v : Value} {n : Nat} {xs : List Value}, WS.ownsRow W0.heap.size t k v n xs → (((((WS.setCell ⟨t2, 0, none⟩ (.slice a g.ins.length a')).setCell ⟨t2, 1, none⟩ (.slice b g.outN.length b')).setCell ⟨t2, 2, none⟩ (.slice ad2 nn2 cp2)).setCell ⟨t2, 3, none⟩ (.slice adN nn3 cpN)).setCell ⟨t2, 4, none⟩ (.slice ad4 nn4 cp4)).ownsRow W0.heap.size t k v n xs := fun h => owns_at (owns_at (owns_at (owns_at (owns_at h ⟨t2, 0, none⟩ _ ht40) ⟨t2, 1, none⟩ _ ht40) ⟨t2, 2, none⟩ _ ht40) ⟨t2, 3, none⟩ _ ht40) ⟨t2, 4, none⟩ _ ht40
                  have GOF : GO (hashG g) (.agg #[.slice a g.ins.length a', .slice b g.outN.length b', .slice ad2 nn2 cp2, .slice adN nn3 cpN, .slice ad4 nn4 cp4]) (((((WS.setCell ⟨t2, 0, none⟩ (.slice a g.ins.length a')).setCell ⟨t2, 1, none⟩ (.slice b g.outN.length b')).setCell ⟨t2, 2, none⟩ (.slice ad2 nn2 cp2)).setCell ⟨t2, 3, none⟩ (.slice adN nn3 cpN)).setCell ⟨t2, 4, none⟩ (.slice ad4 nn4 cp4)) := by
                    rw [show hashG g = ⟨g.ins, g.outN, g.regs.map (toR P), Nn, g.outs.map (toL P)⟩ by unfold hashG litsG; rw [HSS.out]]
                    obtain ⟨m2, m3, m4⟩ := HN.out
                    subst m2 m3 m4
                    obtain ⟨p2, c2', e2, k2, r2⟩ := OwnK.row (k := 3) (enc := encR) (fun _ => rfl) (keepO hO2)
                    obtain ⟨p3, c3', e3, k3, r3⟩ := OwnK.row (k := 2) (enc := encN) (fun _ => rfl) (keepP NS)
                    obtain ⟨p4, c4', e4, k4, r4⟩ := OwnK.row (k := 1) (enc := encI) (fun _ => rfl) (keepO hO4)
                    cases e2
                    cases e3
                    cases e4
                    exact ⟨⟨a, b, ad2, adN, ad4, a', b', cp2, cpN, cp4, rfl, ⟨hC.ins, hC.outN, k2, k3, k4, hC.insN, hC.outNN, ownk_nil hO2, ownk_nil NS, ownk_nil hO4⟩, ⟨hA.ins.below B9, hA.outN.below B9, r2, r3, r4⟩⟩⟩
                  have HPR : RowOf 1 encI (litsG g) (.slice (some ⟨bb, oo, none⟩) P.length cp1) (((((WS.setCell ⟨t2, 0, none⟩ (.slice a g.ins.length a')).setCell ⟨t2, 1, none⟩ (.slice b g.outN.length b')).setCell ⟨t2, 2, none⟩ (.slice ad2 nn2 cp2)).setCell ⟨t2, 3, none⟩ (.slice adN nn3 cpN)).setCell ⟨t2, 4, none⟩ (.slice ad4 nn4 cp4)) := by
                    rw [show litsG g = P by unfold litsG; rw [HSS.out]]
                    exact OwnK.row (k := 1) (enc := encI) (fun _ => rfl) (keepP PS)
                  clear keepO keepP
                  generalize (((((WS.setCell ⟨t2, 0, none⟩ (.slice a g.ins.length a')).setCell ⟨t2, 1, none⟩ (.slice b g.outN.length b')).setCell ⟨t2, 2, none⟩ (.slice ad2 nn2 cp2)).setCell ⟨t2, 3, none⟩ (.slice adN nn3 cpN)).setCell ⟨t2, 4, none⟩ (.slice ad4 nn4 cp4)) = WF at A9 B9 GOF HPR ⊢
                  have y0 : WF.cell? ⟨t2, 0, none⟩ = some (.slice a g.ins.length a') := A9.cell (j := 0) (by simp)
                  have y1 : WF.cell? ⟨t2, 1, none⟩ = some (.slice b g.outN.length b') := A9.cell (j := 1) (by simp)
                  have y2 : WF.cell? ⟨t2, 2, none⟩ = some (.slice ad2 nn2 cp2) := A9.cell (j := 2) (by simp)
                  have y3 : WF.cell? ⟨t2, 3, none⟩ = some (.slice adN nn3 cpN) := A9.cell (j := 3) (by simp)
                  have y4 : WF.cell? ⟨t2, 4, none⟩ = some (.slice ad4 nn4 cp4) := A9.cell (j := 4) (by simp)
                  clear hA4 z0 z1 z2 z3 z4 q0 q1 q2 q3 q4 f0 f1 f2 f3 f4 A4S PS NS
                  exact bodyPost_ret (v := .tuple #[.agg #[.slice a g.ins.length a', .slice b g.outN.length b', .slice ad2 nn2 cp2, .slice adN nn3 cpN, .slice ad4 nn4 cp4], .slice (some ⟨bb, oo, none⟩) P.length cp1]) (by simp [results, Try.results65, go_sem, y0, y1, y2, y3, y4]) rfl ⟨_, _, rfl, GOF, HPR, B9⟩
end Go.Proofs.Ytbphhcjepeamcaa
