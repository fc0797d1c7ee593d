/- The program's cone: it marks what the reference's Below marks. Condition: the graph is valid, the literals are those of nodes.
   Clean: what becomes of the nodes, in the program's numbers and in the reference's. No condition. -/
import Derived.Test.YtbphhcjepeamcaaMgPb
import Derived.Test.YtbphhcjepeamcaaGrRe
import Derived.Test.YtbphhcjepeamcaaFree
import Derived.Test.YtbphhcjepeamcaaMgPc
import Derived.Test.YtbphhcjepeamcaaGlCz
namespace Go.Proofs.Ytbphhcjepeamcaa
open Go Go.RowKit Go.Sort
set_option linter.unusedVariables false
theorem set_get (M : List Bool) (i j : Nat) (hi : i < M.length) : (M.set i true)[j]! = if i = j then true else M[j]! := by
  by_cases h : i = j
  · subst h
    rw [if_pos rfl, getElem!_pos _ _ (by simpa using hi)]; simp
  · rw [if_neg h]
    by_cases hj : j < M.length
    · rw [getElem!_pos (M.set i true) j (by simpa using hj), getElem!_pos M j hj, List.getElem_set_ne h]
    · rw [getElem!_neg (M.set i true) j (by simpa using hj), getElem!_neg M j hj]
/-- the roots are marked, up to a place -/
structure RI (g : Gr) (rs : List Int) (M : List Bool) (j : Nat) : Prop where
  len : M.length = n0L g + g.ands.length
  sub : ∀ i : Nat, M[i]! = true → (belowG g rs)[i]! = true
  roots : ∀ k : Nat, k < j → M[ndL rs[k]!]! = true
/-- what is marked is closed from an and on -/
structure CI (g : Gr) (rs : List Int) (M : List Bool) (c : Nat) : Prop where
  len : M.length = n0L g + g.ands.length
  sub : ∀ i : Nat, M[i]! = true → (belowG g rs)[i]! = true
  roots : ∀ l ∈ rs, M[ndL l]! = true
  clo : ∀ j, j < g.ands.length → c ≤ j → M[n0L g + j]! = true → M[ndL g.ands[j]!.1]! = true ∧ M[ndL g.ands[j]!.2]! = true
theorem RI.start (g : Gr) (rs : List Int) : RI g rs (List.replicate (n0L g + g.ands.length) false) 0 := ⟨by simp, fun i h => absurd h (none_yet _ _), fun k h => by omega⟩
theorem RI.step {g : Gr} {rs : List Int} {M : List Bool} {j : Nat} (vg : VG g) (hr : ∀ l ∈ rs, ndL l < n0L g + g.ands.length) (h : RI g rs M j) (hj : j < rs.length) : RI g rs (M.set (ndL rs[j]!) true) (j + 1) := by
  have hl : ndL rs[j]! < M.length := by rw [h.len]; exact hr _ (mem1 rs hj)
  refine ⟨by rw [List.length_set]; exact h.len, fun i hi => ?_, fun k hk => ?_⟩
  · rw [set_get M _ _ hl] at hi
    split at hi
    · rename_i e; rw [← e]; exact below_roots g vg rs hr _ (mem1 rs hj)
    · exact h.sub i hi
  · rw [set_get M _ _ hl]
    split
    · rfl
    · by_cases e : k = j
      · subst e; rename_i hh; exact absurd rfl hh
      · exact h.roots k (by omega)
theorem RI.done {g : Gr} {rs : List Int} {M : List Bool} (h : RI g rs M rs.length) : CI g rs M g.ands.length :=
  ⟨h.len, h.sub, fun l hl => by
    obtain ⟨k, hk, e⟩ := List.mem_iff_getElem.1 hl
    have := h.roots k hk
    rwa [getElem!_pos rs k hk, e] at this, fun j h1 h2 => by omega⟩
theorem CI.skip {g : Gr} {rs : List Int} {M : List Bool} {c : Nat} (h : CI g rs M (c + 1)) (hm : M[n0L g + c]! = false) : CI g rs M c :=
  ⟨h.len, h.sub, h.roots, fun j h1 h2 h3 => by
    by_cases e : j = c
    · subst e; rw [hm] at h3; cases h3
    · exact h.clo j h1 (by omega) h3⟩
theorem lit_lt {g : Gr} (vg : VG g) {c : Nat} (hc : c < g.ands.length) : ndL g.ands[c]!.1 < n0L g + c ∧ ndL g.ands[c]!.2 < n0L g + c := by
  have h := vg.lits c hc
  have hb : baseL g = 2 * (1 + (g.ins.length : Int) + (g.regs.length : Int)) := rfl
  unfold ndL n0L
  omega
theorem CI.mark {g : Gr} {rs : List Int} {M : List Bool} {c : Nat} (vg : VG g) (hr : ∀ l ∈ rs, ndL l < n0L g + g.ands.length) (hc : c < g.ands.length) (h : CI g rs M (c + 1)) (hm : M[n0L g + c]! = true) : CI g rs ((M.set (ndL g.ands[c]!.1) true).set (ndL g.ands[c]!.2) true) c := by
  obtain ⟨k1, k2⟩ := lit_lt vg hc
  have hl := h.len
  have s : ∀ i : Nat, ((M.set (ndL g.ands[c]!.1) true).set (ndL g.ands[c]!.2) true)[i]! = if ndL g.ands[c]!.2 = i then true else if ndL g.ands[c]!.1 = i then true else M[i]! := fun i => by
    rw [set_get _ _ _ (by rw [List.length_set]; omega), set_get _ _ _ (by omega)]
  have hb := below_closed g vg rs hr c hc (h.sub _ hm)
  refine ⟨by simp [hl], fun i hi => ?_, fun l hm2 => ?_, fun j h1 h2 h3 => ?_⟩
  · rw [s] at hi
    split at hi
    · rename_i e; rw [← e]; exact hb.2
    · split at hi
      · rename_i e; rw [← e]; exact hb.1
      · exact h.sub i hi
  · rw [s]
    split
    · rfl
    · split
      · rfl
      · exact h.roots l hm2
  · rw [s] at h3
    rw [if_neg (by omega), if_neg (by omega)] at h3
    by_cases e : j = c
    · subst e
      rw [s, s]
      exact ⟨by split <;> simp, by simp⟩
    · obtain ⟨q1, q2⟩ := h.clo j h1 (by omega) h3
      rw [s, s]
      constructor
      · split
        · rfl
        · split
          · rfl
          · exact q1
      · split
        · rfl
        · split
          · rfl
          · exact q2
theorem CI.done {g : Gr} {rs : List Int} {M : List Bool} (vg : VG g) (hr : ∀ l ∈ rs, ndL l < n0L g + g.ands.length) (h : CI g rs M 0) : M = belowG g rs := by
  have hl := belowG_len g rs
  have key : ∀ i : Nat, (belowG g rs)[i]! = true → M[i]! = true := fun i hi => below_least g vg rs hr (fun i : Nat => M[i]! = true) (fun j hj he => h.clo j hj (Nat.zero_le _) he) h.roots i hi
  apply List.ext_getElem (by rw [h.len, hl])
  intro i h1 h2
  rw [← getElem!_pos M i h1, ← getElem!_pos _ i h2]
  cases e1 : M[i]! with
  | true => exact (h.sub i e1).symm
  | false =>
    cases e2 : (belowG g rs)[i]! with
    | true => rw [key i e2] at e1; cases e1
    | false => rfl
/-- a new box of a node -/
def FNb (B : Nat) : Fa := fun v w => ∃ b, v = .pointer (some ⟨b, 0, none⟩) ∧ B ≤ b ∧ Arr 110 gV b [.int .i64 0, .int .i64 0] w
theorem fnb_sta (B : Nat) : Sta (FNb B) := fun v w w' ⟨b, h1, h2, h3⟩ hb => ⟨b, h1, h2, h3.below hb⟩
set_option maxRecDepth 100000 in
set_option maxHeartbeats 8000000 in
theorem cone_any (g : Gr) (v : Value) (rs : List Int) (vr : Value) (vg : VG g) (sg : Small g) (hrn : rs.length ≤ 4000000000) (hrs : ∀ l ∈ rs, 0 ≤ l ∧ l < allL g) (w : World) (hG : GO g v w) (hr : RowOf 1 encI rs vr w) : Calls Try.prog 92 #[v, vr] w fun e w' => ∃ q, e = .returned (.slice (some ⟨q, 0, none⟩) (n0L g + g.ands.length) (n0L g + g.ands.length)) ∧ Arr 4 (fun b => Value.bool b) q (belowG g rs) w' ∧ w.heap.size ≤ q ∧ Below w.heap.size w w' := by
  have hG0 := hG
  obtain ⟨a, b, c, d0, e, a', b', c', d', e', rfl, hC, hA⟩ := hG.all
  clear hG
  obtain ⟨ad, cpr, rfl, hcp, R⟩ := hr.open'
  have n1 := vg.ins
  have n2 := vg.regs
  have n3 := vg.ands
  have hrl : ∀ l ∈ rs, ndL l < n0L g + g.ands.length := fun l hl => by
    have h := hrs l hl
    have := ndL_lt h.1 (n := ((n0L g + g.ands.length : Nat) : Int)) (by have := h.2; rw [allL_eq] at this; unfold n0L; omega)
    omega
  have hN0 : ((n0L g : Nat) : Int) = 1 + (g.ins.length : Int) + (g.regs.length : Int) := by unfold n0L; omega
  go_enter Try.func92, Try.ntmps92
  go_upto_region 1 with fail
  have bel := (Below.refl w.heap.size w).alloc (Nat.le_refl _) (.cells #[.slice a g.ins.length a', .slice b g.outN.length b', .slice c g.regs.length c', .slice d0 g.ands.length d', .slice e g.outs.length e'] 28)
  have X := GX.new w (.slice a g.ins.length a') (.slice b g.outN.length b') (.slice c g.regs.length c') (.slice d0 g.ands.length d') (.slice e g.outs.length e') 28
  generalize w.alloc (.cells #[.slice a g.ins.length a', .slice b g.outN.length b', .slice c g.regs.length c', .slice d0 g.ands.length d', .slice e g.outs.length e'] 28) = W0 at bel X ⊢
  generalize hk : w.heap.size = k at X ⊢
  have HK := Lib.hid hk
  clear hk
  obtain ⟨x0, x1, x2, x3, x4⟩ := id X
  have H1 := Lib.hid (nodes_ok g _ W0 sg (hG0.below bel))
  have hmk : ∀ W : World, (Instr.makeSlice 53 (.int .i64 (1 + (g.ins.length : Int) + (g.regs.length : Int) + (g.ands.length : Int))) (.int .i64 (1 + (g.ins.length : Int) + (g.regs.length : Int) + (g.ands.length : Int)))).run Try.prog W = .ok (.slice (some ⟨W.heap.size, 0, none⟩) (n0L g + g.ands.length) (n0L g + g.ands.length)) (W.alloc (.cells (madeCells #[.bool false] (n0L g + g.ands.length)) 4)) := by
    intro W
    have := mkB W (n0L g + g.ands.length) (n0L g + g.ands.length) (by omega) (by unfold n0L; omega)
    rwa [show (((n0L g + g.ands.length : Nat)) : Int) = 1 + (g.ins.length : Int) + (g.regs.length : Int) + (g.ands.length : Int) by omega] at this
  have HN0 := Lib.hid hN0
  clear hN0
  go_upto_region 2 with (first | (go_at_call 21; refine H1.out.mono ?_; rintro ee W1 ⟨rfl, hb1⟩))
  have bel1 := bel.trans (hb1.mono bel.size)
  have X1 := X.below hb1
  have hw1 := bel1.size
  have A0 : Arr 4 (fun b => Value.bool b) W1.heap.size (List.replicate (n0L g + g.ands.length) false) (W1.alloc (.cells (madeCells #[.bool false] (n0L g + g.ands.length)) 4)) := Arr.made W1 _ false _
  have bA := (Below.refl W1.heap.size W1).alloc (Nat.le_refl _) (.cells (madeCells #[.bool false] (n0L g + g.ands.length)) 4)
  have HX := Lib.hid (fun W (hb : Below W1.heap.size W1 W) => X1.below hb)
  have HA := Lib.hid (fun W (hb : Below W1.heap.size W1 W) => hA.ands.below (bel1.trans (hb.mono bel1.size)))
  have HR := Lib.hid (fun W (hb : Below W1.heap.size W1 W) => R.below (bel1.trans (hb.mono bel1.size)))
  have HG := Lib.hid (fun W (hb : Below W1.heap.size W1 W) => hG0.below (bel1.trans (hb.mono bel1.size)))
  have HBEL := Lib.hid bel1
  clear x0 x1 x2 x3 x4 X X1 H1 hmk hb1 bel bel1 hA hG0 hC R hr
  have hkq : k < W1.heap.size := (HX.out _ (Below.refl _ _)).lt
  generalize W1.alloc (.cells (madeCells #[.bool false] (n0L g + g.ands.length)) 4) = W2 at A0 bA ⊢
  have HAL := Lib.hid (allL_eq g)
  have HNN : Hid ((((n0L g + g.ands.length : Nat)) : Int) = 1 + (g.ins.length : Int) + (g.regs.length : Int) + (g.ands.length : Int)) := Lib.hid (by have := HN0.out; omega)
  have HNB : n0L g + g.ands.length ≤ 5000 := by unfold n0L; omega
  have HW1 : Hid (W1.heap.size = W1.heap.size) := Lib.hid rfl
  have RI0 := RI.start g rs
  generalize hMM : List.replicate (n0L g + g.ands.length) false = M0 at A0 RI0
  clear hMM
  generalize hNd : n0L g + g.ands.length = ND at HNN HNB hrl
  have HND := Lib.hid hNd
  clear hNd
  go_upto_block 0 with fail
  go_wp2_with fail
  go_loopw [15] (fun i wr => ∃ j : Nat, j ≤ rs.length ∧ i = .int .i64 (j : Int) ∧ Hid (∃ M, RI g rs M j ∧ Arr 4 (fun b => Value.bool b) W1.heap.size M wr) ∧ Hid (Below W1.heap.size W1 wr)) (fun i _ => rs.length - (intOf i).toNat)
  case atStart => exact ⟨0, Nat.zero_le _, rfl, Lib.hid ⟨_, RI0, A0⟩, Lib.hid bA⟩
  case round =>
    clear RI0 A0 bA
    obtain ⟨j, hj, rfl, hM, hB⟩ := hrel
    rename World => WR
    have hj0 : (0 : Int) ≤ (j : Int) := by omega
    by_cases hlt : j < rs.length
    · have hji : (j : Int) < (rs.length : Int) := by omega
      obtain ⟨M, hRI, A1⟩ := hM.out
      clear hM
      have hl := hrs rs[j]! (mem1 rs hlt)
      have hdl := hrl rs[j]! (mem1 rs hlt)
      obtain ⟨bb, oo, hdd, hcell⟩ := (HR.out _ hB.out).pick (by omega)
      subst hdd
      have c0 := hcell j hlt 0 _ rfl
      simp only [Nat.mul_one, Nat.add_zero] at c0
      clear hcell
      have HRI := Lib.hid (hRI.step vg (by rw [HND.out]; exact hrl) hlt)
      have hML : M.length = ND := by rw [hRI.len, HND.out]
      clear hRI
      generalize rs[j]! = l at c0 HRI hl hdl
      obtain ⟨l1, l2⟩ := hl
      have m1 : l / 2 < (ND : Int) := by unfold ndL at hdl; omega
      have m3 : 0 ≤ l / 2 := by omega
      have N1 := Lib.hid (fun W => show Calls Try.prog 17 #[.int .i64 l] W fun e w' => e = .returned (.int .i64 (l / 2)) ∧ Below W.heap.size W w' by have := node_any l W; rwa [show nodeL l = l / 2 from if_pos l1] at this)
      have HB := Lib.hid hB.out
      have HA1 := Lib.hid A1
      have hsw := hB.out.size
      have HML := Lib.hid hML
      have HDL := Lib.hid hdl
      clear l1 l2 hdl hB A1 hML
      go_wp2_with (first | (go_at_call 17; refine (N1.out _).mono ?_; rintro ee w3 ⟨rfl, hb3⟩; have A2 := HA1.out.below hb3; have f2 := A2.free (l / 2).toNat; have a2 := A2.cell (j := (l / 2).toNat) (by have := HDL.out; have := HML.out; unfold ndL at *; omega); have hlt2 := A2.lt))
      have HB2 := Lib.hid ((HB.out.trans (hb3.mono HB.out.size)).setCell (p := ⟨W1.heap.size, (l / 2).toNat, none⟩) (Nat.le_refl _) (.bool true))
      have HA2 := Lib.hid (A2.set (l / 2).toNat true)
      clear a2 f2 A2 hb3 hlt2
      first | go_roundw | (go_wp2_with fail; go_roundw)
      case rel => exact ⟨j + 1, by omega, by go_num, Lib.hid ⟨_, HRI.out, HA2.out⟩, HB2⟩
      all_goals first | done | (simp [intOf]; done) | (simp [intOf]; omega)
    · have hji : ¬ (j : Int) < (rs.length : Int) := by omega
      obtain rfl : j = rs.length := by omega
      obtain ⟨M, hRI, A1⟩ := hM.out
      have hCI := hRI.done
      have HB := Lib.hid hB.out
      clear hM hRI hB
      obtain ⟨x0, x1, x2, x3, x4⟩ := HX.out _ HB.out
      have H1 := Lib.hid (nodes_ok g _ WR sg (HG.out _ HB.out))
      rw [← HNN.out] at H1
      have HA1 := Lib.hid A1
      have hsw := HB.out.size
      clear A1
      go_upto_block 2 with (first | (go_at_call 21; refine H1.out.mono ?_; rintro ee W3 ⟨rfl, hb3⟩; have A2 := HA1.out.below hb3))
      have B3 := HB.out.trans (hb3.mono hsw)
      clear hb3 x0 x1 x2 x3 x4 H1 HA1 hsw HB
      have HF1 := Lib.hid (fun W (hb : Below W1.heap.size W1 W) => first_ok g _ W sg (HG.out W hb))
      rw [← HN0.out] at HF1
      have hcl : Hid ((ND : Int) - 1 = (n0L g : Int) + (g.ands.length : Int) - 1) := Lib.hid (by have := HND.out; omega)
      have hn0 : n0L g ≤ 500 := by unfold n0L; omega
      have hn01 : 1 ≤ n0L g := by unfold n0L; omega
      go_wp2_with fail
      go_loopw [8] (fun i wr => ∃ c : Nat, c ≤ g.ands.length ∧ i = .int .i64 ((n0L g : Int) + (c : Int) - 1) ∧ Hid (∃ M, CI g rs M c ∧ Arr 4 (fun b => Value.bool b) W1.heap.size M wr) ∧ Hid (Below W1.heap.size W1 wr)) (fun i _ => (intOf i).toNat)
      case atStart => exact ⟨g.ands.length, Nat.le_refl _, by rw [← hcl.out], Lib.hid ⟨_, hCI, A2⟩, Lib.hid B3⟩
      case round =>
        clear hCI A2 B3
        obtain ⟨c, hc, rfl, hM, hB⟩ := hrel
        rename World => WT
        obtain ⟨M, hCI, A1⟩ := hM.out
        clear hM
        have B1 := hB.out
        clear hB
        obtain ⟨x0, x1, x2, x3, x4⟩ := HX.out _ B1
        cases c with
        | zero =>
          have hji : ¬ (n0L g : Int) ≤ (n0L g : Int) + ((0 : Nat) : Int) - 1 := by omega
          have hMd := hCI.done vg (by rw [HND.out]; exact hrl)
          have HA1 := Lib.hid (show Arr 4 (fun b => Value.bool b) W1.heap.size (belowG g rs) WT by rw [← hMd]; exact A1)
          have HB := Lib.hid B1
          have hsw := B1.size
          clear hCI A1 hMd B1
          have q1 : IntKind.i64.wrap ((n0L g : Int) + ((0 : Nat) : Int) - 1) = (n0L g : Int) + ((0 : Nat) : Int) - 1 := IntWalk.i64_in _ (by omega)
          go_wp2_with (first | (go_at_call 20; refine (HF1.out _ HB.out).mono ?_; rintro ee w3 ⟨rfl, hb3⟩))
          go_ret
          exact ⟨_, by rw [HND.out]; rfl, HA1.out.below hb3, by have := HBEL.out.size; omega, HBEL.out.trans ((HB.out.trans (hb3.mono hsw)).mono HBEL.out.size)⟩
        | succ c =>
          have hcl : c < g.ands.length := by omega
          have e1 : (n0L g : Int) + ((c + 1 : Nat) : Int) - 1 = (n0L g : Int) + (c : Int) := by omega
          rw [e1]
          have hji : (n0L g : Int) ≤ (n0L g : Int) + (c : Int) := by omega
          have hML : M.length = ND := by rw [hCI.len, HND.out]
          have HML := Lib.hid hML
          have hi1 : (n0L g : Int) + (c : Int) < (ND : Int) := by have := HND.out; omega
          have hi0 : (0 : Int) ≤ (n0L g : Int) + (c : Int) := by omega
          have hc0 : (0 : Int) ≤ (c : Int) := by omega
          have hcI : (c : Int) < (g.ands.length : Int) := by omega
          have a1 : WT.cell? ⟨W1.heap.size, n0L g + c, none⟩ = some (.bool M[n0L g + c]!) := A1.cell (by have := HML.out; omega)
          have hwq := A1.lt
          clear hML e1
          go_upto_region 10 with (first | (go_at_call 20; refine (HF1.out _ B1).mono ?_; rintro ee W4 ⟨rfl, hb3⟩; have a1 := (hb3.cell (p := ⟨W1.heap.size, n0L g + c, none⟩) hwq).trans a1))
          replace A1 := A1.below hb3
          replace B1 := B1.trans (hb3.mono B1.size)
          clear hb3 x0 x1 x2 x3 x4 hwq
          have hwq := A1.lt
          have hwr : IntKind.i64.wrap ((n0L g : Int) + (c : Int) - 1) = (n0L g : Int) + (c : Int) - 1 := IntWalk.i64_in _ (by omega)
          cases hmb : M[n0L g + c]! with
          | false =>
            rw [hmb] at a1
            have HCI := Lib.hid (hCI.skip hmb)
            have HA1 := Lib.hid A1
            have HB := Lib.hid B1
            clear hCI A1 B1 hmb
            go_wp2_with fail
            go_roundw
            case rel => exact ⟨c, by omega, rfl, Lib.hid ⟨_, HCI.out, HA1.out⟩, HB⟩
            all_goals first | done | (simp [intOf]; done) | (simp [intOf]; omega)
          | true =>
            rw [hmb] at a1
            have HCI := Lib.hid (hCI.mark vg (by rw [HND.out]; exact hrl) hcl hmb)
            have hlt2 := lit_lt vg hcl
            have hlp := vg.lits c hcl
            obtain ⟨bb, oo, hdd, hcell⟩ := (HA.out _ B1).pick (by omega)
            subst hdd
            have c0 := hcell c hcl 0 _ rfl
            have c1 := hcell c hcl 1 _ rfl
            simp only [Nat.add_zero] at c0
            clear hcell hCI hmb
            obtain ⟨x0, x1, x2, x3, x4⟩ := HX.out _ B1
            generalize g.ands[c]! = p at c0 c1 HCI hlt2 hlp
            obtain ⟨p1, p2⟩ := p
            simp only at c0 c1 HCI hlt2 hlp
            have hsub : IntKind.i64.wrap ((n0L g : Int) + (c : Int) - (n0L g : Int)) = (c : Int) := by rw [IntWalk.i64_in _ (by omega)]; omega
            have N1 := Lib.hid (fun W => show Calls Try.prog 17 #[.int .i64 p1] W fun e w' => e = .returned (.int .i64 (p1 / 2)) ∧ Below W.heap.size W w' by have := node_any p1 W; rwa [show nodeL p1 = p1 / 2 from if_pos hlp.1.1] at this)
            have N2 := Lib.hid (fun W => show Calls Try.prog 17 #[.int .i64 p2] W fun e w' => e = .returned (.int .i64 (p2 / 2)) ∧ Below W.heap.size W w' by have := node_any p2 W; rwa [show nodeL p2 = p2 / 2 from if_pos hlp.2.1] at this)
            have m1 : p1 / 2 < (ND : Int) := by have := hlt2.1; have := HND.out; unfold ndL at *; omega
            have m2 : p2 / 2 < (ND : Int) := by have := hlt2.2; have := HND.out; unfold ndL at *; omega
            have m3 : 0 ≤ p1 / 2 := by have := hlp.1.1; omega
            have m4 : 0 ≤ p2 / 2 := by have := hlp.2.1; omega
            have HLT2 := Lib.hid hlt2
            clear hlt2 hlp
            go_upto_region 11 with fail
            clear a1
            have HBR := Lib.hid (fun d os => below_regrown W4 d os)
            have HB := Lib.hid (fun d os => B1.trans ((below_regrown W4 d os).mono B1.size))
            have hs4 := B1.size
            have g0 := cell_regrown x0
            have g1 := cell_regrown x1
            have g2 := cell_regrown x2
            have g3 := cell_regrown x3
            have g4 := cell_regrown x4
            have g5 := cell_regrown c0
            have g6 := cell_regrown c1
            clear x0 x1 x2 x3 x4 c0 c1
            refine wp_region_rel 9 (by kernel_rfl) (by kernel_rfl) ?_
            simp only [List.take_succ_cons, List.take_zero, List.drop_succ_cons, List.drop_zero]
            (refine rel_fix0 (fun K hK => ?_); go_simp; refine hK _ ?_; clear hK K)
            (refine rel_fix0 (fun K hK => ?_); go_simp; refine hK _ ?_; clear hK K)
            (refine rel_fix0 (fun K hK => ?_); go_simp; refine hK _ ?_; clear hK K)
            (refine rel_fix0 (fun K hK => ?_); go_simp; refine hK _ ?_; clear hK K)
            (refine rel_fix0 (fun K hK => ?_); go_simp; apply Exists.intro; refine ⟨fun _ _ => ?_, hK _ ?_⟩; (with_reducible exact ret_fix (HF1.out _ (HB.out _ _))); clear hK K)
            (refine rel_fix0 (fun K hK => ?_); go_simp; refine hK _ ?_; clear hK K)
            (refine rel_fix0 (fun K hK => ?_); go_simp; refine hK _ ?_; clear hK K)
            (refine rel_fix0 (fun K hK => ?_); go_simp; refine hK _ ?_; clear hK K)
            refine rel_fact [] (FNb W4.heap.size) 9 rfl (by simp [Act.put]) (fnb_sta _) (by rfl) (by kernel_rfl) (by kernel_rfl) ?_ ?_
            · intro d os
              simp only [relAll]
              go_simp
              refine ⟨⟨_, rfl, by show W4.heap.size ≤ W4.heap.size + os.size; omega, ?_⟩, (Below.refl _ _).alloc (Nat.le_of_eq (by simp)) _⟩
              have hgs : (grow (redrawn W4 d) os).heap.size = (redrawn W4 d).heap.size + os.size := Array.size_append
              rw [← hgs]; exact Arr.allocV _ [.int .i64 0, .int .i64 0] _
            refine rel_nil ?_
            intro d os
            simp only [relAll]
            rintro v9 ⟨b9, rfl, hb9, Y9⟩
            have hbr := HBR.out d os
            have B5 := HB.out d os
            have A5 := A1.below hbr
            have hqb : W1.heap.size ≠ b9 := by omega
            have hqb2 : W1.heap.size ≤ b9 := by omega
            clear g0 g1 g2 g3 g4 g5 g6 HBR HB hbr A1 B1 hwq
            generalize grow (redrawn W4 d) os = W5 at Y9 B5 A5 ⊢
            have f0 := Y9.free 0
            have f1 := Y9.free 1
            have z0 := Y9.cell (j := 0) (by simp)
            have z1 := Y9.cell (j := 1) (by simp)
            go_upto_region 12 with fail
            have A6 : Arr 4 (fun b => Value.bool b) W1.heap.size M ((W5.setCell ⟨b9, 0, none⟩ (.int .i64 p1)).setCell ⟨b9, 1, none⟩ (.int .i64 p2)) := (A5.other hqb).other hqb
            have Y6 : Arr 110 gV b9 [.int .i64 p1, .int .i64 p2] ((W5.setCell ⟨b9, 0, none⟩ (.int .i64 p1)).setCell ⟨b9, 1, none⟩ (.int .i64 p2)) := (Y9.set 0 (.int .i64 p1)).set 1 (.int .i64 p2)
            have B6 := (B5.setCell (p := ⟨b9, 0, none⟩) hqb2 (.int .i64 p1)).setCell (p := ⟨b9, 1, none⟩) hqb2 (.int .i64 p2)
            clear A5 Y9 B5 f0 f1 z0 z1
            generalize (W5.setCell ⟨b9, 0, none⟩ (.int .i64 p1)).setCell ⟨b9, 1, none⟩ (.int .i64 p2) = WS at A6 Y6 B6 ⊢
            have HBR := Lib.hid (fun d os => below_regrown WS d os)
            have g0 := cell_regrown (Y6.cell (j := 0) (by simp))
            have g1 := cell_regrown (Y6.cell (j := 1) (by simp))
            simp only [List.getElem!_cons_zero, List.getElem!_cons_succ, gV] at g0 g1
            refine wp_region_free 4 7 49 (.slice (some ⟨W1.heap.size, 0, none⟩) ND ND) (by kernel_rfl) (by kernel_rfl) (by kernel_rfl) (fun oj hj w => by simp at hj; subst hj; go_simp) ?_
            intro Q0 hQ0
            simp only [List.eraseIdx_cons_succ, List.eraseIdx_cons_zero, List.take_succ_cons, List.take_zero, List.drop_succ_cons, List.drop_zero]
            (refine rel_fix0 (fun K hK => ?_); go_simp; refine hK _ ?_; clear hK K)
            (refine rel_fix0 (fun K hK => ?_); go_simp; refine hK _ ?_; clear hK K)
            (refine rel_fix0 (fun K hK => ?_); go_simp; refine hK _ ?_; clear hK K)
            (refine rel_fix0 (fun K hK => ?_); go_simp; apply Exists.intro; refine ⟨fun _ _ => ?_, hK _ ?_⟩; (with_reducible exact ret_fix (N1.out _)); clear hK K)
            (refine rel_fix0 (fun K hK => ?_); go_simp; refine hK _ ?_; clear hK K)
            (refine rel_fix0 (fun K hK => ?_); go_simp; refine hK _ ?_; clear hK K)
            (refine rel_fix0 (fun K hK => ?_); go_simp; apply Exists.intro; refine ⟨fun _ _ => ?_, hK _ ?_⟩; (with_reducible exact ret_fix (N2.out _)); clear hK K)
            refine rel_nil ?_
            intro d os
            simp only [relAll]
            have hbr := HBR.out d os
            have B7 := B6.trans (hbr.mono B6.size)
            have A7 := A6.below hbr
            clear g0 g1 HBR hbr A6 B6 Y6
            generalize grow (redrawn WS d) os = W7 at A7 B7 ⊢
            have e1 := A7.free (p1 / 2).toNat
            have e2 := A7.free (p2 / 2).toNat
            have e3 := A7.cell (j := (p1 / 2).toNat) (by have := HML.out; omega)
            have e4 := A7.cell (j := (p2 / 2).toNat) (by have := HML.out; omega)
            have HB8 := Lib.hid ((B7.setCell (p := ⟨W1.heap.size, (p1 / 2).toNat, none⟩) (Nat.le_refl _) (.bool true)).setCell (p := ⟨W1.heap.size, (p2 / 2).toNat, none⟩) (Nat.le_refl _) (.bool true))
            have HA8 := Lib.hid ((A7.set (p1 / 2).toNat true).set (p2 / 2).toNat true)
            have e5 := (A7.set (p1 / 2).toNat true).free (p2 / 2).toNat
            have e6 := (A7.set (p1 / 2).toNat true).cell (j := (p2 / 2).toNat) (by rw [List.length_set]; have := HML.out; omega)
            have hlt7 := A7.lt
            clear A7 B7
            go_wp2_with fail
            go_roundw
            case rel => exact ⟨c, by omega, rfl, Lib.hid ⟨_, HCI.out, HA8.out⟩, HB8⟩
            all_goals first | done | (simp [intOf]; done) | (simp [intOf]; omega)
end Go.Proofs.Ytbphhcjepeamcaa
namespace Go.Proofs.Ytbphhcjepeamcaa
open Go Go.RowKit Go.Sort
set_option linter.unusedVariables false
/-- how many of the first ones are kept, from place n on -/
def cnt (n : Nat) : Nat → List Bool → Nat → Nat
  | _, _, 0 => 0
  | _, [], _ + 1 => 0
  | i, b :: t, m + 1 => (if ¬ i < n ∧ b = true then 1 else 0) + cnt n (i + 1) t m
theorem cnt_succ (n : Nat) : ∀ (t : List Bool) (i m : Nat), m < t.length → cnt n i t (m + 1) = cnt n i t m + (if ¬ i + m < n ∧ t[m]! = true then 1 else 0)
  | [], _, _, h => by simp at h
  | b :: t, i, 0, _ => by simp [cnt]
  | b :: t, i, m + 1, h => by
    have := cnt_succ n t (i + 1) m (by simpa using h)
    show (if ¬ i < n ∧ b = true then 1 else 0) + cnt n (i + 1) t (m + 1) = (if ¬ i < n ∧ b = true then 1 else 0) + cnt n (i + 1) t m + _
    rw [this, show i + (m + 1) = i + 1 + m by omega]
    simp
    omega
theorem cnt_low (n : Nat) (t : List Bool) : ∀ m, m ≤ n → m ≤ t.length → cnt n 0 t m = 0
  | 0, _, _ => by unfold cnt; rfl
  | m + 1, h, h2 => by rw [cnt_succ n t 0 m (by omega), cnt_low n t m (by omega) (by omega), if_neg (fun h3 => h3.1 (by omega))]
theorem plL_get (n : Nat) : ∀ (t : List Bool) (i : Nat) (x : Int) (m : Nat), m < t.length → (plL n i x t)[m]! = if i + m < n then ((i + m : Nat) : Int) else if t[m]! = true then x + (cnt n i t m : Int) else -1
  | [], _, _, _, h => by simp at h
  | b :: t, i, x, 0, _ => by
    unfold plL
    simp only [Nat.add_zero]
    by_cases h : i < n
    · rw [if_pos h, if_pos h]; simp
    · rw [if_neg h, if_neg h]
      cases b <;> simp [cnt]
  | b :: t, i, x, m + 1, h => by
    have h2 : m < t.length := by simpa using h
    unfold plL
    rw [show i + (m + 1) = i + 1 + m by omega]
    have e : (b :: t)[m + 1]! = t[m]! := by simp
    rw [e]
    by_cases hi : i < n
    · have ec : cnt n i (b :: t) (m + 1) = cnt n (i + 1) t m := by
        show (if ¬ i < n ∧ b = true then 1 else 0) + cnt n (i + 1) t m = _
        rw [if_neg (fun h3 : ¬ i < n ∧ b = true => h3.1 hi), Nat.zero_add]
      rw [ec, if_pos hi]
      simp only [List.getElem!_cons_succ]
      exact plL_get n t (i + 1) x m h2
    · rw [if_neg hi]
      cases b with
      | true =>
        have ec : cnt n i (true :: t) (m + 1) = 1 + cnt n (i + 1) t m := by
          show (if ¬ i < n ∧ true = true then 1 else 0) + cnt n (i + 1) t m = _
          rw [if_pos (⟨hi, rfl⟩ : ¬ i < n ∧ true = true)]
        have ih := plL_get n t (i + 1) (x + 1) m h2
        rw [ec, if_pos rfl]
        simp only [List.getElem!_cons_succ]
        rw [ih]
        split
        · rfl
        · split
          · push_cast; omega
          · rfl
      | false =>
        have ec : cnt n i (false :: t) (m + 1) = cnt n (i + 1) t m := by
          show (if ¬ i < n ∧ false = true then 1 else 0) + cnt n (i + 1) t m = _
          rw [if_neg (fun h3 : ¬ i < n ∧ false = true => by cases h3.2), Nat.zero_add]
        rw [ec, if_neg (by decide)]
        simp only [List.getElem!_cons_succ]
        exact plL_get n t (i + 1) x m h2
theorem kL_succ (g : Gr) (K : List Bool) (P : List Int) (j : Nat) : kL g K P (j + 1) = if K[n0L g + j]! = true then kL g K P j ++ [(atL P g.ands[j]!.1, atL P g.ands[j]!.2)] else kL g K P j := rfl
section
variable {g : Gr} {K : List Bool}
theorem pl_low (hK : K.length = n0L g + g.ands.length) {i : Nat} (hi : i < n0L g) : (plG g K)[i]! = (i : Int) := by
  unfold plG
  rw [plL_get _ _ _ _ _ (by omega), if_pos (by omega)]
  simp
theorem kL_cnt (hK : K.length = n0L g + g.ands.length) (P : List Int) : ∀ j, j ≤ g.ands.length → (kL g K P j).length = cnt (n0L g) 0 K (n0L g + j)
  | 0, _ => by rw [Nat.add_zero, cnt_low _ _ _ (Nat.le_refl _) (by omega)]; rfl
  | j + 1, h => by
    have ih := kL_cnt hK P j (by omega)
    rw [← Nat.add_assoc, cnt_succ _ _ _ _ (by omega), ← ih]
    rw [kL_succ]
    by_cases hk : K[n0L g + j]! = true
    · rw [if_pos hk, if_pos ⟨by omega, hk⟩, List.length_append]; rfl
    · rw [if_neg hk, if_neg (fun h2 => hk h2.2)]; rfl
theorem pl_and (hK : K.length = n0L g + g.ands.length) (P : List Int) {j : Nat} (hj : j < g.ands.length) : (plG g K)[n0L g + j]! = if K[n0L g + j]! = true then (n0L g : Int) + ((kL g K P j).length : Int) else -1 := by
  unfold plG
  rw [plL_get _ _ _ _ _ (by omega), if_neg (by omega), kL_cnt hK P j (by omega)]
/-- what the nodes became, as literals -/
def bcL (g : Gr) (K : List Bool) : Nat → List Int
  | 0 => keptL (n0L g)
  | j + 1 => bcL g K j ++ [if K[n0L g + j]! = true then 2 * ((n0L g : Int) + ((kL g K (plG g K) j).length : Int)) else -1]
theorem keptL_len (n : Nat) : (keptL n).length = n := by simp [keptL]
theorem keptL_get (n i : Nat) (h : i < n) : (keptL n)[i]! = 2 * (i : Int) := by
  unfold keptL
  rw [getElem!_pos _ i (by simpa using h)]
  simp
theorem bc_len (g : Gr) (K : List Bool) : ∀ j, (bcL g K j).length = n0L g + j
  | 0 => keptL_len _
  | j + 1 => by unfold bcL; rw [List.length_append, bc_len g K j]; rfl
theorem get_app {α : Type} [Inhabited α] (A : List α) (x : α) (i : Nat) : (A ++ [x])[i]! = if i < A.length then A[i]! else if i = A.length then x else default := by
  by_cases h : i < A.length
  · rw [if_pos h, getElem!_pos _ i (by simp; omega), getElem!_pos A i h, List.getElem_append_left h]
  · rw [if_neg h]
    by_cases e : i = A.length
    · subst e
      rw [if_pos rfl, getElem!_pos _ _ (by simp)]; simp
    · rw [if_neg e, getElem!_neg _ _ (by simp; omega)]
theorem bc_get (hK : K.length = n0L g + g.ands.length) : ∀ j, j ≤ g.ands.length → ∀ i, i < n0L g + j → (bcL g K j)[i]! = if 0 ≤ (plG g K)[i]! then 2 * (plG g K)[i]! else -1
  | 0, _, i, hi => by
    show (keptL _)[i]! = _
    rw [keptL_get _ _ (by omega), pl_low hK (by omega), if_pos (by omega)]
  | j + 1, h, i, hi => by
    unfold bcL
    rw [get_app, bc_len]
    by_cases hlt : i < n0L g + j
    · rw [if_pos hlt]; exact bc_get hK j (by omega) i hlt
    · have e : i = n0L g + j := by omega
      subst e
      rw [if_neg hlt, if_pos rfl, pl_and hK (plG g K) (by omega)]
      by_cases hk : K[n0L g + j]! = true
      · rw [if_pos hk, if_pos hk, if_pos (by omega)]
      · rw [if_neg hk, if_neg hk, if_neg (by omega)]
theorem pl_kept (hK : K.length = n0L g + g.ands.length) {i : Nat} (hi : i < n0L g + g.ands.length) (hk : K[i]! = true ∨ i < n0L g) : 0 ≤ (plG g K)[i]! ∧ (plG g K)[i]! ≤ (i : Int) := by
  by_cases hl : i < n0L g
  · rw [pl_low hK hl]; omega
  · have hk2 : K[i]! = true := hk.resolve_right hl
    obtain ⟨j, rfl⟩ : ∃ j, i = n0L g + j := ⟨i - n0L g, by omega⟩
    rw [pl_and hK (plG g K) (by omega), if_pos hk2]
    have := kL_len g K (plG g K) j
    omega
/-- literals of nodes that are kept become the same -/
theorem fl_at (hK : K.length = n0L g + g.ands.length) (hs : n0L g + g.ands.length ≤ 100000) {J : Nat} (hJ : J ≤ g.ands.length) {l : Int} (h0 : 0 ≤ l) (hl : ndL l < n0L g + J) (hk : K[ndL l]! = true ∨ ndL l < n0L g) : flL (bcL g K J) l = atL (plG g K) l := by
  have hp := pl_kept hK (i := ndL l) (by omega) hk
  unfold flL atL
  rw [bc_get hK J hJ _ hl, if_pos hp.1]
  by_cases h : l % 2 = 1
  · rw [if_pos h, notL_even _ hp.1 (by omega), h]
  · rw [if_neg h]; omega
theorem bc_nodes (hK : K.length = n0L g + g.ands.length) : (bcL g K g.ands.length).map nodeL = plG g K := by
  apply List.ext_getElem
  · rw [List.length_map, bc_len, plG, plL_len, hK]
  · intro i h1 h2
    rw [List.length_map, bc_len] at h1
    have e1 := bc_get hK g.ands.length (Nat.le_refl _) i h1
    rw [getElem!_pos _ i (by rw [bc_len]; exact h1)] at e1
    rw [List.getElem_map, e1]
    rw [getElem!_pos (plG g K) i h2]
    have hlo : -1 ≤ (plG g K)[i] := by
      have := plL_in (n0L g) K 0 (n0L g) (by omega) (plG g K)[i] (List.getElem_mem h2)
      exact this.1
    unfold nodeL
    by_cases h : 0 ≤ (plG g K)[i]
    · rw [if_pos h, if_pos (by omega)]; omega
    · rw [if_neg h, if_neg (by decide)]; omega
end
theorem kp_len (g : Gr) : (kpG g).length = n0L g + g.ands.length := belowG_len g _
theorem goals_in {g : Gr} (vg : VG g) : ∀ l ∈ goalsL g, ndL l < n0L g + g.ands.length := fun l hl => by
  have h := goal_lit vg l hl
  have h2 := h.2
  rw [allL_eq] at h2
  have := ndL_lt h.1 (n := ((n0L g + g.ands.length : Nat) : Int)) (by unfold n0L; omega)
  omega
/-- the ands of an and that is kept -/
theorem kp_and {g : Gr} (vg : VG g) {j : Nat} (hj : j < g.ands.length) (hk : (kpG g)[n0L g + j]! = true) : (kpG g)[ndL g.ands[j]!.1]! = true ∧ (kpG g)[ndL g.ands[j]!.2]! = true :=
  below_closed g vg _ (goals_in vg) j hj hk
theorem kp_root {g : Gr} (vg : VG g) : ∀ l ∈ goalsL g, (kpG g)[ndL l]! = true := below_roots g vg _ (goals_in vg)
theorem re_ren {g : Gr} (vg : VG g) : reG g (kL g (kpG g) (plG g (kpG g)) g.ands.length) (bcL g (kpG g) g.ands.length) = renG g (kpG g) := by
  have n1 := vg.ins
  have n2 := vg.regs
  have n3 := vg.ands
  unfold reG renG
  have e1 : g.regs.map (flR (bcL g (kpG g) g.ands.length)) = g.regs.map (atR (plG g (kpG g))) := List.map_congr_left fun r hr => by
    have hm : r.nx ∈ goalsL g := List.mem_append_right _ (List.mem_map.2 ⟨r, hr, rfl⟩)
    unfold flR atR
    rw [fl_at (kp_len g) (by unfold n0L; omega) (Nat.le_refl _) (vg.next r hr).1 (goals_in vg _ hm) (.inl (kp_root vg _ hm))]
  have e2 : g.outs.map (flL (bcL g (kpG g) g.ands.length)) = g.outs.map (atL (plG g (kpG g))) := List.map_congr_left fun l hl => by
    have hm : l ∈ goalsL g := List.mem_append_left _ hl
    exact fl_at (kp_len g) (by unfold n0L; omega) (Nat.le_refl _) (vg.out l hl).1 (goals_in vg _ hm) (.inl (kp_root vg _ hm))
  rw [e1, e2]
end Go.Proofs.Ytbphhcjepeamcaa
