/- The program's Loads: what it answers. Condition: the sizes of a netlist that came in. -/
import Derived.Test.YtimojbjamfckmaaNlLd
import Derived.Test.YtimojbjamfckmaaNlFo
namespace Go.Proofs.Ytimojbjamfckmaa
open Go Go.RowKit Go.Sort
set_option linter.unusedVariables false
theorem infoLr : (Try.prog.info? 68).map (fun i => (i.zero, i.size, i.bytes)) = some (some (.slice none 0 0), 1, 24) := by kernel_rfl
theorem mkLr (W : World) (l c : Nat) (hlc : l ≤ c) (hc : c ≤ 8000000) : (Instr.makeSlice 65 (.int .i64 (l : Int)) (.int .i64 (c : Int))).run Try.prog W = .ok (.slice (some ⟨W.heap.size, 0, none⟩) l c) (W.alloc (.cells (madeCells #[.slice none 0 0] c) 68)) := by
  have h := infoLr
  cases hi : Try.prog.info? 68 with
  | none => rw [hi] at h; cases h
  | some i =>
    rw [hi] at h
    simp only [Option.map_some, Option.some.injEq, Prod.mk.injEq] at h
    exact run_mk Try.underlying65 hi h.1 h.2.1 (by kernel_rfl) l c hlc (by rw [h.2.2]; omega) (by omega)
def tabU (N : Nat) (F : Int → List (Int × Int × Int)) : List (List (Int × Int × Int)) := (List.range N).map fun k : Nat => F (k : Int)
theorem tabU_len (N : Nat) (F : Int → List (Int × Int × Int)) : (tabU N F).length = N := by unfold tabU; rw [List.length_map, List.length_range]
theorem tabU_get (N : Nat) (F : Int → List (Int × Int × Int)) (j : Nat) (hj : j < N) : (tabU N F)[j]! = F (j : Int) := by
  unfold tabU
  rw [getElem!_pos _ j (by simpa using hj), List.getElem_map, List.getElem_range]
theorem tabU_use (N : Nat) (F : Int → List (Int × Int × Int)) (x : Int) (h0 : 0 ≤ x) (h1 : x < (N : Int)) (u : Int × Int × Int) : (tabU N F).set x.toNat ((tabU N F)[x.toNat]! ++ [u]) = tabU N (fun k => F k ++ (if x = k then [u] else [])) := by
  have hx : x.toNat < N := by omega
  rw [tabU_get N F _ hx]
  unfold tabU
  apply List.ext_getElem (by simp)
  intro i h2 h3
  rw [List.getElem_set, List.getElem_map, List.getElem_map, List.getElem_range]
  show _ = F (i : Int) ++ (if x = (i : Int) then [u] else [])
  by_cases e : x.toNat = i
  · rw [if_pos e, if_pos (by omega)]
    rw [show ((x.toNat : Nat) : Int) = (i : Int) by omega]
  · rw [if_neg e, if_neg (by omega), List.append_nil]
theorem LdM.of {B k q cp : Nat} {L : List (List (Int × Int × Int))} {V : List Value} {w w' : World} (h : LdM B k q cp L V w) (hb : Below w.heap.size w w') : LdM B k q cp L V w' :=
  ⟨h.len, cellB hb h.box, Arr.below h.arr hb, fun i hi => (h.rows i hi).below hb, h.apart, h.kB, h.qB, h.kq⟩
theorem LdM.trl {B k q : Nat} {L : List (List (Int × Int × Int))} {V : List Value} {w : World} (h : LdM B k q L.length L V w) : TRL L (.slice (some ⟨q, 0, none⟩) L.length L.length) w := by
  have hl := h.len
  refine ⟨some ⟨q, 0, none⟩, L.length, V, rfl, Nat.le_refl _, hl, (fun e => by cases e), Or.inr ⟨q, 0, rfl, fun j hj c x hx => ?_⟩, fun j hj => OwnK.row (enc := encLd) (k := 3) (fun _ => rfl) (h.rows j hj)⟩
  match c, hx with
  | 0, hx =>
    cases hx
    have := Arr.cell (j := j) h.arr hj
    simpa [gV] using this
theorem LdM.make (w : World) (N : Nat) : LdM (w.heap.size + 2) (w.heap.size + 1) w.heap.size N (tabU N (fun _ => [])) (List.replicate N (Value.slice none 0 0)) ((w.alloc (.cells (madeCells #[.slice none 0 0] N) 68)).alloc (.cells #[.slice (some ⟨w.heap.size, 0, none⟩) N N] 65)) := by
  have bA := (Below.refl (w.alloc (.cells (madeCells #[.slice none 0 0] N) 68)).heap.size (w.alloc (.cells (madeCells #[.slice none 0 0] N) 68))).alloc (Nat.le_refl _) (.cells #[.slice (some ⟨w.heap.size, 0, none⟩) N N] 65)
  refine ⟨by rw [List.length_replicate, tabU_len], ?_, Arr.below (Arr.made (f := gV) w N (Value.slice none 0 0) 68) bA, fun i hi => ?_, fun i j hi hj hne b h => ?_, by omega, by omega, by omega⟩
  · rw [tabU_len]
    have e : w.heap.size + 1 = (w.alloc (.cells (madeCells #[.slice none 0 0] N) 68)).heap.size := by simp
    rw [e]
    exact Arr.cell (j := 0) (Arr.allocV (w.alloc (.cells (madeCells #[.slice none 0 0] N) 68)) [Value.slice (some ⟨w.heap.size, 0, none⟩) N N] 65) (by simp)
  · rw [tabU_len] at hi
    rw [getElem!_pos _ i (by simpa using hi), List.getElem_replicate, tabU_get N _ i hi]
    exact OwnK.nil _ _ _ _ _
  · rw [tabU_len] at hi
    rw [getElem!_pos _ i (by simpa using hi), List.getElem_replicate] at h
    cases h
/-- the rows of uses in memory, whatever the blocks of the rows -/
def LdX (B k q N : Nat) (F : Int → List (Int × Int × Int)) (w : World) : Prop := ∃ V, LdM B k q N (tabU N F) V w
theorem useX_any (B k q N : Nat) (F : Int → List (Int × Int × Int)) (x : Int) (h0 : 0 ≤ x) (h1 : x < (N : Int)) (hN : N ≤ 4000) (hF : ∀ x, (F x).length ≤ 1000000) (a b c : Int) (w0 w : World) (hB : B ≤ w0.heap.size) (hM : LdX B k q N F w0) (hb : Below w0.heap.size w0 w) : Calls Try.prog 93 #[.int .i64 x, .agg #[.int .i64 a, .int .i64 b, .int .i64 c], .pointer (some ⟨k, 0, none⟩)] w fun e w' => e = .returned (.tuple #[]) ∧ LdX B k q N (fun y => F y ++ (if x = y then [(a, b, c)] else [])) w' ∧ (∀ b0, b0 ≤ B → b0 ≤ q → Below b0 w w') ∧ (∀ p y, w0.heap.size ≤ p.block → w.cell? p = some y → w'.cell? p = some y) := by
  obtain ⟨V, hM⟩ := hM
  have hx : x.toNat < N := by omega
  have hM2 := hM.of hb
  refine (use1_any (tabU N F) V B k q N x h0 (by rw [tabU_len]; exact h1) (by rw [tabU_len]; exact hN) (a, b, c) w (Nat.le_trans hB hb.size) hM2 (by rw [tabU_get N F _ hx]; exact hF _)).mono ?_
  rintro e w' ⟨h1', h2⟩
  refine ⟨h1', ?_, h2.bel, fun p y hp hc => h2.keep p y hc ?_ ?_⟩
  · obtain ⟨V', h3⟩ := h2.mem
    rw [tabU_use N F x h0 h1] at h3
    exact ⟨V', h3⟩
  · have := hM.arr.lt
    omega
  · intro h
    have := (World.ownsRow.lt (hM.rows x.toNat (by rw [tabU_len]; exact hx)) _ h).2
    omega
set_option maxRecDepth 100000 in
set_option maxHeartbeats 16000000 in
theorem loads_any (n : Nl) (v : Value) (w : World) (sg : SmN n) (hG : NO n v w) : Calls Try.prog 42 #[v] w fun e w' => ∃ u, e = .returned (.tuple #[u, .int .i64 (faultN n)]) ∧ TRL (loadsR n) u w' ∧ Below w.heap.size w w' := by
  have hG0 := hG
  obtain ⟨a, b, c, d0, e, a', b', c', d', e', rfl, hC, hA⟩ := hG.all
  clear hG
  have s0 := sg.ins
  go_enter Try.func42, Try.ntmps42
  go_upto_region 2 with fail
  have bel := (Below.refl w.heap.size w).alloc (Nat.le_refl _) (.cells #[.slice a n.ins.length a', .slice b n.outN.length b', .slice c n.flops.length c', .slice d0 n.gates.length d', .slice e n.outs.length e'] 27)
  have X := GX.new w (.slice a n.ins.length a') (.slice b n.outN.length b') (.slice c n.flops.length c') (.slice d0 n.gates.length d') (.slice e n.outs.length e') 27
  generalize w.alloc (.cells #[.slice a n.ins.length a', .slice b n.outN.length b', .slice c n.flops.length c', .slice d0 n.gates.length d', .slice e n.outs.length e'] 27) = W0 at bel X ⊢
  generalize hk : w.heap.size = k at X ⊢
  have HK := Lib.hid hk
  clear hk
  obtain ⟨x0, x1, x2, x3, x4⟩ := id X
  have H1 := Lib.hid (form_any n _ sg W0 (hG0.below bel))
  by_cases hf : faultN n = 0
  rotate_left
  · have HL := Lib.hid (show loadsR n = [] from if_neg hf)
    have hfb : (faultN n == 0) = false := beq_eq_false_iff_ne.2 hf
    have hfc : (faultN n != 0) = true := by simp [bne, hfb]
    have HFF := Lib.hid (show faultN n = faultN n from rfl)
    clear hf
    go_wp2_with (first | (go_at_call 18; refine H1.out.mono ?_; rintro ee w1 ⟨rfl, hb1⟩))
    go_ret2
    exact ⟨_, rfl, by rw [HL.out]; exact ⟨none, 0, [], rfl, Nat.le_refl _, rfl, fun _ => rfl, Or.inl rfl, fun j hj => by simp at hj⟩, bel.trans (hb1.mono bel.size)⟩
  · have vn := vn_of hf
    have HL := Lib.hid (show loadsR n = (List.range (netsN n)).map (fun k : Nat => usesN n (k : Int)) from if_pos hf)
    rw [hf] at H1
    have HF0 := Lib.hid hf
    have n1 := vn.ins
    have n3 := vn.flops
    have n4 := vn.gates
    have n5 : n.outs.length ≤ 128 := by have := vn.same; have := vn.outN; omega
    clear hf
    go_upto_region 4 with (first | (go_at_call 18; refine H1.out.mono ?_; rintro ee W1 ⟨rfl, hb1⟩))
    replace bel := bel.trans (hb1.mono bel.size)
    replace X := X.below hb1
    clear H1 hb1 x0 x1 x2 x3 x4
    obtain ⟨x0, x1, x2, x3, x4⟩ := id X
    have HN1 := Lib.hid (nnets_any n _ sg W1 (hG0.below bel))
    have hnb : netsN n ≤ 2000 := by unfold netsN fstN; omega
    have hmk := fun W => mkLr W (netsN n) (netsN n) (Nat.le_refl _) (by omega)
    have HPI := Lib.hid (fun j hj => vn.nets j hj)
    have HPN := Lib.hid (show ∀ j, j < n.gates.length → ∀ x ∈ n.gates[j]!.ins, 0 ≤ x ∧ x < (netsN n : Int) from fun j hj x hx => by
      have := vn.nets j hj x hx
      refine ⟨this.1, ?_⟩
      have h2 := this.2
      unfold netsN
      push_cast at h2 ⊢
      omega)
    have HGN := Lib.hid vn
    clear HPI
    generalize hNN : netsN n = N at HN1 hnb hmk HPN HL
    have HNE := Lib.hid hNN
    clear hNN vn
    go_upto_region 5 with (first | (go_at_call 23; refine HN1.out.mono ?_; rintro ee W2 ⟨rfl, hb2⟩))
    have hb23 := ((Below.refl W2.heap.size W2).alloc (Nat.le_refl _) (.cells (madeCells #[.slice none 0 0] N) 68)).alloc (by simp) (.cells #[.slice (some ⟨W2.heap.size, 0, none⟩) N N] 65)
    have M0 := LdM.make W2 N
    have hz3 : W2.heap.size + 2 ≤ ((W2.alloc (.cells (madeCells #[.slice none 0 0] N) 68)).alloc (.cells #[.slice (some ⟨W2.heap.size, 0, none⟩) N N] 65)).heap.size := by simp
    have X2 := X.below hb2
    have bel2 := bel.trans (hb2.mono bel.size)
    have HX := Lib.hid (fun W (hb : Below W2.heap.size W2 W) => X2.below hb)
    have HA := Lib.hid (fun W (hb : Below W2.heap.size W2 W) => hA.below (bel2.trans (hb.mono bel2.size)))
    have HBL := Lib.hid (fun W (hb : Below W2.heap.size W2 W) => bel2.trans (hb.mono bel2.size))
    clear x0 x1 x2 x3 x4 X X2 hA hC hG0 hmk HN1 hb2 bel bel2
    generalize (W2.alloc (.cells (madeCells #[.slice none 0 0] N) 68)).alloc (.cells #[.slice (some ⟨W2.heap.size, 0, none⟩) N N] 65) = W3 at hb23 M0 hz3 ⊢
    generalize W2.heap.size = q at hb23 M0 hz3 HX HA HBL ⊢
    have M1 := Lib.hid (show LdX (q + 2) (q + 1) q N (fun y => gateU n y 0) W3 from ⟨_, M0⟩)
    clear M0
    obtain ⟨x0, x1, x2, x3, x4⟩ := HX.out _ hb23
    go_upto_block 0 with fail
    clear x0 x1 x2 x3 x4
    go_wp2_with fail
    go_loopw [27] (fun i wr => ∃ j : Nat, j ≤ n.gates.length ∧ i = .int .i64 (j : Int) ∧ Hid (LdX (q + 2) (q + 1) q N (fun y => gateU n y j) wr) ∧ Hid (Below q W2 wr) ∧ Hid (q + 2 ≤ wr.heap.size)) (fun i _ => n.gates.length - (intOf i).toNat)
    case atStart => exact ⟨0, Nat.zero_le _, rfl, M1, Lib.hid hb23, Lib.hid hz3⟩
    case round =>
      clear M1 hb23 hz3
      obtain ⟨j, hj, rfl, hM, hB, hZ⟩ := hrel
      rename World => WR
      have hj0 : (0 : Int) ≤ (j : Int) := by omega
      by_cases hlt : j < n.gates.length
      · have hji : (j : Int) < (n.gates.length : Int) := by omega
        have hg6 := HGN.out.pins j hlt
        have hpn := HPN.out j hlt
        have HGL := Lib.hid (fun y => gateU_len n y j (fun i hi => HGN.out.pins i (by omega)))
        have HI := Lib.hid (fun W (hb : Below q W2 W) => ((HA.out W hb).each j hlt).row)
        have HS := Lib.hid (fun y => gateU_succ n y j)
        obtain ⟨bb, oo, hdd, hcell⟩ := (HA.out _ hB.out).gates.pick (by omega)
        subst hdd
        have c0 := hcell j hlt 0 _ rfl
        have c1 := hcell j hlt 1 _ rfl
        have c2 := hcell j hlt 2 _ rfl
        simp only [Nat.add_zero] at c0
        clear hcell
        generalize n.gates[j]! = y at c0 c1 c2 HI hg6 hpn HS
        obtain ⟨y0, y1, y2, y3, y4⟩ := y
        simp only at c0 c1 c2 HI hg6 hpn HS
        have HPY := Lib.hid hpn
        have hM4 := hM.out
        have hB4 := hB.out
        have hZ4 := hZ.out
        clear hM hB hZ hpn
        go_upto_region 9 with fail
        have bA := (Below.refl WR.heap.size WR).alloc (Nat.le_refl _) (.cells #[.int .i64 y0, .int .u64 (U y1), .slice y3 y2.length y4] 82)
        have z2 : (WR.alloc (.cells #[.int .i64 y0, .int .u64 (U y1), .slice y3 y2.length y4] 82)).cell? ⟨WR.heap.size, 2, none⟩ = some (.slice y3 y2.length y4) := by go_simp

        generalize WR.alloc (.cells #[.int .i64 y0, .int .u64 (U y1), .slice y3 y2.length y4] 82) = WH at z2 bA ⊢
        generalize WR.heap.size = q10 at z2 ⊢
        have MH : Hid (LdX (q + 2) (q + 1) q N (fun y => gateU n y j) WH) := Lib.hid (by obtain ⟨V, h⟩ := hM4; exact ⟨V, h.of bA⟩)
        have BH := Lib.hid (hB4.trans (bA.mono (by omega)))
        have ZH := Lib.hid (Nat.le_trans hZ4 bA.size)
        clear c0 c1 c2 hM4 hB4 hZ4 bA
        go_upto_block 2 with fail
        clear z2
        go_wp2_with fail
        go_loopw [35] (fun i wr => ∃ m : Nat, m ≤ y2.length ∧ i = .int .i64 (m : Int) ∧ Hid (LdX (q + 2) (q + 1) q N (fun y => gateU n y j ++ pinL y j y2 m) wr) ∧ Hid (Below q W2 wr) ∧ Hid (q + 2 ≤ wr.heap.size)) (fun i _ => y2.length - (intOf i).toNat)
        case atStart => exact ⟨0, Nat.zero_le _, rfl, Lib.hid (by have := MH.out; rwa [show (fun y => gateU n y j) = (fun y => gateU n y j ++ pinL y j y2 0) from funext fun y => (List.append_nil _).symm] at this), BH, ZH⟩
        case round =>
          clear MH BH ZH
          obtain ⟨m, hm, rfl, hM, hB, hZ⟩ := hrel
          rename World => WS
          have hm0 : (0 : Int) ≤ (m : Int) := by omega
          by_cases hlm : m < y2.length
          · have hmi : (m : Int) < (y2.length : Int) := by omega
            obtain ⟨b2, o2, hdd, hcell⟩ := (HI.out _ hB.out).pick (by omega)
            subst hdd
            have c0 := hcell m hlm 0 _ rfl
            simp only [Nat.mul_one, Nat.add_zero] at c0
            clear hcell
            have HT := Lib.hid (fun y => pinL_succ y j y2 m)
            obtain ⟨hx0, hx1⟩ := HPY.out _ (mem1 y2 hlm)
            generalize y2[m]! = kk at c0 HT hx0 hx1
            have H5 := Lib.hid (useX_any (q + 2) (q + 1) q N (fun y => gateU n y j ++ pinL y j y2 m) kk hx0 hx1 (by omega) (fun y => by have h1 := HGL.out y; have h2 := pinL_len y j y2 m; rw [List.length_append]; omega) 0 (j : Int) (m : Int) WS WS hZ.out hM.out (Below.refl _ _))
            have hB5 := hB.out
            have hZ5 := hZ.out
            clear hM hB hZ hx0 hx1
            go_wp2_with (first | (go_at_call 93; refine H5.out.mono ?_; rintro ee w5 ⟨rfl, M5, hb5, hk5⟩))
            have MN := Lib.hid (show LdX (q + 2) (q + 1) q N (fun y => gateU n y j ++ pinL y j y2 (m + 1)) w5 by
              rwa [show (fun y => gateU n y j ++ pinL y j y2 m ++ if kk = y then [((0 : Int), (j : Int), (m : Int))] else []) = (fun y => gateU n y j ++ pinL y j y2 (m + 1)) from funext fun y => by rw [HT.out, List.append_assoc]] at M5)
            have BN := Lib.hid (hB5.trans (hb5 q (by omega) (Nat.le_refl _)))
            have ZN := Lib.hid (Nat.le_trans hZ5 (hb5 q (by omega) (Nat.le_refl _)).size)
            clear M5 hb5 hk5 H5 hB5 hZ5
            go_roundw
            case rel => exact ⟨m + 1, by omega, by go_num, MN, BN, ZN⟩
            all_goals first | done | (simp [intOf]; done) | (simp [intOf]; omega)
          · have hmi : ¬ (m : Int) < (y2.length : Int) := by omega
            have MN := Lib.hid (show LdX (q + 2) (q + 1) q N (fun y => gateU n y (j + 1)) WS by
              have := hM.out
              rwa [show m = y2.length by omega, show (fun y => gateU n y j ++ pinL y j y2 y2.length) = (fun y => gateU n y (j + 1)) from funext fun y => (HS.out y).symm] at this)
            have BN := hB
            have ZN := hZ
            clear hM hB hZ
            go_wp2_with fail
            go_roundw
            case rel => exact ⟨j + 1, by omega, by go_num, MN, BN, ZN⟩
            all_goals first | done | (simp [intOf]; done) | (simp [intOf]; omega)
      · have hji : ¬ (j : Int) < (n.gates.length : Int) := by omega
        have HE : Hid (j = n.gates.length) := Lib.hid (by omega)
        have MG := Lib.hid (show LdX (q + 2) (q + 1) q N (fun y => gateU n y n.gates.length ++ flopU n y 0) WR by
          have := hM.out
          rwa [HE.out, show (fun y => gateU n y n.gates.length) = (fun y => gateU n y n.gates.length ++ flopU n y 0) from funext fun y => (List.append_nil _).symm] at this)
        have HGL := Lib.hid (fun y => gateU_len n y n.gates.length HGN.out.pins)
        obtain ⟨x0, x1, x2, x3, x4⟩ := HX.out _ hB.out
        have hB4 := hB.out
        have hZ4 := hZ.out
        clear hM hB hZ
        go_upto_block 4 with fail
        clear x0 x1 x2 x3 x4
        go_wp2_with fail
        go_loopw [51] (fun i wr => ∃ j : Nat, j ≤ n.flops.length ∧ i = .int .i64 (j : Int) ∧ Hid (LdX (q + 2) (q + 1) q N (fun y => gateU n y n.gates.length ++ flopU n y j) wr) ∧ Hid (Below q W2 wr) ∧ Hid (q + 2 ≤ wr.heap.size)) (fun i _ => n.flops.length - (intOf i).toNat)
        case atStart => exact ⟨0, Nat.zero_le _, rfl, MG, Lib.hid hB4, Lib.hid hZ4⟩
        case round =>
          clear MG hB4 hZ4 hlt hji
          obtain ⟨j, hj, rfl, hM, hB, hZ⟩ := hrel
          rename World => WF
          have hj0 : (0 : Int) ≤ (j : Int) := by omega
          by_cases hlt : j < n.flops.length
          · have hji : (j : Int) < (n.flops.length : Int) := by omega
            obtain ⟨hd0, hd1⟩ := HGN.out.d j hlt
            obtain ⟨he0, he1⟩ := HGN.out.en j hlt
            rw [HNE.out] at hd1 he1
            have HS := Lib.hid (fun y => flopU_succ n y j)
            obtain ⟨bb, oo, hdd, hcell⟩ := (HA.out _ hB.out).flops.pick (by omega)
            subst hdd
            have c0 := hcell j hlt 0 _ rfl
            have c1 := hcell j hlt 1 _ rfl
            have c2 := hcell j hlt 2 _ rfl
            have c3 := hcell j hlt 3 _ rfl
            have c4 := hcell j hlt 4 _ rfl
            simp only [Nat.add_zero] at c0
            clear hcell
            generalize n.flops[j]! = r at c0 c1 c2 c3 c4 HS hd0 hd1 he0 he1
            obtain ⟨r0, r1, r2, r3, r4⟩ := r
            simp only at c0 c1 c2 c3 c4 HS hd0 hd1 he0 he1
            have hM4 := hM.out
            have hB4 := hB.out
            have hZ4 := hZ.out
            clear hM hB hZ
            go_upto_region 18 with fail
            have bA := (Below.refl WF.heap.size WF).alloc (Nat.le_refl _) (.cells #[.string r0, .int .i64 r1, .int .i64 r2, .int .i64 r3, .bool r4] 84)
            have z2 : (WF.alloc (.cells #[.string r0, .int .i64 r1, .int .i64 r2, .int .i64 r3, .bool r4] 84)).cell? ⟨WF.heap.size, 2, none⟩ = some (.int .i64 r2) := by go_simp
            have z3 : (WF.alloc (.cells #[.string r0, .int .i64 r1, .int .i64 r2, .int .i64 r3, .bool r4] 84)).cell? ⟨WF.heap.size, 3, none⟩ = some (.int .i64 r3) := by go_simp

            generalize WF.alloc (.cells #[.string r0, .int .i64 r1, .int .i64 r2, .int .i64 r3, .bool r4] 84) = WH at z2 z3 bA ⊢
            generalize hq10 : WF.heap.size = q10 at z2 z3 ⊢
            have HQ10 := Lib.hid (Nat.le_of_eq hq10)
            clear hq10
            have HFL := Lib.hid (show ∀ y, (gateU n y n.gates.length ++ flopU n y j).length ≤ 999999 from fun y => by have h1 := HGL.out y; have h2 := flopU_len n y j; rw [List.length_append]; omega)
            have H5 := Lib.hid (useX_any (q + 2) (q + 1) q N (fun y => gateU n y n.gates.length ++ flopU n y j) r2 hd0 hd1 (by omega) (fun y => Nat.le_trans (HFL.out y) (by decide)) 1 (j : Int) 0 WF WH hZ4 hM4 bA)
            have BH := Lib.hid (hB4.trans (bA.mono (by omega)))
            have ZH := Lib.hid (Nat.le_trans hZ4 bA.size)
            have HE0 := Lib.hid he0
            have HE1 := Lib.hid he1
            clear c0 c1 c2 c3 c4 hM4 hB4 hZ4 bA hd0 hd1 he0 he1
            go_upto_region 19 with (first | (go_at_call 93; refine H5.out.mono ?_; rintro ee w5 ⟨rfl, M5, hb5, hk5⟩))
            have z3' := hk5 _ _ HQ10.out z3
            have B5 := BH.out.trans (hb5 q (by omega) (Nat.le_refl _))
            have Z5 := Nat.le_trans ZH.out (hb5 q (by omega) (Nat.le_refl _)).size
            have H6 := Lib.hid (useX_any (q + 2) (q + 1) q N _ r3 HE0.out HE1.out (by omega) (fun y => by have h := HFL.out y; rw [List.length_append]; split <;> first | (rw [List.length_singleton]; omega) | (rw [List.length_nil]; omega)) 2 (j : Int) 0 w5 w5 Z5 M5 (Below.refl _ _))
            clear z2 z3 H5 BH ZH M5 hb5 hk5
            go_wp2_with (first | (go_at_call 93; refine H6.out.mono ?_; rintro ee w6 ⟨rfl, M6, hb6, hk6⟩))
            have MN := Lib.hid (show LdX (q + 2) (q + 1) q N (fun y => gateU n y n.gates.length ++ flopU n y (j + 1)) w6 by
              rwa [show (fun y => gateU n y n.gates.length ++ flopU n y j ++ (if r2 = y then [((1 : Int), (j : Int), (0 : Int))] else []) ++ if r3 = y then [((2 : Int), (j : Int), (0 : Int))] else []) = (fun y => gateU n y n.gates.length ++ flopU n y (j + 1)) from funext fun y => by rw [HS.out]; unfold flopU1; simp only [List.append_assoc]] at M6)
            have BN := Lib.hid (B5.trans (hb6 q (by omega) (Nat.le_refl _)))
            have ZN := Lib.hid (Nat.le_trans Z5 (hb6 q (by omega) (Nat.le_refl _)).size)
            clear M6 hb6 hk6 H6 B5 Z5 z3'
            go_roundw
            case rel => exact ⟨j + 1, by omega, by go_num, MN, BN, ZN⟩
            all_goals first | done | (simp [intOf]; done) | (simp [intOf]; omega)
          · have hji : ¬ (j : Int) < (n.flops.length : Int) := by omega
            have HE : Hid (j = n.flops.length) := Lib.hid (by omega)
            have MG := Lib.hid (show LdX (q + 2) (q + 1) q N (fun y => gateU n y n.gates.length ++ flopU n y n.flops.length ++ outU n y 0) WF by
              have := hM.out
              rwa [HE.out, show (fun y => gateU n y n.gates.length ++ flopU n y n.flops.length) = (fun y => gateU n y n.gates.length ++ flopU n y n.flops.length ++ outU n y 0) from funext fun y => (List.append_nil _).symm] at this)
            have HFL := Lib.hid (show ∀ y, (gateU n y n.gates.length ++ flopU n y n.flops.length).length ≤ 99999 from fun y => by have h1 := HGL.out y; have h2 := flopU_len n y n.flops.length; rw [List.length_append]; omega)
            obtain ⟨x0, x1, x2, x3, x4⟩ := HX.out _ hB.out
            have hB4 := hB.out
            have hZ4 := hZ.out
            clear hM hB hZ
            go_upto_block 6 with fail
            clear x0 x1 x2 x3 x4
            go_wp2_with fail
            go_loopw [72] (fun i wr => ∃ j : Nat, j ≤ n.outs.length ∧ i = .int .i64 (j : Int) ∧ Hid (LdX (q + 2) (q + 1) q N (fun y => gateU n y n.gates.length ++ flopU n y n.flops.length ++ outU n y j) wr) ∧ Hid (Below q W2 wr) ∧ Hid (q + 2 ≤ wr.heap.size)) (fun i _ => n.outs.length - (intOf i).toNat)
            case atStart => exact ⟨0, Nat.zero_le _, rfl, MG, Lib.hid hB4, Lib.hid hZ4⟩
            case round =>
              clear MG hB4 hZ4 hlt hji
              obtain ⟨j, hj, rfl, hM, hB, hZ⟩ := hrel
              rename World => WG
              have hj0 : (0 : Int) ≤ (j : Int) := by omega
              by_cases hlt : j < n.outs.length
              · have hji : (j : Int) < (n.outs.length : Int) := by omega
                obtain ⟨hx0, hx1⟩ := HGN.out.out _ (mem1 n.outs hlt)
                rw [HNE.out] at hx1
                have HS := Lib.hid (fun y => outU_succ n y j)
                obtain ⟨bb, oo, hdd, hcell⟩ := (HA.out _ hB.out).outs.pick (by omega)
                subst hdd
                have c0 := hcell j hlt 0 _ rfl
                simp only [Nat.mul_one, Nat.add_zero] at c0
                clear hcell
                generalize n.outs[j]! = kk at c0 HS hx0 hx1
                have H5 := Lib.hid (useX_any (q + 2) (q + 1) q N (fun y => gateU n y n.gates.length ++ flopU n y n.flops.length ++ outU n y j) kk hx0 hx1 (by omega) (fun y => by have h1 := HFL.out y; have h2 := outU_len n y j; rw [List.length_append]; omega) 3 (j : Int) 0 WG WG hZ.out hM.out (Below.refl _ _))
                have hB5 := hB.out
                have hZ5 := hZ.out
                clear hM hB hZ hx0 hx1
                go_wp2_with (first | (go_at_call 93; refine H5.out.mono ?_; rintro ee w5 ⟨rfl, M5, hb5, hk5⟩))
                have MN := Lib.hid (show LdX (q + 2) (q + 1) q N (fun y => gateU n y n.gates.length ++ flopU n y n.flops.length ++ outU n y (j + 1)) w5 by
                  rwa [show (fun y => gateU n y n.gates.length ++ flopU n y n.flops.length ++ outU n y j ++ if kk = y then [((3 : Int), (j : Int), (0 : Int))] else []) = (fun y => gateU n y n.gates.length ++ flopU n y n.flops.length ++ outU n y (j + 1)) from funext fun y => by rw [HS.out, ← List.append_assoc]] at M5)
                have BN := Lib.hid (hB5.trans (hb5 q (by omega) (Nat.le_refl _)))
                have ZN := Lib.hid (Nat.le_trans hZ5 (hb5 q (by omega) (Nat.le_refl _)).size)
                clear M5 hb5 hk5 H5 hB5 hZ5
                go_roundw
                case rel => exact ⟨j + 1, by omega, by go_num, MN, BN, ZN⟩
                all_goals first | done | (simp [intOf]; done) | (simp [intOf]; omega)
              · have hji : ¬ (j : Int) < (n.outs.length : Int) := by omega
                have HE : Hid (j = n.outs.length) := Lib.hid (by omega)
                have hM5 : LdX (q + 2) (q + 1) q N (fun y => usesN n y) WG := by
                  have := hM.out
                  rwa [HE.out] at this
                obtain ⟨V, hV⟩ := hM5
                have hbx := hV.box
                rw [tabU_len] at hbx
                have HT := Lib.hid (show TRL (tabU N (fun y => usesN n y)) (.slice (some ⟨q, 0, none⟩) N N) WG by
                  have h := hV
                  have h2 : LdM (q + 2) (q + 1) q (tabU N (fun y => usesN n y)).length (tabU N (fun y => usesN n y)) V WG := by rw [tabU_len]; exact h
                  have h3 := h2.trl
                  rwa [tabU_len] at h3)
                have HB9 := Lib.hid (HBL.out _ hB.out)
                clear hM hB hZ hV
                go_wp2_with fail
                go_ret2
                exact ⟨_, by rw [HF0.out]; rfl, by rw [HL.out]; exact HT.out, HB9.out⟩
end Go.Proofs.Ytimojbjamfckmaa
