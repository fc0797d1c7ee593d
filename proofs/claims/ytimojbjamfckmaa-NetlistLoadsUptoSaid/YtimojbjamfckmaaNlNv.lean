/- The values of the nets and a cycle: the reference. Conditions: the netlist is valid, there is a bit for each input and flip-flop. -/
import Derived.Test.YtimojbjamfckmaaNlCo
import Derived.Test.YtimojbjamfckmaaNlPk
namespace Go.Proofs.Ytimojbjamfckmaa
open Go Go.RowKit Go.Sort
set_option linter.unusedVariables false
def numB : List Bool → Nat
  | [] => 0
  | b :: l => (if b = true then 1 else 0) + 2 * numB l
theorem numB_app (b : Bool) : ∀ l : List Bool, numB (l ++ [b]) = numB l + (if b = true then 2 ^ l.length else 0)
  | [] => by simp [numB]
  | x :: l => by
    rw [List.cons_append, numB, numB_app b l, numB, List.length_cons, Nat.pow_succ]
    by_cases h : b = true <;> simp [h] <;> omega
theorem numB_le : ∀ l : List Bool, numB l < 2 ^ l.length
  | [] => by simp [numB]
  | b :: l => by
    have := numB_le l
    rw [numB, List.length_cons, Nat.pow_succ]
    split <;> omega
def bitAdd (V : List Bool) (g : Ga) : List Bool := V ++ [g.tab.getLsbD (numB (pickL V g.ins))]
/-- the values up to the gate j -/
def netV (n : Nl) (x : List Bool) (j : Nat) : List Bool := (n.gates.take j).foldl bitAdd x
def netX (ins st : List Bool) : List Bool := false :: true :: (ins ++ st)
theorem netV_succ (n : Nl) (x : List Bool) (j : Nat) (hj : j < n.gates.length) : netV n x (j + 1) = netV n x j ++ [n.gates[j]!.tab.getLsbD (numB (pickL (netV n x j) n.gates[j]!.ins))] := by
  unfold netV; rw [tk1 n.gates hj, List.foldl_append]; rfl
theorem netV_len (n : Nl) (x : List Bool) (hx : x.length = fstN n) : ∀ j, j ≤ n.gates.length → (netV n x j).length = fstN n + j
  | 0, _ => by simpa [netV] using hx
  | j + 1, h => by rw [netV_succ n x j (by omega), List.length_append, netV_len n x hx j (by omega)]; rfl
theorem netX_len {n : Nl} {ins st : List Bool} (h1 : ins.length = n.ins.length) (h2 : st.length = n.flops.length) : (netX ins st).length = fstN n := by
  unfold netX fstN; simp only [List.length_cons, List.length_append]; omega
theorem netV_low (n : Nl) (x : List Bool) (hx : x.length = fstN n) : ∀ j, j ≤ n.gates.length → ∀ i, i < fstN n → (netV n x j)[i]! = x[i]!
  | 0, _, i, _ => rfl
  | j + 1, h, i, hi => by
    have hl := netV_len n x hx j (by omega)
    rw [netV_succ n x j (by omega), getElem!_pos _ i (by rw [List.length_append]; omega), List.getElem_append_left (by omega), ← getElem!_pos (netV n x j) i (by omega)]
    exact netV_low n x hx j (by omega) i hi
/-- all values -/
def valsN (n : Nl) (ins st : List Bool) : List Bool := netV n (netX ins st) n.gates.length
def outN_ (n : Nl) (V : List Bool) : List Bool := pickL V n.outs
/-- what flip-flop i takes -/
def takeB (V : List Bool) (a : Nat) (f : Fl) (i : Nat) : Bool := if V[f.en.toNat]! = true then V[f.d.toNat]! else V[2 + a + i]!
def nextB (n : Nl) (V : List Bool) (a j : Nat) : List Bool := (List.range j).map fun i => takeB V a n.flops[i]! i
theorem nextB_succ (n : Nl) (V : List Bool) (a j : Nat) : nextB n V a (j + 1) = nextB n V a j ++ [takeB V a n.flops[j]! j] := by
  unfold nextB; rw [List.range_succ, List.map_append]; rfl
def showN (n : Nl) (ins st : List Bool) : List Bool := outN_ n (valsN n ins st)
def stepN (n : Nl) (ins st : List Bool) : List Bool := nextB n (valsN n ins st) ins.length n.flops.length
theorem bit_is (t : BitVec 64) (k : Nat) : ((t >>> k &&& 1#64) == 1#64) = t.getLsbD k := by
  rw [bit_one]
  by_cases h : t.getLsbD k = true
  · rw [if_pos h, h]; decide
  · rw [if_neg h]
    have : t.getLsbD k = false := by simpa using h
    rw [this]; decide
theorem orN (x q : Nat) (hq : q ≤ 5) (hx : x < 2 ^ q) : bits BinOp.or IntKind.i64 (x : Int) (wrap64 (2 ^ q)) = ((x + 2 ^ q : Nat) : Int) := by
  have hp : 2 ^ q ≤ 32 := by
    have hc : q = 0 ∨ q = 1 ∨ q = 2 ∨ q = 3 ∨ q = 4 ∨ q = 5 := by omega
    rcases hc with rfl | rfl | rfl | rfl | rfl | rfl <;> decide
  have hw : wrap64 (2 ^ q) = ((2 ^ q : Nat) : Int) := by
    have : ((2 : Int) ^ q) = ((2 ^ q : Nat) : Int) := by push_cast; rfl
    rw [this]; generalize 2 ^ q = p at hp; unfold wrap64; omega
  rw [hw]
  show IntKind.i64.wrap (((BitVec.ofInt 64 (x : Int) ||| BitVec.ofInt 64 ((2 ^ q : Nat) : Int)).toNat : Nat) : Int) = _
  have e3 := Nat.two_pow_add_eq_or_of_lt (i := q) (b := x) hx 1
  rw [Nat.mul_one] at e3
  generalize 2 ^ q = p at hp hx e3 ⊢
  have e1 : (BitVec.ofInt 64 (x : Int)).toNat = x := by rw [BitVec.toNat_ofInt]; omega
  have e2 : (BitVec.ofInt 64 (p : Int)).toNat = p := by rw [BitVec.toNat_ofInt]; omega
  rw [BitVec.toNat_or, e1, e2, Nat.or_comm, ← e3, IntWalk.i64_in _ (by omega)]
  omega
theorem newB (W : World) (x : Bool) : ∀ (q : Nat) (u : Value), (encB x)[q]? = some u → (W.alloc (.cells #[.bool x] 4)).cell? ⟨W.heap.size, q, none⟩ = some u := by
  intro q u hq
  match q, hq with
  | 0, hq => cases hq; go_simp
theorem lenB (x : Bool) : (encB x).length = 1 := rfl
set_option maxRecDepth 100000 in
set_option maxHeartbeats 8000000 in
theorem netValues_any (n : Nl) (v : Value) (ins st : List Bool) (vi vs : Value) (vn : VN n) (hi1 : ins.length = n.ins.length) (hs1 : st.length = n.flops.length) (w : World) (hG : NO n v w) (h1 : RowC (fun b => Value.bool b) ins vi w) (h2 : RowC (fun b => Value.bool b) st vs w) : Calls Try.prog 34 #[v, vi, vs] w fun e w' => ∃ u, e = .returned u ∧ OwnK w.heap.size 4 1 encB w' u (valsN n ins st) ∧ Below w.heap.size w w' := by
  have hG0 := hG
  obtain ⟨a, b, c, d0, e, a', b', c', d', e', rfl, hC, hA⟩ := hG.all
  clear hG
  obtain ⟨ai, ci, rfl, hic, hin, hir⟩ := h1
  obtain ⟨az, cz, rfl, hsc, hsn, hsr⟩ := h2
  have n1 := vn.ins
  have n3 := vn.flops
  have n4 := vn.gates
  have hxl := netX_len hi1 hs1
  clear hi1 hs1
  have HVL := Lib.hid (fun j (hj : j ≤ n.gates.length) => netV_len n (netX ins st) hxl j hj)
  have hxs : (netX ins st).length ≤ 1000000 ∧ 0 < (netX ins st).length := by rw [hxl]; unfold fstN; omega
  clear hxl
  go_enter Try.func34, Try.ntmps34
  go_upto_region 1 with fail
  have bel := (Below.refl w.heap.size w).alloc (Nat.le_refl _) (.cells #[.slice a n.ins.length a', .slice b n.outN.length b', .slice c n.flops.length c', .slice d0 n.gates.length d', .slice e n.outs.length e'] 27)
  have X := GX.new w (.slice a n.ins.length a') (.slice b n.outN.length b') (.slice c n.flops.length c') (.slice d0 n.gates.length d') (.slice e n.outs.length e') 27
  generalize w.alloc (.cells #[.slice a n.ins.length a', .slice b n.outN.length b', .slice c n.flops.length c', .slice d0 n.gates.length d', .slice e n.outs.length e'] 27) = W0 at bel X ⊢
  generalize hk : w.heap.size = k at X ⊢
  have HK := Lib.hid hk
  clear hk
  obtain ⟨x0, x1, x2, x3, x4⟩ := id X
  have bA := (Below.refl W0.heap.size W0).alloc (Nat.le_refl _) (.cells #[.bool false, .bool true] 4)
  have bB := bA.alloc (by simp) (.cells #[.slice (some ⟨W0.heap.size, 0, none⟩) 2 2, .slice ai ins.length ci, .slice az st.length cz] 42)
  have hT : TR [[false, true], ins, st] (.slice (some ⟨W0.heap.size + 1, 0, none⟩) 3 3) ((W0.alloc (.cells #[.bool false, .bool true] 4)).alloc (.cells #[.slice (some ⟨W0.heap.size, 0, none⟩) 2 2, .slice ai ins.length ci, .slice az st.length cz] 42)) := by
    refine ⟨some ⟨W0.heap.size + 1, 0, none⟩, 3, [.slice (some ⟨W0.heap.size, 0, none⟩) 2 2, .slice ai ins.length ci, .slice az st.length cz], rfl, Nat.le_refl _, (fun h => by cases h), rfl, .inr ⟨_, 0, rfl, fun j hj c x hx => ?_⟩, fun j hj => ?_⟩
    · match j, hj, c, hx with
      | 0, _, 0, hx => cases hx; go_simp
      | 1, _, 0, hx => cases hx; go_simp
      | 2, _, 0, hx => cases hx; go_simp
    · match j, hj with
      | 0, _ =>
        refine ⟨_, _, rfl, Nat.le_refl _, (fun h => by cases h), .inr ⟨_, 0, rfl, fun j hj c x hx => ?_⟩⟩
        match j, hj, c, hx with
        | 0, _, 0, hx => cases hx; go_simp
        | 1, _, 0, hx => cases hx; go_simp
      | 1, _ => exact ⟨_, _, rfl, hic, hin, hir.below (bel.trans (bB.mono bel.size))⟩
      | 2, _ => exact ⟨_, _, rfl, hsc, hsn, hsr.below (bel.trans (bB.mono bel.size))⟩
  have hfl : ([[false, true], ins, st] : List (List Bool)).flatten = netX ins st := by simp [netX]
  have H1 := Lib.hid (concatB_any [[false, true], ins, st] _ (by simp) (by rw [hfl]; exact hxs.1) (by rw [hfl]; exact hxs.2) _ hT)
  rw [hfl] at H1
  clear hT hfl hxs
  go_upto_region 2 with (first | (go_at_call 89; refine H1.out.mono ?_; rintro ee W1 ⟨u, rfl, O1, hb1⟩))
  clear H1
  have B0 := bB.trans (hb1.mono bB.size)
  have hsz : W0.heap.size ≤ W1.heap.size := B0.size
  replace O1 := O1.mono1 bB.size
  have HX := Lib.hid (fun W (hb : Below W0.heap.size W0 W) => X.below hb)
  have HA := Lib.hid (fun W (hb : Below W0.heap.size W0 W) => hA.below (bel.trans (hb.mono bel.size)))
  have HBEL := Lib.hid bel
  have HV0 : Hid (valsN n ins st = netV n (netX ins st) n.gates.length) := Lib.hid rfl
  clear x0 x1 x2 x3 x4 X hA hG0 hC bel bA bB hb1 hir hsr hsz
  obtain ⟨x0, x1, x2, x3, x4⟩ := HX.out _ B0
  obtain ⟨i0, ihi, ihz, ihs, ihb⟩ := infoMB_parts
  go_upto_block 0 with fail
  clear x0 x1 x2 x3 x4
  have HVS := Lib.hid (fun j (hj : j < n.gates.length) => netV_succ n (netX ins st) j hj)
  have O2 : OwnK W0.heap.size 4 1 encB W1 u (netV n (netX ins st) 0) := O1
  clear O1
  generalize netX ins st = xx at O2 HVL HV0 HVS
  go_wp2_with fail
  go_loopw [7, 21] (fun u i wr => ∃ j : Nat, j ≤ n.gates.length ∧ i = .int .i64 (j : Int) ∧ Hid (OwnK W0.heap.size 4 1 encB wr u (netV n xx j)) ∧ Hid (Below W0.heap.size W0 wr)) (fun _ i _ => n.gates.length - (intOf i).toNat)
  case atStart => exact ⟨0, Nat.zero_le _, rfl, Lib.hid O2, Lib.hid B0⟩
  case round =>
    clear O2 B0
    obtain ⟨j, hj, rfl, hO, hB⟩ := hrel
    rename World => WG
    have hj0 : (0 : Int) ≤ (j : Int) := by omega
    by_cases hlt : j < n.gates.length
    · have hji : (j : Int) < (n.gates.length : Int) := by omega
      have hLN := HVL.out j hj
      have HT := Lib.hid (HVS.out j hlt)
      have hin := vn.nets j hlt
      have h6 := vn.pins j hlt
      have HLN : (netV n xx j).length ≤ 100000 := by rw [hLN]; unfold fstN; omega
      have hA1 := HA.out _ hB.out
      have hI := hA1.each j hlt
      obtain ⟨bb, oo, hdd, hcell⟩ := hA1.gates.pick (by omega)
      subst hdd
      have c0 := hcell j hlt 0 _ rfl
      have c1 := hcell j hlt 1 _ rfl
      have c2 := hcell j hlt 2 _ rfl
      simp only [Nat.add_zero] at c0
      clear hcell hA1
      generalize n.gates[j]! = y at c0 c1 c2 HT hI hin h6
      obtain ⟨y0, y1, y2, y3, y4⟩ := y
      obtain ⟨hr, hcp, hnl⟩ := hI
      simp only at c0 c1 c2 HT hr hcp hnl hin h6
      have HIN := Lib.hid (show ∀ x ∈ y2, 0 ≤ x ∧ x < ((netV n xx j).length : Int) from fun x hx => by rw [hLN]; exact hin x hx)
      clear hin hLN
      generalize hV : netV n xx j = V at hO HT HIN HLN
      have HV := Lib.hid hV
      clear hV
      obtain ⟨ad, cp, hv⟩ := hO.out.slice
      subst hv
      have hB5 := hB.out
      have hO5 := hO.out
      clear hB hO
      go_upto_region 5 with fail
      have bA := (Below.refl WG.heap.size WG).alloc (Nat.le_refl _) (.cells #[.int .i64 y0, .int .u64 (U y1), .slice y3 y2.length y4] 82)
      have z1 : (WG.alloc (.cells #[.int .i64 y0, .int .u64 (U y1), .slice y3 y2.length y4] 82)).cell? ⟨WG.heap.size, 1, none⟩ = some (.int .u64 (U y1)) := by go_simp
      have z2 : (WG.alloc (.cells #[.int .i64 y0, .int .u64 (U y1), .slice y3 y2.length y4] 82)).cell? ⟨WG.heap.size, 2, none⟩ = some (.slice y3 y2.length y4) := by go_simp

      generalize WG.alloc (.cells #[.int .i64 y0, .int .u64 (U y1), .slice y3 y2.length y4] 82) = WH at z1 z2 bA ⊢
      generalize WG.heap.size = q10 at z1 z2 ⊢
      have hB6 := hB5.trans (bA.mono hB5.size)
      have hO6 := hO5.below bA
      have HR6 := Lib.hid (hr.below bA)
      clear c0 c1 c2 bA hr hB5 hO5
      have HOR := Lib.hid (hO6.row lenB)
      have HZ1 := Lib.hid z1
      go_upto_block 2 with fail
      go_wp2_with fail
      go_loopw [10, 28] (fun u i wr => ∃ (q x : Nat), q ≤ y2.length ∧ u = .int .i64 (x : Int) ∧ i = .int .i64 (q : Int) ∧ Hid (x = numB (pickL V (y2.take q))) ∧ wr = WH) (fun _ i _ => y2.length - (intOf i).toNat)
      case atStart => exact ⟨0, 0, Nat.zero_le _, rfl, rfl, Lib.hid rfl, rfl⟩
      case round =>
        obtain ⟨q, x, hq, rfl, rfl, hE, rfl⟩ := hrel
        have hq0 : (0 : Int) ≤ (q : Int) := by omega
        have hxq : x < 2 ^ q := by
          have := numB_le (pickL V (y2.take q))
          have e2 : (pickL V (y2.take q)).length = q := by unfold pickL; rw [List.length_map, List.length_take, Nat.min_eq_left hq]
          rw [← hE.out, e2] at this
          exact this
        by_cases hlq : q < y2.length
        · have hqi : (q : Int) < (y2.length : Int) := by omega
          have hk := HIN.out _ (mem1 y2 hlq)
          have HE := Lib.hid (show numB (pickL V (y2.take (q + 1))) = x + (if V[y2[q]!.toNat]! = true then 2 ^ q else 0) by
            have e : pickL V (y2.take (q + 1)) = pickL V (y2.take q) ++ [V[y2[q]!.toNat]!] := by rw [tk1 y2 hlq]; exact List.map_append
            rw [e, numB_app, ← hE.out]
            unfold pickL
            rw [List.length_map, List.length_take, Nat.min_eq_left hq])
          obtain ⟨b3, o3, hdd, hcell⟩ := HR6.out.pick (by omega)
          subst hdd
          have c0 := hcell q hlq 0 _ rfl
          simp only [Nat.mul_one, Nat.add_zero] at c0
          clear hcell hE
          generalize y2[q]! = kk at c0 HE hk
          obtain ⟨hk0, hk1⟩ := hk
          obtain ⟨ad4, cp4, e4, hc4, R4⟩ := HOR.out.open'
          injection e4 with e41 e42 e43
          subst e41
          subst e43
          obtain ⟨b4, o4, hdd, hcell⟩ := R4.pick (by omega)
          subst hdd
          have c1 := hcell kk.toNat (by omega) 0 _ rfl
          simp only [Nat.mul_one, Nat.add_zero] at c1
          clear hcell R4 e42 hc4
          generalize V[kk.toNat]! = z at c1 HE
          have hor := orN x q (by omega) hxq
          cases z with
          | true =>
            have HE2 := Lib.hid (show x + 2 ^ q = numB (pickL V (y2.take (q + 1))) by rw [HE.out]; rfl)
            clear HE
            go_wp2_with fail
            go_roundw
            case rel => exact ⟨q + 1, x + 2 ^ q, by omega, (by push_cast; rfl), by go_num, HE2, by first | rfl | trivial⟩
            all_goals first | done | (simp [intOf]; done) | (simp [intOf]; omega)
          | false =>
            have HE2 := Lib.hid (show x = numB (pickL V (y2.take (q + 1))) by rw [HE.out]; rfl)
            clear HE hor hxq
            go_wp2_with fail
            go_roundw
            case rel => exact ⟨q + 1, x, by omega, rfl, by go_num, HE2, by first | rfl | trivial⟩
            all_goals first | done | (simp [intOf]; done) | (simp [intOf]; omega)
        · have hqi : ¬ (q : Int) < (y2.length : Int) := by omega
          have HR := Lib.hid (show V ++ [y1.getLsbD x] = netV n xx (j + 1) by
            rw [HT.out, hE.out, List.take_of_length_le (by omega)])
          have hx64 : x < 64 := by
            have h2 : 2 ^ q ≤ 2 ^ 6 := Nat.pow_le_pow_right (by decide) (by omega)
            omega
          have hbi := bit_is y1 x
          generalize y1.getLsbD x = zb at HR hbi
          have z1 := HZ1.out
          have hs8 := hB6.size
          have bB := (Below.refl _ wr).alloc (Nat.le_refl _) (.cells #[.bool zb] 4)
          have hs9 := Nat.le_trans hs8 bB.size
          have O4 := hO6.below bB
          have hy := newB wr zb
          clear hE HOR hxq
          go_wp2_with (at_builtin; refine wpList_append_one (enc := encB) (k := 1) (fun _ => rfl) (by decide) (fun x u hu => by simp at hu; rcases hu with rfl; rfl) rfl _ _ 42 rfl (W0.heap.size) 4 i0 (.bool false) 1 Try.underlying42 ihi ihz ihs ihb (by decide) _ V rfl O4 wr.heap.size 1 (zb) rfl hy (show V.length + 1 ≤ maxLen by unfold maxLen; omega) (show (V.length + 1) * 1 ≤ 140737488355328 by omega) (by first | omega | (simp; omega)) ?_)
          intro v5 w5 O5 hb5 hg5
          have HO5 := Lib.hid O5
          have HB5 := Lib.hid (hB6.trans ((bB.mono hB6.size).trans hb5))
          rw [HR.out] at HO5
          clear O5 hb5 hg5 O4 hy hB6 bB hO6 z1
          go_wp2_with fail
          go_roundw
          case rel => exact ⟨j + 1, by omega, by go_num, HO5, HB5⟩
          all_goals first | done | (simp [intOf]; done) | (simp [intOf]; omega)
    · have hji : ¬ (j : Int) < (n.gates.length : Int) := by omega
      have hjj : j = n.gates.length := by omega
      have hO2 := hO.out
      rw [hjj, ← HV0.out] at hO2
      have HO2 := Lib.hid (hO2.mono1 HBEL.out.size)
      have HB2 := Lib.hid (HBEL.out.trans (hB.out.mono HBEL.out.size))
      clear hO hB hO2 hjj
      go_wp2_with fail
      go_ret
      exact ⟨_, rfl, HO2.out, HB2.out⟩
end Go.Proofs.Ytimojbjamfckmaa
