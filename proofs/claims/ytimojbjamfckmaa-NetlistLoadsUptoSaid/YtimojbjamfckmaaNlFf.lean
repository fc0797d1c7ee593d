/- The error of a netlist: the reference's walk. Condition: the sizes of a netlist that came in. -/
import Derived.Test.YtimojbjamfckmaaNlRm
import Derived.Test.YtimojbjamfckmaaGrFb
import Derived.Test.YtimojbjamfckmaaGrOk
import Derived.Deep.Onto
namespace Go.Proofs.Ytimojbjamfckmaa
open Go Go.RowKit Go.Sort
set_option linter.unusedVariables false
set_option maxRecDepth 100000 in
set_option maxHeartbeats 1600000 in
theorem badN_any (n l : Int) (c : Nat) (w : World) (h : w.cell? ⟨c, 0, none⟩ = some (.int .i64 n)) : Calls Try.prog 74 #[.int .i64 l, .pointer (some ⟨c, 0, none⟩)] w fun e w' => e = .returned (.bool (badN n l)) ∧ w' = w := by
  by_cases h1 : l < 0
  · have HF : Hid (badN n l = true) := by show badN n l = true; simp [badN, h1]
    go_enter Try.func74, Try.ntmps74
    go_wp2_with fail
    go_ret
    exact ⟨ret_bool HF.out.symm, rfl⟩
  · by_cases h2 : n ≤ l
    · have HF : Hid (badN n l = true) := by show badN n l = true; simp [badN, h2]
      go_enter Try.func74, Try.ntmps74
      go_wp2_with fail
      go_ret
      exact ⟨ret_bool HF.out.symm, rfl⟩
    · have HF : Hid (badN n l = false) := by show badN n l = false; simp [badN, h1, h2]
      go_enter Try.func74, Try.ntmps74
      go_wp2_with fail
      go_ret
      exact ⟨ret_bool HF.out.symm, rfl⟩
set_option maxRecDepth 100000 in
set_option maxHeartbeats 1600000 in
theorem indexBadN_any (n : Int) (c : Nat) (l : List Int) (v : Value) (hn : l.length ≤ 4000000000) (w : World) (hc : w.cell? ⟨c, 0, none⟩ = some (.int .i64 n)) (h : RowOf 1 encI l v w) : Calls Try.prog 125 #[v, .func (.func 74) #[] #[.pointer (some ⟨c, 0, none⟩)]] w fun e w' => ∃ k : Int, e = .returned (.int .i64 k) ∧ (anyN n l = true → 0 ≤ k) ∧ (anyN n l = false → k = -1) ∧ w' = w := by
  obtain ⟨ad, cp, rfl, k1, r⟩ := h.open'
  clear h
  go_enter Try.func125, Try.ntmps125
  go_wp2_with fail
  go_loopw [8] (fun i wr => ∃ j : Nat, j ≤ l.length ∧ i = .int .i64 (j : Int) ∧ Hid ((l.take j).any (badN n) = false) ∧ wr = w) (fun i _ => l.length - (intOf i).toNat)
  case atStart => exact ⟨0, Nat.zero_le _, rfl, rfl, rfl⟩
  case round =>
    obtain ⟨j, hj, rfl, hz, rfl⟩ := hrel
    have hj0 : (0 : Int) ≤ (j : Int) := by omega
    by_cases hlt : j < l.length
    · have hji : (j : Int) < (l.length : Int) := by omega
      have HT := Lib.hid (tk1 l hlt)
      have HA := Lib.hid (fun h => any_take (p := badN n) hlt h)
      obtain ⟨b, o, rfl, hcell⟩ := r.pick (by omega)
      have c0 := hcell j hlt 0 _ rfl
      simp only [Nat.mul_one, Nat.add_zero] at c0
      clear hcell
      generalize l[j]! = x at c0 HT HA
      have HB := Lib.hid (badN_any n x c wr hc)
      cases hb : badN n x with
      | true =>
        rw [hb] at HB
        have HR : Hid (anyN n l = true) := Lib.hid (HA.out hb)
        clear hb
        go_wp2_with (first | (go_at_call 74; refine HB.out.mono ?_; rintro e w3 ⟨rfl, rfl⟩))
        go_ret
        exact ⟨_, rfl, fun _ => hj0, (fun h => by rw [HR.out] at h; cases h), rfl⟩
      | false =>
        rw [hb] at HB
        have HS : Hid ((l.take (j + 1)).any (badN n) = false) := by
          show (l.take (j + 1)).any (badN n) = false
          rw [HT.out, List.any_append, hz.out]; simp [hb]
        clear hb
        go_wp2_with (first | (go_at_call 74; refine HB.out.mono ?_; rintro e w3 ⟨rfl, rfl⟩))
        go_roundw
        case rel => exact ⟨j + 1, by omega, by go_num, HS, by first | rfl | trivial⟩
        case measure => first | done | (simp [intOf]; done) | (simp [intOf]; omega)
    · have hji : ¬ (j : Int) < (l.length : Int) := by omega
      have HR : Hid (anyN n l = false) := by
        show l.any (badN n) = false
        have := hz.out
        rwa [List.take_of_length_le (by omega)] at this
      go_wp2_with fail
      go_ret
      exact ⟨-1, rfl, (fun h => by rw [HR.out] at h; cases h), fun _ => rfl, rfl⟩
set_option maxRecDepth 100000 in
theorem containsBadN_any (n : Int) (c : Nat) (l : List Int) (v : Value) (hn : l.length ≤ 4000000000) (w : World) (hc : w.cell? ⟨c, 0, none⟩ = some (.int .i64 n)) (h : RowOf 1 encI l v w) : Calls Try.prog 75 #[v, .func (.func 74) #[] #[.pointer (some ⟨c, 0, none⟩)]] w fun e w' => e = .returned (.bool (anyN n l)) ∧ w' = w := by
  have H := Lib.hid (indexBadN_any n c l v hn w hc h)
  clear h hc
  go_enter Try.func75, Try.ntmps75
  go_wp2_with fail
  refine H.out.mono ?_
  rintro e w' ⟨k, rfl, h1, h2, rfl⟩
  cases hm : anyN n l with
  | true =>
    have h3 := h1 hm
    have HM := Lib.hid hm
    clear h1 h2 hm
    go_wp2_with fail
    go_ret
    exact ⟨ret_bool HM.out.symm, rfl⟩
  | false =>
    obtain rfl := h2 hm
    have HM := Lib.hid hm
    clear h1 h2 hm
    go_wp2_with fail
    go_ret
    exact ⟨ret_bool HM.out.symm, rfl⟩
theorem faultN_large {n : Nl} (h : 128 < n.ins.length ∨ 128 < n.outN.length ∨ 288 < n.flops.length ∨ 1200 < n.gates.length) : faultN n = 3 := by unfold faultN; rw [if_pos h]
theorem faultN_form {n : Nl} (h : ¬ (128 < n.ins.length ∨ 128 < n.outN.length ∨ 288 < n.flops.length ∨ 1200 < n.gates.length)) (h2 : n.outs.length ≠ n.outN.length) : faultN n = 4 := by unfold faultN; rw [if_neg h, if_pos h2]
theorem faultN_next {n : Nl} (h : ¬ (128 < n.ins.length ∨ 128 < n.outN.length ∨ 288 < n.flops.length ∨ 1200 < n.gates.length)) (h2 : ¬ n.outs.length ≠ n.outN.length) : faultN n = if namesF (innL n) ≠ 0 then namesF (innL n) else if namesF n.outN ≠ 0 then namesF n.outN else if gatesF (fstN n) n.gates ≠ 0 then gatesF (fstN n) n.gates else endsF n := by unfold faultN; rw [if_neg h, if_neg h2]
theorem gates_drop {m : Int} {l : List Ga} {j : Nat} (hj : j < l.length) : gatesF m (l.drop j) = if gateF m l[j]! ≠ 0 then gateF m l[j]! else gatesF (m + 1) (l.drop (j + 1)) := by
  have e : l.drop j = l[j]! :: l.drop (j + 1) := by rw [getElem!_pos l j hj]; exact List.drop_eq_getElem_cons hj
  rw [e]; rfl
theorem gateF_large {m : Int} {g : Ga} (h : 6 < g.ins.length) : gateF m g = 3 := if_pos h
theorem gateF_form {m : Int} {g : Ga} (h : ¬ 6 < g.ins.length) (h2 : okT g.ins.length g.tab = false) : gateF m g = 4 := by unfold gateF; rw [if_neg h, if_pos h2]
theorem gateF_rest {m : Int} {g : Ga} (h : ¬ 6 < g.ins.length) (h2 : okT g.ins.length g.tab = true) : gateF m g = if anyN m g.ins = true then 2 else 0 := by unfold gateF; rw [if_neg h, if_neg (by rw [h2]; decide)]
theorem innL_sizes {n : Nl} (sg : SmN n) : (innL n).length ≤ 9000000000 ∧ ∀ x ∈ innL n, x.size ≤ 9000000000000000000 := by
  constructor
  · unfold innL; have := sg.ins; have := sg.flops; simp; omega
  · intro x hx
    unfold innL at hx
    rcases List.mem_append.1 hx with h | h
    · have := sg.insT x h; omega
    · obtain ⟨r, hr, rfl⟩ := List.mem_map.1 h; have := sg.flopT r hr; omega
theorem infoNS : (Try.prog.info? 9).map (fun i => (i.zero, i.size, i.bytes)) = some (some (.string ⟨#[]⟩), 1, 16) := by kernel_rfl
theorem infoNS_parts : ∃ i, Try.prog.info? 9 = some i ∧ i.zero = some (.string ⟨#[]⟩) ∧ i.size = 1 ∧ i.bytes = 16 := by
  have h := infoNS
  cases hi : Try.prog.info? 9 with
  | none => rw [hi] at h; cases h
  | some i =>
    rw [hi] at h
    simp only [Option.map_some, Option.some.injEq, Prod.mk.injEq] at h
    exact ⟨i, rfl, h.1, h.2.1, h.2.2⟩
theorem Own.ownK1 {B : Nat} {t : TypeId} {α : Type} {f : α → Value} {w : World} {v : Value} {l : List α} (h : Own B t f w v l) : OwnK B t 1 (fun x => [f x]) w v l := by
  unfold OwnK
  have : l.flatMap (fun x => [f x]) = l.map f := by
    clear h
    induction l with
    | nil => rfl
    | cons x l ih => simp [ih]
  rw [this]
  exact h
theorem lenT1 (x : ByteArray) : (encT x).length = 1 := rfl
theorem OwnK.mono1 {B B' : Nat} {t : TypeId} {k : Nat} {α : Type} {enc : α → List Value} {w : World} {v : Value} {l : List α} (h : OwnK B t k enc w v l) (hb : B' ≤ B) : OwnK B' t k enc w v l := World.ownsRow.mono h hb
set_option maxRecDepth 100000 in
set_option maxHeartbeats 16000000 in
theorem faultN_any (n : Nl) (v : Value) (sg : SmN n) (w : World) (hG : NO n v w) : Calls Try.prog 19 #[v] w fun e w' => e = .returned (.int .i64 (faultN n)) ∧ Below w.heap.size w w' := by
  have hG0 := hG
  obtain ⟨a, b, c, d0, e, a', b', c', d', e', rfl, hC, hA⟩ := hG.all
  clear hG
  have s1 := sg.ins
  have s2 := sg.outN
  have s3 := sg.flops
  have s4 := sg.gates
  have s5 := sg.outs
  go_enter Try.func19, Try.ntmps19
  go_upto_region 1 with fail
  have bel := (Below.refl w.heap.size w).alloc (Nat.le_refl _) (.cells #[.slice a n.ins.length a', .slice b n.outN.length b', .slice c n.flops.length c', .slice d0 n.gates.length d', .slice e n.outs.length e'] 27)
  have X := GX.new w (.slice a n.ins.length a') (.slice b n.outN.length b') (.slice c n.flops.length c') (.slice d0 n.gates.length d') (.slice e n.outs.length e') 27
  generalize w.alloc (.cells #[.slice a n.ins.length a', .slice b n.outN.length b', .slice c n.flops.length c', .slice d0 n.gates.length d', .slice e n.outs.length e'] 27) = W0 at bel X ⊢
  generalize hk : w.heap.size = k at X ⊢
  have HK := Lib.hid hk
  clear hk
  obtain ⟨x0, x1, x2, x3, x4⟩ := id X
  have HLA := Lib.hid (@faultN_large n)
  by_cases h1 : 128 < n.ins.length
  · have q1 : (128 : Int) < (n.ins.length : Int) := by omega
    go_wp2_with fail
    go_ret
    exact ⟨ret_num (HLA.out (.inl h1)).symm, bel⟩
  have q1 : ¬ (128 : Int) < (n.ins.length : Int) := by omega
  by_cases h2 : 128 < n.outN.length
  · have q2 : (128 : Int) < (n.outN.length : Int) := by omega
    go_wp2_with fail
    go_ret
    exact ⟨ret_num (HLA.out (.inr (.inl h2))).symm, bel⟩
  have q2 : ¬ (128 : Int) < (n.outN.length : Int) := by omega
  by_cases h3 : 288 < n.flops.length
  · have q3 : (288 : Int) < (n.flops.length : Int) := by omega
    go_wp2_with fail
    go_ret
    exact ⟨ret_num (HLA.out (.inr (.inr (.inl h3)))).symm, bel⟩
  have q3 : ¬ (288 : Int) < (n.flops.length : Int) := by omega
  by_cases h4 : 1200 < n.gates.length
  · have q4 : (1200 : Int) < (n.gates.length : Int) := by omega
    go_wp2_with fail
    go_ret
    exact ⟨ret_num (HLA.out (.inr (.inr (.inr h4)))).symm, bel⟩
  have q4 : ¬ (1200 : Int) < (n.gates.length : Int) := by omega
  have hl : ¬ (128 < n.ins.length ∨ 128 < n.outN.length ∨ 288 < n.flops.length ∨ 1200 < n.gates.length) := by omega
  have HLF := Lib.hid (@faultN_form n hl)
  have HNX := Lib.hid (@faultN_next n hl)
  clear HLA hl h1 h2 h3 h4
  by_cases h5 : n.outs.length = n.outN.length
  rotate_left
  · have q5 : ((n.outs.length : Int) == (n.outN.length : Int)) = false := beq_eq_false_iff_ne.2 (by omega)
    have q6 : ¬ (n.outs.length : Int) = (n.outN.length : Int) := by omega
    have HF := Lib.hid (HLF.out h5)
    clear h5 HLF HNX
    go_wp2_with fail
    go_ret
    exact ⟨ret_num HF.out.symm, bel⟩
  have H5 := Lib.hid h5
  have q5 : ((n.outs.length : Int) == (n.outN.length : Int)) = true := beq_iff_eq.2 (by omega)
  have q6 : ((n.outs.length : Int) != (n.outN.length : Int)) = false := by simp [bne, q5]
  replace HNX := Lib.hid (HNX.out (fun h => h h5))
  clear h5 HLF
  go_upto_region 5 with fail
  clear q5 q6
  have hkw := X.lt
  have HX := Lib.hid (fun W (hb : Below W0.heap.size W0 W) => X.below hb)
  have HA := Lib.hid (fun W (hb : Below W0.heap.size W0 W) => hA.below (bel.trans (hb.mono bel.size)))
  have HBEL := Lib.hid bel
  have HC := Lib.hid hC
  have HSG := Lib.hid sg
  obtain ⟨i0, ihi, ihz, ihs, ihb⟩ := infoNS_parts
  go_cut [3] (fun s3 wx => OwnK W0.heap.size 9 1 encT wx s3 n.ins ∧ Below W0.heap.size W0 wx)
  case first =>
    have hown0 := World.ownsRow_made (base := W0.heap.size) (size := 1) (e := 9) W0 #[] 0 (Nat.le_refl _) (by decide) rfl
    have hown1 : Own W0.heap.size 9 (fun s : ByteArray => Value.string s) _ _ [] := hown0
    have bA := (Below.refl W0.heap.size W0).alloc (Nat.le_refl _) (.cells #[] 9)
    have hI := (HA.out _ bA).ins
    have hcI := hC.ins
    have hnI := hC.insN
    have hsz := bA.size
    clear hC hA hG0 X sg
    go_wp2_with (at_builtin; refine wpList_append_row2 (f := fun s : ByteArray => Value.string s) (fun _ => rfl) rfl _ _ 22 rfl (W0.heap.size) 9 i0 (.string ⟨#[]⟩) 16 Try.underlying22 ihi ihz ihs ihb (by decide) _ [] rfl hown1 _ n.ins _ rfl hnI hcI hI (by unfold maxLen; first | omega | (simp; omega)) (by first | omega | (simp; omega)) (by first | omega | (simp; omega)) ?_)
    intro v5 w5 O5 hb5 hg5
    have O7 : OwnK W0.heap.size 9 1 encT w5 v5 n.ins := by simpa using O5.ownK1
    have B5 := bA.trans hb5
    clear O5 hb5 hg5 hown0 hown1 bA
    go_wp2_with fail
    go_meet
    exact ⟨O7, B5⟩
  case rest =>
  obtain ⟨O1, B1⟩ := hcut
  clear x0 x1 x2 x3 x4 X hA hG0 hC bel sg hkw
  obtain ⟨x0, x1, x2, x3, x4⟩ := HX.out _ B1
  go_upto_block 0 with fail
  clear x0 x1 x2 x3 x4
  go_wp2_with fail
  go_loopw [3, 49] (fun u i wr => ∃ j : Nat, j ≤ n.flops.length ∧ i = .int .i64 (j : Int) ∧ Hid (OwnK W0.heap.size 9 1 encT wr u (n.ins ++ (n.flops.take j).map (·.nm))) ∧ Hid (Below W0.heap.size W0 wr)) (fun _ i _ => n.flops.length - (intOf i).toNat)
  case atStart => exact ⟨0, Nat.zero_le _, rfl, Lib.hid (by simpa using O1), Lib.hid B1⟩
  case round =>
    clear O1 B1
    obtain ⟨j, hj, rfl, hO, hB⟩ := hrel
    rename World => WR
    have hj0 : (0 : Int) ≤ (j : Int) := by omega
    by_cases hlt : j < n.flops.length
    · have hji : (j : Int) < (n.flops.length : Int) := by omega
      have HT := Lib.hid (show n.ins ++ (n.flops.take (j + 1)).map (·.nm) = (n.ins ++ (n.flops.take j).map (·.nm)) ++ [n.flops[j]!.nm] by rw [tk1 _ hlt, List.map_append, List.append_assoc]; rfl)
      have HL : (n.ins ++ (n.flops.take j).map (·.nm)).length ≤ 9000000000 := by simp; omega
      obtain ⟨bb, oo, hdd, hcell⟩ := (HA.out _ hB.out).flops.pick (by omega)
      subst hdd
      have c0 := hcell j hlt 0 _ rfl
      have c1 := hcell j hlt 1 _ rfl
      have c2 := hcell j hlt 2 _ rfl
      have c3 := hcell j hlt 3 _ rfl
      have c4 := hcell j hlt 4 _ rfl
      simp only [Nat.add_zero] at c0
      clear hcell
      generalize n.ins ++ (n.flops.take j).map (·.nm) = L at HT HL hO
      generalize n.flops[j]! = r at c0 c1 c2 c3 c4 HT
      obtain ⟨r0, r1, r2, r3, r4⟩ := r
      simp only at c0 c1 c2 c3 c4 HT
      obtain ⟨ad, cp, hv⟩ := hO.out.slice
      subst hv
      go_upto_region 9 with fail
      have bA := (Below.refl WR.heap.size WR).alloc (Nat.le_refl _) (.cells #[.string r0, .int .i64 r1, .int .i64 r2, .int .i64 r3, .bool r4] 84)
      have y0 : (WR.alloc (.cells #[.string r0, .int .i64 r1, .int .i64 r2, .int .i64 r3, .bool r4] 84)).cell? ⟨WR.heap.size, 0, none⟩ = some (.string r0) := by go_simp
      have O2 := hO.out.below bA
      have B2 := hB.out.trans (bA.mono hB.out.size)
      have hs2 := B2.size
      clear bA c0 c1 c2 c3 c4
      generalize WR.alloc (.cells #[.string r0, .int .i64 r1, .int .i64 r2, .int .i64 r3, .bool r4] 84) = WS at O2 B2 hs2 y0 ⊢
      generalize WR.heap.size = q10 at y0 ⊢
      have O4 := O2.below ((Below.refl _ WS).alloc (Nat.le_refl _) (.cells #[.string r0] 9))
      have hy : ∀ (q : Nat) (u : Value), (encT r0)[q]? = some u → (WS.alloc (.cells #[.string (r0)] 9)).cell? ⟨WS.heap.size, q, none⟩ = some u := by
        intro q u hq
        match q, hq with
        | 0, hq => cases hq; go_simp
      go_wp2_with (at_builtin; refine wpList_append_one (enc := encT) (k := 1) (fun _ => rfl) (by decide) (fun x u hu => by simp at hu; rcases hu with rfl; rfl) rfl _ _ 22 rfl (W0.heap.size) 9 i0 (.string ⟨#[]⟩) 16 Try.underlying22 ihi ihz ihs ihb (by decide) _ L rfl O4 WS.heap.size 1 (r0) rfl hy (show L.length + 1 ≤ maxLen by unfold maxLen; omega) (show (L.length + 1) * 16 ≤ 140737488355328 by omega) (by first | omega | (simp; omega)) ?_)
      intro v5 w5 O5 hb5 hg5
      have HO5 := Lib.hid O5
      have HB5 := Lib.hid (B2.trans (((Below.refl _ WS).alloc hs2 _).trans hb5))
      clear O5 hb5 hg5 O4 hy hO hB y0 O2 B2
      go_wp2_with fail
      go_roundw
      case rel => exact ⟨j + 1, by omega, by go_num, (by rw [HT.out]; exact HO5), HB5⟩
      all_goals first | done | (simp [intOf]; done) | (simp [intOf]; omega)
    · have hji : ¬ (j : Int) < (n.flops.length : Int) := by omega
      have hO2 := hO.out
      rw [List.take_of_length_le (by omega), show n.ins ++ n.flops.map (·.nm) = innL n from rfl] at hO2
      have hB2 := hB.out
      have HLL := Lib.hid (show (innL n).length = n.ins.length + n.flops.length by unfold innL; simp)
      obtain ⟨hn1, hn2⟩ := innL_sizes HSG.out
      clear hO hB hlt
      obtain ⟨x0, x1, x2, x3, x4⟩ := HX.out _ hB2
      go_upto_region 11 with fail
      have HBS := Lib.hid (fun d os => below_regrown WR d os)
      have HQ1 := Lib.hid (fun W (hb : Below WR.heap.size WR W) => rnames_row (innL n) _ hn1 hn2 W ((hO2.row lenT1).below hb))
      have HQ2 := Lib.hid (fun W (hb : Below W0.heap.size W0 W) => rnames_row n.outN _ (by omega) (fun x hx => by have := HSG.out.outT x hx; omega) W (RowOf.mk HC.out.outN (HA.out _ hb).outN))
      have HBW := Lib.hid (fun d os => hB2.trans ((below_regrown WR d os).mono hB2.size))
      have HE := Lib.hid (show orL [namesF (innL n), namesF n.outN] = if namesF (innL n) = 0 then (if namesF n.outN = 0 then 0 else namesF n.outN) else namesF (innL n) from rfl)
      generalize namesF (innL n) = e1 at HQ1 HE HNX
      generalize namesF n.outN = e2 at HQ2 HE HNX
      have HOr := Lib.hid (fun v2 W2 h => or_any [e1, e2] v2 (by simp) W2 h)
      generalize orL [e1, e2] = E at HE HOr
      have HO2 := Lib.hid (fun W (hb : Below WR.heap.size WR W) => hO2.below hb)
      obtain ⟨ad3, cp3, hv3⟩ := hO2.slice
      subst hv3
      have g0 := cell_regrown x0
      have g1 := cell_regrown x1
      have g2 := cell_regrown x2
      have g3 := cell_regrown x3
      have g4 := cell_regrown x4
      clear x0 x1 x2 x3 x4 hO2
      refine wp_region_rel 8 (by kernel_rfl) (by kernel_rfl) ?_
      simp only [List.take_succ_cons, List.take_zero, List.drop_succ_cons, List.drop_zero]
      (refine rel_fix0 (fun K hK => ?_); go_simp; refine hK _ ?_; clear hK K)
      (refine rel_fix0 (fun K hK => ?_); go_simp; apply Exists.intro; refine ⟨fun _ _ => ?_, hK _ ?_⟩; (with_reducible exact ret_fix (HQ1.out _ (HBS.out _ _))); clear hK K)
      (refine rel_fix0 (fun K hK => ?_); go_simp; refine hK _ ?_; clear hK K)
      (refine rel_fix0 (fun K hK => ?_); go_simp; refine hK _ ?_; clear hK K)
      (refine rel_fix0 (fun K hK => ?_); go_simp; apply Exists.intro; refine ⟨fun _ _ => ?_, hK _ ?_⟩; (with_reducible exact ret_fix (HQ2.out _ (HBW.out _ _))); clear hK K)
      refine rel_fact [] (RowOf 1 encI [e1, e2]) 64 rfl (by simp [Act.put]) (row_sta _ _ _) (by rfl) (by kernel_rfl) (by kernel_rfl) ?_ ?_
      · intro d os
        simp only [relAll]
        go_simp
        refine ⟨⟨_, _, rfl, by simp, .inr ⟨_, 0, rfl, fun j hj c x hx => ?_⟩⟩, (Below.refl _ _).alloc (Nat.le_of_eq Array.size_append.symm) _⟩
        match j, hj, c, hx with
        | 0, _, 0, hx => cases hx; go_simp
        | 1, _, 0, hx => cases hx; go_simp
      refine rel_use [(64, _)] (.int .i64 E) (by rfl) (by kernel_rfl) (by kernel_rfl) ?_ ?_
      · intro d os
        simp only [relAll]
        rintro u1 r1
        go_simp
        exact ret_fix (HOr.out _ _ r1)
      (refine rel_fix (by kernel_rfl) (by kernel_rfl) (fun K hK => ?_); go_simp; refine hK _ ?_; clear hK K)
      refine rel_nil ?_
      intro d os
      simp only [relAll]
      rintro v64 -
      have hB3 := HBW.out d os
      have HO3 := HO2.out _ (HBS.out d os)
      clear g0 g1 g2 g3 g4 HOr HQ1 HQ2 HBS HBW HO2 hB2
      generalize grow (redrawn _ d) os = W1 at hB3 HO3 ⊢
      obtain ⟨x0, x1, x2, x3, x4⟩ := HX.out _ hB3
      by_cases h6 : E = 0
      rotate_left
      · have q5 : (E == 0) = false := beq_eq_false_iff_ne.2 h6
        have q6 : (E != 0) = true := by simp [bne, q5]
        have HF := Lib.hid (show faultN n = E by
          have he := HE.out
          rw [HNX.out]
          by_cases a1 : e1 = 0
          · rw [if_pos a1] at he
            rw [if_neg (fun h => h a1)]
            by_cases a2 : e2 = 0
            · rw [if_pos a2] at he; exact absurd he h6
            · rw [if_neg a2] at he; rw [if_pos a2]; exact he.symm
          · rw [if_neg a1] at he; rw [if_pos a1]; exact he.symm)
        have HB9 := Lib.hid (HBEL.out.trans (hB3.mono HBEL.out.size))
        clear h6
        go_wp2_with fail
        go_ret
        exact ⟨ret_num HF.out.symm, HB9.out⟩
      have HN2 := Lib.hid (show faultN n = if gatesF (fstN n) n.gates ≠ 0 then gatesF (fstN n) n.gates else endsF n by
        have he := HE.out
        rw [h6] at he
        rw [HNX.out]
        by_cases a1 : e1 = 0
        · rw [if_pos a1] at he
          rw [if_neg (fun h => h a1)]
          by_cases a2 : e2 = 0
          · rw [if_neg (fun h => h a2)]
          · rw [if_neg a2] at he; exact absurd he.symm a2
        · rw [if_neg a1] at he; exact absurd he.symm a1)
      subst h6
      clear HE HNX x0 x1 x2 x3 x4
      have hLL : (innL n).length ≤ 1000 := by have := HLL.out; omega
      have HF0 := Lib.hid (show 2 + ((innL n).length : Int) = (fstN n : Nat) by rw [HLL.out]; unfold fstN; push_cast; omega)
      have H1 := Lib.hid (fun W (hb : Below W0.heap.size W0 W) => hb)
      clear HO3 hn1 hn2
      generalize (innL n).length = LL at HF0 hLL ⊢
      go_upto_region 15 with fail
      have C0 : Cnt W1.heap.size (2 + (LL : Int)) (W1.alloc (.cells #[.int .i64 (2 + (LL : Int))] 3)) := by constructor <;> go_simp
      have hB4 := hB3.trans (((Below.refl _ W1).alloc (Nat.le_refl _) (.cells #[.int .i64 (2 + (LL : Int))] 3)).mono hB3.size)
      have hcb : W0.heap.size ≤ W1.heap.size := hB3.size
      clear hB3
      generalize W1.alloc (.cells #[.int .i64 (2 + (LL : Int))] 3) = W2 at C0 hB4 ⊢
      generalize W1.heap.size = cb at C0 hcb ⊢
      rw [HF0.out] at C0
      have HNG := Lib.hid (fun (e : Int) (he : e ≠ 0) (h : gatesF (fstN n : Nat) n.gates = e) => show faultN n = e by rw [HN2.out, h, if_pos he])
      have HNE := Lib.hid (fun (h : gatesF (fstN n : Nat) n.gates = 0) => show faultN n = endsF n by rw [HN2.out, h, if_neg (fun h => h rfl)])
      have HM := Lib.hid (show ((fstN n : Nat) : Int) + (n.gates.length : Int) = (netsN n : Nat) by unfold netsN; push_cast; rfl)
      have hf1 : ((fstN n : Nat) : Int) ≤ 2000 := by have := HF0.out; omega
      have hf0 : 0 ≤ ((fstN n : Nat) : Int) := by omega
      clear HN2 HF0 hLL
      generalize ((fstN n : Nat) : Int) = F0 at C0 HNG HNE HM hf0 hf1
      obtain ⟨x0, x1, x2, x3, x4⟩ := HX.out _ hB4
      go_upto_block 2 with fail
      clear x0 x1 x2 x3 x4
      go_wp2_with fail
      go_loopw [76] (fun i wr => ∃ j : Nat, j ≤ n.gates.length ∧ i = .int .i64 (j : Int) ∧ Hid (gatesF F0 n.gates = gatesF (F0 + j) (n.gates.drop j)) ∧ Hid (Cnt cb (F0 + j) wr) ∧ Hid (Below W0.heap.size W0 wr)) (fun i _ => n.gates.length - (intOf i).toNat)
      case atStart => exact ⟨0, Nat.zero_le _, rfl, Lib.hid (by simp), Lib.hid (by simpa using C0), Lib.hid hB4⟩
      case round =>
        clear C0 hB4 H1
        obtain ⟨j, hj, rfl, hE, hC1, hB⟩ := hrel
        rename World => WG
        have hj0 : (0 : Int) ≤ (j : Int) := by omega
        by_cases hlt : j < n.gates.length
        · have hji : (j : Int) < (n.gates.length : Int) := by omega
          have HD := Lib.hid (show gatesF F0 n.gates = if gateF (F0 + j) n.gates[j]! ≠ 0 then gateF (F0 + j) n.gates[j]! else gatesF (F0 + j + 1) (n.gates.drop (j + 1)) by rw [hE.out, gates_drop hlt])
          have hA1 := HA.out _ hB.out
          have hI := hA1.each j hlt
          have hg6 := HSG.out.gateI j hlt
          obtain ⟨bb, oo, hdd, hcell⟩ := hA1.gates.pick (by omega)
          subst hdd
          have c0 := hcell j hlt 0 _ rfl
          have c1 := hcell j hlt 1 _ rfl
          have c2 := hcell j hlt 2 _ rfl
          simp only [Nat.add_zero] at c0
          clear hcell hA1 hE
          generalize n.gates[j]! = y at c0 c1 c2 HD hI hg6
          obtain ⟨y0, y1, y2, y3, y4⟩ := y
          obtain ⟨hr, hcp, hnl⟩ := hI
          simp only at c0 c1 c2 HD hr hcp hnl hg6
          have HNX2 : Hid (F0 + (j : Int) + 1 = F0 + ((j + 1 : Nat) : Int)) := Lib.hid (by omega)
          have hm0 : 0 ≤ F0 + (j : Int) := by omega
          have hm1 : F0 + (j : Int) ≤ 100000 := by omega
          have hC := hC1.out
          have hB5 := hB.out
          clear hC1 hB
          generalize F0 + (j : Int) = m at HD HNX2 hC hm0 hm1
          go_upto_block 4 with fail
          have bA := (Below.refl WG.heap.size WG).alloc (Nat.le_refl _) (.cells #[.int .i64 y0, .int .u64 (U y1), .slice y3 y2.length y4] 82)
          have z1 : (WG.alloc (.cells #[.int .i64 y0, .int .u64 (U y1), .slice y3 y2.length y4] 82)).cell? ⟨WG.heap.size, 1, none⟩ = some (.int .u64 (U y1)) := by go_simp
          have z2 : (WG.alloc (.cells #[.int .i64 y0, .int .u64 (U y1), .slice y3 y2.length y4] 82)).cell? ⟨WG.heap.size, 2, none⟩ = some (.slice y3 y2.length y4) := by go_simp
          have hB6 := hB5.trans (bA.mono hB5.size)
          have hC6 := hC.below bA
          have hr6 := hr.below bA
          clear c0 c1 c2 bA hC hr hB5
          generalize WG.alloc (.cells #[.int .i64 y0, .int .u64 (U y1), .slice y3 y2.length y4] 82) = WH at z1 z2 hB6 hC6 hr6 ⊢
          generalize WG.heap.size = q10 at z1 z2 ⊢
          by_cases h6 : 6 < y2.length
          · have q6 : (6 : Int) < (y2.length : Int) := by omega
            have HF := Lib.hid (HNG.out 3 (by decide) (by rw [HD.out, gateF_large h6]; rfl))
            have HB9 := Lib.hid (HBEL.out.trans (hB6.mono HBEL.out.size))
            clear HD
            go_wp2_with fail
            go_ret
            exact ⟨ret_num HF.out.symm, HB9.out⟩
          have q6 : ¬ (6 : Int) < (y2.length : Int) := by omega
          have HRm := Lib.hid (fun W => room_any (y2.length : Int) W)
          rw [roomI_nat] at HRm
          have hok := okT_or y2.length y1
          have HD4 := Lib.hid (fun h => gateF_form (m := m) (g := ⟨y0, y1, y2, y3, y4⟩) h6 h)
          have HD5 := Lib.hid (fun h => gateF_rest (m := m) (g := ⟨y0, y1, y2, y3, y4⟩) h6 h)
          simp only at HD4 HD5
          clear h6
          generalize roomB y2.length = R at HRm hok
          generalize okT y2.length y1 = bo at hok HD4 HD5
          go_upto_region 21 with fail
          have HBS := Lib.hid (fun d os => below_regrown WH d os)
          have HRR := Lib.hid (fun W => (HRm.out W).mono fun e w' h => show e = .returned (.int .u64 (U R)) ∧ Below W.heap.size W w' from ⟨h.1, by rw [h.2]; exact Below.refl _ _⟩)
          have g1 := cell_regrown z1
          have g2 := cell_regrown z2
          have HZ2 := Lib.hid z2
          clear z1 z2 HRm
          cases bo with
          | false =>
            have hne : (y1 ||| R != R) = true := by
              rw [bne_iff_ne]
              intro h
              exact absurd (hok.1 h) (by decide)
            clear hok
            refine wp_region_rel 13 (by kernel_rfl) (by kernel_rfl) ?_
            simp only [List.take_succ_cons, List.take_zero, List.drop_succ_cons, List.drop_zero]
            (refine rel_fix0 (fun K hK => ?_); go_simp; refine hK _ ?_; clear hK K)
            (refine rel_fix0 (fun K hK => ?_); go_simp; refine hK _ ?_; clear hK K)
            (refine rel_fix0 (fun K hK => ?_); go_simp; refine hK _ ?_; clear hK K)
            (refine rel_fix0 (fun K hK => ?_); go_simp; refine hK _ ?_; clear hK K)
            (refine rel_fix0 (fun K hK => ?_); go_simp; refine hK _ ?_; clear hK K)
            (refine rel_fix0 (fun K hK => ?_); go_simp; apply Exists.intro; refine ⟨fun _ _ => ?_, hK _ ?_⟩; (with_reducible exact ret_fix (HRR.out _)); clear hK K)
            (refine rel_fix0 (fun K hK => ?_); go_simp; refine hK _ ?_; clear hK K)
            (refine rel_fix0 (fun K hK => ?_); go_simp; refine hK _ ?_; clear hK K)
            (refine rel_fix0 (fun K hK => ?_); go_simp; refine hK _ ?_; clear hK K)
            (refine rel_fix0 (fun K hK => ?_); go_simp; refine hK _ ?_; clear hK K)
            (refine rel_fix0 (fun K hK => ?_); go_simp; apply Exists.intro; refine ⟨fun _ _ => ?_, hK _ ?_⟩; (with_reducible exact ret_fix (HRR.out _)); clear hK K)
            (refine rel_fix0 (fun K hK => ?_); go_simp; refine hK _ ?_; clear hK K)
            (refine rel_fix0 (fun K hK => ?_); go_simp; refine hK _ ?_; clear hK K)
            refine rel_nil ?_
            intro d os
            simp only [relAll]
            have hB7 := hB6.trans ((HBS.out d os).mono hB6.size)
            have HF := Lib.hid (HNG.out 4 (by decide) (by rw [HD.out, HD4.out rfl]; rfl))
            have HB9 := Lib.hid (HBEL.out.trans (hB7.mono HBEL.out.size))
            clear g1 g2 HBS HRR HD
            generalize grow (redrawn _ d) os = W5 at HB9 ⊢
            go_wp2_with fail
            go_ret
            exact ⟨ret_num HF.out.symm, HB9.out⟩
          | true =>
            have hne : (y1 ||| R != R) = false := by
              rw [hok.2 rfl]; simp
            clear hok
            refine wp_region_rel 13 (by kernel_rfl) (by kernel_rfl) ?_
            simp only [List.take_succ_cons, List.take_zero, List.drop_succ_cons, List.drop_zero]
            (refine rel_fix0 (fun K hK => ?_); go_simp; refine hK _ ?_; clear hK K)
            (refine rel_fix0 (fun K hK => ?_); go_simp; refine hK _ ?_; clear hK K)
            (refine rel_fix0 (fun K hK => ?_); go_simp; refine hK _ ?_; clear hK K)
            (refine rel_fix0 (fun K hK => ?_); go_simp; refine hK _ ?_; clear hK K)
            (refine rel_fix0 (fun K hK => ?_); go_simp; refine hK _ ?_; clear hK K)
            (refine rel_fix0 (fun K hK => ?_); go_simp; apply Exists.intro; refine ⟨fun _ _ => ?_, hK _ ?_⟩; (with_reducible exact ret_fix (HRR.out _)); clear hK K)
            (refine rel_fix0 (fun K hK => ?_); go_simp; refine hK _ ?_; clear hK K)
            (refine rel_fix0 (fun K hK => ?_); go_simp; refine hK _ ?_; clear hK K)
            (refine rel_fix0 (fun K hK => ?_); go_simp; refine hK _ ?_; clear hK K)
            (refine rel_fix0 (fun K hK => ?_); go_simp; refine hK _ ?_; clear hK K)
            (refine rel_fix0 (fun K hK => ?_); go_simp; apply Exists.intro; refine ⟨fun _ _ => ?_, hK _ ?_⟩; (with_reducible exact ret_fix (HRR.out _)); clear hK K)
            (refine rel_fix0 (fun K hK => ?_); go_simp; refine hK _ ?_; clear hK K)
            (refine rel_fix0 (fun K hK => ?_); go_simp; refine hK _ ?_; clear hK K)
            refine rel_nil ?_
            intro d os
            simp only [relAll]
            have hB7 := hB6.trans ((HBS.out d os).mono hB6.size)
            have hC7 := hC6.below (HBS.out d os)
            have hr7 := hr6.below (HBS.out d os)
            have z2 := (HBS.out d os).cell (p := ⟨q10, 2, none⟩) (World.block_lt_of_cell? _ _ HZ2.out)
            rw [HZ2.out] at z2
            have HD6 := Lib.hid (HD5.out rfl)
            clear g1 g2 HBS HRR HD4 HD5 hB6 hC6 hr6 HZ2 hne
            generalize grow (redrawn _ d) os = W5 at hB7 hC7 hr7 z2 ⊢
            have HCB := Lib.hid (containsBadN_any m cb y2 (.slice y3 y2.length y4) (by omega) W5 hC7.cell (RowOf.mk hcp hr7))
            cases hb : anyN m y2 with
            | true =>
              rw [hb] at HCB HD6
              have HF := Lib.hid (HNG.out 2 (by decide) (by rw [HD.out, HD6.out]; rfl))
              have HB9 := Lib.hid (HBEL.out.trans (hB7.mono HBEL.out.size))
              clear HD hb HD6
              go_wp2_with (first | (go_at_call 75; refine HCB.out.mono ?_; rintro e w3 ⟨rfl, rfl⟩))
              go_ret
              exact ⟨ret_num HF.out.symm, HB9.out⟩
            | false =>
              rw [hb] at HCB HD6
              have HE2 := Lib.hid (show gatesF F0 n.gates = gatesF (F0 + ((j + 1 : Nat) : Int)) (n.gates.drop (j + 1)) by rw [HD.out, HD6.out, ← HNX2.out]; rfl)
              clear HD hb HD6 hr7
              have cc := hC7.cell
              have cf := hC7.free
              have HC2 := Lib.hid (hC7.set2 (m + 1) _ HNX2.out)
              have HB9 := Lib.hid (hB7.setCell (p := ⟨cb, 0, none⟩) hcb (.int .i64 (m + 1)))
              clear hC7 hB7
              go_wp2_with (first | (go_at_call 75; refine HCB.out.mono ?_; rintro e w3 ⟨rfl, rfl⟩))
              go_roundw
              case rel => exact ⟨j + 1, by omega, by go_num, HE2, HC2, HB9⟩
              all_goals first | done | (simp [intOf]; done) | (simp [intOf]; omega)
        · have hji : ¬ (j : Int) < (n.gates.length : Int) := by omega
          have hjj : j = n.gates.length := by omega
          have HN3 := Lib.hid (HNE.out (by rw [hE.out, hjj, List.drop_of_length_le (Nat.le_refl _)]; rfl))
          have hC := hC1.out
          have hB7 := hB.out
          rw [hjj, HM.out] at hC
          clear hC1 hB hE HNE HNG hjj
          have hm1 : ((netsN n : Nat) : Int) ≤ 100000 := by have := HM.out; omega
          have hm0 : 0 ≤ ((netsN n : Nat) : Int) := by omega
          have HEN := Lib.hid (show endsF n = if (n.flops.any fun f => badN (netsN n : Nat) f.d || badN (netsN n : Nat) f.en) = true ∨ anyN (netsN n : Nat) n.outs = true then 2 else 0 from rfl)
          clear HM
          generalize ((netsN n : Nat) : Int) = m at hC HEN hm0 hm1
          obtain ⟨x0, x1, x2, x3, x4⟩ := HX.out _ hB7
          go_upto_block 5 with fail
          clear x0 x1 x2 x3 x4
          go_wp2_with fail
          go_loopw [109] (fun i wr => ∃ j : Nat, j ≤ n.flops.length ∧ i = .int .i64 (j : Int) ∧ Hid (((n.flops.take j).any fun f => badN m f.d || badN m f.en) = false) ∧ Hid (Cnt cb m wr) ∧ Hid (Below W0.heap.size W0 wr)) (fun i _ => n.flops.length - (intOf i).toNat)
          case atStart => exact ⟨0, Nat.zero_le _, rfl, Lib.hid rfl, Lib.hid hC, Lib.hid hB7⟩
          case round =>
            clear hC hB7
            obtain ⟨j, hj, rfl, hR1, hC1, hB⟩ := hrel
            rename World => WF
            have hj0 : (0 : Int) ≤ (j : Int) := by omega
            have hC := hC1.out
            have hB5 := hB.out
            clear hC1 hB
            by_cases hlf : j < n.flops.length
            · have hjf : (j : Int) < (n.flops.length : Int) := by omega
              have HT := Lib.hid (tk1 n.flops hlf)
              have HAY := Lib.hid (fun h => any_take (p := fun f : Fl => badN m f.d || badN m f.en) hlf h)
              obtain ⟨bb, oo, hdd, hcell⟩ := (HA.out _ hB5).flops.pick (by omega)
              subst hdd
              have c0 := hcell j hlf 0 _ rfl
              have c1 := hcell j hlf 1 _ rfl
              have c2 := hcell j hlf 2 _ rfl
              have c3 := hcell j hlf 3 _ rfl
              have c4 := hcell j hlf 4 _ rfl
              simp only [Nat.add_zero] at c0
              clear hcell
              generalize n.flops[j]! = r at c0 c1 c2 c3 c4 HT HAY
              obtain ⟨r0, r1, r2, r3, r4⟩ := r
              simp only at c0 c1 c2 c3 c4 HAY
              go_upto_region 30 with fail
              have bA := (Below.refl WF.heap.size WF).alloc (Nat.le_refl _) (.cells #[.string r0, .int .i64 r1, .int .i64 r2, .int .i64 r3, .bool r4] 84)
              have y2 : (WF.alloc (.cells #[.string r0, .int .i64 r1, .int .i64 r2, .int .i64 r3, .bool r4] 84)).cell? ⟨WF.heap.size, 2, none⟩ = some (.int .i64 r2) := by go_simp
              have y3 : (WF.alloc (.cells #[.string r0, .int .i64 r1, .int .i64 r2, .int .i64 r3, .bool r4] 84)).cell? ⟨WF.heap.size, 3, none⟩ = some (.int .i64 r3) := by go_simp
              have hB6 := hB5.trans (bA.mono hB5.size)
              have hC6 := hC.below bA
              clear bA c0 c1 c2 c3 c4 hC hB5
              generalize WF.alloc (.cells #[.string r0, .int .i64 r1, .int .i64 r2, .int .i64 r3, .bool r4] 84) = WS at y2 y3 hB6 hC6 ⊢
              generalize WF.heap.size = q10 at y2 y3 ⊢
              have B1 := Lib.hid (badN_any m r2 cb WS hC6.cell)
              have B2 := Lib.hid (badN_any m r3 cb WS hC6.cell)
              have HB9 := Lib.hid (HBEL.out.trans (hB6.mono HBEL.out.size))
              cases hb1 : badN m r2 with
              | true =>
                rw [hb1] at B1
                have HF := Lib.hid (show faultN n = 2 by rw [HN3.out, HEN.out, if_pos (.inl (HAY.out (by rw [hb1]; rfl)))])
                clear hb1 B2 HAY
                go_wp2_with (first | (go_at_call 74; refine B1.out.mono ?_; rintro e w3 ⟨rfl, rfl⟩))
                go_ret
                exact ⟨ret_num HF.out.symm, HB9.out⟩
              | false =>
                rw [hb1] at B1
                cases hb2 : badN m r3 with
                | true =>
                  rw [hb2] at B2
                  have HF := Lib.hid (show faultN n = 2 by rw [HN3.out, HEN.out, if_pos (.inl (HAY.out (by rw [hb1, hb2]; rfl)))])
                  clear hb1 hb2 HAY
                  go_wp2_with (first | (go_at_call 74; refine B1.out.mono ?_; rintro e w3 ⟨rfl, rfl⟩; clear B1))
                  go_wp2_with (first | (go_at_call 74; refine B2.out.mono ?_; rintro e w3 ⟨rfl, rfl⟩; clear B2))
                  go_ret
                  exact ⟨ret_num HF.out.symm, HB9.out⟩
                | false =>
                  rw [hb2] at B2
                  have HS : Hid (((n.flops.take (j + 1)).any fun f => badN m f.d || badN m f.en) = false) := Lib.hid (by rw [HT.out, List.any_append, hR1.out]; simp [hb1, hb2])
                  have HC2 := Lib.hid hC6
                  have HB2 := Lib.hid hB6
                  clear hb1 hb2 HAY hC6 hB6
                  go_wp2_with (first | (go_at_call 74; refine B1.out.mono ?_; rintro e w3 ⟨rfl, rfl⟩; clear B1))
                  go_wp2_with (first | (go_at_call 74; refine B2.out.mono ?_; rintro e w3 ⟨rfl, rfl⟩; clear B2))
                  go_roundw
                  case rel => exact ⟨j + 1, by omega, by go_num, HS, HC2, HB2⟩
                  all_goals first | done | (simp [intOf]; done) | (simp [intOf]; omega)
            · have hjf : ¬ (j : Int) < (n.flops.length : Int) := by omega
              have HR0 : Hid ((n.flops.any fun f => badN m f.d || badN m f.en) = false) := Lib.hid (by
                have := hR1.out
                rwa [List.take_of_length_le (by omega)] at this)
              have B1 := Lib.hid (containsBadN_any m cb n.outs (.slice e n.outs.length e') (by omega) WF hC.cell (RowOf.mk HC.out.outs (HA.out _ hB5).outs))
              have HB9 := Lib.hid (HBEL.out.trans (hB5.mono HBEL.out.size))
              obtain ⟨x0, x1, x2, x3, x4⟩ := HX.out _ hB5
              cases hb1 : anyN m n.outs with
              | true =>
                rw [hb1] at B1
                have HF := Lib.hid (show faultN n = 2 by rw [HN3.out, HEN.out, if_pos (.inr hb1)])
                clear hb1
                go_wp2_with (first | (go_at_call 75; refine B1.out.mono ?_; rintro e w3 ⟨rfl, rfl⟩))
                go_ret
                exact ⟨ret_num HF.out.symm, HB9.out⟩
              | false =>
                rw [hb1] at B1
                have HF := Lib.hid (show faultN n = 0 by rw [HN3.out, HEN.out, if_neg (by rw [HR0.out, hb1]; simp)])
                clear hb1
                go_wp2_with (first | (go_at_call 75; refine B1.out.mono ?_; rintro e w3 ⟨rfl, rfl⟩))
                go_ret
                exact ⟨ret_num HF.out.symm, HB9.out⟩
end Go.Proofs.Ytimojbjamfckmaa
