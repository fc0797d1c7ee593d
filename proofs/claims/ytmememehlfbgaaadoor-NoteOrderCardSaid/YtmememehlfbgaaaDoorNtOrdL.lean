/- The law NoteOrder: how its list is made. Conditions: the integers that the stream reads. -/
import Derived.Test.YtmememehlfbgaaaDoorNMsg
import Derived.Test.YtmememehlfbgaaaDoorNtLaw
import Derived.Test.YtmememehlfbgaaaDoorNtOrdM
namespace Go.Proofs.YtmememehlfbgaaaDoor
open Go Go.RowKit Go.Sort Go.Lib
set_option linter.unusedVariables false
/-- the stream is kept where a row of the call's own alone has changed -/
theorem str_row {a : Option Addr} {len cap k : Nat} {w W W' : World} {r : Option Nat} (hS : Sl a len w) (h : Str w.heap.size a len cap k W) (hg : W.grownBy W' r) (hr : ∀ g, r = some g → w.heap.size < g) (hl : Below w.heap.size w W) : Str w.heap.size a len cap k W' := by
  have hlt : w.heap.size < W.heap.size := World.block_lt_of_cell? W _ h.c0
  have hb : W'.heap[w.heap.size]? = W.heap[w.heap.size]? := hg.block _ hlt (fun e => by have := hr _ e.symm; omega)
  have hc : ∀ o, W'.cell? ⟨w.heap.size, o, none⟩ = W.cell? ⟨w.heap.size, o, none⟩ := fun o => World.cell?_of_block (a := ⟨w.heap.size, o, none⟩) hb
  have hf : W'.frozen? ⟨w.heap.size, 1, none⟩ = W.frozen? ⟨w.heap.size, 1, none⟩ := World.frozen?_of_block (a := ⟨w.heap.size, 1, none⟩) hb
  refine ⟨(hc 0).trans h.c0, (hc 1).trans h.c1, hf.trans h.fz, h.rd.le, fun j hj => ?_⟩
  obtain ⟨bl, off, z, h1, h2, h3⟩ := h.rd.el j hj
  obtain ⟨bl', off', z', g1, g2⟩ := hS.el j hj
  have hlt' : bl' < w.heap.size := World.block_lt_of_cell? w _ g2
  rw [h1] at g1
  injection g1 with g1; injection g1 with g1 g3
  have hbl : bl < w.heap.size := by omega
  refine ⟨bl, off, z, h1, h2, ?_⟩
  have hb2 : W'.heap[bl]? = W.heap[bl]? := hg.block _ (by omega) (fun e => by have := hr _ e.symm; omega)
  exact (World.cell?_of_block (a := ⟨bl, off + j, none⟩) hb2).trans h3
theorem own_block {w : World} {B : Nat} {T : TypeId} {k n : Nat} {v : Value} {xs : List Value} (h : w.ownsRow B T k v n xs) : ∀ g, v.ownBlock = some g → B ≤ g := by
  intro g hg
  obtain ⟨_, ⟨h1, _⟩ | ⟨g', cp, cur, h1, h2, _⟩⟩ := h
  · rw [h1] at hg; simp [Value.ownBlock] at hg
  · rw [h1] at hg; simp [Value.ownBlock] at hg; omega
theorem low_row {w W W' : World} {r : Option Nat} (hl : Below w.heap.size w W) (hg : W.grownBy W' r) (hr : ∀ g, r = some g → w.heap.size < g) : Below w.heap.size w W' :=
  hl.grown hg hl.size (fun j hj => by have := hr j hj; omega)
/-- the list so far -/
structure Made (w : World) (a : Option Addr) (len cap : Nat) (v : Value) (L : List Nt) (m k : Nat) (W : World) : Prop where
  own : W.ownsRow (w.heap.size + 1) 35 5 v L.length (flatN L)
  ll : L.length ≤ m
  str : Str w.heap.size a len cap k W
  low : Below w.heap.size w W
theorem Made.adv {w : World} {a : Option Addr} {len cap : Nat} {v : Value} {L : List Nt} {m k c : Nat} {W W' : World} (h : Made w a len cap v L m k W) (A : Adv w.heap.size a len cap k c W W') : ∃ k', k' ≤ k + c ∧ Made w a len cap v L m k' W' := by
  obtain ⟨k', hk', s⟩ := A.st
  refine ⟨k', hk', h.own.kept A.gr ?_, h.ll, s, adv_low A h.low⟩
  cases e : v.ownBlock with
  | none => exact .inl rfl
  | some g =>
    right
    intro e2
    have := own_block h.own g e
    injection e2 with e2
    omega
theorem Made.below {w : World} {a : Option Addr} {len cap : Nat} {v : Value} {L : List Nt} {m k : Nat} {W W' : World} (h : Made w a len cap v L m k W) (hb : Below W.heap.size W W') : Made w a len cap v L m k W' :=
  ⟨own_below h.own hb, h.ll, h.str.below hb, h.low.trans (hb.mono h.low.size)⟩
/-- one message more -/
theorem Made.more {w : World} {a : Option Addr} {len cap : Nat} {v v' : Value} {L : List Nt} {m k : Nat} {W W' : World} (hS : Sl a len w) (h : Made w a len cap v L m k W) (x : Nt) (ho : W'.ownsRow (w.heap.size + 1) 35 5 v' (L.length + 1) (flatN L ++ encN x)) (hg : W.grownBy W' v.ownBlock) : Made w a len cap v' (L ++ [x]) (m + 1) k W' := by
  have hr : ∀ g, v.ownBlock = some g → w.heap.size < g := fun g e => by have := own_block h.own g e; omega
  refine ⟨?_, by simp; exact h.ll, str_row hS h.str hg hr h.low, low_row h.low hg hr⟩
  have e : flatN (L ++ [x]) = flatN L ++ encN x := by unfold flatN; simp
  rw [e, show (L ++ [x]).length = L.length + 1 by simp]; exact ho
theorem Made.mono {w : World} {a : Option Addr} {len cap : Nat} {v : Value} {L : List Nt} {m m' k : Nat} {W : World} (h : Made w a len cap v L m k W) (hm : m ≤ m') : Made w a len cap v L m' k W := ⟨h.own, Nat.le_trans h.ll hm, h.str, h.low⟩
theorem own5_rr {w : World} {base m : Nat} {ad : Option Addr} {cap : Nat} {L : List Nt} {T : TypeId} (h : w.ownsRow base T 5 (.slice ad m cap) m (flatN L)) (hn : m = L.length) (h1 : 1 ≤ m) : ∃ g, ad = some ⟨g, 0, none⟩ ∧ RR w g 0 L ∧ m ≤ cap := by
  have hv : (Value.slice ad m cap) ≠ .slice none 0 0 := by
    intro e
    injection e with e1 e2 e3
    omega
  obtain ⟨g, cap', e, _, hc, _, hR⟩ := own_rn h hn hv
  injection e with e1 e2 e3
  exact ⟨g, e1, hR.rr, by omega⟩
theorem cells_new {w : World} (x : Nt) : ∀ (j : Nat) (u : Value), (encN x)[j]? = some u → (w.alloc (Obj.cells #[.string x.f, .int .i64 x.l, .int .i64 x.c, .int .i64 x.e, .string x.t] 35)).cell? ((⟨w.heap.size, 0, none⟩ : Addr).add j) = some u := by
  intro j u hj
  rw [Addr.add_lit]
  have hjl : j < 5 := (List.getElem?_eq_some_iff.1 hj).1
  match j, hjl with
  | 0, _ => injection hj with hj; subst hj; go_simp
  | 1, _ => injection hj with hj; subst hj; go_simp
  | 2, _ => injection hj with hj; subst hj; go_simp
  | 3, _ => injection hj with hj; subst hj; go_simp
  | 4, _ => injection hj with hj; subst hj; go_simp
  | j + 5, h => exact absurd h (by omega)
set_option maxHeartbeats 4000000 in
set_option maxRecDepth 100000 in
theorem noteOrder_any (a : Option Addr) (len cap : Nat) (w : World) (hS : Sl a len w) (hM : Mx w) :
    Calls Tryd.prog 5 #[.slice a len cap] w fun e w' => e = .returned (.bool true) ∧ Below w.heap.size w w' := by
  have S0 := hS.str cap _ rfl
  have HS := Lib.hid hS
  have HM := Lib.hid hM
  have hml : 0 < w.heap.size := by obtain ⟨m, hm⟩ := hM; exact World.block_lt_of_cell? w _ hm
  obtain ⟨i0, hi, hz0, hz1, hz2⟩ := info_parts infoN
  have HI := Lib.hid hi
  have HZ := Lib.hid (And.intro hz0 (And.intro hz1 hz2))
  clear hS hM hi hz0 hz1 hz2
  go_enter Tryd.func5, Tryd.ntmps5
  go_wp2_with fail
  refine (range_any w.heap.size len cap a 0 0 40 (by omega) (by omega) (by omega) _ S0).mono ?_
  rintro e w1 ⟨n, ⟨-, h2⟩, rfl, A1⟩
  have M1 : ∃ k, k ≤ 1 ∧ Made w a len cap (.slice none 0 0) [] 0 k w1 := by
    obtain ⟨k, hk, s⟩ := A1.st
    exact ⟨k, by omega, ⟨rfl, .inl ⟨rfl, rfl⟩⟩, Nat.le_refl _, s, adv_low A1 ((Below.refl _ _).alloc (Nat.le_refl _) _)⟩
  clear A1 S0
  have HM1 := Lib.hid M1
  clear M1
  go_upto_block 0 with fail
  go_cut [4] (fun v wx => ∃ (L : List Nt) (k : Nat), Made w a len cap v L 80 k wx)
  case first =>
    go_wp2_with fail
    go_loopw [4, 15] (fun v i wr => ∃ (j : Nat) (L : List Nt) (k : Nat), j ≤ n ∧ i = .int .i64 j ∧ k ≤ 1 + 40 * j ∧ Made w a len cap v L (2 * j) k wr) (fun _ i _ => n - (intOf i).toNat)
    case atStart =>
      obtain ⟨k, hk, hm⟩ := HM1.out
      exact ⟨0, [], k, by omega, by first | rfl | go_num, by omega, hm⟩
    case round =>
      obtain ⟨j, L, k, hj, rfl, hk, Md⟩ := hrel
      by_cases hjn : j < n
      · obtain ⟨ad, cp, rfl⟩ := own5_slice Md.own
        have hlen := Md.ll
        have hMx : Mx wr := by
          obtain ⟨m, hm⟩ := HM.out
          exact ⟨m, (Md.low.cell (p := ⟨0, 0, none⟩) hml).trans hm⟩
        have HMd := Lib.hid Md
        have St := Md.str
        clear Md
        go_wp2_with fail
        refine (message_any w.heap.size len cap a k (by omega) wr St hMx (by omega)).mono ?_
        rintro e w2 ⟨mf, mt, ml, mc, me, -, rfl, A2⟩
        obtain ⟨k2, hk2, Md2⟩ := HMd.out.adv A2
        clear A2 St hMx HMd
        have Ma := Md2.below (W' := w2.alloc (Obj.cells #[.string mf, .int .i64 ml, .int .i64 mc, .int .i64 (me : Int), .string mt] 35)) ((Below.refl _ _).alloc (Nat.le_refl _) _)
        go_wp2_with (at_builtin; refine wpList_append_own _ rfl _ _ 32 rfl (w.heap.size + 1) 35 i0 _ 5 56 Tryd.underlying32 HI.out HZ.out.1 HZ.out.2.1 HZ.out.2.2 rfl (by decide) _ _ _ rfl Ma.own ⟨w2.heap.size, 0, none⟩ 1 1 (encN ⟨mf, ml, mc, (me : Int), mt⟩) rfl ?d1 ?d2 ?d3 ?d4 ?d5 ?d6 ?_)
        case d1 => rfl
        case d2 => exact cells_new ⟨mf, ml, mc, (me : Int), mt⟩
        case d3 => exact encN_one _
        case d4 => unfold maxLen; omega
        case d5 => omega
        case d6 => have hh : w.heap.size < w2.heap.size := World.block_lt_of_cell? w2 _ Md2.str.c0; simp; omega
        intro v3 w3 hown hgrow hnil
        have Md3 := Ma.more HS.out ⟨mf, ml, mc, (me : Int), mt⟩ hown hgrow
        clear hown hgrow hnil Ma Md2
        obtain ⟨L3, hL3⟩ : ∃ L3, L ++ [(⟨mf, ml, mc, (me : Int), mt⟩ : Nt)] = L3 := ⟨_, rfl⟩
        rw [hL3] at Md3
        have hl3 : L3.length = L.length + 1 := by rw [← hL3]; simp
        have hl3a : 1 ≤ L3.length := by omega
        have hl3b : L3.length ≤ 2 * j + 1 := by omega
        clear hL3 hl3
        obtain ⟨ad3, cp3, rfl⟩ := own5_slice Md3.own
        have S3 := Md3.str
        have HMd3 := Lib.hid Md3
        clear Md3
        go_wp2_with fail
        refine (flip_any w.heap.size len cap a k2 (by omega) 4 (by omega) (by omega) _ S3).mono ?_
        rintro e w4 ⟨t, rfl, A4⟩
        obtain ⟨k4, hk4, Md4⟩ := HMd3.out.adv A4
        have S4 := Md4.str
        have HMd4 := Lib.hid Md4
        clear A4 S3 HMd3 Md4
        cases t
        · go_wp2_with fail
          go_roundw
          case rel => exact ⟨j + 1, L3, k4, by omega, by go_num, by omega, HMd4.out.mono (by omega)⟩
          case measure => simp [intOf]; omega
        · go_wp2_with fail
          refine (next_any w.heap.size len cap a k4 (L3.length : Int) (by omega) (by omega) (by omega) _ S4).mono ?_
          rintro e w5 ⟨r, hr, rfl, A5⟩
          obtain ⟨k5, hk5, Md5⟩ := HMd4.out.adv A5
          clear A5 S4 HMd4
          obtain ⟨g, rfl, hRR, -⟩ := own5_rr Md5.own rfl (by omega)
          have hrl : r < L3.length := by omega
          obtain ⟨x0, x1, x2, x3, x4⟩ := hRR.f5 hrl
          obtain ⟨x, hx⟩ : ∃ x, L3[r]! = x := ⟨_, rfl⟩
          rw [hx, Nat.zero_add] at x0 x1 x2 x3 x4
          clear hx hRR
          obtain ⟨xf, xl, xc, xe, xt⟩ := x
          simp only at x0 x1 x2 x3 x4
          have Ma := Md5.below (W' := w5.alloc (Obj.cells #[.string xf, .int .i64 xl, .int .i64 xc, .int .i64 xe, .string xt] 35)) ((Below.refl _ _).alloc (Nat.le_refl _) _)
          go_wp2_with (at_builtin; refine wpList_append_own _ rfl _ _ 32 rfl (w.heap.size + 1) 35 i0 _ 5 56 Tryd.underlying32 HI.out HZ.out.1 HZ.out.2.1 HZ.out.2.2 rfl (by decide) _ _ _ rfl Ma.own ⟨w5.heap.size, 0, none⟩ 1 1 (encN ⟨xf, xl, xc, xe, xt⟩) rfl ?d1 ?d2 ?d3 ?d4 ?d5 ?d6 ?_)
          case d1 => rfl
          case d2 => exact cells_new ⟨xf, xl, xc, xe, xt⟩
          case d3 => exact encN_one _
          case d4 => unfold maxLen; omega
          case d5 => omega
          case d6 => have hh : w.heap.size < w5.heap.size := World.block_lt_of_cell? w5 _ Md5.str.c0; simp; omega
          intro v6 w6 hown hgrow hnil
          have Md6 := Ma.more HS.out ⟨xf, xl, xc, xe, xt⟩ hown hgrow
          clear hown hgrow hnil Ma Md5 x0 x1 x2 x3 x4
          obtain ⟨L6, hL6⟩ : ∃ L6, L3 ++ [(⟨xf, xl, xc, xe, xt⟩ : Nt)] = L6 := ⟨_, rfl⟩
          rw [hL6] at Md6
          clear hL6
          have HMd6 := Lib.hid Md6
          clear Md6
          go_wp2_with fail
          go_roundw
          case rel => exact ⟨j + 1, L6, k5, by omega, by go_num, by omega, HMd6.out.mono (by omega)⟩
          case measure => simp [intOf]; omega
      · obtain rfl : j = n := by omega
        have HMd := Lib.hid Md
        clear Md
        go_wp2_with fail
        go_meet
        exact ⟨L, k, HMd.out.mono (by omega)⟩
  case rest =>
    obtain ⟨L, k, Md⟩ := hcut
    obtain ⟨ad, cp, rfl⟩ := own5_slice Md.own
    have HL0 := Lib.hid Md.low
    have hlen := Md.ll
    by_cases h0 : L.length = 0
    · obtain rfl : L = [] := List.eq_nil_of_length_eq_zero h0
      clear Md hlen h0
      go_wp2_with fail
      refine (sort_zero ad cp _).mono ?_
      rintro e w2 ⟨p2, c2, rfl, hb2⟩
      have hlo := HL0.out.trans (hb2.mono HL0.out.size)
      clear hb2 HL0
      go_upto_block 2 with fail
      go_cut [] (fun wx => Below w.heap.size w wx)
      case first =>
        go_wp2_with fail
        go_loopw [39] (fun s39 wr => s39 = .int .i64 0 ∧ Below w.heap.size w wr) (fun _ _ => 0)
        case atStart => exact ⟨rfl, hlo⟩
        case round =>
          clear hlo
          obtain ⟨rfl, hlo⟩ := hrel
          go_wp2_with fail
          go_meet
          exact hlo
      case rest =>
        replace hlo := hcut
        go_upto_block 4 with fail
        go_cut [] (fun wx => Below w.heap.size w wx)
        case first =>
          go_wp2_with fail
          go_loopw [65] (fun s65 wr => s65 = .int .i64 0 ∧ Below w.heap.size w wr) (fun _ _ => 0)
          case atStart => exact ⟨rfl, hlo⟩
          case round =>
            clear hlo
            obtain ⟨rfl, hlo⟩ := hrel
            go_wp2_with fail
            go_meet
            exact hlo
        case rest =>
          replace hlo := hcut
          go_wp2_with fail
          refine (placed_ok _).mono ?_
          rintro e w5 ⟨rfl, rfl⟩
          go_wp2_with fail
          refine (sort_zero p2 c2 _).mono ?_
          rintro e w6 ⟨p6, c6, rfl, hb6⟩
          go_wp2_with fail
          refine (equal_zero _ _ _ _ _).mono ?_
          rintro e w7 ⟨rfl, rfl⟩
          go_wp2_with fail
          go_ret
          exact ⟨rfl, hlo.trans (hb6.mono hlo.size)⟩
    · obtain ⟨g1, rfl, hRR, -⟩ := own5_rr Md.own rfl (by omega)
      clear Md
      have HRR := Lib.hid hRR
      clear hRR
      go_wp2_with fail
      refine (sort_ok g1 0 cp L _ (by omega) HRR.out).mono ?_
      rintro e w2 ⟨v2, rfl, ho2, hv2, hb2⟩
      obtain ⟨g2, c2, rfl, -, -, -, hR2⟩ := own_rn ho2 rfl hv2
      have HRL := Lib.hid (HRR.out.below hb2)
      have HL2 := Lib.hid (HL0.out.trans (hb2.mono HL0.out.size))
      have hs1 : 1 ≤ (sortedN L).length := by
        have hm : L[0]! ∈ kept L := (mem_kept L _).2 (by rw [getElem!_pos L 0 (by omega)]; exact List.getElem_mem _)
        have := List.length_pos_of_mem hm
        unfold sortedN; rw [List.length_take]; omega
      have hs2 : (sortedN L).length ≤ 20 := by unfold sortedN; rw [List.length_take]; omega
      have HInc := Lib.hid (fun i j => @sortedN_get L i j)
      have HMem := Lib.hid (sortedN_mem L)
      have HSh := Lib.hid (sortedN_short L)
      have HLa := Lib.hid (sortedN_last L hs1)
      have HAg := Lib.hid (sortedN_again L)
      have HRG := Lib.hid hR2.rr
      clear ho2 hv2 hR2 hb2 HRR HL0 h0
      generalize sortedN L = G at hs1 hs2 HInc HMem HSh HLa HAg HRG ⊢
      go_upto_block 2 with fail
      have HB2 := Lib.hid (Below.refl w2.heap.size w2)
      go_cut [] (fun wx => Below w2.heap.size w2 wx)
      case first =>
        go_wp2_with fail
        go_loopw [39] (fun s39 wr => ∃ i : Nat, i ≤ G.length ∧ s39 = .int .i64 i ∧ Below w2.heap.size w2 wr) (fun s39 _ => G.length - (intOf s39).toNat)
        case atStart => exact ⟨0, by omega, by first | rfl | go_num, HB2.out⟩
        case round =>
          obtain ⟨i, hig, rfl, hlo⟩ := hrel
          by_cases hil : i < G.length
          · obtain ⟨x0, x1, x2, x3, x4⟩ := (HRG.out.below hlo).f5 hil
            have hxm : G[i]! ∈ L := HMem.out _ (by rw [getElem!_pos G i hil]; exact List.getElem_mem _)
            obtain ⟨x, hx⟩ : ∃ x, G[i]! = x := ⟨_, rfl⟩
            rw [hx, Nat.zero_add] at x0 x1 x2 x3 x4
            rw [hx] at hxm
            have HX := Lib.hid hx
            have HXm := Lib.hid hxm
            clear hx hxm
            obtain ⟨xf, xl, xc, xe, xt⟩ := x
            simp only at x0 x1 x2 x3 x4
            have HRLw := Lib.hid (HRL.out.below hlo)
            by_cases i0 : 0 < i
            · obtain ⟨q, hqm⟩ : ∃ q, i - 1 = q := ⟨_, rfl⟩
              have hw : IntKind.i64.wrap ((i : Int) - 1) = (q : Int) := by
                rw [← hqm]
                unfold IntKind.wrap
                simp [IntKind.bits, IntKind.signed]
                omega
              have hql : q < G.length := by omega
              obtain ⟨z0, z1, z2, z3, z4⟩ := (HRG.out.below hlo).f5 hql
              have hzl := HInc.out q i (by omega) hil
              obtain ⟨z, hz⟩ : ∃ z, G[q]! = z := ⟨_, rfl⟩
              rw [hz, Nat.zero_add] at z0 z1 z2 z3 z4
              rw [hz, HX.out] at hzl
              have HZl := Lib.hid hzl
              clear hz hqm hzl
              obtain ⟨zf, zl, zc, ze, zt⟩ := z
              simp only at z0 z1 z2 z3 z4
              have HV := Lib.hid (cmpN_less HZl.out)
              go_upto_region 13 with fail
              obtain ⟨W, hW⟩ : ∃ W, W = wr.alloc (Obj.cells #[Value.string xf, Value.int IntKind.i64 xl, Value.int IntKind.i64 xc, Value.int IntKind.i64 xe, Value.string xt] 35) := ⟨_, rfl⟩
              rw [← hW]
              have hb : Below wr.heap.size wr W := by rw [hW]; exact (Below.refl _ _).alloc (Nat.le_refl _) _
              have k0 := cell_regrown (show W.cell? ⟨wr.heap.size, 0, none⟩ = some (.string xf) by rw [hW]; go_simp)
              have k1 := cell_regrown (show W.cell? ⟨wr.heap.size, 1, none⟩ = some (.int .i64 xl) by rw [hW]; go_simp)
              have k2 := cell_regrown (show W.cell? ⟨wr.heap.size, 2, none⟩ = some (.int .i64 xc) by rw [hW]; go_simp)
              have k3 := cell_regrown (show W.cell? ⟨wr.heap.size, 3, none⟩ = some (.int .i64 xe) by rw [hW]; go_simp)
              have k4 := cell_regrown (show W.cell? ⟨wr.heap.size, 4, none⟩ = some (.string xt) by rw [hW]; go_simp)
              have kz0 := cell_regrown (f5_cell hb z0)
              have kz1 := cell_regrown (f5_cell hb z1)
              have kz2 := cell_regrown (f5_cell hb z2)
              have kz3 := cell_regrown (f5_cell hb z3)
              have kz4 := cell_regrown (f5_cell hb z4)
              have cA : ∀ d os, Calls Tryd.prog 13 #[.agg #[.string zf, .int .i64 zl, .int .i64 zc, .int .i64 ze, .string zt], .agg #[.string xf, .int .i64 xl, .int .i64 xc, .int .i64 xe, .string xt]] (grow (redrawn W d) os) (RetF (fun u _ => u = .int .i64 (-1)) (grow (redrawn W d) os)) := fun d os => by rw [← HV.out]; exact ret_fix (cmp_low ⟨zf, zl, zc, ze, zt⟩ ⟨xf, xl, xc, xe, xt⟩ _)
              have cB : ∀ d os, Calls Tryd.prog 22 #[.slice (some ⟨g1, 0, none⟩) L.length cp, .agg #[.string xf, .int .i64 xl, .int .i64 xc, .int .i64 xe, .string xt]] (grow (redrawn W d) os) (RetF (fun u _ => u = .bool true) (grow (redrawn W d) os)) := fun d os => ret_fix (contains_yes g1 0 cp L ⟨xf, xl, xc, xe, xt⟩ _ (by omega) HXm.out ((HRLw.out.below hb).below (below_regrown W d os)))
              clear hW x0 x1 x2 x3 x4
              clear z0 z1 z2 z3 z4
              refine wp_region_rel 18 (by kernel_rfl) (by kernel_rfl) ?_
              simp only [List.take_succ_cons, List.take_zero, List.drop_succ_cons, List.drop_zero]
              (refine rel_fix0 (fun K hK => ?_); go_simp; refine hK _ ?_; clear hK K)
              (refine rel_fix0 (fun K hK => ?_); go_simp; refine hK _ ?_; clear hK K)
              (refine rel_fix0 (fun K hK => ?_); go_simp; refine hK _ ?_; clear hK K)
              (refine rel_fix0 (fun K hK => ?_); go_simp; refine hK _ ?_; clear hK K)
              (refine rel_fix0 (fun K hK => ?_); go_simp; refine hK _ ?_; clear hK K)
              (refine rel_fix0 (fun K hK => ?_); go_simp; refine hK _ ?_; clear hK K)
              (refine rel_fix0 (fun K hK => ?_); go_simp; refine hK _ ?_; clear hK K)
              (refine rel_fix0 (fun K hK => ?_); go_simp; refine hK _ ?_; clear hK K)
              (refine rel_fix0 (fun K hK => ?_); go_simp; refine hK _ ?_; clear hK K)
              (refine rel_fix0 (fun K hK => ?_); go_simp; apply Exists.intro; refine ⟨fun _ _ => ?_, hK _ ?_⟩; (with_reducible exact cA _ _); clear hK K)
              (refine rel_fix0 (fun K hK => ?_); go_simp; refine hK _ ?_; clear hK K)
              (refine rel_fix0 (fun K hK => ?_); go_simp; refine hK _ ?_; clear hK K)
              (refine rel_fix0 (fun K hK => ?_); go_simp; refine hK _ ?_; clear hK K)
              (refine rel_fix0 (fun K hK => ?_); go_simp; refine hK _ ?_; clear hK K)
              (refine rel_fix0 (fun K hK => ?_); go_simp; refine hK _ ?_; clear hK K)
              (refine rel_fix0 (fun K hK => ?_); go_simp; apply Exists.intro; refine ⟨fun _ _ => ?_, hK _ ?_⟩; (with_reducible exact cB _ _); clear hK K)
              (refine rel_fix0 (fun K hK => ?_); go_simp; refine hK _ ?_; clear hK K)
              (refine rel_fix0 (fun K hK => ?_); go_simp; refine hK _ ?_; clear hK K)
              refine rel_nil ?_
              intro dq osq
              simp only [relAll]
              have hq := hlo.trans ((hb.trans ((below_regrown W dq osq).mono hb.size)).mono hlo.size)
              clear k0 k1 k2 k3 k4 kz0 kz1 kz2 kz3 kz4 cA cB
              go_wp2_with fail
              go_roundw
              case rel => exact ⟨i + 1, by omega, by go_num, hq⟩
              case measure => simp [intOf]; omega
            · skip
              go_upto_region 13 with fail
              obtain ⟨W, hW⟩ : ∃ W, W = wr.alloc (Obj.cells #[Value.string xf, Value.int IntKind.i64 xl, Value.int IntKind.i64 xc, Value.int IntKind.i64 xe, Value.string xt] 35) := ⟨_, rfl⟩
              rw [← hW]
              have hb : Below wr.heap.size wr W := by rw [hW]; exact (Below.refl _ _).alloc (Nat.le_refl _) _
              have k0 := cell_regrown (show W.cell? ⟨wr.heap.size, 0, none⟩ = some (.string xf) by rw [hW]; go_simp)
              have k1 := cell_regrown (show W.cell? ⟨wr.heap.size, 1, none⟩ = some (.int .i64 xl) by rw [hW]; go_simp)
              have k2 := cell_regrown (show W.cell? ⟨wr.heap.size, 2, none⟩ = some (.int .i64 xc) by rw [hW]; go_simp)
              have k3 := cell_regrown (show W.cell? ⟨wr.heap.size, 3, none⟩ = some (.int .i64 xe) by rw [hW]; go_simp)
              have k4 := cell_regrown (show W.cell? ⟨wr.heap.size, 4, none⟩ = some (.string xt) by rw [hW]; go_simp)
              have cB : ∀ d os, Calls Tryd.prog 22 #[.slice (some ⟨g1, 0, none⟩) L.length cp, .agg #[.string xf, .int .i64 xl, .int .i64 xc, .int .i64 xe, .string xt]] (grow (redrawn W d) os) (RetF (fun u _ => u = .bool true) (grow (redrawn W d) os)) := fun d os => ret_fix (contains_yes g1 0 cp L ⟨xf, xl, xc, xe, xt⟩ _ (by omega) HXm.out ((HRLw.out.below hb).below (below_regrown W d os)))
              clear hW x0 x1 x2 x3 x4
              refine wp_region_rel 18 (by kernel_rfl) (by kernel_rfl) ?_
              simp only [List.take_succ_cons, List.take_zero, List.drop_succ_cons, List.drop_zero]
              (refine rel_fix0 (fun K hK => ?_); go_simp; refine hK _ ?_; clear hK K)
              (refine rel_fix0 (fun K hK => ?_); go_simp; refine hK _ ?_; clear hK K)
              (refine rel_fix0 (fun K hK => ?_); go_simp; refine hK _ ?_; clear hK K)
              (refine rel_fix0 (fun K hK => ?_); go_simp; refine hK _ ?_; clear hK K)
              (refine rel_fix0 (fun K hK => ?_); go_simp; refine hK _ ?_; clear hK K)
              (refine rel_fix0 (fun K hK => ?_); go_simp; refine hK _ ?_; clear hK K)
              (refine rel_fix0 (fun K hK => ?_); go_simp; refine hK _ ?_; clear hK K)
              (refine rel_fix0 (fun K hK => ?_); go_simp; refine hK _ ?_; clear hK K)
              (refine rel_fix0 (fun K hK => ?_); go_simp; refine hK _ ?_; clear hK K)
              (refine rel_fix0 (fun K hK => ?_); go_simp; refine hK _ ?_; clear hK K)
              (refine rel_fix0 (fun K hK => ?_); go_simp; refine hK _ ?_; clear hK K)
              (refine rel_fix0 (fun K hK => ?_); go_simp; refine hK _ ?_; clear hK K)
              (refine rel_fix0 (fun K hK => ?_); go_simp; refine hK _ ?_; clear hK K)
              (refine rel_fix0 (fun K hK => ?_); go_simp; refine hK _ ?_; clear hK K)
              (refine rel_fix0 (fun K hK => ?_); go_simp; refine hK _ ?_; clear hK K)
              (refine rel_fix0 (fun K hK => ?_); go_simp; apply Exists.intro; refine ⟨fun _ _ => ?_, hK _ ?_⟩; (with_reducible exact cB _ _); clear hK K)
              (refine rel_fix0 (fun K hK => ?_); go_simp; refine hK _ ?_; clear hK K)
              (refine rel_fix0 (fun K hK => ?_); go_simp; refine hK _ ?_; clear hK K)
              refine rel_nil ?_
              intro dq osq
              simp only [relAll]
              have hq := hlo.trans ((hb.trans ((below_regrown W dq osq).mono hb.size)).mono hlo.size)
              clear k0 k1 k2 k3 k4 cB
              go_wp2_with fail
              go_roundw
              case rel => exact ⟨i + 1, by omega, by go_num, hq⟩
              case measure => simp [intOf]; omega
          · obtain rfl : i = G.length := by omega
            go_wp2_with fail
            go_meet
            exact hlo
      case rest =>
        have hl1 := hcut
        have HRG2 := Lib.hid (HRG.out.below hl1)
        have HRL2 := Lib.hid (HRL.out.below hl1)
        have HL3 := Lib.hid (HL2.out.trans (hl1.mono HL2.out.size))
        clear HRG HRL HL2 HB2 HInc HMem hl1
        go_upto_block 4 with fail
        rename World => w3
        have HB3 := Lib.hid (Below.refl w3.heap.size w3)
        go_cut [] (fun wx => Below w3.heap.size w3 wx)
        case first =>
          go_wp2_with fail
          go_loopw [65] (fun s65 wr => ∃ i : Nat, i ≤ L.length ∧ s65 = .int .i64 i ∧ Below w3.heap.size w3 wr) (fun s65 _ => L.length - (intOf s65).toNat)
          case atStart => exact ⟨0, by omega, by first | rfl | go_num, HB3.out⟩
          case round =>
            obtain ⟨i, hig, rfl, hlo⟩ := hrel
            by_cases hil : i < L.length
            · obtain ⟨x0, x1, x2, x3, x4⟩ := (HRL2.out.below hlo).f5 hil
              have hxm : L[i]! ∈ L := by rw [getElem!_pos L i hil]; exact List.getElem_mem _
              obtain ⟨x, hx⟩ : ∃ x, L[i]! = x := ⟨_, rfl⟩
              rw [hx, Nat.zero_add] at x0 x1 x2 x3 x4
              rw [hx] at hxm
              have HXm := Lib.hid hxm
              clear hx hxm
              obtain ⟨q, hqm⟩ : ∃ q, G.length - 1 = q := ⟨_, rfl⟩
              have hw : IntKind.i64.wrap ((G.length : Int) - 1) = (q : Int) := by
                rw [← hqm]
                unfold IntKind.wrap
                simp [IntKind.bits, IntKind.signed]
                omega
              have hql : q < G.length := by omega
              have hg0 : (G.length = 0) = False := eq_false (by omega)
              obtain ⟨z0, z1, z2, z3, z4⟩ := (HRG2.out.below hlo).f5 hql
              have hla := HLa.out
              rw [hqm] at hla
              obtain ⟨z, hz⟩ : ∃ z, G[q]! = z := ⟨_, rfl⟩
              rw [hz, Nat.zero_add] at z0 z1 z2 z3 z4
              rw [hz] at hla
              have HLz := Lib.hid (hla _ HXm.out)
              clear hz hqm hla
              have HRGw := Lib.hid (HRG2.out.below hlo)
              obtain ⟨xf, xl, xc, xe, xt⟩ := x
              obtain ⟨zf, zl, zc, ze, zt⟩ := z
              simp only at x0 x1 x2 x3 x4 z0 z1 z2 z3 z4
              cases hr : ltN ⟨xf, xl, xc, xe, xt⟩ ⟨zf, zl, zc, ze, zt⟩
              · obtain ⟨cv, hcv⟩ : ∃ cv, cmpN ⟨xf, xl, xc, xe, xt⟩ ⟨zf, zl, zc, ze, zt⟩ = cv := ⟨_, rfl⟩
                have hc0 : 0 ≤ cv := by
                  have h := hr
                  unfold ltN at h
                  rw [decide_eq_false_iff_not, hcv] at h; omega
                have hc1 : (cv < 0) = False := eq_false (by omega)
                have HV := Lib.hid hcv
                clear hcv hr hc0
                by_cases hsh : G.length < 20
                · have HM2 := Lib.hid (HSh.out hsh _ HXm.out)
                  have hsI : ((G.length : Int) < 20) = True := eq_true (by omega)
                  go_upto_region 19 with fail
                  obtain ⟨W, hW⟩ : ∃ W, W = wr.alloc (Obj.cells #[Value.string xf, Value.int IntKind.i64 xl, Value.int IntKind.i64 xc, Value.int IntKind.i64 xe, Value.string xt] 35) := ⟨_, rfl⟩
                  rw [← hW]
                  have hb : Below wr.heap.size wr W := by rw [hW]; exact (Below.refl _ _).alloc (Nat.le_refl _) _
                  have k0 := cell_regrown (show W.cell? ⟨wr.heap.size, 0, none⟩ = some (.string xf) by rw [hW]; go_simp)
                  have k1 := cell_regrown (show W.cell? ⟨wr.heap.size, 1, none⟩ = some (.int .i64 xl) by rw [hW]; go_simp)
                  have k2 := cell_regrown (show W.cell? ⟨wr.heap.size, 2, none⟩ = some (.int .i64 xc) by rw [hW]; go_simp)
                  have k3 := cell_regrown (show W.cell? ⟨wr.heap.size, 3, none⟩ = some (.int .i64 xe) by rw [hW]; go_simp)
                  have k4 := cell_regrown (show W.cell? ⟨wr.heap.size, 4, none⟩ = some (.string xt) by rw [hW]; go_simp)
                  have kz0 := cell_regrown (f5_cell hb z0)
                  have kz1 := cell_regrown (f5_cell hb z1)
                  have kz2 := cell_regrown (f5_cell hb z2)
                  have kz3 := cell_regrown (f5_cell hb z3)
                  have kz4 := cell_regrown (f5_cell hb z4)
                  have cA : ∀ d os, Calls Tryd.prog 13 #[.agg #[.string xf, .int .i64 xl, .int .i64 xc, .int .i64 xe, .string xt], .agg #[.string zf, .int .i64 zl, .int .i64 zc, .int .i64 ze, .string zt]] (grow (redrawn W d) os) (RetF (fun u _ => u = .int .i64 (cv)) (grow (redrawn W d) os)) := fun d os => by rw [← HV.out]; exact ret_fix (cmp_low ⟨xf, xl, xc, xe, xt⟩ ⟨zf, zl, zc, ze, zt⟩ _)
                  have cC : ∀ d os, Calls Tryd.prog 22 #[.slice (some ⟨g2, 0, none⟩) G.length c2, .agg #[.string xf, .int .i64 xl, .int .i64 xc, .int .i64 xe, .string xt]] (grow (redrawn W d) os) (RetF (fun u _ => u = .bool true) (grow (redrawn W d) os)) := fun d os => ret_fix (contains_yes g2 0 c2 G ⟨xf, xl, xc, xe, xt⟩ _ (by omega) HM2.out ((HRGw.out.below hb).below (below_regrown W d os)))
                  clear hW x0 x1 x2 x3 x4
                  clear z0 z1 z2 z3 z4
                  refine wp_region_rel 31 (by kernel_rfl) (by kernel_rfl) ?_
                  simp only [List.take_succ_cons, List.take_zero, List.drop_succ_cons, List.drop_zero]
                  (refine rel_fix0 (fun K hK => ?_); go_simp; refine hK _ ?_; clear hK K)
                  (refine rel_fix0 (fun K hK => ?_); go_simp; refine hK _ ?_; clear hK K)
                  (refine rel_fix0 (fun K hK => ?_); go_simp; refine hK _ ?_; clear hK K)
                  (refine rel_fix0 (fun K hK => ?_); go_simp; refine hK _ ?_; clear hK K)
                  (refine rel_fix0 (fun K hK => ?_); go_simp; refine hK _ ?_; clear hK K)
                  (refine rel_fix0 (fun K hK => ?_); go_simp; refine hK _ ?_; clear hK K)
                  (refine rel_fix0 (fun K hK => ?_); go_simp; refine hK _ ?_; clear hK K)
                  (refine rel_fix0 (fun K hK => ?_); go_simp; refine hK _ ?_; clear hK K)
                  (refine rel_fix0 (fun K hK => ?_); go_simp; refine hK _ ?_; clear hK K)
                  (refine rel_fix0 (fun K hK => ?_); go_simp; refine hK _ ?_; clear hK K)
                  (refine rel_fix0 (fun K hK => ?_); go_simp; refine hK _ ?_; clear hK K)
                  (refine rel_fix0 (fun K hK => ?_); go_simp; apply Exists.intro; refine ⟨fun _ _ => ?_, hK _ ?_⟩; (with_reducible exact cA _ _); clear hK K)
                  (refine rel_fix0 (fun K hK => ?_); go_simp; refine hK _ ?_; clear hK K)
                  (refine rel_fix0 (fun K hK => ?_); go_simp; refine hK _ ?_; clear hK K)
                  (refine rel_fix0 (fun K hK => ?_); go_simp; refine hK _ ?_; clear hK K)
                  (refine rel_fix0 (fun K hK => ?_); go_simp; refine hK _ ?_; clear hK K)
                  (refine rel_fix0 (fun K hK => ?_); go_simp; refine hK _ ?_; clear hK K)
                  (refine rel_fix0 (fun K hK => ?_); go_simp; refine hK _ ?_; clear hK K)
                  (refine rel_fix0 (fun K hK => ?_); go_simp; refine hK _ ?_; clear hK K)
                  (refine rel_fix0 (fun K hK => ?_); go_simp; refine hK _ ?_; clear hK K)
                  (refine rel_fix0 (fun K hK => ?_); go_simp; refine hK _ ?_; clear hK K)
                  (refine rel_fix0 (fun K hK => ?_); go_simp; refine hK _ ?_; clear hK K)
                  (refine rel_fix0 (fun K hK => ?_); go_simp; refine hK _ ?_; clear hK K)
                  (refine rel_fix0 (fun K hK => ?_); go_simp; refine hK _ ?_; clear hK K)
                  (refine rel_fix0 (fun K hK => ?_); go_simp; refine hK _ ?_; clear hK K)
                  (refine rel_fix0 (fun K hK => ?_); go_simp; refine hK _ ?_; clear hK K)
                  (refine rel_fix0 (fun K hK => ?_); go_simp; refine hK _ ?_; clear hK K)
                  (refine rel_fix0 (fun K hK => ?_); go_simp; apply Exists.intro; refine ⟨fun _ _ => ?_, hK _ ?_⟩; (with_reducible exact cC _ _); clear hK K)
                  (refine rel_fix0 (fun K hK => ?_); go_simp; refine hK _ ?_; clear hK K)
                  (refine rel_fix0 (fun K hK => ?_); go_simp; refine hK _ ?_; clear hK K)
                  (refine rel_fix0 (fun K hK => ?_); go_simp; refine hK _ ?_; clear hK K)
                  refine rel_nil ?_
                  intro dq osq
                  simp only [relAll]
                  have hq := hlo.trans ((hb.trans ((below_regrown W dq osq).mono hb.size)).mono hlo.size)
                  clear k0 k1 k2 k3 k4 kz0 kz1 kz2 kz3 kz4 cA cC
                  go_wp2_with fail
                  go_roundw
                  case rel => exact ⟨i + 1, by omega, by go_num, hq⟩
                  case measure => simp [intOf]; omega
                · have hsI : ((G.length : Int) < 20) = False := eq_false (by omega)
                  go_upto_region 19 with fail
                  obtain ⟨W, hW⟩ : ∃ W, W = wr.alloc (Obj.cells #[Value.string xf, Value.int IntKind.i64 xl, Value.int IntKind.i64 xc, Value.int IntKind.i64 xe, Value.string xt] 35) := ⟨_, rfl⟩
                  rw [← hW]
                  have hb : Below wr.heap.size wr W := by rw [hW]; exact (Below.refl _ _).alloc (Nat.le_refl _) _
                  have k0 := cell_regrown (show W.cell? ⟨wr.heap.size, 0, none⟩ = some (.string xf) by rw [hW]; go_simp)
                  have k1 := cell_regrown (show W.cell? ⟨wr.heap.size, 1, none⟩ = some (.int .i64 xl) by rw [hW]; go_simp)
                  have k2 := cell_regrown (show W.cell? ⟨wr.heap.size, 2, none⟩ = some (.int .i64 xc) by rw [hW]; go_simp)
                  have k3 := cell_regrown (show W.cell? ⟨wr.heap.size, 3, none⟩ = some (.int .i64 xe) by rw [hW]; go_simp)
                  have k4 := cell_regrown (show W.cell? ⟨wr.heap.size, 4, none⟩ = some (.string xt) by rw [hW]; go_simp)
                  have kz0 := cell_regrown (f5_cell hb z0)
                  have kz1 := cell_regrown (f5_cell hb z1)
                  have kz2 := cell_regrown (f5_cell hb z2)
                  have kz3 := cell_regrown (f5_cell hb z3)
                  have kz4 := cell_regrown (f5_cell hb z4)
                  have cA : ∀ d os, Calls Tryd.prog 13 #[.agg #[.string xf, .int .i64 xl, .int .i64 xc, .int .i64 xe, .string xt], .agg #[.string zf, .int .i64 zl, .int .i64 zc, .int .i64 ze, .string zt]] (grow (redrawn W d) os) (RetF (fun u _ => u = .int .i64 (cv)) (grow (redrawn W d) os)) := fun d os => by rw [← HV.out]; exact ret_fix (cmp_low ⟨xf, xl, xc, xe, xt⟩ ⟨zf, zl, zc, ze, zt⟩ _)
                  clear hW x0 x1 x2 x3 x4
                  clear z0 z1 z2 z3 z4
                  refine wp_region_rel 31 (by kernel_rfl) (by kernel_rfl) ?_
                  simp only [List.take_succ_cons, List.take_zero, List.drop_succ_cons, List.drop_zero]
                  (refine rel_fix0 (fun K hK => ?_); go_simp; refine hK _ ?_; clear hK K)
                  (refine rel_fix0 (fun K hK => ?_); go_simp; refine hK _ ?_; clear hK K)
                  (refine rel_fix0 (fun K hK => ?_); go_simp; refine hK _ ?_; clear hK K)
                  (refine rel_fix0 (fun K hK => ?_); go_simp; refine hK _ ?_; clear hK K)
                  (refine rel_fix0 (fun K hK => ?_); go_simp; refine hK _ ?_; clear hK K)
                  (refine rel_fix0 (fun K hK => ?_); go_simp; refine hK _ ?_; clear hK K)
                  (refine rel_fix0 (fun K hK => ?_); go_simp; refine hK _ ?_; clear hK K)
                  (refine rel_fix0 (fun K hK => ?_); go_simp; refine hK _ ?_; clear hK K)
                  (refine rel_fix0 (fun K hK => ?_); go_simp; refine hK _ ?_; clear hK K)
                  (refine rel_fix0 (fun K hK => ?_); go_simp; refine hK _ ?_; clear hK K)
                  (refine rel_fix0 (fun K hK => ?_); go_simp; refine hK _ ?_; clear hK K)
                  (refine rel_fix0 (fun K hK => ?_); go_simp; apply Exists.intro; refine ⟨fun _ _ => ?_, hK _ ?_⟩; (with_reducible exact cA _ _); clear hK K)
                  (refine rel_fix0 (fun K hK => ?_); go_simp; refine hK _ ?_; clear hK K)
                  (refine rel_fix0 (fun K hK => ?_); go_simp; refine hK _ ?_; clear hK K)
                  (refine rel_fix0 (fun K hK => ?_); go_simp; refine hK _ ?_; clear hK K)
                  (refine rel_fix0 (fun K hK => ?_); go_simp; refine hK _ ?_; clear hK K)
                  (refine rel_fix0 (fun K hK => ?_); go_simp; refine hK _ ?_; clear hK K)
                  (refine rel_fix0 (fun K hK => ?_); go_simp; refine hK _ ?_; clear hK K)
                  (refine rel_fix0 (fun K hK => ?_); go_simp; refine hK _ ?_; clear hK K)
                  (refine rel_fix0 (fun K hK => ?_); go_simp; refine hK _ ?_; clear hK K)
                  (refine rel_fix0 (fun K hK => ?_); go_simp; refine hK _ ?_; clear hK K)
                  (refine rel_fix0 (fun K hK => ?_); go_simp; refine hK _ ?_; clear hK K)
                  (refine rel_fix0 (fun K hK => ?_); go_simp; refine hK _ ?_; clear hK K)
                  (refine rel_fix0 (fun K hK => ?_); go_simp; refine hK _ ?_; clear hK K)
                  (refine rel_fix0 (fun K hK => ?_); go_simp; refine hK _ ?_; clear hK K)
                  (refine rel_fix0 (fun K hK => ?_); go_simp; refine hK _ ?_; clear hK K)
                  (refine rel_fix0 (fun K hK => ?_); go_simp; refine hK _ ?_; clear hK K)
                  (refine rel_fix0 (fun K hK => ?_); go_simp; refine hK _ ?_; clear hK K)
                  (refine rel_fix0 (fun K hK => ?_); go_simp; refine hK _ ?_; clear hK K)
                  (refine rel_fix0 (fun K hK => ?_); go_simp; refine hK _ ?_; clear hK K)
                  (refine rel_fix0 (fun K hK => ?_); go_simp; refine hK _ ?_; clear hK K)
                  refine rel_nil ?_
                  intro dq osq
                  simp only [relAll]
                  have hq := hlo.trans ((hb.trans ((below_regrown W dq osq).mono hb.size)).mono hlo.size)
                  clear k0 k1 k2 k3 k4 kz0 kz1 kz2 kz3 kz4 cA
                  go_wp2_with fail
                  go_roundw
                  case rel => exact ⟨i + 1, by omega, by go_num, hq⟩
                  case measure => simp [intOf]; omega
              · have HV := Lib.hid (cmpN_less hr)
                have HM1 := Lib.hid (HLz.out hr)
                clear hr
                by_cases hsh : G.length < 20
                · have hsI : ((G.length : Int) < 20) = True := eq_true (by omega)
                  go_upto_region 19 with fail
                  obtain ⟨W, hW⟩ : ∃ W, W = wr.alloc (Obj.cells #[Value.string xf, Value.int IntKind.i64 xl, Value.int IntKind.i64 xc, Value.int IntKind.i64 xe, Value.string xt] 35) := ⟨_, rfl⟩
                  rw [← hW]
                  have hb : Below wr.heap.size wr W := by rw [hW]; exact (Below.refl _ _).alloc (Nat.le_refl _) _
                  have k0 := cell_regrown (show W.cell? ⟨wr.heap.size, 0, none⟩ = some (.string xf) by rw [hW]; go_simp)
                  have k1 := cell_regrown (show W.cell? ⟨wr.heap.size, 1, none⟩ = some (.int .i64 xl) by rw [hW]; go_simp)
                  have k2 := cell_regrown (show W.cell? ⟨wr.heap.size, 2, none⟩ = some (.int .i64 xc) by rw [hW]; go_simp)
                  have k3 := cell_regrown (show W.cell? ⟨wr.heap.size, 3, none⟩ = some (.int .i64 xe) by rw [hW]; go_simp)
                  have k4 := cell_regrown (show W.cell? ⟨wr.heap.size, 4, none⟩ = some (.string xt) by rw [hW]; go_simp)
                  have kz0 := cell_regrown (f5_cell hb z0)
                  have kz1 := cell_regrown (f5_cell hb z1)
                  have kz2 := cell_regrown (f5_cell hb z2)
                  have kz3 := cell_regrown (f5_cell hb z3)
                  have kz4 := cell_regrown (f5_cell hb z4)
                  have cA : ∀ d os, Calls Tryd.prog 13 #[.agg #[.string xf, .int .i64 xl, .int .i64 xc, .int .i64 xe, .string xt], .agg #[.string zf, .int .i64 zl, .int .i64 zc, .int .i64 ze, .string zt]] (grow (redrawn W d) os) (RetF (fun u _ => u = .int .i64 (-1)) (grow (redrawn W d) os)) := fun d os => by rw [← HV.out]; exact ret_fix (cmp_low ⟨xf, xl, xc, xe, xt⟩ ⟨zf, zl, zc, ze, zt⟩ _)
                  have cC : ∀ d os, Calls Tryd.prog 22 #[.slice (some ⟨g2, 0, none⟩) G.length c2, .agg #[.string xf, .int .i64 xl, .int .i64 xc, .int .i64 xe, .string xt]] (grow (redrawn W d) os) (RetF (fun u _ => u = .bool true) (grow (redrawn W d) os)) := fun d os => ret_fix (contains_yes g2 0 c2 G ⟨xf, xl, xc, xe, xt⟩ _ (by omega) HM1.out ((HRGw.out.below hb).below (below_regrown W d os)))
                  have cD : ∀ d os, Calls Tryd.prog 22 #[.slice (some ⟨g2, 0, none⟩) G.length c2, .agg #[.string xf, .int .i64 xl, .int .i64 xc, .int .i64 xe, .string xt]] (grow (redrawn W d) os) (RetF (fun u _ => u = .bool true) (grow (redrawn W d) os)) := fun d os => ret_fix (contains_yes g2 0 c2 G ⟨xf, xl, xc, xe, xt⟩ _ (by omega) HM1.out ((HRGw.out.below hb).below (below_regrown W d os)))
                  clear hW x0 x1 x2 x3 x4
                  clear z0 z1 z2 z3 z4
                  refine wp_region_rel 31 (by kernel_rfl) (by kernel_rfl) ?_
                  simp only [List.take_succ_cons, List.take_zero, List.drop_succ_cons, List.drop_zero]
                  (refine rel_fix0 (fun K hK => ?_); go_simp; refine hK _ ?_; clear hK K)
                  (refine rel_fix0 (fun K hK => ?_); go_simp; refine hK _ ?_; clear hK K)
                  (refine rel_fix0 (fun K hK => ?_); go_simp; refine hK _ ?_; clear hK K)
                  (refine rel_fix0 (fun K hK => ?_); go_simp; refine hK _ ?_; clear hK K)
                  (refine rel_fix0 (fun K hK => ?_); go_simp; refine hK _ ?_; clear hK K)
                  (refine rel_fix0 (fun K hK => ?_); go_simp; refine hK _ ?_; clear hK K)
                  (refine rel_fix0 (fun K hK => ?_); go_simp; refine hK _ ?_; clear hK K)
                  (refine rel_fix0 (fun K hK => ?_); go_simp; refine hK _ ?_; clear hK K)
                  (refine rel_fix0 (fun K hK => ?_); go_simp; refine hK _ ?_; clear hK K)
                  (refine rel_fix0 (fun K hK => ?_); go_simp; refine hK _ ?_; clear hK K)
                  (refine rel_fix0 (fun K hK => ?_); go_simp; refine hK _ ?_; clear hK K)
                  (refine rel_fix0 (fun K hK => ?_); go_simp; apply Exists.intro; refine ⟨fun _ _ => ?_, hK _ ?_⟩; (with_reducible exact cA _ _); clear hK K)
                  (refine rel_fix0 (fun K hK => ?_); go_simp; refine hK _ ?_; clear hK K)
                  (refine rel_fix0 (fun K hK => ?_); go_simp; refine hK _ ?_; clear hK K)
                  (refine rel_fix0 (fun K hK => ?_); go_simp; refine hK _ ?_; clear hK K)
                  (refine rel_fix0 (fun K hK => ?_); go_simp; refine hK _ ?_; clear hK K)
                  (refine rel_fix0 (fun K hK => ?_); go_simp; apply Exists.intro; refine ⟨fun _ _ => ?_, hK _ ?_⟩; (with_reducible exact cC _ _); clear hK K)
                  (refine rel_fix0 (fun K hK => ?_); go_simp; refine hK _ ?_; clear hK K)
                  (refine rel_fix0 (fun K hK => ?_); go_simp; refine hK _ ?_; clear hK K)
                  (refine rel_fix0 (fun K hK => ?_); go_simp; refine hK _ ?_; clear hK K)
                  (refine rel_fix0 (fun K hK => ?_); go_simp; refine hK _ ?_; clear hK K)
                  (refine rel_fix0 (fun K hK => ?_); go_simp; refine hK _ ?_; clear hK K)
                  (refine rel_fix0 (fun K hK => ?_); go_simp; refine hK _ ?_; clear hK K)
                  (refine rel_fix0 (fun K hK => ?_); go_simp; refine hK _ ?_; clear hK K)
                  (refine rel_fix0 (fun K hK => ?_); go_simp; refine hK _ ?_; clear hK K)
                  (refine rel_fix0 (fun K hK => ?_); go_simp; refine hK _ ?_; clear hK K)
                  (refine rel_fix0 (fun K hK => ?_); go_simp; refine hK _ ?_; clear hK K)
                  (refine rel_fix0 (fun K hK => ?_); go_simp; apply Exists.intro; refine ⟨fun _ _ => ?_, hK _ ?_⟩; (with_reducible exact cD _ _); clear hK K)
                  (refine rel_fix0 (fun K hK => ?_); go_simp; refine hK _ ?_; clear hK K)
                  (refine rel_fix0 (fun K hK => ?_); go_simp; refine hK _ ?_; clear hK K)
                  (refine rel_fix0 (fun K hK => ?_); go_simp; refine hK _ ?_; clear hK K)
                  refine rel_nil ?_
                  intro dq osq
                  simp only [relAll]
                  have hq := hlo.trans ((hb.trans ((below_regrown W dq osq).mono hb.size)).mono hlo.size)
                  clear k0 k1 k2 k3 k4 kz0 kz1 kz2 kz3 kz4 cA cC cD
                  go_wp2_with fail
                  go_roundw
                  case rel => exact ⟨i + 1, by omega, by go_num, hq⟩
                  case measure => simp [intOf]; omega
                · have hsI : ((G.length : Int) < 20) = False := eq_false (by omega)
                  go_upto_region 19 with fail
                  obtain ⟨W, hW⟩ : ∃ W, W = wr.alloc (Obj.cells #[Value.string xf, Value.int IntKind.i64 xl, Value.int IntKind.i64 xc, Value.int IntKind.i64 xe, Value.string xt] 35) := ⟨_, rfl⟩
                  rw [← hW]
                  have hb : Below wr.heap.size wr W := by rw [hW]; exact (Below.refl _ _).alloc (Nat.le_refl _) _
                  have k0 := cell_regrown (show W.cell? ⟨wr.heap.size, 0, none⟩ = some (.string xf) by rw [hW]; go_simp)
                  have k1 := cell_regrown (show W.cell? ⟨wr.heap.size, 1, none⟩ = some (.int .i64 xl) by rw [hW]; go_simp)
                  have k2 := cell_regrown (show W.cell? ⟨wr.heap.size, 2, none⟩ = some (.int .i64 xc) by rw [hW]; go_simp)
                  have k3 := cell_regrown (show W.cell? ⟨wr.heap.size, 3, none⟩ = some (.int .i64 xe) by rw [hW]; go_simp)
                  have k4 := cell_regrown (show W.cell? ⟨wr.heap.size, 4, none⟩ = some (.string xt) by rw [hW]; go_simp)
                  have kz0 := cell_regrown (f5_cell hb z0)
                  have kz1 := cell_regrown (f5_cell hb z1)
                  have kz2 := cell_regrown (f5_cell hb z2)
                  have kz3 := cell_regrown (f5_cell hb z3)
                  have kz4 := cell_regrown (f5_cell hb z4)
                  have cA : ∀ d os, Calls Tryd.prog 13 #[.agg #[.string xf, .int .i64 xl, .int .i64 xc, .int .i64 xe, .string xt], .agg #[.string zf, .int .i64 zl, .int .i64 zc, .int .i64 ze, .string zt]] (grow (redrawn W d) os) (RetF (fun u _ => u = .int .i64 (-1)) (grow (redrawn W d) os)) := fun d os => by rw [← HV.out]; exact ret_fix (cmp_low ⟨xf, xl, xc, xe, xt⟩ ⟨zf, zl, zc, ze, zt⟩ _)
                  have cC : ∀ d os, Calls Tryd.prog 22 #[.slice (some ⟨g2, 0, none⟩) G.length c2, .agg #[.string xf, .int .i64 xl, .int .i64 xc, .int .i64 xe, .string xt]] (grow (redrawn W d) os) (RetF (fun u _ => u = .bool true) (grow (redrawn W d) os)) := fun d os => ret_fix (contains_yes g2 0 c2 G ⟨xf, xl, xc, xe, xt⟩ _ (by omega) HM1.out ((HRGw.out.below hb).below (below_regrown W d os)))
                  clear hW x0 x1 x2 x3 x4
                  clear z0 z1 z2 z3 z4
                  refine wp_region_rel 31 (by kernel_rfl) (by kernel_rfl) ?_
                  simp only [List.take_succ_cons, List.take_zero, List.drop_succ_cons, List.drop_zero]
                  (refine rel_fix0 (fun K hK => ?_); go_simp; refine hK _ ?_; clear hK K)
                  (refine rel_fix0 (fun K hK => ?_); go_simp; refine hK _ ?_; clear hK K)
                  (refine rel_fix0 (fun K hK => ?_); go_simp; refine hK _ ?_; clear hK K)
                  (refine rel_fix0 (fun K hK => ?_); go_simp; refine hK _ ?_; clear hK K)
                  (refine rel_fix0 (fun K hK => ?_); go_simp; refine hK _ ?_; clear hK K)
                  (refine rel_fix0 (fun K hK => ?_); go_simp; refine hK _ ?_; clear hK K)
                  (refine rel_fix0 (fun K hK => ?_); go_simp; refine hK _ ?_; clear hK K)
                  (refine rel_fix0 (fun K hK => ?_); go_simp; refine hK _ ?_; clear hK K)
                  (refine rel_fix0 (fun K hK => ?_); go_simp; refine hK _ ?_; clear hK K)
                  (refine rel_fix0 (fun K hK => ?_); go_simp; refine hK _ ?_; clear hK K)
                  (refine rel_fix0 (fun K hK => ?_); go_simp; refine hK _ ?_; clear hK K)
                  (refine rel_fix0 (fun K hK => ?_); go_simp; apply Exists.intro; refine ⟨fun _ _ => ?_, hK _ ?_⟩; (with_reducible exact cA _ _); clear hK K)
                  (refine rel_fix0 (fun K hK => ?_); go_simp; refine hK _ ?_; clear hK K)
                  (refine rel_fix0 (fun K hK => ?_); go_simp; refine hK _ ?_; clear hK K)
                  (refine rel_fix0 (fun K hK => ?_); go_simp; refine hK _ ?_; clear hK K)
                  (refine rel_fix0 (fun K hK => ?_); go_simp; refine hK _ ?_; clear hK K)
                  (refine rel_fix0 (fun K hK => ?_); go_simp; apply Exists.intro; refine ⟨fun _ _ => ?_, hK _ ?_⟩; (with_reducible exact cC _ _); clear hK K)
                  (refine rel_fix0 (fun K hK => ?_); go_simp; refine hK _ ?_; clear hK K)
                  (refine rel_fix0 (fun K hK => ?_); go_simp; refine hK _ ?_; clear hK K)
                  (refine rel_fix0 (fun K hK => ?_); go_simp; refine hK _ ?_; clear hK K)
                  (refine rel_fix0 (fun K hK => ?_); go_simp; refine hK _ ?_; clear hK K)
                  (refine rel_fix0 (fun K hK => ?_); go_simp; refine hK _ ?_; clear hK K)
                  (refine rel_fix0 (fun K hK => ?_); go_simp; refine hK _ ?_; clear hK K)
                  (refine rel_fix0 (fun K hK => ?_); go_simp; refine hK _ ?_; clear hK K)
                  (refine rel_fix0 (fun K hK => ?_); go_simp; refine hK _ ?_; clear hK K)
                  (refine rel_fix0 (fun K hK => ?_); go_simp; refine hK _ ?_; clear hK K)
                  (refine rel_fix0 (fun K hK => ?_); go_simp; refine hK _ ?_; clear hK K)
                  (refine rel_fix0 (fun K hK => ?_); go_simp; refine hK _ ?_; clear hK K)
                  (refine rel_fix0 (fun K hK => ?_); go_simp; refine hK _ ?_; clear hK K)
                  (refine rel_fix0 (fun K hK => ?_); go_simp; refine hK _ ?_; clear hK K)
                  (refine rel_fix0 (fun K hK => ?_); go_simp; refine hK _ ?_; clear hK K)
                  refine rel_nil ?_
                  intro dq osq
                  simp only [relAll]
                  have hq := hlo.trans ((hb.trans ((below_regrown W dq osq).mono hb.size)).mono hlo.size)
                  clear k0 k1 k2 k3 k4 kz0 kz1 kz2 kz3 kz4 cA cC
                  go_wp2_with fail
                  go_roundw
                  case rel => exact ⟨i + 1, by omega, by go_num, hq⟩
                  case measure => simp [intOf]; omega
            · obtain rfl : i = L.length := by omega
              go_wp2_with fail
              go_meet
              exact hlo
        case rest =>
          have hl2 := hcut
          have HRG3 := Lib.hid (HRG2.out.below hl2)
          have hlo := HL3.out.trans (hl2.mono HL3.out.size)
          clear HRG2 HRL2 HL3 HB3 HSh HLa hl2
          go_wp2_with fail
          refine (placed_ok _).mono ?_
          rintro e w5 ⟨rfl, rfl⟩
          go_wp2_with fail
          refine (sort_ok g2 0 c2 G _ (by omega) HRG3.out).mono ?_
          rintro e w6 ⟨v6, rfl, ho6, hv6, hb6⟩
          rw [HAg.out] at ho6
          obtain ⟨g6, c6, rfl, -, -, -, hR6⟩ := own_rn ho6 rfl hv6
          replace hlo := hlo.trans (hb6.mono hlo.size)
          have C := Lib.hid (equal_ok g6 0 c6 g2 0 c2 G w6 (by omega) hR6.rr (HRG3.out.below hb6))
          clear ho6 hv6 hR6 hb6 HRG3
          go_wp2_with fail
          refine C.out.mono ?_
          rintro e w7 ⟨rfl, hb7⟩
          replace hlo := hlo.trans (hb7.mono hlo.size)
          clear C
          go_wp2_with fail
          go_ret
          exact ⟨rfl, hlo⟩
end Go.Proofs.YtmememehlfbgaaaDoor
