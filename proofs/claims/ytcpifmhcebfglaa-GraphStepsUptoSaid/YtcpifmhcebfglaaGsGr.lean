/- The makers' graph. Conditions: few inputs, registers, ands and outputs are asked for; the stream has handed out few numbers. -/
import Derived.Test.YtcpifmhcebfglaaGsGb
import Derived.Test.YtcpifmhcebfglaaMgRls
import Derived.Test.YtcpifmhcebfglaaMgGsB
import Derived.Deep.RegionHeld3
import Derived.Deep.RegionLaw
import Derived.IntWalk
namespace Go.Proofs.Ytcpifmhcebfglaa
open Go Go.RowKit Go.Sort
set_option linter.unusedVariables false
def LitsA (n : Nat) (A : List (Int × Int)) : Prop := ∀ j, j < A.length → (0 ≤ A[j]!.1 ∧ A[j]!.1 < 2 * ((n + j : Nat) : Int)) ∧ (0 ≤ A[j]!.2 ∧ A[j]!.2 < 2 * ((n + j : Nat) : Int))
def LitsR (m ins : Nat) (N : List ByteArray) (R : List Rg) : Prop := ∀ j, j < R.length → R[j]!.nm = N[ins + j]! ∧ 0 ≤ R[j]!.nx ∧ R[j]!.nx < 2 * (m : Int)
def LitsO (m : Nat) (O : List Int) : Prop := ∀ l ∈ O, 0 ≤ l ∧ l < 2 * (m : Int)
theorem LitsA.app {n : Nat} {A : List (Int × Int)} (h : LitsA n A) {T r1 r2 : Nat} (hT : T = n + A.length) (h1 : r1 < 2 * T) (h2 : r2 < 2 * T) : LitsA n (A ++ [((r1 : Int), (r2 : Int))]) := fun j hj => by
  rw [List.length_append, List.length_singleton] at hj
  by_cases hl : j < A.length
  · rw [app_low A _ hl]; exact h j hl
  · have e : j = A.length := by omega
    subst e
    rw [app_last]
    show (0 ≤ (r1 : Int) ∧ (r1 : Int) < _) ∧ (0 ≤ (r2 : Int) ∧ (r2 : Int) < _)
    omega
theorem LitsR.app {m ins : Nat} {N : List ByteArray} {R : List Rg} (h : LitsR m ins N R) {r : Rg} {j r1 : Nat} (hj : R.length = j) (h0 : r.nm = N[ins + j]!) (e : r.nx = (r1 : Int)) (h1 : r1 < 2 * m) : LitsR m ins N (R ++ [r]) := fun i hi => by
  rw [List.length_append, List.length_singleton] at hi
  by_cases hl : i < R.length
  · rw [app_low R _ hl]; exact h i hl
  · have e2 : i = R.length := by omega
    subst e2
    rw [app_last]
    refine ⟨by rw [h0, hj], ?_⟩
    rw [e]
    omega
theorem LitsO.app {m : Nat} {O : List Int} (h : LitsO m O) {r1 : Nat} (h1 : r1 < 2 * m) : LitsO m (O ++ [(r1 : Int)]) := fun l hl => by
  rcases List.mem_append.1 hl with hl | hl
  · exact h l hl
  · rw [List.mem_singleton] at hl
    subst hl; omega
/-- how far the graph is -/
structure Mk (b len cap : Nat) (a : Option Addr) (k c B p q n m ins regs ands outs : Nat) (N : List ByteArray) (vi vN : Value) (i j l : Nat) (w0 w : World) : Prop where
  all : ∃ N2 vn vr va vo R A O, GB B p q N N2 R A O vi vN vn vr va vo w ∧ (N2.length = outs ∧ allW N2 outs) ∧ (A.length = i ∧ LitsA n A) ∧ (R.length = j ∧ LitsR m ins N R) ∧ (O.length = l ∧ LitsO m O)
  adv : Adv b a len cap k c w0 w
theorem mk_node {b len cap : Nat} {a : Option Addr} {k c B p q n m ins regs ands outs : Nat} {N N2 : List ByteArray} {vi vN vn vr va vo v5 : Value} {i j l T r1 r2 : Nat} {R : List Rg} {A : List (Int × Int)} {O : List Int} {w0 w2 w5 : World} (hS : Str b a len cap k w0) (hB0 : w0.heap.size ≤ B) (hB2 : B ≤ w2.heap.size)
    (G : GB B p q N N2 R A O vi vN vn vr va vo w2) (AD : Adv b a len cap k c w0 w2) (h2 : N2.length = outs ∧ allW N2 outs) (hA : A.length = i ∧ LitsA n A) (hR : R.length = j ∧ LitsR m ins N R) (hO : O.length = l ∧ LitsO m O) (hT : T = n + i) (h3 : r1 < 2 * T) (h4 : r2 < 2 * T)
    (O5 : OwnK B 137 2 encN w5 v5 (A ++ [((r1 : Int), (r2 : Int))])) (hb5 : Below B w2 w5) (hg5 : w2.grownBy w5 va.ownBlock) :
    Mk b len cap a k c B p q n m ins regs ands outs N vi vN (i + 1) j l w0 (w5.setCell ⟨q, 3, none⟩ v5) := by
  refine ⟨⟨N2, vn, vr, v5, vo, R, _, O, GB.putA G hg5 O5, h2, ⟨by rw [List.length_append, hA.1]; rfl, hA.2.app (by rw [hA.1]; exact hT) h3 h4⟩, hR, hO⟩, adv_app hS AD ?_⟩
  exact (hb5.setCell (p := ⟨q, 3, none⟩) G.lo v5).mono hB0
theorem mk_reg {b len cap : Nat} {a : Option Addr} {k c B p q n m ins regs ands outs : Nat} {N N2 : List ByteArray} {vi vN vn vr va vo v5 : Value} {i j l r1 : Nat} {r : Rg} {R : List Rg} {A : List (Int × Int)} {O : List Int} {w0 w2 w5 : World} (hS : Str b a len cap k w0) (hB0 : w0.heap.size ≤ B) (hB2 : B ≤ w2.heap.size)
    (G : GB B p q N N2 R A O vi vN vn vr va vo w2) (AD : Adv b a len cap k c w0 w2) (h2 : N2.length = outs ∧ allW N2 outs) (hA : A.length = i ∧ LitsA n A) (hR : R.length = j ∧ LitsR m ins N R) (hO : O.length = l ∧ LitsO m O) (hx : r.nm = N[ins + j]!) (e : r.nx = (r1 : Int)) (h3 : r1 < 2 * m)
    (O5 : OwnK B 128 3 encR w5 v5 (R ++ [r])) (hb5 : Below B w2 w5) (hg5 : w2.grownBy w5 vr.ownBlock) :
    Mk b len cap a k c B p q n m ins regs ands outs N vi vN i (j + 1) l w0 (w5.setCell ⟨q, 2, none⟩ v5) := by
  refine ⟨⟨N2, vn, v5, va, vo, _, A, O, GB.putR G hg5 O5, h2, hA, ⟨by rw [List.length_append, hR.1]; rfl, hR.2.app hR.1 hx e h3⟩, hO⟩, adv_app hS AD ?_⟩
  exact (hb5.setCell (p := ⟨q, 2, none⟩) G.lo v5).mono hB0
theorem mk_out {b len cap : Nat} {a : Option Addr} {k c B p q n m ins regs ands outs : Nat} {N N2 : List ByteArray} {vi vN vn vr va vo v5 : Value} {i j l r1 : Nat} {R : List Rg} {A : List (Int × Int)} {O : List Int} {w0 w2 w5 : World} (hS : Str b a len cap k w0) (hB0 : w0.heap.size ≤ B) (hB2 : B ≤ w2.heap.size)
    (G : GB B p q N N2 R A O vi vN vn vr va vo w2) (AD : Adv b a len cap k c w0 w2) (h2 : N2.length = outs ∧ allW N2 outs) (hA : A.length = i ∧ LitsA n A) (hR : R.length = j ∧ LitsR m ins N R) (hO : O.length = l ∧ LitsO m O) (h3 : r1 < 2 * m)
    (O5 : OwnK B 67 1 encI w5 v5 (O ++ [(r1 : Int)])) (hb5 : Below B w2 w5) (hg5 : w2.grownBy w5 vo.ownBlock) :
    Mk b len cap a k c B p q n m ins regs ands outs N vi vN i j (l + 1) w0 (w5.setCell ⟨q, 4, none⟩ v5) := by
  refine ⟨⟨N2, vn, vr, va, v5, R, A, _, GB.putO G hg5 O5, h2, hA, hR, ⟨by rw [List.length_append, hO.1]; rfl, hO.2.app h3⟩⟩, adv_app hS AD ?_⟩
  exact (hb5.setCell (p := ⟨q, 4, none⟩) G.lo v5).mono hB0
theorem rowO {p : Nat} {B : Nat} {t : TypeId} {k : Nat} {α : Type} [Inhabited α] {enc : α → List Value} (hk : ∀ x, (enc x).length = k) {w : World} {ad : Option Addr} {n cp : Nat} {l : List α} (h : OwnK B t k enc w (.slice ad n cp) l) (hp : p < B) : n = l.length ∧ l.length ≤ cp ∧ (ad = none → cp = 0) ∧ RowB p k enc l ad w := by
  obtain ⟨ad', cp', hv, h1, h2, h3⟩ := h.rowB hk
  injection hv with g1 g2 g3
  subst g1 g3
  exact ⟨g2, h1, h2, h3.mono (Nat.le_of_lt hp)⟩
theorem gs_fin {B p q n m ins regs ands outs : Nat} {N N2 : List ByteArray} {R : List Rg} {A : List (Int × Int)} {O : List Int} {w : World} {adN ad1 ad2 ad3 ad4 : Option Addr} {cpN c1 c2 c3 c4 : Nat} (h1 : ins ≤ 100) (h2 : regs ≤ 100) (h3 : ands ≤ 1000) (h4 : outs ≤ 100) (hs0 : p < B) (hcp : ins ≤ N.length) (hlen : N.length = ins + regs) (HNW : allW N N.length) (hnI : adN = none → ins = 0) (hnd : n = 1 + ins + regs) (hmd : m = n + ands)
    (G : GB B p q N N2 R A O (.slice adN ins ins) (.slice adN N.length cpN) (.slice ad1 N2.length c1) (.slice ad2 R.length c2) (.slice ad3 A.length c3) (.slice ad4 O.length c4) w) (h2' : N2.length = outs ∧ allW N2 outs) (hA' : A.length = ands ∧ LitsA n A) (hR' : R.length = regs ∧ LitsR m ins N R) (hO' : O.length = outs ∧ LitsO m O) :
    ∃ g, MdG g ∧ GS p g (.agg #[.slice adN ins ins, .slice ad1 N2.length c1, .slice ad2 R.length c2, .slice ad3 A.length c3, .slice ad4 O.length c4]) (put5 w p (.slice adN ins ins) (.slice ad1 N2.length c1) (.slice ad2 R.length c2) (.slice ad3 A.length c3) (.slice ad4 O.length c4)) ∧ g.ins.length = ins ∧ g.regs.length = regs ∧ g.ands.length = ands ∧ g.outs.length = outs := by
  have htl : (N.take ins).length = ins := by simp; omega
  have hreg : regNamesL ⟨N.take ins, N2, R, A, O⟩ = N := by
    unfold regNamesL
    show N.take ins ++ R.map (·.nm) = N
    apply List.ext_getElem
    · simp; omega
    · intro i hi1 hi2
      by_cases hi : i < ins
      · rw [List.getElem_append_left (by omega), List.getElem_take]
      · have hj : i - ins < R.length := by omega
        rw [List.getElem_append_right (by omega), List.getElem_map]
        have := (hR'.2 (i - ins) hj).1
        rw [getElem!_pos R (i - ins) hj, show ins + (i - ins) = i by omega, getElem!_pos N i hi2] at this
        rw [← this]
        congr 2
        omega
  have p0 := rowO lenT (G.nm.put5 p (.slice adN ins ins) (.slice ad1 N2.length c1) (.slice ad2 R.length c2) (.slice ad3 A.length c3) (.slice ad4 O.length c4) hs0) hs0
  have p1 := rowO lenT (G.on.put5 p (.slice adN ins ins) (.slice ad1 N2.length c1) (.slice ad2 R.length c2) (.slice ad3 A.length c3) (.slice ad4 O.length c4) hs0) hs0
  have p2 := rowO lenR (G.regs.put5 p (.slice adN ins ins) (.slice ad1 N2.length c1) (.slice ad2 R.length c2) (.slice ad3 A.length c3) (.slice ad4 O.length c4) hs0) hs0
  have p3 := rowO lenN (G.ands.put5 p (.slice adN ins ins) (.slice ad1 N2.length c1) (.slice ad2 R.length c2) (.slice ad3 A.length c3) (.slice ad4 O.length c4) hs0) hs0
  have p4 := rowO lenI (G.outs.put5 p (.slice adN ins ins) (.slice ad1 N2.length c1) (.slice ad2 R.length c2) (.slice ad3 A.length c3) (.slice ad4 O.length c4) hs0) hs0
  refine ⟨⟨N.take ins, N2, R, A, O⟩, ⟨?_, ?_, ?_, ?_, ?_, ?_, ?_, ?_, ?_, ?_⟩, ⟨⟨adN, ad1, ad2, ad3, ad4, ins, c1, c2, c3, c4, ?_, ⟨?_, p1.2.1, p2.2.1, p3.2.1, p4.2.1, hnI, p1.2.2.1, p2.2.2.1, p3.2.2.1, p4.2.2.1⟩, p0.2.2.2.take ins hcp, p1.2.2.2, p2.2.2.2, p3.2.2.2, p4.2.2.2⟩⟩, htl, hR'.1, hA'.1, hO'.1⟩
  · show (N.take ins).length ≤ 128; omega
  · show N2.length ≤ 128; omega
  · show R.length ≤ 288; omega
  · show A.length ≤ 4000; omega
  · show O.length = N2.length; omega
  · rw [hreg]; exact HNW
  · show allW N2 N2.length; rw [h2'.1]; exact h2'.2
  · intro j hj
    have := hA'.2 j hj
    unfold baseL
    show (0 ≤ A[j]!.1 ∧ A[j]!.1 < 2 * (1 + ((N.take ins).length : Int) + (R.length : Int)) + 2 * (j : Int)) ∧ (0 ≤ A[j]!.2 ∧ A[j]!.2 < 2 * (1 + ((N.take ins).length : Int) + (R.length : Int)) + 2 * (j : Int))
    omega
  · intro r hr
    obtain ⟨j, hj, rfl⟩ := List.getElem_of_mem hr
    have := (hR'.2 j hj).2
    rw [getElem!_pos R j hj] at this
    unfold allL baseL
    show 0 ≤ R[j].nx ∧ R[j].nx < 2 * (1 + ((N.take ins).length : Int) + (R.length : Int)) + 2 * (A.length : Int)
    omega
  · intro l hl
    have := hO'.2 l hl
    unfold allL baseL
    show 0 ≤ l ∧ l < 2 * (1 + ((N.take ins).length : Int) + (R.length : Int)) + 2 * (A.length : Int)
    omega
  · show _ = Value.agg #[.slice adN (N.take ins).length ins, _, _, _, _]
    rw [htl]
  · show (N.take ins).length ≤ ins; omega
theorem infoND : (Try.prog.info? 137).map (fun i => (i.zero, i.size, i.bytes)) = some (some (.agg #[.int .i64 0, .int .i64 0]), 2, 16) := by kernel_rfl
theorem infoND_parts : ∃ i, Try.prog.info? 137 = some i ∧ i.zero = some (.agg #[.int .i64 0, .int .i64 0]) ∧ i.size = 2 ∧ i.bytes = 16 := by
  have h := infoND
  cases hi : Try.prog.info? 137 with
  | none => rw [hi] at h; cases h
  | some i =>
    rw [hi] at h
    simp only [Option.map_some, Option.some.injEq, Prod.mk.injEq] at h
    exact ⟨i, rfl, h.1, h.2.1, h.2.2⟩
theorem infoRD : (Try.prog.info? 128).map (fun i => (i.zero, i.size, i.bytes)) = some (some (.agg #[.string ⟨#[]⟩, .int .i64 0, .bool false]), 3, 32) := by kernel_rfl
theorem infoRD_parts : ∃ i, Try.prog.info? 128 = some i ∧ i.zero = some (.agg #[.string ⟨#[]⟩, .int .i64 0, .bool false]) ∧ i.size = 3 ∧ i.bytes = 32 := by
  have h := infoRD
  cases hi : Try.prog.info? 128 with
  | none => rw [hi] at h; cases h
  | some i =>
    rw [hi] at h
    simp only [Option.map_some, Option.some.injEq, Prod.mk.injEq] at h
    exact ⟨i, rfl, h.1, h.2.1, h.2.2⟩
theorem infoLD : (Try.prog.info? 67).map (fun i => (i.zero, i.size, i.bytes)) = some (some (.int .i64 0), 1, 8) := by kernel_rfl
theorem infoLD_parts : ∃ i, Try.prog.info? 67 = some i ∧ i.zero = some (.int .i64 0) ∧ i.size = 1 ∧ i.bytes = 8 := by
  have h := infoLD
  cases hi : Try.prog.info? 67 with
  | none => rw [hi] at h; cases h
  | some i =>
    rw [hi] at h
    simp only [Option.map_some, Option.some.injEq, Prod.mk.injEq] at h
    exact ⟨i, rfl, h.1, h.2.1, h.2.2⟩
abbrev z5 : List Value := [.slice none 0 0, .slice none 0 0, .slice none 0 0, .slice none 0 0, .slice none 0 0]
theorem allocZ (w : World) : BG w.heap.size (.slice none 0 0) (.slice none 0 0) (.slice none 0 0) (.slice none 0 0) (.slice none 0 0) (w.alloc (.cells #[.slice none 0 0, .slice none 0 0, .slice none 0 0, .slice none 0 0, .slice none 0 0] 31)) := Arr.allocV w z5 31
set_option maxRecDepth 100000 in
set_option maxHeartbeats 16000000 in
theorem graph_made (b len cap : Nat) (a : Option Addr) (k ins regs ands outs : Nat) (h1 : ins ≤ 100) (h2 : regs ≤ 100) (h3 : ands ≤ 1000) (h4 : outs ≤ 100) (hk : k ≤ 400000) (w : World) (hS : Str b a len cap k w) :
    Calls Try.prog 70 #[.pointer (some ⟨b, 0, none⟩), .int .i64 (ins : Int), .int .i64 (regs : Int), .int .i64 (ands : Int), .int .i64 (outs : Int)] w fun e w' => ∃ u, e = .returned u ∧ (∃ g, MdG g ∧ GS w.heap.size g u w' ∧ g.ins.length = ins ∧ g.regs.length = regs ∧ g.ands.length = ands ∧ g.outs.length = outs) ∧ Adv b a len cap k (3 * (ins + regs) + 3 * outs + 80 * ands + 80 * regs + 80 * outs) w w' := by
  have hbl := World.block_lt_of_cell? w _ hS.c0
  obtain ⟨M, hM⟩ : ∃ M : Nat, M = ins + regs := ⟨_, rfl⟩
  have fi : (ins : Int) + (regs : Int) = (M : Int) := by omega
  have hM2 : M ≤ 200 := by omega
  obtain ⟨P, hPd⟩ : ∃ P : Nat, P = 1 + ins := ⟨_, rfl⟩
  obtain ⟨n, hnd⟩ : ∃ n : Nat, n = P + regs := ⟨_, rfl⟩
  obtain ⟨m, hmd⟩ : ∃ m : Nat, m = n + ands := ⟨_, rfl⟩
  have f1 : (1 : Int) + (ins : Int) = (P : Int) := by omega
  have f2 : (P : Int) + (regs : Int) = (n : Int) := by omega
  have hn1 : 1 ≤ n ∧ n ≤ 201 := by omega
  have hm1 : 1 ≤ m ∧ m ≤ 1201 ∧ n ≤ m := by omega
  have HM := Lib.hid hM
  have HPD := Lib.hid hPd
  have HND := Lib.hid hnd
  have HMD := Lib.hid hmd
  clear hM hPd hnd hmd
  go_enter Try.func70, Try.ntmps70
  go_upto_region 1 with fail
  have bA := (Below.refl w.heap.size w).alloc (Nat.le_refl _) (.cells #[.slice none 0 0, .slice none 0 0, .slice none 0 0, .slice none 0 0, .slice none 0 0] 31)
  have S0 := hS.below bA
  have hs0 : w.heap.size < (w.alloc (.cells #[.slice none 0 0, .slice none 0 0, .slice none 0 0, .slice none 0 0, .slice none 0 0] 31)).heap.size := by simp
  have P0 := allocZ w
  have HHS := Lib.hid hS
  generalize w.alloc (.cells #[.slice none 0 0, .slice none 0 0, .slice none 0 0, .slice none 0 0, .slice none 0 0] 31) = W0 at bA S0 hs0 P0 ⊢
  generalize hp : w.heap.size = p at hs0 P0 bA hbl ⊢
  have HP := Lib.hid hp
  have HS0 := Lib.hid S0
  have HBA := Lib.hid bA
  have HP0 := Lib.hid P0
  clear hS S0 bA hp P0
  go_upto_region 2 with (first | (go_at_call 34; refine (words_made b len cap a k M (by omega) (by omega) _ HS0.out).mono ?_; rintro ee W1 ⟨u, rfl, ⟨N, hN, hNW, O1⟩, A1⟩))
  obtain ⟨adN, cpN, rfl⟩ := O1.slice
  obtain ⟨adN2, cpN2, hvN, hcp, hnN, RN⟩ := O1.rowB lenT
  injection hvN with e1 e2 e3
  subst e1 e3
  have hsl : ins ≤ N.length := by have := HM.out; omega
  have hsi : (0 : Int) ≤ (ins : Int) := by omega
  have hsi2 : (ins : Int) ≤ (cpN : Int) := by omega
  obtain ⟨⟨k1, hk1, S1⟩, G1⟩ := id A1
  have HS1 := Lib.hid S1
  have hs1 := G1.size
  have HPS : p < W1.heap.size := by omega
  have HN := Lib.hid hN
  have HNW := Lib.hid hNW
  have HO1 := Lib.hid O1
  have HRN := Lib.hid RN
  have HNN := Lib.hid hnN
  have HA1 := Lib.hid (show Adv b a len cap k (3 * M) w W1 from adv_trans (adv_below (adv_refl HHS.out 0) (by rw [HP.out]; exact HBA.out)) (Nat.le_add_right _ _) A1 (by omega))
  have P1 := Lib.hid (Arr.gS HP0.out G1 (by intro e; cases e; omega))
  clear hN hNW O1 A1 S1 G1 RN hnN e2
  go_cut [12] (fun s12 wx => ∃ q, s12 = .pointer (some ⟨q, 0, none⟩) ∧ Hid (Mk b len cap a k (3 * M + 3 * outs) W0.heap.size p q n m ins regs ands outs N (.slice adN ins ins) (.slice adN N.length cpN) 0 0 0 w wx))
  case first =>
    go_region_held3 (fun w' => True) (exact trivial)
      (first
        | (go_at_call 34; refine (words_made b len cap a k1 outs (by omega) (by omega) W1.drew (HS1.out.below (Below.drew (Below.refl _ _)))).mono ?_; rintro ee W2 ⟨u2, rfl, ⟨N2, hN2, hNW2, O2⟩, A2⟩; obtain ⟨ad2, n2, cp2, rfl⟩ := OwnK.sl O2; have hs2 := A2.gr.size; have HN2 := Lib.hid hN2; have HNW2 := Lib.hid hNW2; have HO2 := Lib.hid O2; have HA2 := Lib.hid A2; clear A2 hN2 hNW2 O2)
        | (go_at_call 34; refine (words_made b len cap a k1 outs (by omega) (by omega) (World.drew (W1.alloc (.cells #[.slice none 0 0, .slice none 0 0, .slice none 0 0, .slice none 0 0, .slice none 0 0] 31))) (HS1.out.below (Below.drew ((Below.refl _ _).alloc (Nat.le_refl _) (.cells #[.slice none 0 0, .slice none 0 0, .slice none 0 0, .slice none 0 0, .slice none 0 0] 31))))).mono ?_; rintro ee W2 ⟨u2, rfl, ⟨N2, hN2, hNW2, O2⟩, A2⟩; obtain ⟨ad2, n2, cp2, rfl⟩ := OwnK.sl O2; have hs2 := A2.gr.size; have HN2 := Lib.hid hN2; have HNW2 := Lib.hid hNW2; have HO2 := Lib.hid O2; have Y2 := Arr.gS (allocZ W1).drew A2.gr (by intro e; cases e; omega); have HA2 := Lib.hid A2; have z0 := Y2.cell (j := 0) (by simp); have z1 := Y2.cell (j := 1) (by simp); have z2 := Y2.cell (j := 2) (by simp); have z3 := Y2.cell (j := 3) (by simp); have z4 := Y2.cell (j := 4) (by simp); have f0 := Arr.free Y2 0; have f1 := Arr.free Y2 1; have f2 := Arr.free Y2 2; have f3 := Arr.free Y2 3; have f4 := Arr.free Y2 4; have lY := Arr.lt Y2; simp only [List.getElem!_cons_zero, List.getElem!_cons_succ, gV] at z0 z1 z2 z3 z4; have HY2 := Lib.hid Y2; clear A2 hN2 hNW2 O2 Y2))
    · go_wp2_with fail
      go_meet
      refine ⟨_, rfl, Lib.hid ?_⟩
      have bD := (Below.refl W1.heap.size W1).drew
      have bL := (Below.refl W2.heap.size W2).alloc (Nat.le_refl _) (.cells #[.slice adN ins ins, .slice ad2 n2 cp2, .slice none 0 0, .slice none 0 0, .slice none 0 0] 31)
      have hdr : W1.drew.heap.size = W1.heap.size := rfl
      have hne : p ≠ W2.heap.size := by omega
      have hbB : b < W0.heap.size := by omega
      have A3 := adv_below (adv_trans (c := 3 * M + 3 * outs) (adv_below HA1.out bD) hk1 HA2.out (by omega)) bL
      exact ⟨⟨N2, _, _, _, _, [], [], [], ⟨hne, by omega, Arr.below (Arr.gS P1.out.drew HA2.out.gr (by intro e; cases e; omega)) bL, Arr.allocV W2 [.slice adN ins ins, .slice ad2 n2 cp2, .slice none 0 0, .slice none 0 0, .slice none 0 0] 31, ((HO1.out.below bD).aparts HA2.out.gr hbB).below bL, (HO2.out.mono hs1).below bL, OwnK.nil _ _ _ _ _, OwnK.nil _ _ _ _ _, OwnK.nil _ _ _ _ _⟩, ⟨HN2.out, HNW2.out⟩, ⟨rfl, fun j hj => by simp at hj⟩, ⟨rfl, fun j hj => by simp at hj⟩, ⟨rfl, fun j hj => by cases hj⟩⟩, A3⟩
    · go_wp2_with fail
      go_meet
      refine ⟨_, rfl, Lib.hid ?_⟩
      have bD := ((Below.refl W1.heap.size W1).alloc (Nat.le_refl _) (.cells #[.slice none 0 0, .slice none 0 0, .slice none 0 0, .slice none 0 0, .slice none 0 0] 31)).drew
      have hdr : W1.drew.heap.size = W1.heap.size := rfl
      have hne : p ≠ W1.heap.size := by omega
      have hbB : b < W0.heap.size := by omega
      have X5 := BG.all HY2.out (.slice adN ins ins) (.slice ad2 n2 cp2) (.slice none 0 0) (.slice none 0 0) (.slice none 0 0)
      have bP := put5_below (Below.refl W1.heap.size W2) (.slice adN ins ins) (.slice ad2 n2 cp2) (.slice none 0 0) (.slice none 0 0) (.slice none 0 0)
      have A3 := adv_app HHS.out (adv_trans (c := 3 * M + 3 * outs) (adv_below HA1.out bD) hk1 HA2.out (by omega)) (bP.mono (by have := HP.out; omega))
      have Q1 := ((((OwnK.putA ((HO1.out.below bD).aparts HA2.out.gr hbB) HY2.out (by decide) 0 (.slice adN ins ins)).putA (Arr.set HY2.out 0 (.slice adN ins ins)) (by decide) 1 (.slice ad2 n2 cp2)).putA (Arr.set (Arr.set HY2.out 0 (.slice adN ins ins)) 1 (.slice ad2 n2 cp2)) (by decide) 2 (.slice none 0 0)).putA (Arr.set (Arr.set (Arr.set HY2.out 0 (.slice adN ins ins)) 1 (.slice ad2 n2 cp2)) 2 (.slice none 0 0)) (by decide) 3 (.slice none 0 0)).putA (Arr.set (Arr.set (Arr.set (Arr.set HY2.out 0 (.slice adN ins ins)) 1 (.slice ad2 n2 cp2)) 2 (.slice none 0 0)) 3 (.slice none 0 0)) (by decide) 4 (.slice none 0 0)
      have Q2 := ((((OwnK.putA (HO2.out.mono (Nat.le_trans hs1 bD.size)) HY2.out (by decide) 0 (.slice adN ins ins)).putA (Arr.set HY2.out 0 (.slice adN ins ins)) (by decide) 1 (.slice ad2 n2 cp2)).putA (Arr.set (Arr.set HY2.out 0 (.slice adN ins ins)) 1 (.slice ad2 n2 cp2)) (by decide) 2 (.slice none 0 0)).putA (Arr.set (Arr.set (Arr.set HY2.out 0 (.slice adN ins ins)) 1 (.slice ad2 n2 cp2)) 2 (.slice none 0 0)) (by decide) 3 (.slice none 0 0)).putA (Arr.set (Arr.set (Arr.set (Arr.set HY2.out 0 (.slice adN ins ins)) 1 (.slice ad2 n2 cp2)) 2 (.slice none 0 0)) 3 (.slice none 0 0)) (by decide) 4 (.slice none 0 0)
      have R1 := Arr.gS (Arr.drew (Arr.below P1.out ((Below.refl W1.heap.size W1).alloc (Nat.le_refl _) (.cells #[.slice none 0 0, .slice none 0 0, .slice none 0 0, .slice none 0 0, .slice none 0 0] 31)))) HA2.out.gr (by intro e; cases e; omega)
      have R2 := ((((Arr.other (v := .slice adN ins ins) (p := ⟨W1.heap.size, 0, none⟩) R1 hne).other (v := .slice ad2 n2 cp2) (p := ⟨W1.heap.size, 1, none⟩) hne).other (v := .slice none 0 0) (p := ⟨W1.heap.size, 2, none⟩) hne).other (v := .slice none 0 0) (p := ⟨W1.heap.size, 3, none⟩) hne).other (v := .slice none 0 0) (p := ⟨W1.heap.size, 4, none⟩) hne
      exact ⟨⟨N2, _, _, _, _, [], [], [], ⟨hne, by omega, R2, X5, Q1, Q2, OwnK.nil _ _ _ _ _, OwnK.nil _ _ _ _ _, OwnK.nil _ _ _ _ _⟩, ⟨HN2.out, HNW2.out⟩, ⟨rfl, fun j hj => by simp at hj⟩, ⟨rfl, fun j hj => by simp at hj⟩, ⟨rfl, fun j hj => by cases hj⟩⟩, A3⟩
  case rest =>
    obtain ⟨q, rfl, HK⟩ := hcut
    rename World => W3
    have hbB : b < W0.heap.size := by omega
    have hbp : b ≠ p := by omega
    have hB0 : w.heap.size ≤ W0.heap.size := by have := HP.out; omega
    clear P1
    obtain ⟨i0, ihi, ihz, ihs, ihb⟩ := infoND_parts
    go_upto_block 0 with fail
    go_wp2_with fail
    go_loopw [34] (fun i wr => ∃ j : Nat, j ≤ ands ∧ i = .int .i64 (j : Int) ∧ Hid (Mk b len cap a k (3 * M + 3 * outs + 80 * j) W0.heap.size p q n m ins regs ands outs N (.slice adN ins ins) (.slice adN N.length cpN) j 0 0 w wr)) (fun i _ => ands - (intOf i).toNat)
    case atStart => exact ⟨0, Nat.zero_le _, rfl, HK⟩
    case round =>
      clear HK
      obtain ⟨j, hj, rfl, hK⟩ := hrel
      rename World => WR
      have hj0 : (0 : Int) ≤ (j : Int) := by omega
      by_cases hlt : j < ands
      · have hji : (j : Int) < (ands : Int) := by omega
        obtain ⟨N2, vn, vr, va, vo, R, A, O, G, h2', hA', hR', hO'⟩ := hK.out.all
        have AD := hK.out.adv
        obtain ⟨⟨k3, hk3, S3⟩, G3⟩ := id AD
        obtain ⟨ada, cpa, hva⟩ := G.ands.slice
        subst hva
        obtain ⟨T, hT⟩ : ∃ T : Nat, T = n + j := ⟨_, rfl⟩
        have fj : (n : Int) + (j : Int) = (T : Int) := by omega
        have hT2 : 1 ≤ T ∧ T ≤ 1300 := by omega
        have hAl : A.length ≤ 1000 := by rw [hA'.1]; omega
        have HT := Lib.hid hT
        clear hT
        have HFW := Lib.hid (show IntKind.i64.wrap (T : Int) = (T : Int) from IntWalk.i64_in _ (by omega))
        have hbq : b ≠ q := by have := G.lo; omega
        have hWR : W0.heap.size ≤ WR.heap.size := Nat.le_trans G.lo (Nat.le_of_lt (Arr.lt G.box))
        have hx := Arr.cell (j := 3) G.box (by simp)
        have lq := Arr.lt G.box
        simp only [List.getElem!_cons_zero, List.getElem!_cons_succ, gV] at hx
        have SS := sysB b a len cap k3 4
        have st0 : JSb b a len cap k3 4 0 WR := ⟨k3, by omega, S3⟩
        have HG := Lib.hid G
        have HAD := Lib.hid AD
        have H2 := Lib.hid h2'
        have HA := Lib.hid hA'
        have HR := Lib.hid hR'
        have HO := Lib.hid hO'
        clear hK G AD S3 G3 h2' hA' hR' hO'
        go_upto_block 1 with fail
        go_cut [] (fun wx => Hid (Mk b len cap a k (3 * M + 3 * outs + 80 * (j + 1)) W0.heap.size p q n m ins regs ands outs N (.slice adN ins ins) (.slice adN N.length cpN) (j + 1) 0 0 w wx))
        case first =>
          go_upto_region 7 with fail
          have fw := HFW.out
          refine Rels.wp_region_rels SS 14 (Nat.le_refl _) st0 (by kernel_rfl) (by kernel_rfl) ?_
          simp only [List.take_succ_cons, List.take_zero, List.drop_succ_cons, List.drop_zero]
          refine Rels.rel_q SS (by kernel_rfl) (by kernel_rfl) (by kernel_rfl) rfl ?_
          apply Exists.intro
          refine ⟨fun W hg => ?_, fun K hK => ?_⟩
          · go_simp
            all_goals first | done | exact rfl | skip
          go_simp
          refine hK _ ?_
          clear hK K
          refine Rels.rel_q SS (by kernel_rfl) (by kernel_rfl) (by kernel_rfl) rfl ?_
          apply Exists.intro
          refine ⟨fun W hg => ?_, fun K hK => ?_⟩
          · have y := gsb_cell hg hbq hx; go_simp
            all_goals first | done | exact rfl | skip
          go_simp
          refine hK _ ?_
          clear hK K
          refine Rels.rel_q SS (by kernel_rfl) (by kernel_rfl) (by kernel_rfl) rfl ?_
          apply Exists.intro
          refine ⟨fun W hg => ?_, fun K hK => ?_⟩
          · go_simp
            all_goals first | done | exact rfl | skip
          go_simp
          refine hK _ ?_
          clear hK K
          refine Rels.rel_q SS (by kernel_rfl) (by kernel_rfl) (by kernel_rfl) rfl ?_
          apply Exists.intro
          refine ⟨fun W hg => ?_, fun K hK => ?_⟩
          · go_simp
            all_goals first | done | exact rfl | skip
          go_simp
          refine hK _ ?_
          clear hK K
          refine Rels.rel_q SS (by kernel_rfl) (by kernel_rfl) (by kernel_rfl) rfl ?_
          apply Exists.intro
          refine ⟨fun W hg => ?_, fun K hK => ?_⟩
          · go_simp
            all_goals first | done | exact rfl | skip
          go_simp
          refine hK _ ?_
          clear hK K
          refine Rels.rel_q SS (by kernel_rfl) (by kernel_rfl) (by kernel_rfl) rfl ?_
          apply Exists.intro
          refine ⟨fun W hg => ?_, fun K hK => ?_⟩
          · go_simp
            all_goals first | done | exact rfl | skip
          go_simp
          refine hK _ ?_
          clear hK K
          refine Rels.rel_fact [] (fun v _ => LitF T v) 43 rfl (by simp [Act.put]) (litF_sta T _) (by rfl) (by kernel_rfl) (by kernel_rfl) (fun W i hi hg hj => ?_) ?_
          · have HJ9 := Lib.hid hj
            clear hj
            simp only [relAll]
            go_simp
            obtain ⟨k9, hk9, hs9⟩ := HJ9.out
            clear fw
            refine (lit_any b len cap a k9 T (by omega) (by omega) (by omega) _ hs9).mono ?_
            rintro e9 w9 ⟨r9, hr9, rfl, A9⟩
            exact retB hk9 (by omega) (F := fun v _ => LitF T v) ⟨r9, hr9, rfl⟩ A9
          refine Rels.rel_q SS (by kernel_rfl) (by kernel_rfl) (by kernel_rfl) rfl ?_
          apply Exists.intro
          refine ⟨fun W hg => ?_, fun K hK => ?_⟩
          · go_simp
            all_goals first | done | exact rfl | skip
          go_simp
          refine hK _ ?_
          clear hK K
          refine Rels.rel_q SS (by kernel_rfl) (by kernel_rfl) (by kernel_rfl) rfl ?_
          apply Exists.intro
          refine ⟨fun W hg => ?_, fun K hK => ?_⟩
          · go_simp
            all_goals first | done | exact rfl | skip
          go_simp
          refine hK _ ?_
          clear hK K
          refine Rels.rel_q SS (by kernel_rfl) (by kernel_rfl) (by kernel_rfl) rfl ?_
          apply Exists.intro
          refine ⟨fun W hg => ?_, fun K hK => ?_⟩
          · go_simp
            all_goals first | done | exact rfl | skip
          go_simp
          refine hK _ ?_
          clear hK K
          refine Rels.rel_q SS (by kernel_rfl) (by kernel_rfl) (by kernel_rfl) rfl ?_
          apply Exists.intro
          refine ⟨fun W hg => ?_, fun K hK => ?_⟩
          · go_simp
            all_goals first | done | exact rfl | skip
          go_simp
          refine hK _ ?_
          clear hK K
          refine Rels.rel_fact [] (fun v _ => LitF T v) 48 rfl (by simp [Act.put]) (litF_sta T _) (by rfl) (by kernel_rfl) (by kernel_rfl) (fun W i hi hg hj => ?_) ?_
          · have HJ9 := Lib.hid hj
            clear hj
            simp only [relAll]
            go_simp
            obtain ⟨k9, hk9, hs9⟩ := HJ9.out
            clear fw
            refine (lit_any b len cap a k9 T (by omega) (by omega) (by omega) _ hs9).mono ?_
            rintro e9 w9 ⟨r9, hr9, rfl, A9⟩
            exact retB hk9 (by omega) (F := fun v _ => LitF T v) ⟨r9, hr9, rfl⟩ A9
          refine Rels.rel_qf SS [(48, _), (43, _)] (NodF T) 49 rfl (by simp [Act.put]) (by rfl) (by kernel_rfl) (by kernel_rfl) rfl (fun W hg => ?_) ?_
          · simp only [relAll]
            rintro v48 ⟨r2, hr2, rfl⟩ v43 ⟨r1, hr1, rfl⟩
            go_simp
            exact ⟨r1, r2, hr1, hr2, rfl⟩
          refine Rels.rel_fact [(49, _)] (NewX b encN (NodP T)) 50 rfl (by simp [Act.put]) (newX_sta b _ _) (by rfl) (by kernel_rfl) (by kernel_rfl) (fun W i hi hg hj => ?_) ?_
          · have HJ9 := Lib.hid hj
            clear hj
            simp only [relAll]
            rintro v49 ⟨r1, r2, hr1, hr2, rfl⟩
            go_simp
            obtain ⟨k9, hk9, hs9⟩ := HJ9.out
            exact newX_alloc (x := ((r1 : Int), (r2 : Int))) ⟨r1, r2, hr1, hr2, rfl⟩ rfl hk9 hs9
          refine Rels.rel_nil ?_
          intro W hg hj
          simp only [relAll]
          clear fw
          rintro v50 ⟨g, x, rfl, ⟨r1, r2, hr1, hr2, rfl⟩, hbg, hy⟩ v49 - v48 - v43 - HA9
          obtain ⟨k9, hk9, hs9⟩ := hj
          have HGW := Lib.hid (HG.out.adv hg hbB hbp hbq)
          have HAW := Lib.hid (adv_trans (c := 3 * M + 3 * outs + 80 * (j + 1)) HAD.out hk3 (⟨⟨k9, hk9, hs9⟩, hg⟩ : Adv b a len cap k3 (4 * 14) WR W) (by omega))
          have hWW : W0.heap.size ≤ W.heap.size := Nat.le_trans hWR (show WR.grownBy W (some b) from hg).size
          clear hs9 hk9 k9 SS st0 hx lq HA9
          go_wp2_with (at_builtin; refine wpList_append_one (enc := encN) (k := 2) (fun _ => rfl) (by decide) (fun x u hu => by simp at hu; rcases hu with rfl | rfl <;> rfl) rfl _ _ 28 rfl (W0.heap.size) 137 i0 (.agg #[.int .i64 0, .int .i64 0]) 16 Try.underlying28 ihi ihz ihs ihb (by decide) (.slice ada A.length cpa) A rfl HGW.out.ands g 1 ((r1 : Int), (r2 : Int)) rfl hy (by unfold maxLen; omega) (by omega) hWW ?_; intro v5 w5 O5 hb5 hg5; obtain ⟨ad5, n5, cp5, hv5⟩ := OwnK.sl O5; subst hv5; have A5 := Arr.gO HGW.out.box HGW.out.ands (by decide) hg5; have hx5 := Arr.cell (j := 3) A5 (by simp); have lq5 := Arr.lt A5; have fq5 := Arr.free A5 3; simp only [List.getElem!_cons_zero, List.getElem!_cons_succ, gV] at hx5)
          go_meet
          exact Lib.hid (mk_node HHS.out hB0 hWW HGW.out HAW.out H2.out HA.out HR.out HO.out HT.out hr1 hr2 O5 hb5 hg5)
        case rest =>
          have HK8 := Lib.hid hcut.out
          clear hcut
          go_wp2_with fail
          go_roundw
          case rel => exact ⟨j + 1, by omega, by go_num, HK8⟩
          all_goals first | done | (simp [intOf]; done) | (simp [intOf]; omega)
      · have hji : ¬ (j : Int) < (ands : Int) := by omega
        have hjn : j = ands := by omega
        have HKE := Lib.hid (show Mk b len cap a k (3 * M + 3 * outs + 80 * ands) W0.heap.size p q n m ins regs ands outs N (.slice adN ins ins) (.slice adN N.length cpN) ands 0 0 w WR by have hh := hK.out; rw [hjn] at hh; exact hh)
        clear hK
        have HK := Lib.hid HKE.out
        clear HKE ihi ihz ihs ihb hjn
        have f4 : (n : Int) + (ands : Int) = (m : Int) := by have := HMD.out; omega
        obtain ⟨i0, ihi, ihz, ihs, ihb⟩ := infoRD_parts
        go_upto_block 2 with fail
        go_wp2_with fail
        go_loopw [55] (fun i wr => ∃ j : Nat, j ≤ regs ∧ i = .int .i64 (j : Int) ∧ Hid (Mk b len cap a k (3 * M + 3 * outs + 80 * ands + 80 * j) W0.heap.size p q n m ins regs ands outs N (.slice adN ins ins) (.slice adN N.length cpN) ands j 0 w wr)) (fun i _ => regs - (intOf i).toNat)
        case atStart => exact ⟨0, Nat.zero_le _, rfl, HK⟩
        case round =>
          clear HK
          obtain ⟨j, hj, rfl, hK⟩ := hrel
          rename World => WR
          have hj0 : (0 : Int) ≤ (j : Int) := by omega
          by_cases hlt : j < regs
          · have hji : (j : Int) < (regs : Int) := by omega
            obtain ⟨N2, vn, vr, va, vo, R, A, O, G, h2', hA', hR', hO'⟩ := hK.out.all
            have AD := hK.out.adv
            obtain ⟨⟨k3, hk3, S3⟩, G3⟩ := id AD
            obtain ⟨ada, cpa, hva⟩ := G.regs.slice
            subst hva
            have hAl : R.length ≤ 100 := by rw [hR'.1]; omega
            obtain ⟨Q, hQ⟩ : ∃ Q : Nat, Q = ins + j := ⟨_, rfl⟩
            have fq : (ins : Int) + (j : Int) = (Q : Int) := by omega
            have hQN : Q < N.length := by have := HM.out; have := HN.out; omega
            obtain ⟨adN', cpN', hvn, hcpn, hnn, RNB⟩ := G.nm.rowB lenT
            injection hvn with g1 g2 g3
            subst g1 g3
            rcases RNB with RNB | ⟨bN, oN, hadN, hBN, cN⟩
            · omega
            subst hadN
            have hxN := cN Q hQN 0 _ rfl
            simp only [Nat.mul_one, Nat.add_zero] at hxN
            have hbN : b ≠ bN := by omega
            have hQi : (Q : Int) < (N.length : Int) := by omega
            have hQ0 : (0 : Int) ≤ (Q : Int) := by omega
            have HNX0 := Lib.hid (show N[Q]! = N[ins + j]! by rw [hQ])
            generalize N[Q]! = nmx at hxN HNX0
            have HFW := Lib.hid (show IntKind.i64.wrap (m : Int) = (m : Int) from IntWalk.i64_in _ (by omega))
            have HFQ := Lib.hid (show IntKind.i64.wrap (Q : Int) = (Q : Int) from IntWalk.i64_in _ (by omega))
            clear hQ cN hcpn hnn g2
            have hbq : b ≠ q := by have := G.lo; omega
            have hWR : W0.heap.size ≤ WR.heap.size := Nat.le_trans G.lo (Nat.le_of_lt (Arr.lt G.box))
            have hx := Arr.cell (j := 2) G.box (by simp)
            have lq := Arr.lt G.box
            simp only [List.getElem!_cons_zero, List.getElem!_cons_succ, gV] at hx
            have SS := sysB b a len cap k3 4
            have st0 : JSb b a len cap k3 4 0 WR := ⟨k3, by omega, S3⟩
            have HG := Lib.hid G
            have HAD := Lib.hid AD
            have H2 := Lib.hid h2'
            have HA := Lib.hid hA'
            have HR := Lib.hid hR'
            have HO := Lib.hid hO'
            clear hK G AD S3 G3 h2' hA' hR' hO'
            go_upto_block 3 with fail
            go_cut [] (fun wx => Hid (Mk b len cap a k (3 * M + 3 * outs + 80 * ands + 80 * (j + 1)) W0.heap.size p q n m ins regs ands outs N (.slice (some ⟨bN, oN, none⟩) ins ins) (.slice (some ⟨bN, oN, none⟩) N.length cpN) ands (j + 1) 0 w wx))
            case first =>
              go_upto_region 12 with fail
              have fw := HFW.out
              have fwq := HFQ.out
              refine Rels.wp_region_rels SS 18 (Nat.le_refl _) st0 (by kernel_rfl) (by kernel_rfl) ?_
              simp only [List.take_succ_cons, List.take_zero, List.drop_succ_cons, List.drop_zero]
              refine Rels.rel_q SS (by kernel_rfl) (by kernel_rfl) (by kernel_rfl) rfl ?_
              apply Exists.intro
              refine ⟨fun W hg => ?_, fun K hK => ?_⟩
              · go_simp
                all_goals first | done | exact rfl | skip
              go_simp
              refine hK _ ?_
              clear hK K
              refine Rels.rel_q SS (by kernel_rfl) (by kernel_rfl) (by kernel_rfl) rfl ?_
              apply Exists.intro
              refine ⟨fun W hg => ?_, fun K hK => ?_⟩
              · have y := gsb_cell hg hbq hx; go_simp
                all_goals first | done | exact rfl | skip
              go_simp
              refine hK _ ?_
              clear hK K
              refine Rels.rel_q SS (by kernel_rfl) (by kernel_rfl) (by kernel_rfl) rfl ?_
              apply Exists.intro
              refine ⟨fun W hg => ?_, fun K hK => ?_⟩
              · go_simp
                all_goals first | done | exact rfl | skip
              go_simp
              refine hK _ ?_
              clear hK K
              refine Rels.rel_q SS (by kernel_rfl) (by kernel_rfl) (by kernel_rfl) rfl ?_
              apply Exists.intro
              refine ⟨fun W hg => ?_, fun K hK => ?_⟩
              · go_simp
                all_goals first | done | exact rfl | skip
              go_simp
              refine hK _ ?_
              clear hK K
              refine Rels.rel_q SS (by kernel_rfl) (by kernel_rfl) (by kernel_rfl) rfl ?_
              apply Exists.intro
              refine ⟨fun W hg => ?_, fun K hK => ?_⟩
              · go_simp
                all_goals first | done | exact rfl | skip
              go_simp
              refine hK _ ?_
              clear hK K
              refine Rels.rel_q SS (by kernel_rfl) (by kernel_rfl) (by kernel_rfl) rfl ?_
              apply Exists.intro
              refine ⟨fun W hg => ?_, fun K hK => ?_⟩
              · go_simp
                all_goals first | done | exact rfl | skip
              go_simp
              refine hK _ ?_
              clear hK K
              refine Rels.rel_q SS (by kernel_rfl) (by kernel_rfl) (by kernel_rfl) rfl ?_
              apply Exists.intro
              refine ⟨fun W hg => ?_, fun K hK => ?_⟩
              · go_simp
                all_goals first | done | exact rfl | skip
              go_simp
              refine hK _ ?_
              clear hK K
              refine Rels.rel_q SS (by kernel_rfl) (by kernel_rfl) (by kernel_rfl) rfl ?_
              apply Exists.intro
              refine ⟨fun W hg => ?_, fun K hK => ?_⟩
              · have y := gsb_cell hg hbN hxN; go_simp
                all_goals first | done | exact rfl | skip
              go_simp
              refine hK _ ?_
              clear hK K
              refine Rels.rel_q SS (by kernel_rfl) (by kernel_rfl) (by kernel_rfl) rfl ?_
              apply Exists.intro
              refine ⟨fun W hg => ?_, fun K hK => ?_⟩
              · go_simp
                all_goals first | done | exact rfl | skip
              go_simp
              refine hK _ ?_
              clear hK K
              refine Rels.rel_q SS (by kernel_rfl) (by kernel_rfl) (by kernel_rfl) rfl ?_
              apply Exists.intro
              refine ⟨fun W hg => ?_, fun K hK => ?_⟩
              · go_simp
                all_goals first | done | exact rfl | skip
              go_simp
              refine hK _ ?_
              clear hK K
              refine Rels.rel_q SS (by kernel_rfl) (by kernel_rfl) (by kernel_rfl) rfl ?_
              apply Exists.intro
              refine ⟨fun W hg => ?_, fun K hK => ?_⟩
              · go_simp
                all_goals first | done | exact rfl | skip
              go_simp
              refine hK _ ?_
              clear hK K
              refine Rels.rel_q SS (by kernel_rfl) (by kernel_rfl) (by kernel_rfl) rfl ?_
              apply Exists.intro
              refine ⟨fun W hg => ?_, fun K hK => ?_⟩
              · go_simp
                all_goals first | done | exact rfl | skip
              go_simp
              refine hK _ ?_
              clear hK K
              refine Rels.rel_fact [] (fun v _ => LitF m v) 70 rfl (by simp [Act.put]) (litF_sta m _) (by rfl) (by kernel_rfl) (by kernel_rfl) (fun W i hi hg hj => ?_) ?_
              · have HJ9 := Lib.hid hj
                clear hj
                simp only [relAll]
                go_simp
                obtain ⟨k9, hk9, hs9⟩ := HJ9.out
                clear fw fwq
                refine (lit_any b len cap a k9 m (by omega) (by omega) (by omega) _ hs9).mono ?_
                rintro e9 w9 ⟨r9, hr9, rfl, A9⟩
                exact retB hk9 (by omega) (F := fun v _ => LitF m v) ⟨r9, hr9, rfl⟩ A9
              refine Rels.rel_q SS (by kernel_rfl) (by kernel_rfl) (by kernel_rfl) rfl ?_
              apply Exists.intro
              refine ⟨fun W hg => ?_, fun K hK => ?_⟩
              · go_simp
                all_goals first | done | exact rfl | skip
              go_simp
              refine hK _ ?_
              clear hK K
              refine Rels.rel_fact [] (fun v _ => NumF 2 v) 72 rfl (by simp [Act.put]) (fun _ _ _ h _ => h) (by rfl) (by kernel_rfl) (by kernel_rfl) (fun W i hi hg hj => ?_) ?_
              · have HJ9 := Lib.hid hj
                clear hj
                simp only [relAll]
                go_simp
                obtain ⟨k9, hk9, hs9⟩ := HJ9.out
                clear fw fwq
                refine (next_any b len cap a k9 2 (by omega) (by omega) (by omega) _ hs9).mono ?_
                rintro e9 w9 ⟨r9, hr9, rfl, A9⟩
                exact retB hk9 (by omega) (F := fun v _ => NumF 2 v) ⟨r9, by omega, rfl⟩ A9
              refine Rels.rel_qf SS [(72, _)] (BitF) 73 rfl (by simp [Act.put]) (by rfl) (by kernel_rfl) (by kernel_rfl) rfl (fun W hg => ?_) ?_
              · simp only [relAll]
                rintro v72 ⟨r2, hr2, rfl⟩
                go_simp
                exact ⟨_, rfl⟩
              refine Rels.rel_qf SS [(73, _), (70, _)] (RegF nmx m) 74 rfl (by simp [Act.put]) (by rfl) (by kernel_rfl) (by kernel_rfl) rfl (fun W hg => ?_) ?_
              · simp only [relAll]
                rintro v73 ⟨t, rfl⟩ v70 ⟨r1, hr1, rfl⟩
                go_simp
                exact ⟨r1, t, hr1, rfl⟩
              refine Rels.rel_fact [(74, _)] (NewX b encR (RegP nmx m)) 75 rfl (by simp [Act.put]) (newX_sta b _ _) (by rfl) (by kernel_rfl) (by kernel_rfl) (fun W i hi hg hj => ?_) ?_
              · have HJ9 := Lib.hid hj
                clear hj
                simp only [relAll]
                rintro v74 ⟨r1, t, hr1, rfl⟩
                go_simp
                obtain ⟨k9, hk9, hs9⟩ := HJ9.out
                exact newX_alloc (x := (⟨nmx, (r1 : Int), t⟩ : Rg)) ⟨r1, t, hr1, rfl⟩ rfl hk9 hs9
              refine Rels.rel_nil ?_
              intro W hg hj
              simp only [relAll]
              clear fw fwq
              rintro v75 ⟨g, x, rfl, ⟨r1, t, hr1, rfl⟩, hbg, hy⟩ v74 - v73 - v72 - v70 - HA9
              obtain ⟨k9, hk9, hs9⟩ := hj
              have HGW := Lib.hid (HG.out.adv hg hbB hbp hbq)
              have HAW := Lib.hid (adv_trans (c := 3 * M + 3 * outs + 80 * ands + 80 * (j + 1)) HAD.out hk3 (⟨⟨k9, hk9, hs9⟩, hg⟩ : Adv b a len cap k3 (4 * 18) WR W) (by omega))
              have hWW : W0.heap.size ≤ W.heap.size := Nat.le_trans hWR (show WR.grownBy W (some b) from hg).size
              clear hs9 hk9 k9 SS st0 hx lq HA9
              go_wp2_with (at_builtin; refine wpList_append_one (enc := encR) (k := 3) (fun _ => rfl) (by decide) (fun x u hu => by simp at hu; rcases hu with rfl | rfl | rfl <;> rfl) rfl _ _ 27 rfl (W0.heap.size) 128 i0 (.agg #[.string ⟨#[]⟩, .int .i64 0, .bool false]) 32 Try.underlying27 ihi ihz ihs ihb (by decide) (.slice ada R.length cpa) R rfl HGW.out.regs g 1 (⟨nmx, (r1 : Int), t⟩) rfl hy (by unfold maxLen; omega) (by omega) hWW ?_; intro v5 w5 O5 hb5 hg5; obtain ⟨ad5, n5, cp5, hv5⟩ := OwnK.sl O5; subst hv5; have A5 := Arr.gO HGW.out.box HGW.out.regs (by decide) hg5; have hx5 := Arr.cell (j := 2) A5 (by simp); have lq5 := Arr.lt A5; have fq5 := Arr.free A5 2; simp only [List.getElem!_cons_zero, List.getElem!_cons_succ, gV] at hx5)
              go_meet
              exact Lib.hid (mk_reg (r := ⟨nmx, (r1 : Int), t⟩) HHS.out hB0 hWW HGW.out HAW.out H2.out HA.out HR.out HO.out HNX0.out rfl hr1 O5 hb5 hg5)
            case rest =>
              have HK8 := Lib.hid hcut.out
              clear hcut
              go_wp2_with fail
              go_roundw
              case rel => exact ⟨j + 1, by omega, by go_num, HK8⟩
              all_goals first | done | (simp [intOf]; done) | (simp [intOf]; omega)
          · have hji : ¬ (j : Int) < (regs : Int) := by omega
            have hjn : j = regs := by omega
            have HKE := Lib.hid (show Mk b len cap a k (3 * M + 3 * outs + 80 * ands + 80 * regs) W0.heap.size p q n m ins regs ands outs N (.slice adN ins ins) (.slice adN N.length cpN) ands regs 0 w WR by have hh := hK.out; rw [hjn] at hh; exact hh)
            clear hK
            have HK := Lib.hid HKE.out
            clear HKE ihi ihz ihs ihb hjn
            obtain ⟨i0, ihi, ihz, ihs, ihb⟩ := infoLD_parts
            go_upto_block 4 with fail
            go_wp2_with fail
            go_loopw [80] (fun i wr => ∃ j : Nat, j ≤ outs ∧ i = .int .i64 (j : Int) ∧ Hid (Mk b len cap a k (3 * M + 3 * outs + 80 * ands + 80 * regs + 80 * j) W0.heap.size p q n m ins regs ands outs N (.slice adN ins ins) (.slice adN N.length cpN) ands regs j w wr)) (fun i _ => outs - (intOf i).toNat)
            case atStart => exact ⟨0, Nat.zero_le _, rfl, HK⟩
            case round =>
              clear HK
              obtain ⟨j, hj, rfl, hK⟩ := hrel
              rename World => WR
              have hj0 : (0 : Int) ≤ (j : Int) := by omega
              by_cases hlt : j < outs
              · have hji : (j : Int) < (outs : Int) := by omega
                obtain ⟨N2, vn, vr, va, vo, R, A, O, G, h2', hA', hR', hO'⟩ := hK.out.all
                have AD := hK.out.adv
                obtain ⟨⟨k3, hk3, S3⟩, G3⟩ := id AD
                obtain ⟨ada, cpa, hva⟩ := G.outs.slice
                subst hva
                have hAl : O.length ≤ 100 := by rw [hO'.1]; omega
                have HFW := Lib.hid (show IntKind.i64.wrap (m : Int) = (m : Int) from IntWalk.i64_in _ (by omega))
                have hbq : b ≠ q := by have := G.lo; omega
                have hWR : W0.heap.size ≤ WR.heap.size := Nat.le_trans G.lo (Nat.le_of_lt (Arr.lt G.box))
                have hx := Arr.cell (j := 4) G.box (by simp)
                have lq := Arr.lt G.box
                simp only [List.getElem!_cons_zero, List.getElem!_cons_succ, gV] at hx
                have SS := sysB b a len cap k3 4
                have st0 : JSb b a len cap k3 4 0 WR := ⟨k3, by omega, S3⟩
                have HG := Lib.hid G
                have HAD := Lib.hid AD
                have H2 := Lib.hid h2'
                have HA := Lib.hid hA'
                have HR := Lib.hid hR'
                have HO := Lib.hid hO'
                clear hK G AD S3 G3 h2' hA' hR' hO'
                go_upto_block 5 with fail
                go_cut [] (fun wx => Hid (Mk b len cap a k (3 * M + 3 * outs + 80 * ands + 80 * regs + 80 * (j + 1)) W0.heap.size p q n m ins regs ands outs N (.slice adN ins ins) (.slice adN N.length cpN) ands regs (j + 1) w wx))
                case first =>
                  go_upto_region 16 with fail
                  have fw := HFW.out
                  refine Rels.wp_region_rels SS 8 (Nat.le_refl _) st0 (by kernel_rfl) (by kernel_rfl) ?_
                  simp only [List.take_succ_cons, List.take_zero, List.drop_succ_cons, List.drop_zero]
                  refine Rels.rel_q SS (by kernel_rfl) (by kernel_rfl) (by kernel_rfl) rfl ?_
                  apply Exists.intro
                  refine ⟨fun W hg => ?_, fun K hK => ?_⟩
                  · go_simp
                    all_goals first | done | exact rfl | skip
                  go_simp
                  refine hK _ ?_
                  clear hK K
                  refine Rels.rel_q SS (by kernel_rfl) (by kernel_rfl) (by kernel_rfl) rfl ?_
                  apply Exists.intro
                  refine ⟨fun W hg => ?_, fun K hK => ?_⟩
                  · have y := gsb_cell hg hbq hx; go_simp
                    all_goals first | done | exact rfl | skip
                  go_simp
                  refine hK _ ?_
                  clear hK K
                  refine Rels.rel_q SS (by kernel_rfl) (by kernel_rfl) (by kernel_rfl) rfl ?_
                  apply Exists.intro
                  refine ⟨fun W hg => ?_, fun K hK => ?_⟩
                  · go_simp
                    all_goals first | done | exact rfl | skip
                  go_simp
                  refine hK _ ?_
                  clear hK K
                  refine Rels.rel_q SS (by kernel_rfl) (by kernel_rfl) (by kernel_rfl) rfl ?_
                  apply Exists.intro
                  refine ⟨fun W hg => ?_, fun K hK => ?_⟩
                  · go_simp
                    all_goals first | done | exact rfl | skip
                  go_simp
                  refine hK _ ?_
                  clear hK K
                  refine Rels.rel_q SS (by kernel_rfl) (by kernel_rfl) (by kernel_rfl) rfl ?_
                  apply Exists.intro
                  refine ⟨fun W hg => ?_, fun K hK => ?_⟩
                  · go_simp
                    all_goals first | done | exact rfl | skip
                  go_simp
                  refine hK _ ?_
                  clear hK K
                  refine Rels.rel_q SS (by kernel_rfl) (by kernel_rfl) (by kernel_rfl) rfl ?_
                  apply Exists.intro
                  refine ⟨fun W hg => ?_, fun K hK => ?_⟩
                  · go_simp
                    all_goals first | done | exact rfl | skip
                  go_simp
                  refine hK _ ?_
                  clear hK K
                  refine Rels.rel_fact [] (fun v _ => LitF m v) 88 rfl (by simp [Act.put]) (litF_sta m _) (by rfl) (by kernel_rfl) (by kernel_rfl) (fun W i hi hg hj => ?_) ?_
                  · have HJ9 := Lib.hid hj
                    clear hj
                    simp only [relAll]
                    go_simp
                    obtain ⟨k9, hk9, hs9⟩ := HJ9.out
                    clear fw
                    refine (lit_any b len cap a k9 m (by omega) (by omega) (by omega) _ hs9).mono ?_
                    rintro e9 w9 ⟨r9, hr9, rfl, A9⟩
                    exact retB hk9 (by omega) (F := fun v _ => LitF m v) ⟨r9, hr9, rfl⟩ A9
                  refine Rels.rel_fact [(88, _)] (NewX b encI (LitP m)) 89 rfl (by simp [Act.put]) (newX_sta b _ _) (by rfl) (by kernel_rfl) (by kernel_rfl) (fun W i hi hg hj => ?_) ?_
                  · have HJ9 := Lib.hid hj
                    clear hj
                    simp only [relAll]
                    rintro v88 ⟨r1, hr1, rfl⟩
                    go_simp
                    obtain ⟨k9, hk9, hs9⟩ := HJ9.out
                    exact newX_alloc (x := (r1 : Int)) ⟨r1, hr1, rfl⟩ rfl hk9 hs9
                  refine Rels.rel_nil ?_
                  intro W hg hj
                  simp only [relAll]
                  clear fw
                  rintro v89 ⟨g, x, rfl, ⟨r1, hr1, rfl⟩, hbg, hy⟩ v88 - HA9
                  obtain ⟨k9, hk9, hs9⟩ := hj
                  have HGW := Lib.hid (HG.out.adv hg hbB hbp hbq)
                  have HAW := Lib.hid (adv_trans (c := 3 * M + 3 * outs + 80 * ands + 80 * regs + 80 * (j + 1)) HAD.out hk3 (⟨⟨k9, hk9, hs9⟩, hg⟩ : Adv b a len cap k3 (4 * 8) WR W) (by omega))
                  have hWW : W0.heap.size ≤ W.heap.size := Nat.le_trans hWR (show WR.grownBy W (some b) from hg).size
                  clear hs9 hk9 k9 SS st0 hx lq HA9
                  go_wp2_with (at_builtin; refine wpList_append_one (enc := encI) (k := 1) (fun _ => rfl) (by decide) (fun x u hu => by simp at hu; subst hu; rfl) rfl _ _ 29 rfl (W0.heap.size) 67 i0 (.int .i64 0) 8 Try.underlying29 ihi ihz ihs ihb (by decide) (.slice ada O.length cpa) O rfl HGW.out.outs g 1 ((r1 : Int)) rfl hy (by unfold maxLen; omega) (by omega) hWW ?_; intro v5 w5 O5 hb5 hg5; obtain ⟨ad5, n5, cp5, hv5⟩ := OwnK.sl O5; subst hv5; have A5 := Arr.gO HGW.out.box HGW.out.outs (by decide) hg5; have hx5 := Arr.cell (j := 4) A5 (by simp); have lq5 := Arr.lt A5; have fq5 := Arr.free A5 4; simp only [List.getElem!_cons_zero, List.getElem!_cons_succ, gV] at hx5)
                  go_meet
                  exact Lib.hid (mk_out HHS.out hB0 hWW HGW.out HAW.out H2.out HA.out HR.out HO.out hr1 O5 hb5 hg5)
                case rest =>
                  have HK8 := Lib.hid hcut.out
                  clear hcut
                  go_wp2_with fail
                  go_roundw
                  case rel => exact ⟨j + 1, by omega, by go_num, HK8⟩
                  all_goals first | done | (simp [intOf]; done) | (simp [intOf]; omega)
              · have hji : ¬ (j : Int) < (outs : Int) := by omega
                have hjn : j = outs := by omega
                have HKE := Lib.hid (show Mk b len cap a k (3 * M + 3 * outs + 80 * ands + 80 * regs + 80 * outs) W0.heap.size p q n m ins regs ands outs N (.slice adN ins ins) (.slice adN N.length cpN) ands regs outs w WR by have hh := hK.out; rw [hjn] at hh; exact hh)
                clear hK
                obtain ⟨N2, vn, vr, va, vo, R, A, O, G, h2', hA', hR', hO'⟩ := HKE.out.all
                have AD := HKE.out.adv
                obtain ⟨ad1, c1, hv1, hc1, hn1', B1⟩ := G.on.rowB lenT
                subst hv1
                obtain ⟨ad2, c2, hv2, hc2, hn2', B2⟩ := G.regs.rowB lenR
                subst hv2
                obtain ⟨ad3, c3, hv3, hc3, hn3', B3⟩ := G.ands.rowB lenN
                subst hv3
                obtain ⟨ad4, c4, hv4, hc4, hn4', B4⟩ := G.outs.rowB lenI
                subst hv4
                obtain ⟨y0, y1, y2, y3, y4⟩ := id (BG.gx G.box)
                obtain ⟨x0, x1, x2, x3, x4⟩ := id (BG.gx G.res)
                have q0 := Arr.free G.res 0
                have q1 := Arr.free G.res 1
                have q2 := Arr.free G.res 2
                have q3 := Arr.free G.res 3
                have q4 := Arr.free G.res 4
                have lp := Arr.lt G.res
                have lq := Arr.lt G.box
                have P5 := BG.all G.res (.slice adN ins ins) (.slice ad1 N2.length c1) (.slice ad2 R.length c2) (.slice ad3 A.length c3) (.slice ad4 O.length c4)
                have bP := put5_below (Below.refl p WR) (.slice adN ins ins) (.slice ad1 N2.length c1) (.slice ad2 R.length c2) (.slice ad3 A.length c3) (.slice ad4 O.length c4)
                have AF := adv_app HHS.out AD (show Below w.heap.size WR _ by rw [HP.out]; exact bP)
                have hnI : adN = none → ins = 0 := fun e => by
                  obtain ⟨adq, cq, hv0, hc0, hn0', B0⟩ := G.nm.rowB lenT
                  injection hv0 with g1 g2 g3
                  subst g1 g3
                  have := hn0' e; omega
                have hMM := HM.out
                have hNN := HN.out
                obtain ⟨gg, hgm, hgs, hgl⟩ := gs_fin (h1 := h1) (h2 := h2) (h3 := h3) (h4 := h4) hs0 hsl (by omega) (by rw [hNN]; exact HNW.out) hnI (by have := HPD.out; have := HND.out; omega) HMD.out G h2' hA' hR' hO'
                have HGF := Lib.hid hgs
                have HGM := Lib.hid hgm
                have HGL := Lib.hid hgl
                have HAF := Lib.hid AF
                have HP5 := Lib.hid P5
                clear hgs hgm hgl AF P5 bP AD G h2' hA' hR' hO' B1 B2 B3 B4 HKE hc1 hc2 hc3 hc4 hn1' hn2' hn3' hn4' hMM hNN
                go_wp2_with fail
                have GF := HGF.out
                have AF := HAF.out
                have P5 := HP5.out
                unfold put5 at GF AF P5
                clear y0 y1 y2 y3 y4 x0 x1 x2 x3 x4 q0 q1 q2 q3 q4 HGF HAF HP5
                generalize ((((WR.setCell ⟨p, 0, none⟩ (.slice adN ins ins)).setCell ⟨p, 1, none⟩ (.slice ad1 N2.length c1)).setCell ⟨p, 2, none⟩ (.slice ad2 R.length c2)).setCell ⟨p, 3, none⟩ (.slice ad3 A.length c3)).setCell ⟨p, 4, none⟩ (.slice ad4 O.length c4) = WF at GF AF P5 ⊢
                obtain ⟨z0, z1, z2, z3, z4⟩ := BG.gx P5
                exact bodyPost_ret (v := .agg #[.slice adN ins ins, .slice ad1 N2.length c1, .slice ad2 R.length c2, .slice ad3 A.length c3, .slice ad4 O.length c4]) (by simp [results, Try.results70, go_sem, z0, z1, z2, z3, z4]) rfl ⟨_, rfl, ⟨gg, HGM.out, by rw [HP.out]; exact GF, HGL.out⟩, adv_mono AF (by rw [HM.out]; omega)⟩
end Go.Proofs.Ytcpifmhcebfglaa
