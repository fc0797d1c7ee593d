/- The program's checkNode: a node in a place of a class, and all below. -/
import Derived.Test.YtpjnjcljaoaceaaSyChk
import Derived.LoopTactic
import Derived.Deep.CutBlock
namespace Go.Proofs.Ytpjnjcljaoaceaa
open Go Go.RowKit Go.Sort
set_option linter.unusedVariables false
/-- a node in its own block -/
structure NB (w : World) (b : Nat) (k l c : Int) (nm tx : ByteArray) (n v x : Int) (s : Bool) (a : Option Addr) (len cap : Nat) : Prop where
  c0 : w.cell? ⟨b, 0, none⟩ = some (.int .i64 k)
  c1 : w.cell? ⟨b, 1, none⟩ = some (.int .i64 l)
  c2 : w.cell? ⟨b, 2, none⟩ = some (.int .i64 c)
  c3 : w.cell? ⟨b, 3, none⟩ = some (.string nm)
  c4 : w.cell? ⟨b, 4, none⟩ = some (.string tx)
  c5 : w.cell? ⟨b, 5, none⟩ = some (.int .i64 n)
  c6 : w.cell? ⟨b, 6, none⟩ = some (.int .u64 v)
  c7 : w.cell? ⟨b, 7, none⟩ = some (.int .u64 x)
  c8 : w.cell? ⟨b, 8, none⟩ = some (.bool s)
  c9 : w.cell? ⟨b, 9, none⟩ = some (.slice a len cap)
theorem NB.front {w w' : World} {B b : Nat} {k l c : Int} {nm tx : ByteArray} {n v x : Int} {s : Bool} {a : Option Addr} {len cap : Nat} (h : NB w b k l c nm tx n v x s a len cap) (hq : b < B) (hb : Below B w w') : NB w' b k l c nm tx n v x s a len cap := by
  have K : ∀ i, w'.cell? ⟨b, i, none⟩ = w.cell? ⟨b, i, none⟩ := fun i => hb.cell (p := ⟨b, i, none⟩) hq
  exact ⟨(K _).trans h.c0, (K _).trans h.c1, (K _).trans h.c2, (K _).trans h.c3, (K _).trans h.c4, (K _).trans h.c5, (K _).trans h.c6, (K _).trans h.c7, (K _).trans h.c8, (K _).trans h.c9⟩
theorem NB.lt {w : World} {b : Nat} {k l c : Int} {nm tx : ByteArray} {n v x : Int} {s : Bool} {a : Option Addr} {len cap : Nat} (h : NB w b k l c nm tx n v x s a len cap) : b < w.heap.size := World.block_lt_of_cell? w _ h.c0
theorem NB.below {w w' : World} {b : Nat} {k l c : Int} {nm tx : ByteArray} {n v x : Int} {s : Bool} {a : Option Addr} {len cap : Nat} (h : NB w b k l c nm tx n v x s a len cap) (hb : Below w.heap.size w w') : NB w' b k l c nm tx n v x s a len cap := h.front h.lt hb
/-- a row of the table of kinds -/
structure RB3 (w : World) (g : Nat) (A P F : ByteArray) : Prop where
  r0 : w.cell? ⟨g, 0, none⟩ = some (.string A)
  r1 : w.cell? ⟨g, 1, none⟩ = some (.string P)
  r2 : w.cell? ⟨g, 2, none⟩ = some (.string F)
theorem RB3.front {w w' : World} {B g : Nat} {A P F : ByteArray} (h : RB3 w g A P F) (hq : g < B) (hb : Below B w w') : RB3 w' g A P F := by
  have K : ∀ i, w'.cell? ⟨g, i, none⟩ = w.cell? ⟨g, i, none⟩ := fun i => hb.cell (p := ⟨g, i, none⟩) hq
  exact ⟨(K _).trans h.r0, (K _).trans h.r1, (K _).trans h.r2⟩
theorem RB3.lt {w : World} {g : Nat} {A P F : ByteArray} (h : RB3 w g A P F) : g < w.heap.size := World.block_lt_of_cell? w _ h.r0
theorem RB3.below {w w' : World} {g : Nat} {A P F : ByteArray} (h : RB3 w g A P F) (hb : Below w.heap.size w w') : RB3 w' g A P F := h.front h.lt hb
/-- the ways of a check, one by one -/
theorem chkN_ways (d : Nat) (k l co : Int) (nm tx : ByteArray) (n v x : Int) (s : Bool) (a : Option Addr) (cap : Nat) (ks : List Nd) (c : UInt8) {R E : Int} {M : Option (List UInt8)} {BE AM : Bool}
    (hR : chkN (d + 1) (.mk k l co nm tx n v x s a cap ks) c = R) (hE : fldN (formO k).2.2 (.mk k l co nm tx n v x s a cap ks) = E) (hM : mt (formO k).2.1 ks = M) (hB : bel k c = BE) (hA : ambK d (.mk k l co nm tx n v x s a cap ks) = AM) :
    ((decide (k < 0) || decide (121 < k)) = true → R = 2) ∧
    ((decide (k < 0) || decide (121 < k)) = false → (k != 0 && (decide (l < 0) || decide (co < 0))) = true → R = 2) ∧
    ((decide (k < 0) || decide (121 < k)) = false → (k != 0 && (decide (l < 0) || decide (co < 0))) = false → BE = false → R = 8) ∧
    ((decide (k < 0) || decide (121 < k)) = false → (k != 0 && (decide (l < 0) || decide (co < 0))) = false → BE = true → E ≠ 0 → R = E) ∧
    ((decide (k < 0) || decide (121 < k)) = false → (k != 0 && (decide (l < 0) || decide (co < 0))) = false → BE = true → E = 0 → M = none → R = 4) ∧
    ((decide (k < 0) || decide (121 < k)) = false → (k != 0 && (decide (l < 0) || decide (co < 0))) = false → BE = true → E = 0 → M.isSome = true → AM = true → R = 4) ∧
    (∀ L, (decide (k < 0) || decide (121 < k)) = false → (k != 0 && (decide (l < 0) || decide (co < 0))) = false → BE = true → E = 0 → M = some L → AM = false → R = kidsE (chkN d) (selK k) 0 ks (narL k c L)) := by
  subst hR
  subst hE hM hB hA
  refine ⟨?_, ?_, ?_, ?_, ?_, ?_, ?_⟩
  · intro h; unfold chkN; rw [if_pos h]
  · intro h h2; unfold chkN; rw [if_neg (by rw [h]; decide), if_pos h2]
  · intro h h2 h3; unfold chkN; rw [if_neg (by rw [h]; decide), if_neg (by rw [h2]; decide), if_pos h3]
  · intro h h2 h3 h4; unfold chkN; rw [if_neg (by rw [h]; decide), if_neg (by rw [h2]; decide), if_neg (by rw [h3]; decide), if_pos h4]
  · intro h h2 h3 h4 h5; unfold chkN; rw [if_neg (by rw [h]; decide), if_neg (by rw [h2]; decide), if_neg (by rw [h3]; decide), if_neg (by rw [h4]; decide), h5]
  · intro h h2 h3 h4 h5 h6
    obtain ⟨L, hL⟩ := Option.isSome_iff_exists.1 h5
    unfold chkN
    rw [if_neg (by rw [h]; decide), if_neg (by rw [h2]; decide), if_neg (by rw [h3]; decide), if_neg (by rw [h4]; decide), hL]
    simp only
    rw [if_pos h6]
  · intro L h h2 h3 h4 h5 h6
    unfold chkN
    rw [if_neg (by rw [h]; decide), if_neg (by rw [h2]; decide), if_neg (by rw [h3]; decide), if_neg (by rw [h4]; decide), h5]
    simp only
    rw [if_neg (by rw [h6]; decide)]
theorem narL_len (k : Int) (c : UInt8) (L : List UInt8) : (narL k c L).length = L.length := by
  unfold narL
  split
  · simp
  · split <;> simp
/-- what checkNode answers for trees of a depth -/
def NodeTo (d : Nat) : Prop := ∀ T : Nd, T.dep ≤ d → T.cnt ≤ 1000000 → Nu T → ∀ (c : UInt8) (w : World), Nin w T → Calls Try.prog 15 #[T.val, .int .u8 (c.toNat : Int)] w fun e w' => e = .returned (.int .i64 (chkN d T c)) ∧ Below w.heap.size w w'
set_option maxRecDepth 100000 in
set_option maxHeartbeats 4000000 in
theorem node_step (d : Nat) (ih : NodeTo d) : NodeTo (d + 1) := by
  intro T hd hc hu c w hT
  obtain ⟨k, l, co, nm, tx, n, v, x, s, a, cap, ks⟩ := T
  have hrow := Lib.hid hT.row
  have hall := Lib.hid hT.all
  have hun := Lib.hid hu.all
  have hdd : depL ks ≤ d := by unfold Nd.dep at hd; omega
  have hcc : 1 + cntL ks ≤ 1000000 := by unfold Nd.cnt at hc; exact hc
  have hlen : ks.length ≤ 1000000 := by have := len_cntL ks; omega
  have IH := Lib.hid ih
  clear ih
  obtain ⟨R, hR⟩ : ∃ R, chkN (d + 1) (Nd.mk k l co nm tx n v x s a cap ks) c = R := ⟨_, rfl⟩
  rw [hR]
  have hForm := fun W => formOf_any k W
  have hBel := fun W => belongs_any k c W
  have hFld := fun W => fields_nd k l co nm tx n v x s a cap ks hu (formO k).2.2 W
  have hMt := fun W (hb : Below w.heap.size w W) => match_any (formO k).2.1 ks a cap hlen W (hrow.out.below hb)
  have hAmb := fun (h3 : k = 57 → ks.length = 3) W (hb : Below w.heap.size w W) => ambiguous_any d (.mk k l co nm tx n v x s a cap ks) hdd (by omega) h3 W (hT.keep hb)
  have hNar := fun L (hl : L.length = ks.length) (hsel : selK k = true → 0 < L.length) B v' W (hB : B ≤ W.heap.size) (hO : OB B W v' L) => narrow_any (.mk k l co nm tx n v x s a cap ks) c B v' L (by omega) W hB hO hsel
  have hSel := fun W => selects_any (.mk k l co nm tx n v x s a cap ks) W
  simp only [Nd.val, Nd.kind, formV] at hForm hBel hFld hMt hAmb hNar hSel
  have HForm := Lib.hid hForm
  have HBel := Lib.hid hBel
  have HFld := Lib.hid hFld
  have HMt := Lib.hid hMt
  have HAmb := Lib.hid hAmb
  have HNar := Lib.hid hNar
  have HSel := Lib.hid hSel
  have HIF : Hid (∀ L, mt (formO k).2.1 ks = some L → k = 57 → ks.length = 3) := Lib.hid (fun L h e => by subst e; exact mt_if h)
  have HSL : Hid (∀ L, mt (formO k).2.1 ks = some L → selK k = true → 0 < ks.length) := Lib.hid (fun L h e => mt_sel e h)
  have HML : Hid (∀ L, mt (formO k).2.1 ks = some L → L.length = ks.length) := Lib.hid (fun L h => mt_len _ _ _ _ (Nat.le_refl _) h)
  clear hForm hBel hFld hMt hAmb hNar hSel hu hT hd hc
  simp only [Nd.val]
  generalize hE : fldN (formO k).2.2 (.mk k l co nm tx n v x s a cap ks) = E at *
  generalize hAM : ambK d (.mk k l co nm tx n v x s a cap ks) = AM at *
  generalize hMM : mt (formO k).2.1 ks = M at *
  generalize hBE : bel k c = BE at *
  have HW := Lib.hid (chkN_ways d k l co nm tx n v x s a cap ks c hR hE hMM hBE hAM)
  clear hE hAM hMM hBE hR
  generalize bs (formO k).1 = FA at *
  generalize bs (formO k).2.1 = FP at *
  generalize bs (formO k).2.2 = FF at *
  obtain ⟨W1, hW1⟩ : ∃ W, W = w.alloc (.cells #[.int .i64 k, .int .i64 l, .int .i64 co, .string nm, .string tx, .int .i64 n, .int .u64 v, .int .u64 x, .bool s, .slice a ks.length cap] 34) := ⟨_, rfl⟩
  have b0 : Below w.heap.size w W1 := by rw [hW1]; exact (Below.refl _ _).alloc (Nat.le_refl _) _
  have N1 : NB W1 w.heap.size k l co nm tx n v x s a ks.length cap := by rw [hW1]; exact ⟨by go_simp, by go_simp, by go_simp, by go_simp, by go_simp, by go_simp, by go_simp, by go_simp, by go_simp, by go_simp⟩
  go_enter Try.func15, Try.ntmps15
  go_upto_region 1 with fail
  rw [← hW1]
  clear hW1
  go_cut [5] (fun p wx => ∃ g, p = .pointer (some ⟨g, 0, none⟩) ∧ (NB wx w.heap.size k l co nm tx n v x s a ks.length cap ∧ RB3 wx g FA FP FF) ∧ RowKit.Below w.heap.size w wx)
  case first =>
    obtain ⟨c0, c1, c2, c3, c4, c5, c6, c7, c8, c9⟩ := id N1
    go_wp2_with (refine (HForm.out _).mono ?_; rintro e w3 ⟨rfl, hb3⟩)
    go_meet
    have h3 := b0.trans (hb3.mono b0.size)
    exact ⟨_, rfl, ⟨(N1.below hb3).below ((Below.refl _ _).alloc (Nat.le_refl _) _), ⟨by go_simp, by go_simp, by go_simp⟩⟩, h3.alloc h3.size _⟩
  case rest =>
  obtain ⟨g, rfl, FX, BX⟩ := hcut
  rename World => W2
  clear N1 b0 HForm
  go_upto_region 2 with fail
  go_cut [15] (fun sv wx => sv = .bool (decide (k < 0) || decide (121 < k)) ∧ W2 = wx)
  case first =>
    obtain ⟨c0, c1, c2, c3, c4, c5, c6, c7, c8, c9⟩ := id FX.1
    obtain ⟨r0, r1, r2⟩ := id FX.2
    by_cases h0 : k < 0
    · have h0' : ¬ (0 : Int) ≤ k := by omega
      go_wp2_with fail
      go_meet
      exact ⟨by simp [h0], rfl⟩
    · by_cases h1 : 121 < k
      · go_wp2_with fail
        go_meet
        exact ⟨by simp [h0, h1], rfl⟩
      · go_wp2_with fail
        go_meet
        exact ⟨by simp [h0, h1], rfl⟩
  case rest =>
  obtain ⟨rfl, rfl⟩ := hcut
  generalize e15 : (decide (k < 0) || decide (121 < k)) = E15 at *
  cases E15
  case true =>
    have HR2 := Lib.hid (HW.out.1 rfl)
    clear HW
    go_wp2_with fail
    go_ret
    exact ⟨by rw [HR2.out]; rfl, BX⟩
  case false =>
  go_upto_region 4 with fail
  go_cut [24] (fun sv wx => sv = .bool (k != 0 && (decide (l < 0) || decide (co < 0))) ∧ W2 = wx)
  case first =>
    obtain ⟨c0, c1, c2, c3, c4, c5, c6, c7, c8, c9⟩ := id FX.1
    obtain ⟨r0, r1, r2⟩ := id FX.2
    clear e15
    cases hk : (k != 0)
    · skip
      go_wp2_with fail
      go_meet
      exact ⟨by simp [show k = 0 by simpa using hk], rfl⟩
    · by_cases h0 : l < 0
      · go_wp2_with fail
        go_meet
        exact ⟨by simp [show ¬ k = 0 by simpa using hk, h0], rfl⟩
      · by_cases h1 : co < 0
        · go_wp2_with fail
          go_meet
          exact ⟨by simp [show ¬ k = 0 by simpa using hk, h0, h1], rfl⟩
        · go_wp2_with fail
          go_meet
          exact ⟨by simp [show ¬ k = 0 by simpa using hk, h0, h1], rfl⟩
  case rest =>
  obtain ⟨rfl, rfl⟩ := hcut
  generalize e24 : (k != 0 && (decide (l < 0) || decide (co < 0))) = E24 at *
  cases E24
  case true =>
    have HR2 := Lib.hid (HW.out.2.1 rfl rfl)
    clear HW
    go_wp2_with fail
    go_ret
    exact ⟨by rw [HR2.out]; rfl, BX⟩
  case false =>
  go_upto_region 6 with fail
  go_cut [38] (fun sv wx => sv = .bool (!BE) ∧ RowKit.Below W2.heap.size W2 wx)
  case first =>
    obtain ⟨c0, c1, c2, c3, c4, c5, c6, c7, c8, c9⟩ := id FX.1
    obtain ⟨r0, r1, r2⟩ := id FX.2
    go_wp2_with (refine (HBel.out _).mono ?_; rintro e w3 ⟨rfl, hb3⟩)
    go_meet
    exact ⟨by first | rfl | simp, hb3⟩
  case rest =>
  obtain ⟨rfl, hb3⟩ := hcut
  rename World => W3
  replace FX := And.intro (FX.1.below hb3) (FX.2.below hb3)
  replace BX := BX.trans (hb3.mono BX.size)
  clear hb3 HBel
  cases BE
  case false =>
    have HR2 := Lib.hid (HW.out.2.2.1 rfl rfl rfl)
    clear HW
    go_wp2_with fail
    go_ret
    exact ⟨by rw [HR2.out]; rfl, BX⟩
  case true =>
  go_upto_region 8 with fail
  go_cut [6] (fun sv wx => sv = .int .i64 E ∧ RowKit.Below W3.heap.size W3 wx)
  case first =>
    obtain ⟨c0, c1, c2, c3, c4, c5, c6, c7, c8, c9⟩ := id FX.1
    obtain ⟨r0, r1, r2⟩ := id FX.2
    go_wp2_with (refine (HFld.out _).mono ?_; rintro e w3 ⟨rfl, hb3⟩)
    go_meet
    exact ⟨rfl, hb3⟩
  case rest =>
  obtain ⟨rfl, hb3⟩ := hcut
  rename World => W4
  replace FX := And.intro (FX.1.below hb3) (FX.2.below hb3)
  replace BX := BX.trans (hb3.mono BX.size)
  clear hb3 HFld
  cases hE0 : (E != 0)
  case true =>
    have HR2 := Lib.hid (HW.out.2.2.2.1 rfl rfl rfl (by simpa using hE0))
    clear HW
    go_wp2_with fail
    go_ret
    exact ⟨by rw [HR2.out]; rfl, BX⟩
  case false =>
  obtain rfl : E = 0 := by simpa using hE0
  clear hE0
  go_upto_region 11 with fail
  go_cut [7, 8] (fun vq ok wx => ok = .bool M.isSome ∧ ∃ vv, vv = vq ∧ (∀ L, M = some L → OB W4.heap.size wx vv L) ∧ RowKit.Below W4.heap.size W4 wx)
  case first =>
    obtain ⟨c0, c1, c2, c3, c4, c5, c6, c7, c8, c9⟩ := id FX.1
    obtain ⟨r0, r1, r2⟩ := id FX.2
    go_wp2_with (refine (HMt.out _ BX).mono ?_; rintro e w3 ⟨vv, rfl, hO, hb3⟩)
    go_meet
    exact ⟨rfl, _, rfl, hO, hb3⟩
  case rest =>
  obtain ⟨rfl, vv, hvq, hO, hb3⟩ := hcut
  subst hvq
  rename World => W5
  have q1 := FX.1.lt
  have q2 := FX.2.lt
  replace FX := And.intro (FX.1.front FX.1.lt hb3) (FX.2.front FX.2.lt hb3)
  have hg4 : W4.heap.size ≤ W5.heap.size := hb3.size
  have hw4 : w.heap.size ≤ W4.heap.size := BX.size
  replace BX := BX.trans (hb3.mono BX.size)
  clear hb3 HMt
  cases M
  case none =>
    simp only [Option.isSome]
    have HR2 := Lib.hid (HW.out.2.2.2.2.1 rfl rfl rfl rfl rfl)
    clear HW
    go_wp2_with fail
    go_ret
    exact ⟨by rw [HR2.out]; rfl, BX⟩
  case some L =>
  have hLlen : L.length = ks.length := HML.out L rfl
  have hLsel : selK k = true → 0 < L.length := fun h => by rw [hLlen]; exact HSL.out L rfl h
  have hL3 := HIF.out L rfl
  have hOL := Lib.hid (hO L rfl)
  clear hO HIF HSL HML
  simp only [Option.isSome]
  have HA2 := Lib.hid (HAmb.out hL3)
  have HN2 := Lib.hid (HNar.out L hLlen hLsel)
  have HNL : Hid ((narL k c L).length = ks.length) := Lib.hid (by rw [narL_len]; exact hLlen)
  clear hL3 hLsel hLlen HAmb HNar
  go_upto_region 12 with fail
  go_cut [64] (fun sv wx => sv = .bool AM ∧ RowKit.Below W5.heap.size W5 wx)
  case first =>
    obtain ⟨c0, c1, c2, c3, c4, c5, c6, c7, c8, c9⟩ := id FX.1
    obtain ⟨r0, r1, r2⟩ := id FX.2
    clear hOL HN2 HW HNL
    go_wp2_with (refine (HA2.out _ BX).mono ?_; rintro e w3 ⟨rfl, hb3⟩)
    go_meet
    exact ⟨by first | rfl | simp, hb3⟩
  case rest =>
  obtain ⟨rfl, hb6⟩ := hcut
  rename World => W6
  have hO6 := hOL.out.below hb6
  replace FX := And.intro (FX.1.below hb6) (FX.2.below hb6)
  replace BX := BX.trans (hb6.mono BX.size)
  have hs6 : W4.heap.size ≤ W6.heap.size := by have := hb6.size; omega
  clear hb6 hOL HA2
  cases AM
  case true =>
    have HR2 := Lib.hid (HW.out.2.2.2.2.2.1 rfl rfl rfl rfl rfl rfl)
    clear HW
    go_wp2_with fail
    go_ret
    exact ⟨by rw [HR2.out]; rfl, BX⟩
  case false =>
  have HR2 := Lib.hid (HW.out.2.2.2.2.2.2 L rfl rfl rfl rfl rfl rfl)
  clear HW
  obtain ⟨NL, hNL⟩ : ∃ NL, narL k c L = NL := ⟨_, rfl⟩
  rw [hNL] at HR2 HN2 HNL
  clear hNL
  have HO6 := Lib.hid hO6
  clear hO6
  generalize selK k = SK at *
  go_upto_region 14 with fail
  go_cut [] (fun wx => ∃ w7 : World, w7 = wx ∧ OB W4.heap.size wx vv NL ∧ RowKit.Below W4.heap.size W6 wx)
  case first =>
    obtain ⟨c0, c1, c2, c3, c4, c5, c6, c7, c8, c9⟩ := id FX.1
    obtain ⟨r0, r1, r2⟩ := id FX.2
    go_wp2_with (refine (HN2.out W4.heap.size vv W6 hs6 HO6.out).mono ?_; rintro e w7 ⟨rfl, hO7, hb7⟩)
    go_meet
    exact ⟨_, rfl, hO7, hb7⟩
  case rest =>
  obtain ⟨w7, hw7, hO7, hb7⟩ := hcut
  subst hw7
  have NX := FX.1.front q1 hb7
  replace BX := BX.trans (hb7.mono hw4)
  have HO7 := Lib.hid hO7
  clear hO7 hb7 HO6 hs6 HN2 FX q1 q2 hg4 hw4
  have c9 := NX.c9
  go_wp2_with fail
  go_loopw [72] (fun i wr => ∃ j : Nat, j ≤ ks.length ∧ i = .int .i64 (j : Int) ∧ Below w7.heap.size w7 wr ∧ Hid (R = kidsE (chkN d) SK j (ks.drop j) (NL.drop j))) (fun i _ => ks.length - (intOf i).toNat)
  case atStart => exact ⟨0, Nat.zero_le _, rfl, Below.refl _ _, Lib.hid (by simpa using HR2.out)⟩
  case round =>
    obtain ⟨j, hj, rfl, hlo, HRJ⟩ := hrel
    rename World => WR
    clear HR2 c9
    have BR := BX.trans (hlo.mono BX.size)
    by_cases hlt : j < ks.length
    · have hlt2 : j < NL.length := by have := HNL.out; omega
      have hne : ks ≠ [] := by rintro rfl; simp at hlt
      obtain ⟨b, o, ha, hf⟩ := (hrow.out).2 hne
      subst ha
      have hf := (hf j hlt).below BR
      have hin := (hall.out _ (List.getElem_mem hlt)).keep BR
      have hku := hun.out _ (List.getElem_mem hlt)
      have hcm := cntL_mem (List.getElem_mem hlt)
      have hdm := depL_mem (List.getElem_mem hlt)
      have HK := fun wq (hb : Below WR.heap.size WR wq) => kid_step (chkN d) ks[j] NL[j] (by omega) wq (hin.keep hb) (fun wr hr => IH.out ks[j] (Nat.le_trans hdm hdd) (by omega) hku NL[j] wr ((hin.keep hb).keep hr))
      have OJ := (HO7.out).below hlo
      obtain ⟨gg, cv, hvv, _, hgs⟩ := OJ.cut (Nat.lt_of_le_of_lt (Nat.zero_le j) hlt2)
      subst hvv
      have cj := OJ.at j hlt2
      have HD := HRJ.out
      rw [kidsE_drop _ _ _ _ _ hlt hlt2] at HD
      have hX1 : (decide (j = 0) && (SK && ks[j].kind == 114)) = true → R = 8 := fun h => by rw [HD, if_pos h]
      have hX2 : (decide (j = 0) && (SK && ks[j].kind == 114)) = false → kidE (chkN d) ks[j] NL[j] ≠ 0 → R = kidE (chkN d) ks[j] NL[j] := fun h h2 => by rw [HD, if_neg (by rw [h]; decide), if_neg h2]
      have hX3 : (decide (j = 0) && (SK && ks[j].kind == 114)) = false → kidE (chkN d) ks[j] NL[j] = 0 → R = kidsE (chkN d) SK (j + 1) (ks.drop (j + 1)) (NL.drop (j + 1)) := fun h h2 => by rw [HD, if_neg (by rw [h]; decide), if_pos h2]
      clear HD HRJ OJ hin hku hcm hdm hne HO7
      generalize kidE (chkN d) ks[j] NL[j] = KE at *
      generalize ks[j] = K at *
      generalize (NL[j]).toNat = cK at *
      obtain ⟨k', l', co', nm', tx', n', v', x', s', a', cap', ks'⟩ := K
      obtain ⟨h0, h1, h2, h3, h4, h5, h6, h7, h8, h9⟩ := hf
      simp only [Nd.val, Nd.kind] at HK hX1 hX2 hX3
      have HKC := Lib.hid HK
      have HX1 := Lib.hid hX1
      have HX2 := Lib.hid hX2
      have HX3 := Lib.hid hX3
      clear HK hX1 hX2 hX3
      have NR := NX.below hlo
      obtain ⟨W8, hW8⟩ : ∃ W, W = WR.alloc (.cells #[.int .i64 k', .int .i64 l', .int .i64 co', .string nm', .string tx', .int .i64 n', .int .u64 v', .int .u64 x', .bool s', .slice a' ks'.length cap'] 34) := ⟨_, rfl⟩
      have b8 : Below WR.heap.size WR W8 := by rw [hW8]; exact (Below.refl _ _).alloc (Nat.le_refl _) _
      have N8 : NB W8 WR.heap.size k' l' co' nm' tx' n' v' x' s' a' ks'.length cap' := by rw [hW8]; exact ⟨by go_simp, by go_simp, by go_simp, by go_simp, by go_simp, by go_simp, by go_simp, by go_simp, by go_simp, by go_simp⟩
      have T8 := NR.below b8
      have cj8 := ((Below.cell b8 (p := ⟨gg, j, none⟩) (World.block_lt_of_cell? WR _ cj))).trans cj
      have hjl : (j : Int) < (ks.length : Int) := by omega
      have hjn : (j : Int) < (NL.length : Int) := by omega
      have hj0 : (0 : Int) ≤ (j : Int) := by omega
      clear cj NX NR hgs
      go_upto_region 18 with fail
      rw [← hW8]
      clear hW8 h0 h1 h2 h3 h4 h5 h6 h7 h8 h9
      go_cut [87] (fun sv wx => sv = .bool (decide (j = 0) && (SK && k' == 114)) ∧ RowKit.Below W8.heap.size W8 wx)
      case first =>
        obtain ⟨c0, c1, c2, c3, c4, c5, c6, c7, c8, c9⟩ := id T8
        have d0 := N8.c0
        by_cases hjz : j = 0
        · subst hjz
          cases SK
          · go_wp2_with (refine (HSel.out _).mono ?_; rintro e w9 ⟨rfl, hb9⟩)
            go_meet
            exact ⟨by simp, hb9⟩
          · cases hkk : (k' == 114)
            all_goals
              go_wp2_with (refine (HSel.out _).mono ?_; rintro e w9 ⟨rfl, hb9⟩; have e0 := (N8.below hb9).c0)
              go_meet
              exact ⟨by first | (simp; done) | simp [hkk], hb9⟩
        · have hjb : ((j : Int) == 0) = false := by simp; omega
          go_wp2_with fail
          go_meet
          exact ⟨by simp [hjz], Below.refl _ _⟩
      case rest =>
      obtain ⟨rfl, hb9⟩ := hcut
      rename World => W9
      replace cj8 := ((Below.cell hb9 (p := ⟨gg, j, none⟩) (World.block_lt_of_cell? W8 _ cj8))).trans cj8
      replace N8 := N8.below hb9
      replace b8 := b8.trans (hb9.mono b8.size)
      clear T8 hb9
      generalize (decide (j = 0) && (SK && k' == 114)) = X at *
      cases X
      case true =>
        have HR8 := Lib.hid (HX1.out rfl)
        clear HX1 HX2 HX3
        go_wp2_with fail
        exact bodyPost_ret (v := .int .i64 8) (by simp [results, Try.results15, go_sem]) rfl ⟨by rw [HR8.out], BR.trans (b8.mono BR.size)⟩
      case false =>
      go_upto_region 20 with fail
      go_cut [11] (fun sv wx => sv = .int .i64 KE ∧ RowKit.Below W9.heap.size W9 wx)
      case first =>
        have cK : ∀ dd os, Calls Try.prog 28 #[_, _] (grow (redrawn W9 dd) os) fun e w'' => e = .returned (.int .i64 KE) ∧ ∃ p : Regrown, w'' = grow (redrawn W9 p.d) p.os := fun dd os => Calls.regrown_of (HKC.out _ (b8.trans ((below_regrown W9 dd os).mono b8.size)))
        obtain ⟨d0, d1, d2, d3, d4, d5, d6, d7, d8, d9⟩ := id N8
        have G0 := cell_regrown d0
        have G1 := cell_regrown d1
        have G2 := cell_regrown d2
        have G3 := cell_regrown d3
        have G4 := cell_regrown d4
        have G5 := cell_regrown d5
        have G6 := cell_regrown d6
        have G7 := cell_regrown d7
        have G8 := cell_regrown d8
        have G9 := cell_regrown d9
        have Gj := cell_regrown cj8
        refine wp_region_quiet_below (by kernel_rfl) (by kernel_rfl) ?_
        repeat (quiet_step (first | (with_reducible exact cK _ _)))
        refine wpQuiet_nil ?_
        intro _ hw'
        obtain ⟨⟨dq, osq⟩, hw''⟩ := hw'
        subst hw''
        have bq := below_regrown W9 dq osq
        generalize grow (redrawn W9 dq) osq = W10 at bq ⊢
        go_wp2_with fail
        go_meet
        exact ⟨rfl, bq⟩
      case rest =>
      obtain ⟨rfl, hb10⟩ := hcut
      rename World => W10
      replace b8 := b8.trans (hb10.mono b8.size)
      clear cj8 N8 hb10
      cases hKE : (KE != 0)
      case true =>
        have HR8 := Lib.hid (HX2.out rfl (by simpa using hKE))
        clear HX1 HX2 HX3
        go_wp2_with fail
        exact bodyPost_ret (v := .int .i64 KE) (by simp [results, Try.results15, go_sem]) rfl ⟨by rw [HR8.out], BR.trans (b8.mono BR.size)⟩
      case false =>
        have HR8 := Lib.hid (HX3.out rfl (by simpa using hKE))
        clear HX1 HX2 HX3
        obtain rfl : KE = 0 := by simpa using hKE
        go_wp2_with fail
        go_roundw
        case rel => exact ⟨j + 1, hlt, by go_num, hlo.trans (b8.mono hlo.size), HR8⟩
        case measure => simp [intOf] <;> omega
    · obtain rfl : j = ks.length := by omega
      have HR8 : Hid (R = 0) := Lib.hid (by rw [HRJ.out, List.drop_length]; rfl)
      clear HRJ
      go_wp2_with fail
      go_ret
      exact ⟨by rw [HR8.out]; rfl, BR⟩
theorem node_all : ∀ d, NodeTo d
  | 0 => fun T h => by obtain ⟨k, l, c, nm, tx, n, v, x, s, a, cap, ks⟩ := T; unfold Nd.dep at h; omega
  | d + 1 => node_step d (node_all d)
end Go.Proofs.Ytpjnjcljaoaceaa
