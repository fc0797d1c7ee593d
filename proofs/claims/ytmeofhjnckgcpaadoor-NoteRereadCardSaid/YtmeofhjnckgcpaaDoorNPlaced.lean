/- The law NotePlaced: its walk. -/
import Derived.Test.YtmeofhjnckgcpaaDoorPlace
import Derived.Test.YtmeofhjnckgcpaaDoorSplitMath
import Derived.Test.YtmeofhjnckgcpaaDoorNStream
import Derived.Lib.QuietBelow
namespace Go.Proofs.YtmeofhjnckgcpaaDoor
open Go Go.RowKit Go.Sort
set_option linter.unusedVariables false
set_option maxHeartbeats 400000 in
theorem placed_ok (w : World) : Calls Tryd.prog 29 #[] w fun e w' => e = .returned (.bool true) ∧ w = w' := by
  have h1 := fun w => place_in ⟨#[97, 98, 10, 99]⟩ 2 (by decide) (by decide) w
  have h2 := fun w => place_in ⟨#[97, 98, 10, 99]⟩ 3 (by decide) (by decide) w
  have e1 : plc ⟨#[97, 98, 10, 99]⟩ 2 = (1, 3) := by decide +kernel
  have e2 : plc ⟨#[97, 98, 10, 99]⟩ 3 = (2, 1) := by decide +kernel
  simp only [e1] at h1
  simp only [e2] at h2
  have H1 := Lib.hid h1
  have H2 := Lib.hid h2
  clear h1 h2 e1 e2
  go_enter Tryd.func29, Tryd.ntmps29
  go_wp2_with fail
  refine (H1.out _).mono ?_
  rintro e w' ⟨rfl, rfl⟩
  go_wp2_with fail
  refine (H2.out _).mono ?_
  rintro e w' ⟨rfl, rfl⟩
  go_wp2_with fail
  go_ret
  exact ⟨rfl, rfl⟩
/-- the pieces of a text in block g -/
structure Pcs (g : Nat) (P : List ByteArray) (w : World) : Prop where
  c : ∀ (j : Nat) x, P[j]? = some x → w.cell? ⟨g, j, none⟩ = some (.string x)
theorem pcs_new (P : List ByteArray) (w : World) (t : TypeId) : Pcs w.heap.size P (w.alloc (.cells (P.map Value.string).toArray t)) :=
  ⟨fun j x h => by
    have e : ((P.map Value.string).toArray)[j]? = some (.string x) := by simp [h]
    go_simp⟩
theorem Pcs.grown {g : Nat} {P : List ByteArray} {w w' : World} (h : Pcs g P w) {b : Nat} (hg : w.grownBy w' (some b)) (hne : g ≠ b) : Pcs g P w' :=
  ⟨fun j x hx => hg.cell (h.c j x hx) (by simpa using hne)⟩
/-- what the loop that makes the text knows -/
def Txt (B : Nat) (a : Option Addr) (len cap : Nat) (w : World) (j : Nat) (v : Value) (wr : World) : Prop :=
  ∃ (s : ByteArray) (k : Nat), v = .string s ∧ s.size = j ∧ k ≤ 1 + j ∧ Str B a len cap k wr ∧ Below B w wr
theorem four_cells {w w1 : World} {B r : Nat} (hr : (r : Int) < 4) (hg : (w.alloc (.cells #[.string ⟨#[97]⟩, .string ⟨#[98]⟩, .string ⟨#[10]⟩, .string ⟨#[32]⟩] 9)).grownBy w1 (some B)) (hB : B < w.heap.size) : ∃ c : UInt8, w1.cell? ⟨w.heap.size, r, none⟩ = some (.string ⟨#[c]⟩) := by
  have h : ∃ c : UInt8, (w.alloc (.cells #[.string ⟨#[97]⟩, .string ⟨#[98]⟩, .string ⟨#[10]⟩, .string ⟨#[32]⟩] 9)).cell? ⟨w.heap.size, r, none⟩ = some (.string ⟨#[c]⟩) := by
    match r, hr with
    | 0, _ => exact ⟨97, by go_simp⟩
    | 1, _ => exact ⟨98, by go_simp⟩
    | 2, _ => exact ⟨10, by go_simp⟩
    | 3, _ => exact ⟨32, by go_simp⟩
  obtain ⟨c, hc⟩ := h
  exact ⟨c, hg.cell hc (by simp; omega)⟩
set_option maxRecDepth 100000 in
set_option maxHeartbeats 2000000 in
theorem notePlaced_any (a : Option Addr) (len cap : Nat) (w : World) (hS : Sl a len w) (hM : ∃ m : Int, w.cell? ⟨1, 0, none⟩ = some (.int .i64 m)) :
    Calls Tryd.prog 9 #[.slice a len cap] w fun e w' => e = .returned (.bool true) ∧ Below w.heap.size w w' := by
  have S0 := hS.str cap _ rfl
  have hl1 : 1 < w.heap.size := by obtain ⟨m, hm⟩ := hM; exact World.block_lt_of_cell? w _ hm
  have HM := Lib.hid hM
  have HS := Lib.hid hS
  clear hS hM
  go_enter Tryd.func9, Tryd.ntmps9
  go_wp2_with fail
  refine (range_any w.heap.size len cap a 0 0 60 (by omega) (by omega) (by omega) _ S0).mono ?_
  rintro e w1 ⟨n, ⟨h1, h2⟩, rfl, A1⟩
  obtain ⟨k1, hk1, S1⟩ := A1.st
  have b1 := adv_low A1 ((Below.refl _ _).alloc (Nat.le_refl _) _)
  clear A1 S0
  go_wp2_with fail
  go_loopw [4, 17] (fun v i wr => ∃ j : Nat, j ≤ n ∧ i = .int .i64 j ∧ Txt w.heap.size a len cap w j v wr) (fun _ i _ => n - (intOf i).toNat)
  case atStart => exact ⟨0, Nat.zero_le _, rfl, ⟨⟨#[]⟩, k1, rfl, rfl, by omega, S1, b1⟩⟩
  case round =>
    obtain ⟨j, hj, rfl, ⟨s, k, rfl, hs, hk, St, bl⟩⟩ := hrel
    clear S1 b1
    have hs60 : s.size ≤ 60 := by omega
    have hBl : w.heap.size < wr.heap.size := World.block_lt_of_cell? wr _ St.c0
    have HJ := Lib.hid hs
    clear hs
    by_cases hlt : j < n
    · go_wp2_with fail
      refine (next_any w.heap.size len cap a k 4 (by omega) (by omega) (by omega) _ (St.below ((Below.refl _ _).alloc (Nat.le_refl _) _))).mono ?_
      rintro e w2 ⟨r, hr, rfl, A2⟩
      obtain ⟨k2, hk2, S2⟩ := A2.st
      obtain ⟨c, hc⟩ := four_cells hr A2.gr hBl
      have b2 : Below w.heap.size w w2 := by
        have g := A2.gr
        have hb := bl.alloc bl.size (.cells #[.string ⟨#[97]⟩, .string ⟨#[98]⟩, .string ⟨#[10]⟩, .string ⟨#[32]⟩] 9)
        exact hb.grown g hb.size (fun q hq => by have h9 : w.heap.size = q := (by simpa using hq); omega)
      have hr0 : (0 : Int) ≤ (r : Int) := by omega
      have hsum : ¬ 9223372036854775807 < s.size + 1 := by omega
      have hsz : (s ++ ⟨#[c]⟩).size = s.size + 1 := by rw [ByteArray.size_append]; rfl
      have HZ := Lib.hid hsz
      clear hsz A2 St bl
      go_wp2_with fail
      go_roundw
      case rel => exact ⟨j + 1, by omega, by go_num, ⟨_, k2, rfl, by rw [HZ.out, HJ.out], by omega, S2, b2⟩⟩
      case measure => simp [intOf]; omega
    · go_wp2_with fail
      obtain ⟨m, hm0⟩ := HM.out
      have hm : wr.cell? ⟨1, 0, none⟩ = some (.int .i64 m) := (bl.cell (p := ⟨1, 0, none⟩) hl1).trans hm0
      refine (Tryd.strings_Split s nl m wr (by omega) hm (by decide)).mono ?_
      rintro e w2 ⟨rfl, hw2⟩
      have hsp := split_place (Lib.countB s nl) s rfl
      have hle := split_le (Lib.countB s nl) s rfl
      generalize hP : Lib.splitB nl 0 (Lib.countB s nl) s = P at hw2 hsp hle
      have hN60 : Lib.countB s nl ≤ 60 := by have := Lib.countB_le nl (by decide) s.size s (Nat.le_refl _); omega
      generalize Lib.countB s nl = N at hsp hN60 ⊢
      have P2 : Pcs wr.heap.size P w2 := by rw [hw2]; exact pcs_new P wr _
      have S2 : Str w.heap.size a len cap k w2 := St.below (by rw [hw2]; exact (Below.refl _ _).alloc (Nat.le_refl _) _)
      have b2 : Below w.heap.size w w2 := by rw [hw2]; exact bl.alloc bl.size _
      have hg2 : wr.heap.size ≠ w.heap.size := by omega
      generalize wr.heap.size = g at P2 hg2 ⊢
      have HSP := Lib.hid hsp
      have HLE := Lib.hid hle
      clear hle
      clear hsp hw2 hP hm hm0 St bl hBl
      go_wp2_with fail
      refine (range_any w.heap.size len cap a k 0 s.size (by omega) (by omega) (by omega) _ S2).mono ?_
      rintro e w3 ⟨p, ⟨p1, p2⟩, rfl, A3⟩
      have P3 := P2.grown A3.gr hg2
      have b3 : Below w.heap.size w w3 := b2.grown A3.gr b2.size (fun q hq => by have h9 : w.heap.size = q := (by simpa using hq); omega)
      clear A3 P2 b2 S2
      go_wp2_with fail
      refine (place_in s p p2 (by omega) _).mono ?_
      rintro e w' ⟨rfl, rfl⟩
      obtain ⟨q1, ⟨x, q2, q3⟩, q4⟩ := HSP.out p p2
      obtain ⟨l1, l2, l3, l4⟩ := plc_le s p
      obtain ⟨M, hM⟩ : ∃ M, (plc s p).1 = M + 1 := ⟨(plc s p).1 - 1, by omega⟩
      obtain ⟨D, hD⟩ : ∃ D, (plc s p).2 = D + 1 := ⟨(plc s p).2 - 1, by omega⟩
      rw [hM] at q1 q2 q4
      rw [hD] at q3 q4
      rw [hM, hD]
      simp only [Nat.add_sub_cancel] at q2 q4
      rw [show ((M + 1 : Nat) : Int) = (M : Int) + 1 from by omega, show ((D + 1 : Nat) : Int) = (D : Int) + 1 from by omega]
      clear hM hD HSP l1 l2 l3 l4
      have hMN : (M : Int) < (N : Int) + 1 := by omega
      have hx := P3.c M x q2
      have hDx : D ≤ x.size := by omega
      have hx60 : x.size ≤ 60 := by have := HLE.out x (List.mem_of_getElem? q2); omega
      go_wp2_with fail
      refine (placed_ok _).mono ?_
      rintro e w' ⟨rfl, rfl⟩
      have hps : psum P M ≤ 60 := by omega
      have HPS := Lib.hid (psum_mono P)
      have HQ4 := Lib.hid q4
      have hPl : M < P.length := (List.getElem?_eq_some_iff.1 q2).1
      have P4 := Lib.hid P3
      have b4 := Lib.hid b3
      clear P3 b3 q2 q4
      go_wp2_with fail
      clear hx
      go_loop [9, 73] (fun v i => ∃ q : Nat, q ≤ M ∧ i = .int .i64 q ∧ v = .int .i64 ((D : Int) + (psum P q : Nat))) (fun _ i => M - (intOf i).toNat)
      case atStart => exact ⟨0, Nat.zero_le _, rfl, by simp [psum]⟩
      case round =>
        obtain ⟨q, hq, rfl, rfl⟩ := hrel
        by_cases hqM : q < M
        · have hql : q < P.length := by omega
          have hy := P4.out.c q P[q] (List.getElem?_eq_getElem hql)
          have hs1 := psum_snoc P q P[q] (List.getElem?_eq_getElem hql)
          have hs2 := HPS.out (q + 1) M (by omega)
          have hys : P[q].size ≤ 60 := by omega
          have hpq : psum P q ≤ 60 := by omega
          have HSN := Lib.hid hs1
          have hqM' : (q : Int) < (M : Int) := by omega
          have hq0 : (0 : Int) ≤ (q : Int) := by omega
          generalize P[q] = y at hy hys HSN
          clear hs1 hs2 hql
          go_wp2_with fail
          go_round
          case rel => exact ⟨q + 1, by omega, by go_num, by rw [HSN.out]; go_num⟩
          case measure => simp [intOf]; omega
        · have hqe : q = M := by omega
          have HQE := Lib.hid hqe
          have hpq : psum P q ≤ 60 := by rw [hqe]; exact hps
          clear hqe
          have heq : (((D : Int) + (psum P q : Nat)) == (p : Int)) = true := by
            rw [HQE.out]; have := HQ4.out; simp; omega
          go_wp2_with fail
          go_ret
          exact ⟨rfl, b4.out⟩
end Go.Proofs.YtmeofhjnckgcpaaDoor
