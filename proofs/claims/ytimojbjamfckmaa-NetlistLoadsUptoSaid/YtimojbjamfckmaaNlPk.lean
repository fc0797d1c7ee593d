/- The program's picked and greatest: what they answer. Conditions: at most 4,000,000,000 elements; the numbers are those of elements. -/
import Derived.Test.YtimojbjamfckmaaNlF
import Derived.Test.YtimojbjamfckmaaNlLk
namespace Go.Proofs.Ytimojbjamfckmaa
open Go Go.RowKit Go.Sort
set_option linter.unusedVariables false
theorem Arr.rowc {t : TypeId} {α : Type} [Inhabited α] {f : α → Value} {g : Nat} {l : List α} {w : World} (h : Arr t f g l w) (n : Nat) (hn : l.length = n) : RowC f l (.slice (some ⟨g, 0, none⟩) n n) w := by
  subst hn
  refine ⟨_, _, rfl, Nat.le_refl _, (fun h => by cases h), .inr ⟨g, 0, rfl, fun j hj c x hx => ?_⟩⟩
  match c, hx with
  | 0, hx =>
    simp only [List.getElem?_cons_zero, Option.some.injEq] at hx
    subst hx
    simpa using h.cell hj
  | c + 1, hx => simp at hx
theorem set_mid {α : Type} (A R : List α) (y x : α) (j : Nat) (h : A.length = j) : (A ++ y :: R).set j x = A ++ x :: R := by
  subst h; simp
theorem mid_get {α : Type} [Inhabited α] (A R : List α) (y : α) (j : Nat) (h : A.length = j) : (A ++ y :: R)[j]! = y := by
  subst h
  rw [getElem!_pos _ _ (by simp)]; simp
/-- a row that is filled up to a place -/
def fillL {α β : Type} (f : α → β) (z : β) (l : List α) (j : Nat) : List β := (l.take j).map f ++ List.replicate (l.length - j) z
theorem fill_zero {α β : Type} (f : α → β) (z : β) (l : List α) : fillL f z l 0 = List.replicate l.length z := by simp [fillL]
theorem fill_all {α β : Type} (f : α → β) (z : β) (l : List α) : fillL f z l l.length = l.map f := by simp [fillL]
theorem fill_len {α β : Type} (f : α → β) (z : β) (l : List α) (j : Nat) (h : j ≤ l.length) : (fillL f z l j).length = l.length := by simp [fillL]; omega
theorem fill_set {α β : Type} [Inhabited α] (f : α → β) (z : β) (l : List α) (j : Nat) (h : j < l.length) : (fillL f z l j).set j (f l[j]!) = fillL f z l (j + 1) := by
  unfold fillL
  rw [show l.length - j = (l.length - (j + 1)) + 1 by omega, List.replicate_succ, set_mid _ _ _ _ _ (by simp; omega), tk1 l h, List.map_append]
  simp
theorem fill_skip {α β : Type} [Inhabited α] (f : α → β) (z : β) (l : List α) (j : Nat) (h : j < l.length) (hz : f l[j]! = z) : fillL f z l j = fillL f z l (j + 1) := by
  rw [← fill_set f z l j h, hz]
  unfold fillL
  rw [show l.length - j = (l.length - (j + 1)) + 1 by omega, List.replicate_succ, set_mid _ _ _ _ _ (by simp; omega)]
/-- what a list has for some numbers -/
def pickL {α : Type} [Inhabited α] (L : List α) (P : List Int) : List α := P.map fun x => L[x.toNat]!
def maxL (l : List Int) : Int := l.foldl max 0
theorem foldl_max (l : List Int) : ∀ a : Int, l.foldl max a = max a (l.foldl max a) := by
  induction l with
  | nil => intro a; simp
  | cons x l ih =>
    intro a
    simp only [List.foldl_cons]
    rw [ih (max a x)]
    omega
theorem foldl_max0 (l : List Int) : ∀ a : Int, 0 ≤ a → l.foldl max a = max a (maxL l) := by
  unfold maxL
  induction l with
  | nil => intro a h; simp; omega
  | cons x l ih =>
    intro a h
    simp only [List.foldl_cons]
    rw [ih (max a x) (by omega), ih (max 0 x) (by omega)]
    omega
theorem maxL_app (a b : List Int) : maxL (a ++ b) = max (maxL a) (maxL b) := by
  have h : 0 ≤ maxL a := by
    unfold maxL
    rw [foldl_max]; omega
  conv => lhs; unfold maxL
  rw [List.foldl_append]
  exact foldl_max0 b _ h
theorem maxL_comm (a b : List Int) : maxL (a ++ b) = maxL (b ++ a) := by rw [maxL_app, maxL_app]; omega
theorem maxL_nonneg (l : List Int) : 0 ≤ maxL l := by unfold maxL; rw [foldl_max]; omega
theorem maxL_le (l : List Int) (c : Int) (hc : 0 ≤ c) (h : ∀ x ∈ l, x ≤ c) : maxL l ≤ c := by
  unfold maxL
  have key : ∀ (l : List Int) (a : Int), a ≤ c → (∀ x ∈ l, x ≤ c) → l.foldl max a ≤ c := by
    intro l
    induction l with
    | nil => intro a ha _; exact ha
    | cons x l ih =>
      intro a ha hx
      simp only [List.foldl_cons]
      exact ih _ (by have := hx x (List.mem_cons_self ..); omega) (fun y hy => hx y (List.mem_cons_of_mem _ hy))
  exact key l 0 hc h
set_option maxRecDepth 100000 in
set_option maxHeartbeats 4000000 in
theorem pickedI_any (L : List Int) (P : List Int) (vl vp : Value) (hn : P.length ≤ 4000000000) (hx : ∀ x ∈ P, 0 ≤ x ∧ x < (L.length : Int)) (w : World) (hL : RowOf 1 encI L vl w) (hP : RowOf 1 encI P vp w) : Calls Try.prog 95 #[vl, vp] w fun e w' => ∃ q, e = .returned (.slice (some ⟨q, 0, none⟩) P.length P.length) ∧ Arr 3 (fun n : Int => Value.int .i64 n) q (pickL L P) w' ∧ w.heap.size ≤ q ∧ Below w.heap.size w w' := by
  obtain ⟨adl, cpl, rfl, hcl, RL⟩ := hL.open'
  obtain ⟨adp, cpp, rfl, hcp, RP⟩ := hP.open'
  clear hL hP
  have hmk := fun W => mkJ W P.length P.length (Nat.le_refl _) (by omega)
  go_enter Try.func95, Try.ntmps95
  go_upto_region 2 with fail
  have A0 : Arr 3 (fun n : Int => Value.int .i64 n) w.heap.size (List.replicate P.length 0) (w.alloc (.cells (madeCells #[.int .i64 0] P.length) 3)) := Arr.made w _ 0 _
  have bA := (Below.refl w.heap.size w).alloc (Nat.le_refl _) (.cells (madeCells #[.int .i64 0] P.length) 3)
  rw [← fill_zero (fun x : Int => L[x.toNat]!) 0 P] at A0
  clear hmk
  generalize w.alloc (.cells (madeCells #[.int .i64 0] P.length) 3) = W1 at A0 bA ⊢
  have HL := Lib.hid (fun W (hb : Below w.heap.size w W) => RL.below hb)
  have HP := Lib.hid (fun W (hb : Below w.heap.size w W) => RP.below hb)
  have HPL : Hid (pickL L P = P.map (fun x : Int => L[x.toNat]!)) := Lib.hid rfl
  have HX := Lib.hid hx
  clear RL RP hx
  generalize hk : w.heap.size = q at A0 bA ⊢
  have HK := Lib.hid hk
  rw [hk] at HL HP
  clear hk
  go_upto_block 0 with fail
  go_wp2_with fail
  go_loopw [13] (fun i wr => ∃ j : Nat, j ≤ P.length ∧ i = .int .i64 (j : Int) ∧ Hid (Arr 3 (fun n : Int => Value.int .i64 n) q (fillL (fun x : Int => L[x.toNat]!) 0 P j) wr) ∧ Hid (Below q w wr)) (fun i _ => P.length - (intOf i).toNat)
  case atStart => exact ⟨0, Nat.zero_le _, rfl, Lib.hid A0, Lib.hid bA⟩
  case round =>
    clear A0 bA
    obtain ⟨j, hj, rfl, hA, hB⟩ := hrel
    rename World => WR
    have hj0 : (0 : Int) ≤ (j : Int) := by omega
    by_cases hlt : j < P.length
    · have hji : (j : Int) < (P.length : Int) := by omega
      obtain ⟨hx0, hx1⟩ := HX.out _ (mem1 P hlt)
      have A1 := hA.out
      have HBB := Lib.hid hB.out
      have HFL := Lib.hid (fill_len (fun x : Int => L[x.toNat]!) 0 P j hj)
      have HS := Lib.hid (fill_set (fun x : Int => L[x.toNat]!) 0 P j hlt)
      obtain ⟨bb, oo, hdd, hcell⟩ := (HP.out _ hB.out).pick (by omega)
      subst hdd
      have c0 := hcell j hlt 0 _ rfl
      simp only [Nat.mul_one, Nat.add_zero] at c0
      clear hcell
      generalize P[j]! = x at c0 hx0 hx1 HS
      obtain ⟨b2, o2, hdd, hcell⟩ := (HL.out _ hB.out).pick (by omega)
      subst hdd
      have c1 := hcell x.toNat (by omega) 0 _ rfl
      simp only [Nat.mul_one, Nat.add_zero] at c1
      clear hcell hA hB
      generalize L[x.toNat]! = y at c1 HS
      have fr := A1.free j
      have a1 := A1.cell (j := j) (by rw [HFL.out]; exact hlt)
      have HA := Lib.hid (A1.set j y)
      have HB2 := Lib.hid (HBB.out.setCell (p := ⟨q, j, none⟩) (Nat.le_refl _) ((fun n : Int => Value.int .i64 n) y))
      have hlt1 := A1.lt
      rw [show (fillL (fun x : Int => L[x.toNat]!) 0 P j).set j y = fillL (fun x : Int => L[x.toNat]!) 0 P (j + 1) from HS.out] at HA
      clear A1
      go_wp2_with fail
      go_roundw
      case rel => exact ⟨j + 1, by omega, by go_num, HA, HB2⟩
      all_goals first | done | (simp [intOf]; done) | (simp [intOf]; omega)
    · have hji : ¬ (j : Int) < (P.length : Int) := by omega
      obtain rfl : j = P.length := by omega
      have HA := hA.out
      rw [fill_all, ← HPL.out] at HA
      have HB := Lib.hid hB.out
      have HA2 := Lib.hid HA
      clear hA hB HA
      go_wp2_with fail
      go_ret
      exact ⟨_, rfl, HA2.out, by rw [HK.out]; exact Nat.le_refl _, by rw [HK.out]; exact HB.out⟩
set_option maxRecDepth 100000 in
set_option maxHeartbeats 4000000 in
theorem pickedW_any (L : List (BitVec 64)) (P : List Int) (vl vp : Value) (hn : P.length ≤ 4000000000) (hx : ∀ x ∈ P, 0 ≤ x ∧ x < (L.length : Int)) (w : World) (hL : RowOf 1 encW L vl w) (hP : RowOf 1 encI P vp w) : Calls Try.prog 127 #[vl, vp] w fun e w' => ∃ q, e = .returned (.slice (some ⟨q, 0, none⟩) P.length P.length) ∧ Arr 29 (fun b : BitVec 64 => Value.int .u64 (U b)) q (pickL L P) w' ∧ w.heap.size ≤ q ∧ Below w.heap.size w w' := by
  obtain ⟨adl, cpl, rfl, hcl, RL⟩ := hL.open'
  obtain ⟨adp, cpp, rfl, hcp, RP⟩ := hP.open'
  clear hL hP
  have hmk := fun W => mkU W P.length P.length (Nat.le_refl _) (by omega)
  go_enter Try.func127, Try.ntmps127
  go_upto_region 2 with fail
  have A0 : Arr 29 (fun b : BitVec 64 => Value.int .u64 (U b)) w.heap.size (List.replicate P.length 0#64) (w.alloc (.cells (madeCells #[.int .u64 0] P.length) 29)) := Arr.made w _ 0#64 _
  have bA := (Below.refl w.heap.size w).alloc (Nat.le_refl _) (.cells (madeCells #[.int .u64 0] P.length) 29)
  rw [← fill_zero (fun x : Int => L[x.toNat]!) 0#64 P] at A0
  clear hmk
  generalize w.alloc (.cells (madeCells #[.int .u64 0] P.length) 29) = W1 at A0 bA ⊢
  have HL := Lib.hid (fun W (hb : Below w.heap.size w W) => RL.below hb)
  have HP := Lib.hid (fun W (hb : Below w.heap.size w W) => RP.below hb)
  have HPL : Hid (pickL L P = P.map (fun x : Int => L[x.toNat]!)) := Lib.hid rfl
  have HX := Lib.hid hx
  clear RL RP hx
  generalize hk : w.heap.size = q at A0 bA ⊢
  have HK := Lib.hid hk
  rw [hk] at HL HP
  clear hk
  go_upto_block 0 with fail
  go_wp2_with fail
  go_loopw [13] (fun i wr => ∃ j : Nat, j ≤ P.length ∧ i = .int .i64 (j : Int) ∧ Hid (Arr 29 (fun b : BitVec 64 => Value.int .u64 (U b)) q (fillL (fun x : Int => L[x.toNat]!) 0#64 P j) wr) ∧ Hid (Below q w wr)) (fun i _ => P.length - (intOf i).toNat)
  case atStart => exact ⟨0, Nat.zero_le _, rfl, Lib.hid A0, Lib.hid bA⟩
  case round =>
    clear A0 bA
    obtain ⟨j, hj, rfl, hA, hB⟩ := hrel
    rename World => WR
    have hj0 : (0 : Int) ≤ (j : Int) := by omega
    by_cases hlt : j < P.length
    · have hji : (j : Int) < (P.length : Int) := by omega
      obtain ⟨hx0, hx1⟩ := HX.out _ (mem1 P hlt)
      have A1 := hA.out
      have HBB := Lib.hid hB.out
      have HFL := Lib.hid (fill_len (fun x : Int => L[x.toNat]!) 0#64 P j hj)
      have HS := Lib.hid (fill_set (fun x : Int => L[x.toNat]!) 0#64 P j hlt)
      obtain ⟨bb, oo, hdd, hcell⟩ := (HP.out _ hB.out).pick (by omega)
      subst hdd
      have c0 := hcell j hlt 0 _ rfl
      simp only [Nat.mul_one, Nat.add_zero] at c0
      clear hcell
      generalize P[j]! = x at c0 hx0 hx1 HS
      obtain ⟨b2, o2, hdd, hcell⟩ := (HL.out _ hB.out).pick (by omega)
      subst hdd
      have c1 := hcell x.toNat (by omega) 0 _ rfl
      simp only [Nat.mul_one, Nat.add_zero] at c1
      clear hcell hA hB
      generalize L[x.toNat]! = y at c1 HS
      have fr := A1.free j
      have a1 := A1.cell (j := j) (by rw [HFL.out]; exact hlt)
      have HA := Lib.hid (A1.set j y)
      have HB2 := Lib.hid (HBB.out.setCell (p := ⟨q, j, none⟩) (Nat.le_refl _) ((fun b : BitVec 64 => Value.int .u64 (U b)) y))
      have hlt1 := A1.lt
      rw [show (fillL (fun x : Int => L[x.toNat]!) 0#64 P j).set j y = fillL (fun x : Int => L[x.toNat]!) 0#64 P (j + 1) from HS.out] at HA
      clear A1
      go_wp2_with fail
      go_roundw
      case rel => exact ⟨j + 1, by omega, by go_num, HA, HB2⟩
      all_goals first | done | (simp [intOf]; done) | (simp [intOf]; omega)
    · have hji : ¬ (j : Int) < (P.length : Int) := by omega
      obtain rfl : j = P.length := by omega
      have HA := hA.out
      rw [fill_all, ← HPL.out] at HA
      have HB := Lib.hid hB.out
      have HA2 := Lib.hid HA
      clear hA hB HA
      go_wp2_with fail
      go_ret
      exact ⟨_, rfl, HA2.out, by rw [HK.out]; exact Nat.le_refl _, by rw [HK.out]; exact HB.out⟩
set_option maxRecDepth 100000 in
set_option maxHeartbeats 4000000 in
theorem greatest_any (l : List Int) (v : Value) (hn : l.length ≤ 4000000000) (w : World) (h : RowOf 1 encI l v w) : Calls Try.prog 94 #[v] w fun e w' => e = .returned (.int .i64 (maxL l)) ∧ Below w.heap.size w w' := by
  obtain ⟨ad, cp, rfl, hcp, R⟩ := h.open'
  clear h
  go_enter Try.func94, Try.ntmps94
  go_wp2_with fail
  go_loopw [3, 8] (fun u i wr => ∃ (j : Nat) (x : Int), j ≤ l.length ∧ u = .int .i64 x ∧ i = .int .i64 (j : Int) ∧ Hid (maxL l = (l.drop j).foldl max x) ∧ wr = w) (fun _ i _ => l.length - (intOf i).toNat)
  case atStart => exact ⟨0, 0, Nat.zero_le _, rfl, rfl, Lib.hid rfl, rfl⟩
  case round =>
    obtain ⟨j, x, hj, rfl, rfl, hE, rfl⟩ := hrel
    have hj0 : (0 : Int) ≤ (j : Int) := by omega
    by_cases hlt : j < l.length
    · have hji : (j : Int) < (l.length : Int) := by omega
      have hd : l.drop j = l[j]! :: l.drop (j + 1) := by rw [getElem!_pos l j hlt]; exact List.drop_eq_getElem_cons hlt
      have HE := Lib.hid (show maxL l = (l.drop (j + 1)).foldl max (max x l[j]!) by rw [hE.out, hd]; rfl)
      obtain ⟨bb, oo, hdd, hcell⟩ := R.pick (by omega)
      subst hdd
      have c0 := hcell j hlt 0 _ rfl
      simp only [Nat.mul_one, Nat.add_zero] at c0
      clear hcell hd hE
      generalize l[j]! = y at c0 HE
      go_wp2_with fail
      go_roundw
      case rel => exact ⟨j + 1, max x y, by omega, by first | rfl | (congr 1; omega), by go_num, HE, by first | rfl | trivial⟩
      all_goals first | done | (simp [intOf]; done) | (simp [intOf]; omega)
    · have hji : ¬ (j : Int) < (l.length : Int) := by omega
      have HR := Lib.hid (show maxL l = x by rw [hE.out, List.drop_of_length_le (by omega)]; rfl)
      go_wp2_with fail
      go_ret
      exact ⟨ret_num HR.out.symm, Below.refl _ _⟩
end Go.Proofs.Ytimojbjamfckmaa
