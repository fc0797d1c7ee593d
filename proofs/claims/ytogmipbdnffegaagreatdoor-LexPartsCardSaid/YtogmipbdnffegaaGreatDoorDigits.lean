/- Reading digits of some bits each into a vector. -/
import Derived.Test.YtogmipbdnffegaaGreatDoorMgOps
namespace Go.Proofs.YtogmipbdnffegaaGreatDoor
open Go Go.RowKit
set_option linter.unusedVariables false
/-- a vector's cells in block p -/
structure Box (w : World) (p : Nat) (n : Int) (v x : Int) : Prop where
  c0 : w.cell? ⟨p, 0, none⟩ = some (.int .i64 n)
  c1 : w.cell? ⟨p, 1, none⟩ = some (.int .u64 v)
  c2 : w.cell? ⟨p, 2, none⟩ = some (.int .u64 x)
  fz : ∀ o, w.frozen? ⟨p, o, none⟩ = false
theorem Box.lt {w : World} {p : Nat} {n v x : Int} (h : Box w p n v x) : p < w.heap.size := World.block_lt_of_cell? w _ h.c0
theorem Box.below {w w' : World} {p : Nat} {n v x : Int} (h : Box w p n v x) (hb : Below w.heap.size w w') : Box w' p n v x :=
  ⟨(hb.cell (p := ⟨p, 0, none⟩) h.lt).trans h.c0, (hb.cell (p := ⟨p, 1, none⟩) h.lt).trans h.c1, (hb.cell (p := ⟨p, 2, none⟩) h.lt).trans h.c2, fun o => (hb.frozen (p := ⟨p, o, none⟩) h.lt).trans (h.fz o)⟩
theorem Box.set {w : World} {p : Nat} {n v x : Int} (h : Box w p n v x) (n' v' x' : Int) : Box (((w.setCell ⟨p, 0, none⟩ (.int .i64 n')).setCell ⟨p, 1, none⟩ (.int .u64 v')).setCell ⟨p, 2, none⟩ (.int .u64 x')) p n' v' x' := by
  obtain ⟨h0, h1, h2, hf⟩ := h
  exact ⟨by go_simp, by go_simp, by go_simp, fun o => by go_simp⟩
theorem Box.other {w : World} {p q : Nat} {n v x : Int} (h : Box w p n v x) (hne : p ≠ q) (a b c : Value) : Box (((w.setCell ⟨q, 0, none⟩ a).setCell ⟨q, 1, none⟩ b).setCell ⟨q, 2, none⟩ c) p n v x := by
  obtain ⟨h0, h1, h2, hf⟩ := h
  exact ⟨by go_simp, by go_simp, by go_simp, fun o => by go_simp⟩
theorem Box.new (w : World) (n v x : Int) : Box (w.alloc (.cells #[.int .i64 n, .int .u64 v, .int .u64 x] 40)) w.heap.size n v x :=
  ⟨by go_simp, by go_simp, by go_simp, fun o => by go_simp⟩
/-- the digit at place i from the end -/
def dgt (s : ByteArray) (i : Nat) : Nat := (s.data.toList.getD (s.size - 1 - i) 0).toNat
def rdI (n : Nat) (s : ByteArray) : Vx := if dgt s (s.size - 1) = 120 then fl n 3 else if dgt s (s.size - 1) = 122 then fl n 2 else kv n 0#64
def rdB (n size : Nat) (s : ByteArray) : Nat → Vx
  | 0 => rdI n s
  | i + 1 => vput n size (rdB n size s i) (i * size) (dbits size (dgt s i))
def rdE (n size : Nat) (s : ByteArray) (i : Nat) : Bool := excB (dbits size (dgt s i)) ((n : Int) - (i : Int) * (size : Int))
theorem rdI_ok {n : Nat} (h1 : 1 ≤ n) (h2 : n ≤ 64) (s : ByteArray) : (rdI n s).ok n := by
  unfold rdI; split
  · exact fl_ok h1 h2 3
  · split
    · exact fl_ok h1 h2 2
    · exact kv_ok h1 h2 _
theorem rdB_ok {n : Nat} (h1 : 1 ≤ n) (h2 : n ≤ 64) (size : Nat) (s : ByteArray) (i : Nat) : (rdB n size s i).ok n := by
  cases i with
  | zero => exact rdI_ok h1 h2 s
  | succ i => exact vput_ok (rdB_ok h1 h2 size s i)
theorem dgt_at (s : ByteArray) (i : Nat) (h : s.size - 1 - i < s.size) : dgt s i = (s[s.size - 1 - i]'h).toNat := by
  unfold dgt; rw [List.getD_eq_getElem?_getD, List.getElem?_eq_getElem (by simpa using h)]; rfl
theorem dgt_first (s : ByteArray) (h : 0 < s.size) : dgt s (s.size - 1) = s[0].toNat := by
  have e : s.size - 1 - (s.size - 1) = 0 := by omega
  unfold dgt; rw [e, List.getD_eq_getElem?_getD, List.getElem?_eq_getElem (by simpa using h)]; rfl
/-- what the loop over the digits knows of memory -/
structure RD (w : World) (p q n size : Nat) (s : ByteArray) (k : Nat) (wr : World) : Prop where
  b : Box wr q n (U (rdB n size s k).v) (U (rdB n size s k).x)
  r : Box wr p 0 0 0
  lo : Below w.heap.size w wr
set_option maxRecDepth 100000 in
set_option maxHeartbeats 1000000 in
theorem readDigits_x (n size : Nat) (s : ByteArray) (h1 : 1 ≤ n) (h2 : n ≤ 64) (z1 : 1 ≤ size) (z2 : size ≤ 4) (hs : 0 < s.size) (hs2 : s.size ≤ 2000) (w : World) (hE : Hid (∀ i, i < s.size → rdE n size s i = false)) (c0 : (s[0].toNat : Int) = 120) (hI : Hid (rdI n s = fl n 3)) :
    Calls Tryz.prog 93 #[.int .i64 n, .int .i64 size, .string s] w fun e w' => e = .returned (.tuple #[.agg #[.int .i64 n, .int .u64 (U (rdB n size s s.size).v), .int .u64 (U (rdB n size s s.size).x)], .int .i64 0]) ∧ Below w.heap.size w w' := by
  go_enter Tryz.func93, Tryz.ntmps93
  go_wp2_with fail
  refine (of_ok n 0#64 _ h1 h2).mono ?_
  rintro e w1 ⟨rfl, hb1⟩
  obtain ⟨hc1, hf1⟩ := bcell hb1
  have z1_0 : w.heap.size < w1.heap.size := bsize hb1 (by first | omega | (simp <;> omega))
  go_wp2_with fail
  refine (all_x n _ h1 h2).mono ?_
  rintro e w2 ⟨rfl, hb2⟩
  obtain ⟨hc2, hf2⟩ := bcell hb2
  have z2_0 : w.heap.size < w2.heap.size := bsize hb2 (by first | omega | (simp <;> omega))
  have z2_1 : w1.heap.size < w2.heap.size := bsize hb2 (by first | omega | (simp <;> omega))
  go_wp2_with fail
  go_loopw [27] (fun i wr => ∃ k : Nat, k ≤ s.size ∧ i = .int .i64 k ∧ RD w w.heap.size w1.heap.size n size s k wr) (fun i _ => s.size - (intOf i).toNat)
  case atStart => exact ⟨0, Nat.zero_le _, rfl, ⟨by show Box _ _ _ (U (rdI n s).v) (U (rdI n s).x); rw [hI.out]; exact ((Box.new w1 _ _ _).below hb2).set _ _ _, ((((Box.new w _ _ _).below hb1).below ((Below.refl _ _).alloc (Nat.le_refl _) _)).below hb2).other (by omega) _ _ _, by (repeat (first | exact Below.refl _ _ | exact Nat.le_refl _ | refine below_drewN ?_ _ | refine Below.drew ?_ | refine Below.alloc ?_ ?_ _ | refine Below.setCell ?_ ?_ _ | refine below_step (by assumption) ?_ ?_)) <;> (first | omega | (simp <;> omega))⟩⟩
  case round =>
    obtain ⟨k, hk, rfl, ⟨Bb, Br, hlo⟩⟩ := hrel
    have BB := Bb
    have BR := Br
    have lb := Bb.lt
    have lr := Br.lt
    obtain ⟨b0, b1, b2, bf⟩ := Bb
    obtain ⟨r0, r1, r2, rf⟩ := Br
    by_cases hlt : k < s.size
    · have hx : s.size - 1 - k < s.size := by omega
      have hd := dgt_at s k hx
      have hby : (s[s.size - 1 - k]'hx).toNat ≤ 255 := by have := (s[s.size - 1 - k]'hx).toNat_lt; omega
      have hks : (k : Int) * (size : Int) ≤ 8000 ∧ 0 ≤ (k : Int) * (size : Int) := by
        have h4 : k * size ≤ 2000 * 4 := Nat.mul_le_mul (by omega) z2
        have e4 : (k : Int) * (size : Int) = ((k * size : Nat) : Int) := by simp
        rw [e4]; omega
      obtain ⟨hks1, hks2⟩ := hks
      have HD := Lib.hid hd
      clear hd
      go_wp2_with fail
      rw [← HD.out] at hby ⊢
      refine (digitBits_any size _ z1 z2 hby _).mono ?_
      rintro e wa ⟨rfl, ha⟩
      obtain ⟨ac, af⟩ := bcell ha
      have ab : w1.heap.size < wa.heap.size := bsize ha lb
      have ar : w.heap.size < wa.heap.size := bsize ha lr
      go_wp2_with fail
      have he : excB (dbits size (dgt s k)) ((n : Int) - (k : Int) * (size : Int)) = false := hE.out k hlt
      refine (exceeds_any _ (dbits size (dgt s k)) ((n : Int) - (k : Int) * (size : Int)) (by omega) _).mono ?_
      rintro e wb ⟨rfl, hbb⟩
      obtain ⟨bc, bff⟩ := bcell hbb
      have bb : w1.heap.size < wb.heap.size := bsize hbb (by first | omega | (simp <;> omega))
      have br : w.heap.size < wb.heap.size := bsize hbb (by first | omega | (simp <;> omega))
      have bd : wa.heap.size < wb.heap.size := bsize hbb (by first | omega | (simp <;> omega))
      go_wp2_with fail
      clear he
      rw [show (k : Int) * (size : Int) = ((k * size : Nat) : Int) from by simp]
      refine (put_ok n size (k * size) (rdB n size s k) (dbits size (dgt s k)) _ (rdB_ok h1 h2 size s k) (dbits_ok z1 (by omega) _) h2 (by omega) (Nat.le_trans (Nat.mul_le_mul (show k ≤ 2000 by omega) z2) (by decide))).mono ?_
      rintro e wc ⟨rfl, hbc⟩
      obtain ⟨cc, cf⟩ := bcell hbc
      have cb : w1.heap.size < wc.heap.size := bsize hbc bb
      have cr : w.heap.size < wc.heap.size := bsize hbc br
      go_wp2_with fail
      have BC := (((BB.below ha).below ((Below.refl _ _).alloc (Nat.le_refl _) _)).below hbb).below hbc
      have RC := (((BR.below ha).below ((Below.refl _ _).alloc (Nat.le_refl _) _)).below hbb).below hbc
      go_roundw
      case rel => exact ⟨k + 1, by omega, by go_num, ⟨BC.set _ _ _, RC.other (by omega) _ _ _, by (repeat (first | exact Below.refl _ _ | exact Nat.le_refl _ | refine below_drewN ?_ _ | refine Below.drew ?_ | refine Below.alloc ?_ ?_ _ | refine Below.setCell ?_ ?_ _ | refine below_step (by assumption) ?_ ?_)) <;> (first | omega | (simp <;> omega))⟩⟩
      case measure => simp [intOf]; omega
    · go_wp2_with fail
      have hkl : k = s.size := by omega
      exact bodyPost_ret (v := .tuple #[.agg #[.int .i64 n, .int .u64 (U (rdB n size s k).v), .int .u64 (U (rdB n size s k).x)], .int .i64 0]) (by simp [results, Tryz.results93, go_sem, r0, r1, r2]) rfl ⟨by rw [hkl], by (repeat (first | exact Below.refl _ _ | exact Nat.le_refl _ | refine below_drewN ?_ _ | refine Below.drew ?_ | refine Below.alloc ?_ ?_ _ | refine Below.setCell ?_ ?_ _ | refine below_step (by assumption) ?_ ?_)) <;> (first | omega | (simp <;> omega))⟩
set_option maxRecDepth 100000 in
set_option maxHeartbeats 1000000 in
theorem readDigits_z (n size : Nat) (s : ByteArray) (h1 : 1 ≤ n) (h2 : n ≤ 64) (z1 : 1 ≤ size) (z2 : size ≤ 4) (hs : 0 < s.size) (hs2 : s.size ≤ 2000) (w : World) (hE : Hid (∀ i, i < s.size → rdE n size s i = false)) (c0 : (s[0].toNat : Int) = 122) (hI : Hid (rdI n s = fl n 2)) :
    Calls Tryz.prog 93 #[.int .i64 n, .int .i64 size, .string s] w fun e w' => e = .returned (.tuple #[.agg #[.int .i64 n, .int .u64 (U (rdB n size s s.size).v), .int .u64 (U (rdB n size s s.size).x)], .int .i64 0]) ∧ Below w.heap.size w w' := by
  go_enter Tryz.func93, Tryz.ntmps93
  go_wp2_with fail
  refine (of_ok n 0#64 _ h1 h2).mono ?_
  rintro e w1 ⟨rfl, hb1⟩
  obtain ⟨hc1, hf1⟩ := bcell hb1
  have z1_0 : w.heap.size < w1.heap.size := bsize hb1 (by first | omega | (simp <;> omega))
  go_wp2_with fail
  refine (all_z n _ h1 h2).mono ?_
  rintro e w2 ⟨rfl, hb2⟩
  obtain ⟨hc2, hf2⟩ := bcell hb2
  have z2_0 : w.heap.size < w2.heap.size := bsize hb2 (by first | omega | (simp <;> omega))
  have z2_1 : w1.heap.size < w2.heap.size := bsize hb2 (by first | omega | (simp <;> omega))
  go_wp2_with fail
  go_loopw [27] (fun i wr => ∃ k : Nat, k ≤ s.size ∧ i = .int .i64 k ∧ RD w w.heap.size w1.heap.size n size s k wr) (fun i _ => s.size - (intOf i).toNat)
  case atStart => exact ⟨0, Nat.zero_le _, rfl, ⟨by show Box _ _ _ (U (rdI n s).v) (U (rdI n s).x); rw [hI.out]; exact ((Box.new w1 _ _ _).below hb2).set _ _ _, ((((Box.new w _ _ _).below hb1).below ((Below.refl _ _).alloc (Nat.le_refl _) _)).below hb2).other (by omega) _ _ _, by (repeat (first | exact Below.refl _ _ | exact Nat.le_refl _ | refine below_drewN ?_ _ | refine Below.drew ?_ | refine Below.alloc ?_ ?_ _ | refine Below.setCell ?_ ?_ _ | refine below_step (by assumption) ?_ ?_)) <;> (first | omega | (simp <;> omega))⟩⟩
  case round =>
    obtain ⟨k, hk, rfl, ⟨Bb, Br, hlo⟩⟩ := hrel
    have BB := Bb
    have BR := Br
    have lb := Bb.lt
    have lr := Br.lt
    obtain ⟨b0, b1, b2, bf⟩ := Bb
    obtain ⟨r0, r1, r2, rf⟩ := Br
    by_cases hlt : k < s.size
    · have hx : s.size - 1 - k < s.size := by omega
      have hd := dgt_at s k hx
      have hby : (s[s.size - 1 - k]'hx).toNat ≤ 255 := by have := (s[s.size - 1 - k]'hx).toNat_lt; omega
      have hks : (k : Int) * (size : Int) ≤ 8000 ∧ 0 ≤ (k : Int) * (size : Int) := by
        have h4 : k * size ≤ 2000 * 4 := Nat.mul_le_mul (by omega) z2
        have e4 : (k : Int) * (size : Int) = ((k * size : Nat) : Int) := by simp
        rw [e4]; omega
      obtain ⟨hks1, hks2⟩ := hks
      have HD := Lib.hid hd
      clear hd
      go_wp2_with fail
      rw [← HD.out] at hby ⊢
      refine (digitBits_any size _ z1 z2 hby _).mono ?_
      rintro e wa ⟨rfl, ha⟩
      obtain ⟨ac, af⟩ := bcell ha
      have ab : w1.heap.size < wa.heap.size := bsize ha lb
      have ar : w.heap.size < wa.heap.size := bsize ha lr
      go_wp2_with fail
      have he : excB (dbits size (dgt s k)) ((n : Int) - (k : Int) * (size : Int)) = false := hE.out k hlt
      refine (exceeds_any _ (dbits size (dgt s k)) ((n : Int) - (k : Int) * (size : Int)) (by omega) _).mono ?_
      rintro e wb ⟨rfl, hbb⟩
      obtain ⟨bc, bff⟩ := bcell hbb
      have bb : w1.heap.size < wb.heap.size := bsize hbb (by first | omega | (simp <;> omega))
      have br : w.heap.size < wb.heap.size := bsize hbb (by first | omega | (simp <;> omega))
      have bd : wa.heap.size < wb.heap.size := bsize hbb (by first | omega | (simp <;> omega))
      go_wp2_with fail
      clear he
      rw [show (k : Int) * (size : Int) = ((k * size : Nat) : Int) from by simp]
      refine (put_ok n size (k * size) (rdB n size s k) (dbits size (dgt s k)) _ (rdB_ok h1 h2 size s k) (dbits_ok z1 (by omega) _) h2 (by omega) (Nat.le_trans (Nat.mul_le_mul (show k ≤ 2000 by omega) z2) (by decide))).mono ?_
      rintro e wc ⟨rfl, hbc⟩
      obtain ⟨cc, cf⟩ := bcell hbc
      have cb : w1.heap.size < wc.heap.size := bsize hbc bb
      have cr : w.heap.size < wc.heap.size := bsize hbc br
      go_wp2_with fail
      have BC := (((BB.below ha).below ((Below.refl _ _).alloc (Nat.le_refl _) _)).below hbb).below hbc
      have RC := (((BR.below ha).below ((Below.refl _ _).alloc (Nat.le_refl _) _)).below hbb).below hbc
      go_roundw
      case rel => exact ⟨k + 1, by omega, by go_num, ⟨BC.set _ _ _, RC.other (by omega) _ _ _, by (repeat (first | exact Below.refl _ _ | exact Nat.le_refl _ | refine below_drewN ?_ _ | refine Below.drew ?_ | refine Below.alloc ?_ ?_ _ | refine Below.setCell ?_ ?_ _ | refine below_step (by assumption) ?_ ?_)) <;> (first | omega | (simp <;> omega))⟩⟩
      case measure => simp [intOf]; omega
    · go_wp2_with fail
      have hkl : k = s.size := by omega
      exact bodyPost_ret (v := .tuple #[.agg #[.int .i64 n, .int .u64 (U (rdB n size s k).v), .int .u64 (U (rdB n size s k).x)], .int .i64 0]) (by simp [results, Tryz.results93, go_sem, r0, r1, r2]) rfl ⟨by rw [hkl], by (repeat (first | exact Below.refl _ _ | exact Nat.le_refl _ | refine below_drewN ?_ _ | refine Below.drew ?_ | refine Below.alloc ?_ ?_ _ | refine Below.setCell ?_ ?_ _ | refine below_step (by assumption) ?_ ?_)) <;> (first | omega | (simp <;> omega))⟩
set_option maxRecDepth 100000 in
set_option maxHeartbeats 1000000 in
theorem readDigits_d (n size : Nat) (s : ByteArray) (h1 : 1 ≤ n) (h2 : n ≤ 64) (z1 : 1 ≤ size) (z2 : size ≤ 4) (hs : 0 < s.size) (hs2 : s.size ≤ 2000) (w : World) (hE : Hid (∀ i, i < s.size → rdE n size s i = false)) (c0 : ((s[0].toNat : Int) == 120) = false) (c1 : ((s[0].toNat : Int) == 122) = false) (hI : Hid (rdI n s = kv n 0#64)) :
    Calls Tryz.prog 93 #[.int .i64 n, .int .i64 size, .string s] w fun e w' => e = .returned (.tuple #[.agg #[.int .i64 n, .int .u64 (U (rdB n size s s.size).v), .int .u64 (U (rdB n size s s.size).x)], .int .i64 0]) ∧ Below w.heap.size w w' := by
  go_enter Tryz.func93, Tryz.ntmps93
  go_wp2_with fail
  refine (of_ok n 0#64 _ h1 h2).mono ?_
  rintro e w1 ⟨rfl, hb1⟩
  obtain ⟨hc1, hf1⟩ := bcell hb1
  have z1_0 : w.heap.size < w1.heap.size := bsize hb1 (by first | omega | (simp <;> omega))
  go_wp2_with fail
  go_loopw [27] (fun i wr => ∃ k : Nat, k ≤ s.size ∧ i = .int .i64 k ∧ RD w w.heap.size w1.heap.size n size s k wr) (fun i _ => s.size - (intOf i).toNat)
  case atStart => exact ⟨0, Nat.zero_le _, rfl, ⟨by show Box _ _ _ (U (rdI n s).v) (U (rdI n s).x); rw [hI.out]; exact Box.new w1 _ _ _, (((Box.new w _ _ _).below hb1).below ((Below.refl _ _).alloc (Nat.le_refl _) _)), by (repeat (first | exact Below.refl _ _ | exact Nat.le_refl _ | refine below_drewN ?_ _ | refine Below.drew ?_ | refine Below.alloc ?_ ?_ _ | refine Below.setCell ?_ ?_ _ | refine below_step (by assumption) ?_ ?_)) <;> (first | omega | (simp <;> omega))⟩⟩
  case round =>
    obtain ⟨k, hk, rfl, ⟨Bb, Br, hlo⟩⟩ := hrel
    have BB := Bb
    have BR := Br
    have lb := Bb.lt
    have lr := Br.lt
    obtain ⟨b0, b1, b2, bf⟩ := Bb
    obtain ⟨r0, r1, r2, rf⟩ := Br
    by_cases hlt : k < s.size
    · have hx : s.size - 1 - k < s.size := by omega
      have hd := dgt_at s k hx
      have hby : (s[s.size - 1 - k]'hx).toNat ≤ 255 := by have := (s[s.size - 1 - k]'hx).toNat_lt; omega
      have hks : (k : Int) * (size : Int) ≤ 8000 ∧ 0 ≤ (k : Int) * (size : Int) := by
        have h4 : k * size ≤ 2000 * 4 := Nat.mul_le_mul (by omega) z2
        have e4 : (k : Int) * (size : Int) = ((k * size : Nat) : Int) := by simp
        rw [e4]; omega
      obtain ⟨hks1, hks2⟩ := hks
      have HD := Lib.hid hd
      clear hd
      go_wp2_with fail
      rw [← HD.out] at hby ⊢
      refine (digitBits_any size _ z1 z2 hby _).mono ?_
      rintro e wa ⟨rfl, ha⟩
      obtain ⟨ac, af⟩ := bcell ha
      have ab : w1.heap.size < wa.heap.size := bsize ha lb
      have ar : w.heap.size < wa.heap.size := bsize ha lr
      go_wp2_with fail
      have he : excB (dbits size (dgt s k)) ((n : Int) - (k : Int) * (size : Int)) = false := hE.out k hlt
      refine (exceeds_any _ (dbits size (dgt s k)) ((n : Int) - (k : Int) * (size : Int)) (by omega) _).mono ?_
      rintro e wb ⟨rfl, hbb⟩
      obtain ⟨bc, bff⟩ := bcell hbb
      have bb : w1.heap.size < wb.heap.size := bsize hbb (by first | omega | (simp <;> omega))
      have br : w.heap.size < wb.heap.size := bsize hbb (by first | omega | (simp <;> omega))
      have bd : wa.heap.size < wb.heap.size := bsize hbb (by first | omega | (simp <;> omega))
      go_wp2_with fail
      clear he
      rw [show (k : Int) * (size : Int) = ((k * size : Nat) : Int) from by simp]
      refine (put_ok n size (k * size) (rdB n size s k) (dbits size (dgt s k)) _ (rdB_ok h1 h2 size s k) (dbits_ok z1 (by omega) _) h2 (by omega) (Nat.le_trans (Nat.mul_le_mul (show k ≤ 2000 by omega) z2) (by decide))).mono ?_
      rintro e wc ⟨rfl, hbc⟩
      obtain ⟨cc, cf⟩ := bcell hbc
      have cb : w1.heap.size < wc.heap.size := bsize hbc bb
      have cr : w.heap.size < wc.heap.size := bsize hbc br
      go_wp2_with fail
      have BC := (((BB.below ha).below ((Below.refl _ _).alloc (Nat.le_refl _) _)).below hbb).below hbc
      have RC := (((BR.below ha).below ((Below.refl _ _).alloc (Nat.le_refl _) _)).below hbb).below hbc
      go_roundw
      case rel => exact ⟨k + 1, by omega, by go_num, ⟨BC.set _ _ _, RC.other (by omega) _ _ _, by (repeat (first | exact Below.refl _ _ | exact Nat.le_refl _ | refine below_drewN ?_ _ | refine Below.drew ?_ | refine Below.alloc ?_ ?_ _ | refine Below.setCell ?_ ?_ _ | refine below_step (by assumption) ?_ ?_)) <;> (first | omega | (simp <;> omega))⟩⟩
      case measure => simp [intOf]; omega
    · go_wp2_with fail
      have hkl : k = s.size := by omega
      exact bodyPost_ret (v := .tuple #[.agg #[.int .i64 n, .int .u64 (U (rdB n size s k).v), .int .u64 (U (rdB n size s k).x)], .int .i64 0]) (by simp [results, Tryz.results93, go_sem, r0, r1, r2]) rfl ⟨by rw [hkl], by (repeat (first | exact Below.refl _ _ | exact Nat.le_refl _ | refine below_drewN ?_ _ | refine Below.drew ?_ | refine Below.alloc ?_ ?_ _ | refine Below.setCell ?_ ?_ _ | refine below_step (by assumption) ?_ ?_)) <;> (first | omega | (simp <;> omega))⟩
theorem readDigits_ok (n size : Nat) (s : ByteArray) (h1 : 1 ≤ n) (h2 : n ≤ 64) (z1 : 1 ≤ size) (z2 : size ≤ 4) (hs : 0 < s.size) (hs2 : s.size ≤ 2000) (w : World) (hE : ∀ i, i < s.size → rdE n size s i = false) :
    Calls Tryz.prog 93 #[.int .i64 n, .int .i64 size, .string s] w fun e w' => e = .returned (.tuple #[.agg #[.int .i64 n, .int .u64 (U (rdB n size s s.size).v), .int .u64 (U (rdB n size s s.size).x)], .int .i64 0]) ∧ Below w.heap.size w w' := by
  have hf := dgt_first s hs
  by_cases a : s[0].toNat = 120
  · exact readDigits_x n size s h1 h2 z1 z2 hs hs2 w (Lib.hid hE) (by omega) (Lib.hid (by unfold rdI; rw [hf, if_pos a]))
  · by_cases b : s[0].toNat = 122
    · exact readDigits_z n size s h1 h2 z1 z2 hs hs2 w (Lib.hid hE) (by omega) (Lib.hid (by unfold rdI; rw [hf, if_neg a, if_pos b]))
    · exact readDigits_d n size s h1 h2 z1 z2 hs hs2 w (Lib.hid hE) (beq_eq_false_iff_ne.2 (by omega)) (beq_eq_false_iff_ne.2 (by omega)) (Lib.hid (by unfold rdI; rw [hf, if_neg a, if_neg b]))
end Go.Proofs.YtogmipbdnffegaaGreatDoor
