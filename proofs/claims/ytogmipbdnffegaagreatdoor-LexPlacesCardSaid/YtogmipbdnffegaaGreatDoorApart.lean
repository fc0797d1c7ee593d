/- Taking a vector's text apart, and reading it. -/
import Derived.Test.YtogmipbdnffegaaGreatDoorDigits
import Derived.Deep.DeepCutAuto
import Derived.Lib.AppendIntMem
namespace Go.Proofs.YtogmipbdnffegaaGreatDoor
open Go Go.RowKit
set_option linter.unusedVariables false
/-- what the calls lean on of package-level variables: they lie below block B -/
structure Glob (B : Nat) (w : World) : Prop where
  mx : ∃ m : Int, w.cell? ⟨2, 0, none⟩ = some (.int .i64 m)
  pos : 2 < B
  tab : Lib.TabBelow Tryz.prog B w "internal/strconv.uint64pow10" .u64 Lib.pow10Tab
  le : B ≤ w.heap.size
theorem Glob.on {B B' : Nat} {w w' : World} (h : Glob B w) (hb : Below B' w w') (hB : B ≤ B') : Glob B w' := by
  obtain ⟨m, hm⟩ := h.mx
  exact ⟨⟨m, (hb.cell (p := ⟨2, 0, none⟩) (Nat.lt_of_lt_of_le h.pos hB)).trans hm⟩, h.pos, h.tab.on (hb.mono hB), Nat.le_trans h.le hb.size⟩
theorem Glob.here {B : Nat} {w w' : World} (h : Glob B w) (hb : Below w.heap.size w w') : Glob B w' := h.on hb h.le
def dw (c : Nat) : Nat := if c = 98 then 1 else if c = 111 then 3 else if c = 104 then 4 else 0
set_option maxHeartbeats 400000 in
theorem digitWidth_any (c : Nat) (hc : c ≤ 255) (w : World) : Calls Tryz.prog 94 #[.int .u8 c] w fun e w' => e = .returned (.int .i64 (dw c)) ∧ w = w' := by
  by_cases h1 : c = 98
  · subst h1
    go_enter Tryz.func94, Tryz.ntmps94
    go_wp2_with fail
    go_ret
    exact ⟨rfl, rfl⟩
  · by_cases h2 : c = 111
    · subst h2
      go_enter Tryz.func94, Tryz.ntmps94
      go_wp2_with fail
      go_ret
      exact ⟨rfl, rfl⟩
    · by_cases h3 : c = 104
      · subst h3
        go_enter Tryz.func94, Tryz.ntmps94
        go_wp2_with fail
        go_ret
        exact ⟨rfl, rfl⟩
      · have e1 : ((c : Int) == 98) = false := beq_eq_false_iff_ne.2 (by omega)
        have e2 : ((c : Int) == 111) = false := beq_eq_false_iff_ne.2 (by omega)
        have e3 : ((c : Int) == 104) = false := beq_eq_false_iff_ne.2 (by omega)
        have e : dw c = 0 := by unfold dw; rw [if_neg h1, if_neg h2, if_neg h3]
        have E := Lib.hid e
        clear h1 h2 h3 e
        go_enter Tryz.func94, Tryz.ntmps94
        go_wp2_with fail
        go_ret
        exact ⟨ret_int (by rw [E.out]; rfl), rfl⟩
/-- the number of a width; more than 64 for all that are -/
def rwd (s : ByteArray) : Nat → Nat
  | 0 => 0
  | k + 1 => if rwd s k ≤ 64 then rwd s k * 10 + dv (s.data.toList.getD k 0).toNat else rwd s k
theorem rwd_le (s : ByteArray) (k : Nat) : rwd s k ≤ 656 := by
  induction k with
  | zero => simp [rwd]
  | succ k ih =>
    have := dv_le (s.data.toList.getD k 0).toNat
    simp only [rwd]; split <;> omega
theorem rwd_stop {s : ByteArray} {k : Nat} (h : 64 < rwd s k) : ∀ j, k ≤ j → rwd s j = rwd s k := by
  intro j hj
  induction j with
  | zero => obtain rfl : k = 0 := by omega
            rfl
  | succ j ih =>
    rcases Nat.lt_or_ge j k with h' | h'
    · obtain rfl : k = j + 1 := by omega
      rfl
    · simp only [rwd]; rw [ih h', if_neg (by omega)]
theorem byte_at (s : ByteArray) (k : Nat) (h : k < s.size) : (s.data.toList.getD k 0).toNat = s[k].toNat := by
  rw [List.getD_eq_getElem?_getD, List.getElem?_eq_getElem (by simpa using h)]; rfl
set_option maxHeartbeats 400000 in
theorem readWidth_any (s : ByteArray) (hs : s.size ≤ 9223372036854775807) (w : World) : Calls Tryz.prog 112 #[.string s] w fun e w' => e = .returned (.int .i64 (rwd s s.size)) ∧ w = w' := by
  go_enter Tryz.func112, Tryz.ntmps112
  go_wp2_with fail
  go_loop [3, 4] (fun v i => ∃ k : Nat, k ≤ s.size ∧ i = .int .i64 k ∧ v = .int .i64 (rwd s k)) (fun _ i => s.size - (intOf i).toNat)
  case atStart => exact ⟨0, Nat.zero_le _, rfl, rfl⟩
  case round =>
    obtain ⟨k, hk, rfl, rfl⟩ := hrel
    have hl := rwd_le s k
    by_cases hlt : k < s.size
    · by_cases h64 : rwd s k ≤ 64
      · have hb : s[k].toNat ≤ 255 := by have := s[k].toNat_lt; omega
        have hdv := dv_le s[k].toNat
        have HS : Hid (rwd s (k + 1) = rwd s k * 10 + dv s[k].toNat) := by show rwd s (k + 1) = _; simp only [rwd]; rw [if_pos h64, byte_at s k hlt]
        go_wp2_with fail
        refine (digitValue_any _ hb _).mono ?_
        rintro e w' ⟨rfl, rfl⟩
        go_wp2_with fail
        go_round
        case rel => exact ⟨k + 1, by omega, by go_num, by rw [HS.out]; go_num⟩
        case measure => simp [intOf]; omega
      · have hst := rwd_stop (s := s) (k := k) (by omega) s.size hk
        have HS := Lib.hid hst
        clear hst
        go_wp2_with fail
        go_ret
        exact ⟨ret_int (by rw [HS.out]), rfl⟩
    · have hks : k = s.size := by omega
      have HS := Lib.hid hks
      clear hks
      go_wp2_with fail
      all_goals
        go_ret
        exact ⟨ret_int (by rw [HS.out]), rfl⟩
/-- the literal that lies in block g, the result's block, and the rest of memory -/
structure ApW (w : World) (g : Nat) (n base : Int) (dg : ByteArray) (wx : World) : Prop where
  c0 : wx.cell? ⟨g, 0, none⟩ = some (.int .i64 n)
  c1 : wx.cell? ⟨g, 1, none⟩ = some (.int .u8 base)
  c2 : wx.cell? ⟨g, 2, none⟩ = some (.string dg)
  cf : ∀ o, wx.frozen? ⟨g, o, none⟩ = false
  r0 : wx.cell? ⟨w.heap.size, 0, none⟩ = some (.int .i64 0)
  r1 : wx.cell? ⟨w.heap.size, 1, none⟩ = some (.int .u8 0)
  r2 : wx.cell? ⟨w.heap.size, 2, none⟩ = some (.string ⟨#[]⟩)
  rf : ∀ o, wx.frozen? ⟨w.heap.size, o, none⟩ = false
  gp : w.heap.size < g
  lo : Below w.heap.size w wx
theorem ba_eta (b : ByteArray) : (⟨b.data⟩ : ByteArray) = b := rfl
theorem toList_ne {b : ByteArray} (h : 0 < b.size) : ¬ b.toList = [] := by
  intro e
  rw [Lib.toList_data] at e
  have h2 := congrArg List.length e
  rw [Array.length_toList] at h2
  have h3 : b.size = 0 := h2
  omega
set_option maxRecDepth 100000 in
set_option maxHeartbeats 8000000 in
theorem takeApart_ok (s wd rs r0 : ByteArray) (hs : s.size < 4294967281) (m : Int) (w : World) (hm : w.cell? ⟨2, 0, none⟩ = some (.int .i64 m)) (hw : 2 < w.heap.size)
    (hc : Hid (Lib.cut s.data.toList (⟨#[39]⟩ : ByteArray).data.toList = (wd.data.toList, r0.data.toList, true))) (ht : Hid (Lib.trimPrefix r0.data.toList (⟨#[115]⟩ : ByteArray).data.toList = rs.data.toList))
    (w1 : 0 < wd.size) (w2 : ((wd[0].toNat : Int) == 48) = false) (w3 : Hid (allB (fun c => isDig c.toNat) wd = true)) (hr : 2 ≤ rs.size) (hwl : wd.size ≤ s.size) (hrl : rs.size ≤ s.size)
    (hr0 : 0 < rs.size) (hb : ((rs[0].toNat : Int) == 100) = false) (hz1 : 1 ≤ dw rs[0].toNat) (hz2 : dw rs[0].toNat ≤ 4) (hd : Hid (allB (fun c => digOk (dw rs[0].toNat) c.toNat) (rs.extract 1 rs.size) = true)) :
    Calls Tryz.prog 91 #[.string s] w fun e w' => e = .returned (.tuple #[.agg #[.int .i64 (rwd wd wd.size), .int .u8 rs[0].toNat, .string (rs.extract 1 rs.size)], .bool true]) ∧ Below w.heap.size w w' := by
  have hr2 : (1 : Int) ≤ (rs.size : Int) := by omega
  have hr1 : 1 ≤ rs.size := by omega
  have hby : rs[0].toNat ≤ 255 := by have := rs[0].toNat_lt; omega
  have hsz : (rs.extract 1 rs.size).size ≤ 9223372036854775807 := by simp; omega
  have wne := toList_ne w1
  have wne2 : wd.toList.isEmpty = false := by simpa using wne
  go_enter Tryz.func91, Tryz.ntmps91
  go_wp2_with fail
  refine (Tryz.strings_Cut _ _ m _ hs (by go_simp)).mono ?_
  rintro e w' ⟨rfl, n1, rfl⟩
  have x0 : ((w.alloc (Obj.cells #[Value.int IntKind.i64 0, Value.int IntKind.u8 0, Value.string { data := #[] }] 129)).drewN n1).cell? ⟨w.heap.size, 0, none⟩ = some (.int .i64 0) := by go_simp
  have x1 : ((w.alloc (Obj.cells #[Value.int IntKind.i64 0, Value.int IntKind.u8 0, Value.string { data := #[] }] 129)).drewN n1).cell? ⟨w.heap.size, 1, none⟩ = some (.int .u8 0) := by go_simp
  have x2 : ((w.alloc (Obj.cells #[Value.int IntKind.i64 0, Value.int IntKind.u8 0, Value.string { data := #[] }] 129)).drewN n1).cell? ⟨w.heap.size, 2, none⟩ = some (.string ⟨#[]⟩) := by go_simp
  have xf : ∀ o, ((w.alloc (Obj.cells #[Value.int IntKind.i64 0, Value.int IntKind.u8 0, Value.string { data := #[] }] 129)).drewN n1).frozen? ⟨w.heap.size, o, none⟩ = false := fun o => by go_simp
  have xz : w.heap.size < ((w.alloc (Obj.cells #[Value.int IntKind.i64 0, Value.int IntKind.u8 0, Value.string { data := #[] }] 129)).drewN n1).heap.size := by go_simp
  have xb : Below w.heap.size w ((w.alloc (Obj.cells #[Value.int IntKind.i64 0, Value.int IntKind.u8 0, Value.string { data := #[] }] 129)).drewN n1) := below_drewN ((Below.refl _ _).alloc (Nat.le_refl _) _) _
  generalize ((w.alloc (Obj.cells #[Value.int IntKind.i64 0, Value.int IntKind.u8 0, Value.string { data := #[] }] 129)).drewN n1) = wx at x0 x1 x2 xf xz xb ⊢
  rw [hc.out]
  simp only [Array.toArray_toList, ba_eta]
  go_wp2_with fail
  refine (Tryz.strings_TrimPrefix _ _ _).mono ?_
  rintro e w' ⟨rfl, rfl⟩
  rw [ht.out]
  simp only [Array.toArray_toList, ba_eta]
  go_wp2_with fail
  refine (every_dec wd (by omega) _).mono ?_
  rintro e w' ⟨rfl, rfl⟩
  rw [w3.out]
  go_wp2_with fail
  go_cut [7] (fun s7 wx => ∃ g : Nat, s7 = .pointer (some ⟨g, 0, none⟩) ∧ ApW w g (rwd wd wd.size) rs[0].toNat (rs.extract 1 rs.size) wx)
  case first =>
    go_region_with ((go_at_call 112; refine (readWidth_any wd (by omega) _).mono ?_; rintro e w' ⟨rfl, rfl⟩))
    all_goals
      go_wp2_with fail
      go_meet
      exact ⟨_, rfl, ⟨by go_simp, by go_simp, by go_simp, fun o => by go_simp, by go_simp, by go_simp, by go_simp, fun o => by go_simp, xz, by (repeat (first | exact Below.refl _ _ | exact Nat.le_refl _ | refine below_drewN ?_ _ | refine Below.drew ?_ | refine Below.alloc ?_ ?_ _ | refine Below.setCell ?_ ?_ _ | refine below_step (by assumption) ?_ ?_)) <;> (first | omega | (simp <;> omega))⟩⟩
  case rest =>
    obtain ⟨g, rfl, ⟨c0, c1, c2, cf, r0', r1', r2', rf', gp, glo⟩⟩ := hcut
    have gz := World.block_lt_of_cell? wc _ c0
    have rz := World.block_lt_of_cell? wc _ r0'
    clear x0 x1 x2 xf xz
    go_wp2_with fail
    have hz0 : 0 < dw rs[0].toNat := by omega
    refine (digitWidth_any _ hby _).mono ?_
    rintro e w' ⟨rfl, rfl⟩
    go_wp2_with fail
    go_region_with ((go_at_call 110; refine (every_clos (rs.extract 1 rs.size) hsz (dw rs[0].toNat) _ hz2 _ (by go_simp)).mono ?_; rintro e w' ⟨rfl, nq, hnq⟩; subst hnq; rw [hd.out]))
    all_goals
      go_wp2_with fail
      exact bodyPost_ret (v := .tuple #[.agg #[.int .i64 (rwd wd wd.size), .int .u8 rs[0].toNat, .string (rs.extract 1 rs.size)], .bool true]) (by simp [results, Tryz.results91, go_sem, r0', r1', r2', rz]) rfl ⟨rfl, by (repeat (first | exact Below.refl _ _ | exact Nat.le_refl _ | refine below_drewN ?_ _ | refine Below.drew ?_ | refine Below.alloc ?_ ?_ _ | refine Below.setCell ?_ ?_ _ | refine below_step (by assumption) ?_ ?_)) <;> (first | omega | (simp <;> omega))⟩
end Go.Proofs.YtogmipbdnffegaaGreatDoor
