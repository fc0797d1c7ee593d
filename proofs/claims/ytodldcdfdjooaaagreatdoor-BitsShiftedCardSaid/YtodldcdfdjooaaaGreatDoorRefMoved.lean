/- The reference's moved: the states of a vector that is shifted. No condition but lengths. -/
import Derived.Test.YtodldcdfdjooaaaGreatDoorNumMath
import Derived.Test.YtodldcdfdjooaaaGreatDoorShiftMath
namespace Go.Proofs.YtodldcdfdjooaaaGreatDoor
open Go Go.RowKit Go.Sort
set_option linter.unusedVariables false
set_option maxRecDepth 100000 in
set_option maxHeartbeats 1000000 in
theorem moved_x (v u : Value) (l m : List UInt8) (up : Bool) (f : UInt8) (hl : l.length ≤ 1000000) (hm : m.length ≤ 1000000) (hk : knownL m = false) (w : World) (h : Row8 w v l) (h' : Row8 w u m) :
    Calls Tryz.prog 86 #[v, u, .bool up, .int .u8 (f.toNat : Int)] w fun e w' => ∃ v, e = .returned v ∧ Row8 w' v (List.replicate l.length 120) ∧ Below w.heap.size w w' := by
  have c := Lib.hid (refKnown_any u m hm w h')
  rw [hk] at c
  obtain ⟨a, cap, rfl, -⟩ := id h.sh
  clear h h' hk
  generalize hn : l.length = n at hl ⊢
  clear hn
  have cf := Lib.hid fun w => refFill_any n 120 hl w
  go_enter Tryz.func86, Tryz.ntmps86
  go_wp2_with fail
  refine c.out.mono ?_
  rintro e w1 ⟨rfl, rfl⟩
  go_wp2_with fail
  refine (cf.out _).mono ?_
  rintro e w1 ⟨r, rfl, hr, hb⟩
  go_wp2_with fail
  go_ret
  exact ⟨r, rfl, hr, hb⟩
set_option maxRecDepth 100000 in
set_option maxHeartbeats 4000000 in
theorem moved_true (v u : Value) (l m : List UInt8) (q : Nat) (f : UInt8) (hl : l.length ≤ 1000000) (hm : m.length ≤ 1000000) (hk : knownL m = true) (hq : cntD m 64 m.length = q) (w : World) (h : Row8 w v l) (h' : Row8 w u m) :
    Calls Tryz.prog 86 #[v, u, .bool true, .int .u8 (f.toNat : Int)] w fun e w' => ∃ v, e = .returned v ∧ Row8 w' v (movL l q true f) ∧ Below w.heap.size w w' := by
  obtain ⟨i0, hi, hz0, hz1, hz2⟩ := info_parts info5
  have c := Lib.hid (refKnown_any u m hm w h')
  rw [hk] at c
  have cq := Lib.hid (count_any u m 64 (by decide) (by decide) hm w h')
  rw [hq] at cq
  have hq64 : q ≤ 64 := by rw [← hq]; exact cntD_le _ _ _
  obtain ⟨a, cap, rfl, h0⟩ := id h.sh
  have H0 := Lib.hid h0
  clear h h' hk hq h0
  show Calls Tryz.prog 86 _ w fun e w' => ∃ v, e = .returned v ∧ Row8 w' v ((List.range l.length).map (movF l q true f)) ∧ Below w.heap.size w w'
  generalize hn : l.length = n at hl ⊢
  have HN := Lib.hid hn
  clear hn
  go_enter Tryz.func86, Tryz.ntmps86
  go_wp2_with fail
  refine c.out.mono ?_
  rintro e w1 ⟨rfl, rfl⟩
  go_wp2_with fail
  refine cq.out.mono ?_
  rintro e w1 ⟨rfl, rfl⟩
  go_wp2_with fail
  go_loopw [10, 23] (fun v i wr => ∃ k : Nat, k ≤ n ∧ i = .int .i64 k ∧ wr.ownsRow w.heap.size 5 1 v k (Lib.byteCells ((List.range k).map (movF l q true f))) ∧ Below w.heap.size w wr) (fun _ i _ => n - (intOf i).toNat)
  case atStart => exact ⟨0, Nat.zero_le _, rfl, World.ownsRow_nil _ _ _ _, Below.refl _ _⟩
  case round =>
    obtain ⟨k, hk, rfl, hown, hlo⟩ := hrel
    by_cases hlt : k < n
    · have HC := Lib.hid (rm_cells (movF l q true f) k)
      by_cases hin : q ≤ k
      · have hkl : k - q < l.length := by rw [HN.out]; omega
        obtain ⟨bl, off, rfl, hc⟩ := Row8.nth (cap := cap) (n := n) H0.out hkl
        have hS : movF l q true f k = l[k - q] := by unfold movF; first | rw [if_pos rfl, if_pos hin, getD_at hkl] | rw [if_neg (by decide), if_pos hkl, getD_at hkl]
        rw [hS] at HC
        have pc := ((bcell hlo).1 _ _ (World.block_lt_of_cell? w _ hc)).trans hc
        have hk0 : (0 : Int) ≤ (k : Int) - (q : Int) := by omega
        have hk1 : (k : Int) - (q : Int) < (n : Int) := by omega
        have e9 : ((k : Int) - (q : Int)).toNat = k - q := by omega
        clear hc hS
        generalize l[k - q] = z at pc HC
        go_wp2_with (at_builtin; refine wpList_append_own _ rfl _ _ 30 rfl w.heap.size 5 i0 (.int .u8 0) 1 1 Tryz.underlying30 hi hz0 hz1 hz2 rfl (by decide) _ _ _ rfl (hown.alloc _) ⟨wr.heap.size, 0, none⟩ 1 1 [.int .u8 z.toNat] rfl rfl (fun q u hq => by match q, hq with | 0, hq => (simp at hq; subst hq; simp [Addr.add])) (fun u hu => by simp at hu; subst hu; rfl) (by unfold maxLen; omega) (by omega) (by have := hlo.size; simp; omega) ?_; intro v5 w5 hown5 hgr5 _)
        have T : w5.ownsRow w.heap.size 5 1 v5 (k + 1) (Lib.byteCells ((List.range (k + 1)).map (movF l q true f))) ∧ Below w.heap.size w w5 := by
          rw [HC.out]
          exact ⟨hown5, (hlo.alloc hlo.size _).grown hgr5 (by have := hlo.size; simp; omega) (fun k hk => (hown.lt k hk).1)⟩
        clear hown5 hgr5
        go_wp2_with fail
        go_roundw
        case rel => exact ⟨k + 1, by omega, by go_num, T⟩
        case measure => simp [intOf]; omega
      · have hS : movF l q true f k = f := by unfold movF; first | rw [if_pos rfl, if_neg hin] | rw [if_neg (by decide), if_neg (by rw [HN.out]; exact hin)]
        rw [hS] at HC
        have hk2 : ¬ 0 ≤ (k : Int) - (q : Int) := by omega
        have hk3 : (k : Int) - (q : Int) < 0 := by omega
        clear hS hin
        go_wp2_with (at_builtin; refine wpList_append_own _ rfl _ _ 30 rfl w.heap.size 5 i0 (.int .u8 0) 1 1 Tryz.underlying30 hi hz0 hz1 hz2 rfl (by decide) _ _ _ rfl (hown.alloc _) ⟨wr.heap.size, 0, none⟩ 1 1 [.int .u8 f.toNat] rfl rfl (fun q u hq => by match q, hq with | 0, hq => (simp at hq; subst hq; simp [Addr.add])) (fun u hu => by simp at hu; subst hu; rfl) (by unfold maxLen; omega) (by omega) (by have := hlo.size; simp; omega) ?_; intro v5 w5 hown5 hgr5 _)
        have T : w5.ownsRow w.heap.size 5 1 v5 (k + 1) (Lib.byteCells ((List.range (k + 1)).map (movF l q true f))) ∧ Below w.heap.size w w5 := by
          rw [HC.out]
          exact ⟨hown5, (hlo.alloc hlo.size _).grown hgr5 (by have := hlo.size; simp; omega) (fun k hk => (hown.lt k hk).1)⟩
        clear hown5 hgr5
        go_wp2_with fail
        go_roundw
        case rel => exact ⟨k + 1, by omega, by go_num, T⟩
        case measure => simp [intOf]; omega
    · have hkn : k = n := by omega
      have Hkn := Lib.hid hkn
      clear hkn
      go_wp2_with fail
      go_ret
      refine ⟨_, rfl, ?_, hlo⟩
      rw [← Hkn.out]; exact rm_row hown
set_option maxRecDepth 100000 in
set_option maxHeartbeats 4000000 in
theorem moved_false (v u : Value) (l m : List UInt8) (q : Nat) (f : UInt8) (hl : l.length ≤ 1000000) (hm : m.length ≤ 1000000) (hk : knownL m = true) (hq : cntD m 64 m.length = q) (w : World) (h : Row8 w v l) (h' : Row8 w u m) :
    Calls Tryz.prog 86 #[v, u, .bool false, .int .u8 (f.toNat : Int)] w fun e w' => ∃ v, e = .returned v ∧ Row8 w' v (movL l q false f) ∧ Below w.heap.size w w' := by
  obtain ⟨i0, hi, hz0, hz1, hz2⟩ := info_parts info5
  have c := Lib.hid (refKnown_any u m hm w h')
  rw [hk] at c
  have cq := Lib.hid (count_any u m 64 (by decide) (by decide) hm w h')
  rw [hq] at cq
  have hq64 : q ≤ 64 := by rw [← hq]; exact cntD_le _ _ _
  obtain ⟨a, cap, rfl, h0⟩ := id h.sh
  have H0 := Lib.hid h0
  clear h h' hk hq h0
  show Calls Tryz.prog 86 _ w fun e w' => ∃ v, e = .returned v ∧ Row8 w' v ((List.range l.length).map (movF l q false f)) ∧ Below w.heap.size w w'
  generalize hn : l.length = n at hl ⊢
  have HN := Lib.hid hn
  clear hn
  go_enter Tryz.func86, Tryz.ntmps86
  go_wp2_with fail
  refine c.out.mono ?_
  rintro e w1 ⟨rfl, rfl⟩
  go_wp2_with fail
  refine cq.out.mono ?_
  rintro e w1 ⟨rfl, rfl⟩
  go_wp2_with fail
  go_loopw [10, 23] (fun v i wr => ∃ k : Nat, k ≤ n ∧ i = .int .i64 k ∧ wr.ownsRow w.heap.size 5 1 v k (Lib.byteCells ((List.range k).map (movF l q false f))) ∧ Below w.heap.size w wr) (fun _ i _ => n - (intOf i).toNat)
  case atStart => exact ⟨0, Nat.zero_le _, rfl, World.ownsRow_nil _ _ _ _, Below.refl _ _⟩
  case round =>
    obtain ⟨k, hk, rfl, hown, hlo⟩ := hrel
    by_cases hlt : k < n
    · have HC := Lib.hid (rm_cells (movF l q false f) k)
      by_cases hin : k + q < n
      · have hkl : k + q < l.length := by rw [HN.out]; omega
        obtain ⟨bl, off, rfl, hc⟩ := Row8.nth (cap := cap) (n := n) H0.out hkl
        have hS : movF l q false f k = l[k + q] := by unfold movF; first | rw [if_pos rfl, if_pos hin, getD_at hkl] | rw [if_neg (by decide), if_pos hkl, getD_at hkl]
        rw [hS] at HC
        have pc := ((bcell hlo).1 _ _ (World.block_lt_of_cell? w _ hc)).trans hc
        have hk0 : (0 : Int) ≤ (k : Int) + (q : Int) := by omega
        have hk1 : (k : Int) + (q : Int) < (n : Int) := by omega
        have e9 : ((k : Int) + (q : Int)).toNat = k + q := by omega
        clear hc hS
        generalize l[k + q] = z at pc HC
        go_wp2_with (at_builtin; refine wpList_append_own _ rfl _ _ 30 rfl w.heap.size 5 i0 (.int .u8 0) 1 1 Tryz.underlying30 hi hz0 hz1 hz2 rfl (by decide) _ _ _ rfl (hown.alloc _) ⟨wr.heap.size, 0, none⟩ 1 1 [.int .u8 z.toNat] rfl rfl (fun q u hq => by match q, hq with | 0, hq => (simp at hq; subst hq; simp [Addr.add])) (fun u hu => by simp at hu; subst hu; rfl) (by unfold maxLen; omega) (by omega) (by have := hlo.size; simp; omega) ?_; intro v5 w5 hown5 hgr5 _)
        have T : w5.ownsRow w.heap.size 5 1 v5 (k + 1) (Lib.byteCells ((List.range (k + 1)).map (movF l q false f))) ∧ Below w.heap.size w w5 := by
          rw [HC.out]
          exact ⟨hown5, (hlo.alloc hlo.size _).grown hgr5 (by have := hlo.size; simp; omega) (fun k hk => (hown.lt k hk).1)⟩
        clear hown5 hgr5
        go_wp2_with fail
        go_roundw
        case rel => exact ⟨k + 1, by omega, by go_num, T⟩
        case measure => simp [intOf]; omega
      · have hS : movF l q false f k = f := by unfold movF; first | rw [if_pos rfl, if_neg hin] | rw [if_neg (by decide), if_neg (by rw [HN.out]; exact hin)]
        rw [hS] at HC
        have hk2 : ¬ (k : Int) + (q : Int) < (n : Int) := by omega
        have hk3 : (0 : Int) ≤ (k : Int) + (q : Int) := by omega
        clear hS hin
        go_wp2_with (at_builtin; refine wpList_append_own _ rfl _ _ 30 rfl w.heap.size 5 i0 (.int .u8 0) 1 1 Tryz.underlying30 hi hz0 hz1 hz2 rfl (by decide) _ _ _ rfl (hown.alloc _) ⟨wr.heap.size, 0, none⟩ 1 1 [.int .u8 f.toNat] rfl rfl (fun q u hq => by match q, hq with | 0, hq => (simp at hq; subst hq; simp [Addr.add])) (fun u hu => by simp at hu; subst hu; rfl) (by unfold maxLen; omega) (by omega) (by have := hlo.size; simp; omega) ?_; intro v5 w5 hown5 hgr5 _)
        have T : w5.ownsRow w.heap.size 5 1 v5 (k + 1) (Lib.byteCells ((List.range (k + 1)).map (movF l q false f))) ∧ Below w.heap.size w w5 := by
          rw [HC.out]
          exact ⟨hown5, (hlo.alloc hlo.size _).grown hgr5 (by have := hlo.size; simp; omega) (fun k hk => (hown.lt k hk).1)⟩
        clear hown5 hgr5
        go_wp2_with fail
        go_roundw
        case rel => exact ⟨k + 1, by omega, by go_num, T⟩
        case measure => simp [intOf]; omega
    · have hkn : k = n := by omega
      have Hkn := Lib.hid hkn
      clear hkn
      go_wp2_with fail
      go_ret
      refine ⟨_, rfl, ?_, hlo⟩
      rw [← Hkn.out]; exact rm_row hown
end Go.Proofs.YtodldcdfdjooaaaGreatDoor
