/- The law NoteSorts: its walk. Conditions: the cells of the list, the tables. -/
import Derived.Test.YtmememehlfbgaaaDoorNtRef
import Derived.Test.YtmememehlfbgaaaDoorNtEq
import Derived.Test.YtmememehlfbgaaaDoorNoteT
namespace Go.Proofs.YtmememehlfbgaaaDoor
open Go Go.RowKit Go.Sort Go.Lib
set_option linter.unusedVariables false
theorem bytes_vals : ∀ a b : List UInt8, Lib.compareBytes a b = -1 ∨ Lib.compareBytes a b = 0 ∨ Lib.compareBytes a b = 1
  | [], [] => .inr (.inl rfl)
  | [], _ :: _ => .inl rfl
  | _ :: _, [] => .inr (.inr rfl)
  | x :: a, y :: b => by
    unfold Lib.compareBytes
    by_cases h1 : x < y
    · rw [if_pos h1]; exact .inl rfl
    · rw [if_neg h1]
      by_cases h2 : y < x
      · rw [if_pos h2]; exact .inr (.inr rfl)
      · rw [if_neg h2]; exact bytes_vals a b
theorem int_vals (x y : Int) : Lib.compareInt x y = -1 ∨ Lib.compareInt x y = 0 ∨ Lib.compareInt x y = 1 := by
  unfold Lib.compareInt; by_cases h1 : x < y <;> by_cases h2 : y < x <;> simp [h1, h2]
theorem lex_vals {f g : Nt → Nt → Int} {x y : Nt} (h : f x y = -1 ∨ f x y = 0 ∨ f x y = 1) (k : g x y = -1 ∨ g x y = 0 ∨ g x y = 1) : lexC f g x y = -1 ∨ lexC f g x y = 0 ∨ lexC f g x y = 1 := by
  unfold lexC
  by_cases e : f x y = 0
  · rw [if_pos e]; exact k
  · rw [if_neg e]; exact h
theorem cmpN_vals (x y : Nt) : cmpN x y = -1 ∨ cmpN x y = 0 ∨ cmpN x y = 1 := by
  rw [cmpN_x]
  exact lex_vals (bytes_vals _ _) (lex_vals (int_vals _ _) (lex_vals (int_vals _ _) (lex_vals (int_vals _ _) (bytes_vals _ _))))
theorem cmpN_less {x y : Nt} (h : ltN x y = true) : cmpN x y = -1 := by
  unfold ltN at h; rw [decide_eq_true_eq] at h
  have := cmpN_vals x y; omega
theorem cmpN_more {x y : Nt} (h : ltN y x = true) : cmpN x y = 1 := by
  have := cmpN_less h
  have h2 := cmpN_tc.neg y x
  omega
theorem cmpN_same {x y : Nt} (h : ltN x y = false) (k : ltN y x = false) : cmpN x y = 0 := by
  have := ltN_total h k
  subst this; exact cmpN_tc.self x
theorem cmp_low (x y : Nt) (w : World) : Calls Tryd.prog 13 #[.agg (encN x).toArray, .agg (encN y).toArray] w fun e w' => e = .returned (.int .i64 (cmpN x y)) ∧ Below w.heap.size w w' :=
  (cmp_ok x y w).mono fun _ _ ⟨he, hg⟩ => ⟨he, gq_below hg⟩
set_option maxHeartbeats 2000000 in
theorem clone_zero (p : Option Addr) (c : Nat) (w : World) : Calls Tryd.prog 42 #[.slice p 0 c] w fun e w' => ∃ p' c', e = .returned (.slice p' 0 c') ∧ Below w.heap.size w w' := by
  cases p with
  | none => exact (clone_nil 0 c w).mono fun _ _ ⟨he, hw⟩ => ⟨none, 0, he, by rw [hw]; exact Below.refl _ _⟩
  | some a =>
    have q32 : ∀ (w : World) (a : Option Addr) (n c n' c' : Nat), (binOp .eql 32 (.slice a n c) (.slice none n' c')).run Tryd.prog w = .ok (.bool a.isNone) w := fun w a n c n' c' => Lib.run_eql_slice_nil w _ _ a n c n' c' Tryd.underlying32
    go_enter Tryd.func42, Tryd.ntmps42
    obtain ⟨i0, hi, hz0, hz1, hz2⟩ := info_parts infoN
    go_wp2_with (at_builtin; refine wpList_append_own _ rfl _ _ 32 rfl w.heap.size 35 i0 _ 5 56 Tryd.underlying32 hi hz0 hz1 hz2 rfl (by decide) _ _ _ rfl (World.ownsRow_made w #[] 0 (Nat.le_refl _) (Nat.zero_le _) rfl) a 0 c [] rfl ?qc1 ?qc2 ?qc3 ?qc4 ?qc5 ?qc6 ?_)
    case qc1 => rfl
    case qc2 => intro j u hj; simp at hj
    case qc3 => intro u hu; simp at hu
    case qc4 => unfold maxLen; omega
    case qc5 => omega
    case qc6 => simp
    intro v' w1 hown hgrow hnil
    obtain ⟨p', c', rfl⟩ := own5_slice hown
    go_wp2_with fail
    go_ret
    exact ⟨p', c', rfl, ((Below.refl _ w).alloc (Nat.le_refl _) _).grown hgrow (by simp) (by intro k hk; simp [Value.ownBlock] at hk; omega)⟩
set_option maxHeartbeats 1000000 in
theorem sort_zero (p : Option Addr) (c : Nat) (w : World) : Calls Tryd.prog 16 #[.slice p 0 c] w fun e w' => ∃ p' c', e = .returned (.slice p' 0 c') ∧ Below w.heap.size w w' := by
  go_enter Tryd.func16, Tryd.ntmps16
  go_wp2_with fail
  refine (clone_zero p c _).mono ?_
  rintro e w1 ⟨p1, c1, rfl, hb1⟩
  go_wp2_with fail
  refine (sortf_nil p1 c1 _ _).mono ?_
  rintro e w2 ⟨rfl, rfl⟩
  go_wp2_with fail
  refine (compact_nil p1 c1 _).mono ?_
  rintro e w3 ⟨rfl, rfl⟩
  go_wp2_with fail
  refine (clone_zero _ _ _).mono ?_
  rintro e w4 ⟨p4, c4, rfl, hb4⟩
  go_wp2_with fail
  go_ret
  exact ⟨p4, c4, rfl, hb1.trans (hb4.mono hb1.size)⟩
set_option maxHeartbeats 1000000 in
theorem sorted_zero (p : Option Addr) (c : Nat) (w : World) : Calls Tryd.prog 17 #[.slice p 0 c] w fun e w' => e = .returned (.slice none 0 0) ∧ w' = w := by
  go_enter Tryd.func17, Tryd.ntmps17
  go_wp2_with fail
  go_loopw [3] (fun s3 wo => s3 = .slice none 0 0 ∧ wo = w) (fun _ _ => 0)
  case atStart => exact ⟨rfl, rfl⟩
  case round =>
    obtain ⟨rfl, rfl⟩ := hrel
    go_upto_block 2 with fail
    go_cut [4] (fun s4 wx => s4 = .int .i64 (-1) ∧ wx = wr)
    case first =>
      go_wp2_with fail
      go_loopw [4, 12] (fun s4 s12 wq => s4 = .int .i64 (-1) ∧ s12 = .int .i64 0 ∧ wq = wr) (fun _ _ _ => 0)
      case atStart => exact ⟨rfl, rfl, rfl⟩
      case round =>
        obtain ⟨rfl, rfl, rfl⟩ := hrel
        go_wp2_with fail
        go_meet
        exact ⟨rfl, rfl⟩
    case rest =>
      obtain ⟨rfl, rfl⟩ := hcut
      go_wp2_with fail
      exact bodyPost_ret (v := .slice none 0 0) (by simp [results, Tryd.results17, go_sem]) rfl ⟨rfl, rfl⟩
set_option maxHeartbeats 4000000 in
set_option maxRecDepth 100000 in
theorem noteSorts_some (bl off cap : Nat) (L : List Nt) {B : Nat} (w : World) (hn : L.length ≤ 4000000000000) (h1 : 1 ≤ L.length) (hcap : L.length ≤ cap) (hc : RR w bl off L) (hG : NGlob B w) :
    Calls Tryd.prog 4 #[.slice (some ⟨bl, off, none⟩) L.length cap] w fun e w' => e = .returned (.bool true) ∧ Below w.heap.size w w' := by
  have HG := Lib.hid hG
  have HC := Lib.hid (hc.take 60)
  clear hG hc
  have hk : (L.take 60).length = min 60 L.length := List.length_take
  generalize L.take 60 = K at hk HC
  have m1 : min (L.length : Int) 60 = (K.length : Int) := by omega
  have hk1 : 1 ≤ K.length := by omega
  have hk60 : K.length ≤ 60 := by omega
  have hkc : K.length ≤ cap := by omega
  clear hk
  go_enter Tryd.func4, Tryd.ntmps4
  go_upto_block 0 with fail
  have HB0 := Lib.hid (Below.refl w.heap.size w)
  go_cut [] (fun wx => Below w.heap.size w wx)
  case first =>
    go_wp2_with fail
    go_loopw [13] (fun s13 wr => ∃ i : Nat, i ≤ K.length ∧ s13 = .int .i64 i ∧ Below w.heap.size w wr) (fun s13 _ => K.length - (intOf s13).toNat)
    case atStart => exact ⟨0, by omega, by first | rfl | go_num, HB0.out⟩
    case round =>
      rename World => wo
      obtain ⟨i, hi, rfl, hlo⟩ := hrel
      by_cases hil : i < K.length
      · have HLo := Lib.hid hlo
        clear hlo
        go_wp2_with fail
        go_loopw [18] (fun s18 wr => ∃ k : Nat, k ≤ K.length ∧ s18 = .int .i64 k ∧ Below w.heap.size w wr) (fun s18 _ => K.length - (intOf s18).toNat)
        case atStart => exact ⟨0, by omega, by first | rfl | go_num, HLo.out⟩
        case round =>
          obtain ⟨k, hk, rfl, hlo2⟩ := hrel
          by_cases hkl : k < K.length
          · have X := (HC.out.below hlo2).f5 hil
            have Y := (HC.out.below hlo2).f5 hkl
            generalize K[i]! = x at X
            generalize K[k]! = y at Y
            obtain ⟨xf, xl, xc, xe, xt⟩ := x
            obtain ⟨yf, yl, yc, ye, yt⟩ := y
            cases hr1 : ltN ⟨xf, xl, xc, xe, xt⟩ ⟨yf, yl, yc, ye, yt⟩
            · have HR1 := Lib.hid hr1
              clear hr1
              cases hr2 : ltN ⟨yf, yl, yc, ye, yt⟩ ⟨xf, xl, xc, xe, xt⟩
              · have HR2 := Lib.hid hr2
                clear hr2
                go_upto_region 9 with fail
                obtain ⟨x0, x1, x2, x3, x4⟩ := id X
                obtain ⟨y0, y1, y2, y3, y4⟩ := id Y
                simp only at x0 x1 x2 x3 x4 y0 y1 y2 y3 y4
                have kx0 := cell_regrown x0
                have kx1 := cell_regrown x1
                have kx2 := cell_regrown x2
                have kx3 := cell_regrown x3
                have kx4 := cell_regrown x4
                have ky0 := cell_regrown y0
                have ky1 := cell_regrown y1
                have ky2 := cell_regrown y2
                have ky3 := cell_regrown y3
                have ky4 := cell_regrown y4
                have cA : ∀ d os, Calls Tryd.prog 12 #[.agg #[.string xf, .int .i64 xl, .int .i64 xc, .int .i64 xe, .string xt], .agg #[.string yf, .int .i64 yl, .int .i64 yc, .int .i64 ye, .string yt]] (grow (redrawn wr d) os) (RetF (fun u _ => u = .bool false) (grow (redrawn wr d) os)) := fun d os => by rw [← HR1.out]; exact ret_fix (before_ok ⟨xf, xl, xc, xe, xt⟩ ⟨yf, yl, yc, ye, yt⟩ _)
                clear x0 x1 x2 x3 x4 y0 y1 y2 y3 y4
                refine wp_region_rel 9 (by kernel_rfl) (by kernel_rfl) ?_
                simp only [List.take_succ_cons, List.take_zero, List.drop_succ_cons, List.drop_zero]
                (refine rel_fix0 (fun K hK => ?_); go_simp; refine hK _ ?_; clear hK K)
                (refine rel_fix0 (fun K hK => ?_); go_simp; refine hK _ ?_; clear hK K)
                (refine rel_fix0 (fun K hK => ?_); go_simp; refine hK _ ?_; clear hK K)
                (refine rel_fix0 (fun K hK => ?_); go_simp; refine hK _ ?_; clear hK K)
                (refine rel_fix0 (fun K hK => ?_); go_simp; refine hK _ ?_; clear hK K)
                (refine rel_fix0 (fun K hK => ?_); go_simp; refine hK _ ?_; clear hK K)
                (refine rel_fix0 (fun K hK => ?_); go_simp; refine hK _ ?_; clear hK K)
                (refine rel_fix0 (fun K hK => ?_); go_simp; refine hK _ ?_; clear hK K)
                (refine rel_fix0 (fun K hK => ?_); go_simp; apply Exists.intro; refine ⟨fun _ _ => ?_, hK _ ?_⟩; (with_reducible exact cA _ _); clear hK K)
                refine rel_nil ?_
                intro d1 os1
                simp only [relAll]
                have hb := below_regrown wr d1 os1
                replace X := X.below hb
                replace Y := Y.below hb
                replace hlo2 := hlo2.trans (hb.mono hlo2.size)
                clear hb kx0 kx1 kx2 kx3 kx4 ky0 ky1 ky2 ky3 ky4 cA
                generalize grow (redrawn wr d1) os1 = W1 at X Y hlo2 ⊢
                go_upto_region 11 with fail
                obtain ⟨x0, x1, x2, x3, x4⟩ := id X
                obtain ⟨y0, y1, y2, y3, y4⟩ := id Y
                simp only at x0 x1 x2 x3 x4 y0 y1 y2 y3 y4
                have kx0 := cell_regrown x0
                have kx1 := cell_regrown x1
                have kx2 := cell_regrown x2
                have kx3 := cell_regrown x3
                have kx4 := cell_regrown x4
                have ky0 := cell_regrown y0
                have ky1 := cell_regrown y1
                have ky2 := cell_regrown y2
                have ky3 := cell_regrown y3
                have ky4 := cell_regrown y4
                have cA : ∀ d os, Calls Tryd.prog 12 #[.agg #[.string yf, .int .i64 yl, .int .i64 yc, .int .i64 ye, .string yt], .agg #[.string xf, .int .i64 xl, .int .i64 xc, .int .i64 xe, .string xt]] (grow (redrawn W1 d) os) (RetF (fun u _ => u = .bool false) (grow (redrawn W1 d) os)) := fun d os => by rw [← HR2.out]; exact ret_fix (before_ok ⟨yf, yl, yc, ye, yt⟩ ⟨xf, xl, xc, xe, xt⟩ _)
                clear x0 x1 x2 x3 x4 y0 y1 y2 y3 y4
                refine wp_region_rel 9 (by kernel_rfl) (by kernel_rfl) ?_
                simp only [List.take_succ_cons, List.take_zero, List.drop_succ_cons, List.drop_zero]
                (refine rel_fix0 (fun K hK => ?_); go_simp; refine hK _ ?_; clear hK K)
                (refine rel_fix0 (fun K hK => ?_); go_simp; refine hK _ ?_; clear hK K)
                (refine rel_fix0 (fun K hK => ?_); go_simp; refine hK _ ?_; clear hK K)
                (refine rel_fix0 (fun K hK => ?_); go_simp; refine hK _ ?_; clear hK K)
                (refine rel_fix0 (fun K hK => ?_); go_simp; refine hK _ ?_; clear hK K)
                (refine rel_fix0 (fun K hK => ?_); go_simp; refine hK _ ?_; clear hK K)
                (refine rel_fix0 (fun K hK => ?_); go_simp; refine hK _ ?_; clear hK K)
                (refine rel_fix0 (fun K hK => ?_); go_simp; refine hK _ ?_; clear hK K)
                (refine rel_fix0 (fun K hK => ?_); go_simp; apply Exists.intro; refine ⟨fun _ _ => ?_, hK _ ?_⟩; (with_reducible exact cA _ _); clear hK K)
                refine rel_nil ?_
                intro d2 os2
                simp only [relAll]
                have hb := below_regrown W1 d2 os2
                replace X := X.below hb
                replace Y := Y.below hb
                replace hlo2 := hlo2.trans (hb.mono hlo2.size)
                clear hb kx0 kx1 kx2 kx3 kx4 ky0 ky1 ky2 ky3 ky4 cA
                generalize grow (redrawn W1 d2) os2 = W2 at X Y hlo2 ⊢
                go_upto_region 13 with fail
                have HV := Lib.hid (cmpN_same HR1.out HR2.out)
                obtain ⟨x0, x1, x2, x3, x4⟩ := id X
                obtain ⟨y0, y1, y2, y3, y4⟩ := id Y
                simp only at x0 x1 x2 x3 x4 y0 y1 y2 y3 y4
                have kx0 := cell_regrown x0
                have kx1 := cell_regrown x1
                have kx2 := cell_regrown x2
                have kx3 := cell_regrown x3
                have kx4 := cell_regrown x4
                have ky0 := cell_regrown y0
                have ky1 := cell_regrown y1
                have ky2 := cell_regrown y2
                have ky3 := cell_regrown y3
                have ky4 := cell_regrown y4
                have cA : ∀ d os, Calls Tryd.prog 13 #[.agg #[.string xf, .int .i64 xl, .int .i64 xc, .int .i64 xe, .string xt], .agg #[.string yf, .int .i64 yl, .int .i64 yc, .int .i64 ye, .string yt]] (grow (redrawn W2 d) os) (RetF (fun u _ => u = .int .i64 (0)) (grow (redrawn W2 d) os)) := fun d os => by rw [← HV.out]; exact ret_fix (cmp_low ⟨xf, xl, xc, xe, xt⟩ ⟨yf, yl, yc, ye, yt⟩ _)
                clear x0 x1 x2 x3 x4 y0 y1 y2 y3 y4
                refine wp_region_rel 11 (by kernel_rfl) (by kernel_rfl) ?_
                simp only [List.take_succ_cons, List.take_zero, List.drop_succ_cons, List.drop_zero]
                (refine rel_fix0 (fun K hK => ?_); go_simp; refine hK _ ?_; clear hK K)
                (refine rel_fix0 (fun K hK => ?_); go_simp; refine hK _ ?_; clear hK K)
                (refine rel_fix0 (fun K hK => ?_); go_simp; refine hK _ ?_; clear hK K)
                (refine rel_fix0 (fun K hK => ?_); go_simp; refine hK _ ?_; clear hK K)
                (refine rel_fix0 (fun K hK => ?_); go_simp; refine hK _ ?_; clear hK K)
                (refine rel_fix0 (fun K hK => ?_); go_simp; refine hK _ ?_; clear hK K)
                (refine rel_fix0 (fun K hK => ?_); go_simp; refine hK _ ?_; clear hK K)
                (refine rel_fix0 (fun K hK => ?_); go_simp; refine hK _ ?_; clear hK K)
                (refine rel_fix0 (fun K hK => ?_); go_simp; apply Exists.intro; refine ⟨fun _ _ => ?_, hK _ ?_⟩; (with_reducible exact cA _ _); clear hK K)
                (refine rel_fix0 (fun K hK => ?_); go_simp; refine hK _ ?_; clear hK K)
                (refine rel_fix0 (fun K hK => ?_); go_simp; refine hK _ ?_; clear hK K)
                refine rel_nil ?_
                intro d3 os3
                simp only [relAll]
                have hb := below_regrown W2 d3 os3
                replace X := X.below hb
                replace Y := Y.below hb
                replace hlo2 := hlo2.trans (hb.mono hlo2.size)
                clear hb kx0 kx1 kx2 kx3 kx4 ky0 ky1 ky2 ky3 ky4 cA
                generalize grow (redrawn W2 d3) os3 = W3 at X Y hlo2 ⊢
                clear X Y
                go_wp2_with fail
                go_roundw
                case rel => exact ⟨k + 1, by omega, by go_num, hlo2⟩
                case measure => simp [intOf]; omega
              · have HR2 := Lib.hid hr2
                clear hr2
                go_upto_region 9 with fail
                obtain ⟨x0, x1, x2, x3, x4⟩ := id X
                obtain ⟨y0, y1, y2, y3, y4⟩ := id Y
                simp only at x0 x1 x2 x3 x4 y0 y1 y2 y3 y4
                have kx0 := cell_regrown x0
                have kx1 := cell_regrown x1
                have kx2 := cell_regrown x2
                have kx3 := cell_regrown x3
                have kx4 := cell_regrown x4
                have ky0 := cell_regrown y0
                have ky1 := cell_regrown y1
                have ky2 := cell_regrown y2
                have ky3 := cell_regrown y3
                have ky4 := cell_regrown y4
                have cA : ∀ d os, Calls Tryd.prog 12 #[.agg #[.string xf, .int .i64 xl, .int .i64 xc, .int .i64 xe, .string xt], .agg #[.string yf, .int .i64 yl, .int .i64 yc, .int .i64 ye, .string yt]] (grow (redrawn wr d) os) (RetF (fun u _ => u = .bool false) (grow (redrawn wr d) os)) := fun d os => by rw [← HR1.out]; exact ret_fix (before_ok ⟨xf, xl, xc, xe, xt⟩ ⟨yf, yl, yc, ye, yt⟩ _)
                clear x0 x1 x2 x3 x4 y0 y1 y2 y3 y4
                refine wp_region_rel 9 (by kernel_rfl) (by kernel_rfl) ?_
                simp only [List.take_succ_cons, List.take_zero, List.drop_succ_cons, List.drop_zero]
                (refine rel_fix0 (fun K hK => ?_); go_simp; refine hK _ ?_; clear hK K)
                (refine rel_fix0 (fun K hK => ?_); go_simp; refine hK _ ?_; clear hK K)
                (refine rel_fix0 (fun K hK => ?_); go_simp; refine hK _ ?_; clear hK K)
                (refine rel_fix0 (fun K hK => ?_); go_simp; refine hK _ ?_; clear hK K)
                (refine rel_fix0 (fun K hK => ?_); go_simp; refine hK _ ?_; clear hK K)
                (refine rel_fix0 (fun K hK => ?_); go_simp; refine hK _ ?_; clear hK K)
                (refine rel_fix0 (fun K hK => ?_); go_simp; refine hK _ ?_; clear hK K)
                (refine rel_fix0 (fun K hK => ?_); go_simp; refine hK _ ?_; clear hK K)
                (refine rel_fix0 (fun K hK => ?_); go_simp; apply Exists.intro; refine ⟨fun _ _ => ?_, hK _ ?_⟩; (with_reducible exact cA _ _); clear hK K)
                refine rel_nil ?_
                intro d1 os1
                simp only [relAll]
                have hb := below_regrown wr d1 os1
                replace X := X.below hb
                replace Y := Y.below hb
                replace hlo2 := hlo2.trans (hb.mono hlo2.size)
                clear hb kx0 kx1 kx2 kx3 kx4 ky0 ky1 ky2 ky3 ky4 cA
                generalize grow (redrawn wr d1) os1 = W1 at X Y hlo2 ⊢
                go_upto_region 11 with fail
                obtain ⟨x0, x1, x2, x3, x4⟩ := id X
                obtain ⟨y0, y1, y2, y3, y4⟩ := id Y
                simp only at x0 x1 x2 x3 x4 y0 y1 y2 y3 y4
                have kx0 := cell_regrown x0
                have kx1 := cell_regrown x1
                have kx2 := cell_regrown x2
                have kx3 := cell_regrown x3
                have kx4 := cell_regrown x4
                have ky0 := cell_regrown y0
                have ky1 := cell_regrown y1
                have ky2 := cell_regrown y2
                have ky3 := cell_regrown y3
                have ky4 := cell_regrown y4
                have cA : ∀ d os, Calls Tryd.prog 12 #[.agg #[.string yf, .int .i64 yl, .int .i64 yc, .int .i64 ye, .string yt], .agg #[.string xf, .int .i64 xl, .int .i64 xc, .int .i64 xe, .string xt]] (grow (redrawn W1 d) os) (RetF (fun u _ => u = .bool true) (grow (redrawn W1 d) os)) := fun d os => by rw [← HR2.out]; exact ret_fix (before_ok ⟨yf, yl, yc, ye, yt⟩ ⟨xf, xl, xc, xe, xt⟩ _)
                clear x0 x1 x2 x3 x4 y0 y1 y2 y3 y4
                refine wp_region_rel 9 (by kernel_rfl) (by kernel_rfl) ?_
                simp only [List.take_succ_cons, List.take_zero, List.drop_succ_cons, List.drop_zero]
                (refine rel_fix0 (fun K hK => ?_); go_simp; refine hK _ ?_; clear hK K)
                (refine rel_fix0 (fun K hK => ?_); go_simp; refine hK _ ?_; clear hK K)
                (refine rel_fix0 (fun K hK => ?_); go_simp; refine hK _ ?_; clear hK K)
                (refine rel_fix0 (fun K hK => ?_); go_simp; refine hK _ ?_; clear hK K)
                (refine rel_fix0 (fun K hK => ?_); go_simp; refine hK _ ?_; clear hK K)
                (refine rel_fix0 (fun K hK => ?_); go_simp; refine hK _ ?_; clear hK K)
                (refine rel_fix0 (fun K hK => ?_); go_simp; refine hK _ ?_; clear hK K)
                (refine rel_fix0 (fun K hK => ?_); go_simp; refine hK _ ?_; clear hK K)
                (refine rel_fix0 (fun K hK => ?_); go_simp; apply Exists.intro; refine ⟨fun _ _ => ?_, hK _ ?_⟩; (with_reducible exact cA _ _); clear hK K)
                refine rel_nil ?_
                intro d2 os2
                simp only [relAll]
                have hb := below_regrown W1 d2 os2
                replace X := X.below hb
                replace Y := Y.below hb
                replace hlo2 := hlo2.trans (hb.mono hlo2.size)
                clear hb kx0 kx1 kx2 kx3 kx4 ky0 ky1 ky2 ky3 ky4 cA
                generalize grow (redrawn W1 d2) os2 = W2 at X Y hlo2 ⊢
                go_upto_region 13 with fail
                have HV := Lib.hid (cmpN_more HR2.out)
                obtain ⟨x0, x1, x2, x3, x4⟩ := id X
                obtain ⟨y0, y1, y2, y3, y4⟩ := id Y
                simp only at x0 x1 x2 x3 x4 y0 y1 y2 y3 y4
                have kx0 := cell_regrown x0
                have kx1 := cell_regrown x1
                have kx2 := cell_regrown x2
                have kx3 := cell_regrown x3
                have kx4 := cell_regrown x4
                have ky0 := cell_regrown y0
                have ky1 := cell_regrown y1
                have ky2 := cell_regrown y2
                have ky3 := cell_regrown y3
                have ky4 := cell_regrown y4
                have cA : ∀ d os, Calls Tryd.prog 13 #[.agg #[.string xf, .int .i64 xl, .int .i64 xc, .int .i64 xe, .string xt], .agg #[.string yf, .int .i64 yl, .int .i64 yc, .int .i64 ye, .string yt]] (grow (redrawn W2 d) os) (RetF (fun u _ => u = .int .i64 (1)) (grow (redrawn W2 d) os)) := fun d os => by rw [← HV.out]; exact ret_fix (cmp_low ⟨xf, xl, xc, xe, xt⟩ ⟨yf, yl, yc, ye, yt⟩ _)
                clear x0 x1 x2 x3 x4 y0 y1 y2 y3 y4
                refine wp_region_rel 11 (by kernel_rfl) (by kernel_rfl) ?_
                simp only [List.take_succ_cons, List.take_zero, List.drop_succ_cons, List.drop_zero]
                (refine rel_fix0 (fun K hK => ?_); go_simp; refine hK _ ?_; clear hK K)
                (refine rel_fix0 (fun K hK => ?_); go_simp; refine hK _ ?_; clear hK K)
                (refine rel_fix0 (fun K hK => ?_); go_simp; refine hK _ ?_; clear hK K)
                (refine rel_fix0 (fun K hK => ?_); go_simp; refine hK _ ?_; clear hK K)
                (refine rel_fix0 (fun K hK => ?_); go_simp; refine hK _ ?_; clear hK K)
                (refine rel_fix0 (fun K hK => ?_); go_simp; refine hK _ ?_; clear hK K)
                (refine rel_fix0 (fun K hK => ?_); go_simp; refine hK _ ?_; clear hK K)
                (refine rel_fix0 (fun K hK => ?_); go_simp; refine hK _ ?_; clear hK K)
                (refine rel_fix0 (fun K hK => ?_); go_simp; apply Exists.intro; refine ⟨fun _ _ => ?_, hK _ ?_⟩; (with_reducible exact cA _ _); clear hK K)
                (refine rel_fix0 (fun K hK => ?_); go_simp; refine hK _ ?_; clear hK K)
                (refine rel_fix0 (fun K hK => ?_); go_simp; refine hK _ ?_; clear hK K)
                refine rel_nil ?_
                intro d3 os3
                simp only [relAll]
                have hb := below_regrown W2 d3 os3
                replace X := X.below hb
                replace Y := Y.below hb
                replace hlo2 := hlo2.trans (hb.mono hlo2.size)
                clear hb kx0 kx1 kx2 kx3 kx4 ky0 ky1 ky2 ky3 ky4 cA
                generalize grow (redrawn W2 d3) os3 = W3 at X Y hlo2 ⊢
                clear X Y
                go_wp2_with fail
                go_roundw
                case rel => exact ⟨k + 1, by omega, by go_num, hlo2⟩
                case measure => simp [intOf]; omega
            · have HR1 := Lib.hid hr1
              have HR2 := Lib.hid (ltN_asym hr1)
              clear hr1
              go_upto_region 9 with fail
              obtain ⟨x0, x1, x2, x3, x4⟩ := id X
              obtain ⟨y0, y1, y2, y3, y4⟩ := id Y
              simp only at x0 x1 x2 x3 x4 y0 y1 y2 y3 y4
              have kx0 := cell_regrown x0
              have kx1 := cell_regrown x1
              have kx2 := cell_regrown x2
              have kx3 := cell_regrown x3
              have kx4 := cell_regrown x4
              have ky0 := cell_regrown y0
              have ky1 := cell_regrown y1
              have ky2 := cell_regrown y2
              have ky3 := cell_regrown y3
              have ky4 := cell_regrown y4
              have cA : ∀ d os, Calls Tryd.prog 12 #[.agg #[.string xf, .int .i64 xl, .int .i64 xc, .int .i64 xe, .string xt], .agg #[.string yf, .int .i64 yl, .int .i64 yc, .int .i64 ye, .string yt]] (grow (redrawn wr d) os) (RetF (fun u _ => u = .bool true) (grow (redrawn wr d) os)) := fun d os => by rw [← HR1.out]; exact ret_fix (before_ok ⟨xf, xl, xc, xe, xt⟩ ⟨yf, yl, yc, ye, yt⟩ _)
              clear x0 x1 x2 x3 x4 y0 y1 y2 y3 y4
              refine wp_region_rel 9 (by kernel_rfl) (by kernel_rfl) ?_
              simp only [List.take_succ_cons, List.take_zero, List.drop_succ_cons, List.drop_zero]
              (refine rel_fix0 (fun K hK => ?_); go_simp; refine hK _ ?_; clear hK K)
              (refine rel_fix0 (fun K hK => ?_); go_simp; refine hK _ ?_; clear hK K)
              (refine rel_fix0 (fun K hK => ?_); go_simp; refine hK _ ?_; clear hK K)
              (refine rel_fix0 (fun K hK => ?_); go_simp; refine hK _ ?_; clear hK K)
              (refine rel_fix0 (fun K hK => ?_); go_simp; refine hK _ ?_; clear hK K)
              (refine rel_fix0 (fun K hK => ?_); go_simp; refine hK _ ?_; clear hK K)
              (refine rel_fix0 (fun K hK => ?_); go_simp; refine hK _ ?_; clear hK K)
              (refine rel_fix0 (fun K hK => ?_); go_simp; refine hK _ ?_; clear hK K)
              (refine rel_fix0 (fun K hK => ?_); go_simp; apply Exists.intro; refine ⟨fun _ _ => ?_, hK _ ?_⟩; (with_reducible exact cA _ _); clear hK K)
              refine rel_nil ?_
              intro d1 os1
              simp only [relAll]
              have hb := below_regrown wr d1 os1
              replace X := X.below hb
              replace Y := Y.below hb
              replace hlo2 := hlo2.trans (hb.mono hlo2.size)
              clear hb kx0 kx1 kx2 kx3 kx4 ky0 ky1 ky2 ky3 ky4 cA
              generalize grow (redrawn wr d1) os1 = W1 at X Y hlo2 ⊢
              go_upto_region 11 with fail
              obtain ⟨x0, x1, x2, x3, x4⟩ := id X
              obtain ⟨y0, y1, y2, y3, y4⟩ := id Y
              simp only at x0 x1 x2 x3 x4 y0 y1 y2 y3 y4
              have kx0 := cell_regrown x0
              have kx1 := cell_regrown x1
              have kx2 := cell_regrown x2
              have kx3 := cell_regrown x3
              have kx4 := cell_regrown x4
              have ky0 := cell_regrown y0
              have ky1 := cell_regrown y1
              have ky2 := cell_regrown y2
              have ky3 := cell_regrown y3
              have ky4 := cell_regrown y4
              have cA : ∀ d os, Calls Tryd.prog 12 #[.agg #[.string yf, .int .i64 yl, .int .i64 yc, .int .i64 ye, .string yt], .agg #[.string xf, .int .i64 xl, .int .i64 xc, .int .i64 xe, .string xt]] (grow (redrawn W1 d) os) (RetF (fun u _ => u = .bool false) (grow (redrawn W1 d) os)) := fun d os => by rw [← HR2.out]; exact ret_fix (before_ok ⟨yf, yl, yc, ye, yt⟩ ⟨xf, xl, xc, xe, xt⟩ _)
              clear x0 x1 x2 x3 x4 y0 y1 y2 y3 y4
              refine wp_region_rel 9 (by kernel_rfl) (by kernel_rfl) ?_
              simp only [List.take_succ_cons, List.take_zero, List.drop_succ_cons, List.drop_zero]
              (refine rel_fix0 (fun K hK => ?_); go_simp; refine hK _ ?_; clear hK K)
              (refine rel_fix0 (fun K hK => ?_); go_simp; refine hK _ ?_; clear hK K)
              (refine rel_fix0 (fun K hK => ?_); go_simp; refine hK _ ?_; clear hK K)
              (refine rel_fix0 (fun K hK => ?_); go_simp; refine hK _ ?_; clear hK K)
              (refine rel_fix0 (fun K hK => ?_); go_simp; refine hK _ ?_; clear hK K)
              (refine rel_fix0 (fun K hK => ?_); go_simp; refine hK _ ?_; clear hK K)
              (refine rel_fix0 (fun K hK => ?_); go_simp; refine hK _ ?_; clear hK K)
              (refine rel_fix0 (fun K hK => ?_); go_simp; refine hK _ ?_; clear hK K)
              (refine rel_fix0 (fun K hK => ?_); go_simp; apply Exists.intro; refine ⟨fun _ _ => ?_, hK _ ?_⟩; (with_reducible exact cA _ _); clear hK K)
              refine rel_nil ?_
              intro d2 os2
              simp only [relAll]
              have hb := below_regrown W1 d2 os2
              replace X := X.below hb
              replace Y := Y.below hb
              replace hlo2 := hlo2.trans (hb.mono hlo2.size)
              clear hb kx0 kx1 kx2 kx3 kx4 ky0 ky1 ky2 ky3 ky4 cA
              generalize grow (redrawn W1 d2) os2 = W2 at X Y hlo2 ⊢
              go_upto_region 13 with fail
              have HV := Lib.hid (cmpN_less HR1.out)
              obtain ⟨x0, x1, x2, x3, x4⟩ := id X
              obtain ⟨y0, y1, y2, y3, y4⟩ := id Y
              simp only at x0 x1 x2 x3 x4 y0 y1 y2 y3 y4
              have kx0 := cell_regrown x0
              have kx1 := cell_regrown x1
              have kx2 := cell_regrown x2
              have kx3 := cell_regrown x3
              have kx4 := cell_regrown x4
              have ky0 := cell_regrown y0
              have ky1 := cell_regrown y1
              have ky2 := cell_regrown y2
              have ky3 := cell_regrown y3
              have ky4 := cell_regrown y4
              have cA : ∀ d os, Calls Tryd.prog 13 #[.agg #[.string xf, .int .i64 xl, .int .i64 xc, .int .i64 xe, .string xt], .agg #[.string yf, .int .i64 yl, .int .i64 yc, .int .i64 ye, .string yt]] (grow (redrawn W2 d) os) (RetF (fun u _ => u = .int .i64 (-1)) (grow (redrawn W2 d) os)) := fun d os => by rw [← HV.out]; exact ret_fix (cmp_low ⟨xf, xl, xc, xe, xt⟩ ⟨yf, yl, yc, ye, yt⟩ _)
              clear x0 x1 x2 x3 x4 y0 y1 y2 y3 y4
              refine wp_region_rel 11 (by kernel_rfl) (by kernel_rfl) ?_
              simp only [List.take_succ_cons, List.take_zero, List.drop_succ_cons, List.drop_zero]
              (refine rel_fix0 (fun K hK => ?_); go_simp; refine hK _ ?_; clear hK K)
              (refine rel_fix0 (fun K hK => ?_); go_simp; refine hK _ ?_; clear hK K)
              (refine rel_fix0 (fun K hK => ?_); go_simp; refine hK _ ?_; clear hK K)
              (refine rel_fix0 (fun K hK => ?_); go_simp; refine hK _ ?_; clear hK K)
              (refine rel_fix0 (fun K hK => ?_); go_simp; refine hK _ ?_; clear hK K)
              (refine rel_fix0 (fun K hK => ?_); go_simp; refine hK _ ?_; clear hK K)
              (refine rel_fix0 (fun K hK => ?_); go_simp; refine hK _ ?_; clear hK K)
              (refine rel_fix0 (fun K hK => ?_); go_simp; refine hK _ ?_; clear hK K)
              (refine rel_fix0 (fun K hK => ?_); go_simp; apply Exists.intro; refine ⟨fun _ _ => ?_, hK _ ?_⟩; (with_reducible exact cA _ _); clear hK K)
              (refine rel_fix0 (fun K hK => ?_); go_simp; refine hK _ ?_; clear hK K)
              (refine rel_fix0 (fun K hK => ?_); go_simp; refine hK _ ?_; clear hK K)
              refine rel_nil ?_
              intro d3 os3
              simp only [relAll]
              have hb := below_regrown W2 d3 os3
              replace X := X.below hb
              replace Y := Y.below hb
              replace hlo2 := hlo2.trans (hb.mono hlo2.size)
              clear hb kx0 kx1 kx2 kx3 kx4 ky0 ky1 ky2 ky3 ky4 cA
              generalize grow (redrawn W2 d3) os3 = W3 at X Y hlo2 ⊢
              clear X Y
              go_wp2_with fail
              go_roundw
              case rel => exact ⟨k + 1, by omega, by go_num, hlo2⟩
              case measure => simp [intOf]; omega
          · obtain rfl : k = K.length := by omega
            go_wp2_with fail
            go_roundw
            case rel => exact ⟨i + 1, by omega, by go_num, hlo2⟩
            case measure => simp [intOf]; omega
      · obtain rfl : i = K.length := by omega
        go_wp2_with fail
        go_meet
        exact hlo
  case rest =>
    have hlo := hcut
    have hs1 : 1 ≤ (sortedN K).length := by
      have hm : K[0]! ∈ kept K := (mem_kept K _).2 (by rw [getElem!_pos K 0 (by omega)]; exact List.getElem_mem _)
      have := List.length_pos_of_mem hm
      unfold sortedN; rw [List.length_take]; omega
    have hs2 : (sortedN K).length ≤ 20 := by unfold sortedN; rw [List.length_take]; omega
    go_wp2_with fail
    refine (told_ok _ (HG.out.here hlo)).mono ?_
    rintro e w1 ⟨rfl, hb1⟩
    replace hlo := hlo.trans (hb1.mono hlo.size)
    clear hb1
    go_wp2_with fail
    refine (sort_ok bl off cap K _ (by omega) (HC.out.below hlo)).mono ?_
    rintro e w2 ⟨v2, rfl, ho2, hv2, hb2⟩
    replace hlo := hlo.trans (hb2.mono hlo.size)
    have HO2 := Lib.hid ho2
    clear hb2 ho2
    go_wp2_with fail
    refine (sorted_ok bl off cap K _ (by omega) hk1 (HC.out.below hlo)).mono ?_
    rintro e w3 ⟨v3, rfl, ho3, hb3⟩
    obtain ⟨g2, c2, rfl, -, -, -, hR2⟩ := own_rn (own5_below HO2.out hb3) rfl hv2
    have hv3 : v3 ≠ .slice none 0 0 := by
      intro e
      obtain ⟨_, ⟨_, h2⟩ | ⟨g, cp, cur, h2, _⟩⟩ := ho3
      · omega
      · rw [e] at h2; cases h2
    obtain ⟨g3, c3, rfl, -, -, -, hR3⟩ := own_rn ho3 rfl hv3
    replace hlo := hlo.trans (hb3.mono hlo.size)
    have C := Lib.hid (equal_ok g2 0 c2 g3 0 c3 (sortedN K) w3 (by omega) hR2.rr hR3.rr)
    clear hb3 ho3 HO2 hv3 hv2 hR2 hR3
    go_wp2_with fail
    refine C.out.mono ?_
    rintro e w4 ⟨rfl, hb4⟩
    replace hlo := hlo.trans (hb4.mono hlo.size)
    clear C
    go_wp2_with fail
    go_ret
    exact ⟨rfl, hlo⟩
set_option maxHeartbeats 2000000 in
set_option maxRecDepth 100000 in
theorem noteSorts_zero (p : Option Addr) (cap : Nat) {B : Nat} (w : World) (hG : NGlob B w) :
    Calls Tryd.prog 4 #[.slice p 0 cap] w fun e w' => e = .returned (.bool true) ∧ Below w.heap.size w w' := by
  have HG := Lib.hid hG
  clear hG
  go_enter Tryd.func4, Tryd.ntmps4
  go_upto_block 0 with fail
  have HB0 := Lib.hid (Below.refl w.heap.size w)
  go_cut [] (fun wx => Below w.heap.size w wx)
  case first =>
    go_wp2_with fail
    go_loopw [13] (fun s13 wr => s13 = .int .i64 0 ∧ Below w.heap.size w wr) (fun _ _ => 0)
    case atStart => exact ⟨rfl, HB0.out⟩
    case round =>
      obtain ⟨rfl, hlo⟩ := hrel
      go_wp2_with fail
      go_meet
      exact hlo
  case rest =>
    have hlo := hcut
    go_wp2_with fail
    refine (told_ok _ (HG.out.here hlo)).mono ?_
    rintro e w1 ⟨rfl, hb1⟩
    replace hlo := hlo.trans (hb1.mono hlo.size)
    clear hb1
    go_wp2_with fail
    refine (sort_zero _ _ _).mono ?_
    rintro e w2 ⟨p2, c2, rfl, hb2⟩
    replace hlo := hlo.trans (hb2.mono hlo.size)
    clear hb2
    go_wp2_with fail
    refine (sorted_zero _ _ _).mono ?_
    rintro e w3 ⟨rfl, rfl⟩
    go_wp2_with fail
    refine (equal_zero _ _ _ _ _).mono ?_
    rintro e w4 ⟨rfl, rfl⟩
    go_wp2_with fail
    go_ret
    exact ⟨rfl, hlo⟩
end Go.Proofs.YtmememehlfbgaaaDoor
