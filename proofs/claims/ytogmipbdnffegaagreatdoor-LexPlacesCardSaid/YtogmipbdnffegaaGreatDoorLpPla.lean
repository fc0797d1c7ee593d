/- The law on the places of tokens. -/
import Derived.Test.YtogmipbdnffegaaGreatDoorMgLpC
namespace Go.Proofs.YtogmipbdnffegaaGreatDoor
open Go Go.RowKit
set_option linter.unusedVariables false
theorem ret_two {a b c d : Int} (h1 : a = c) (h2 : b = d) : Ending.returned (.tuple #[.int .i64 a, .int .i64 b]) = .returned (.tuple #[.int .i64 c, .int .i64 d]) := by rw [h1, h2]
set_option maxHeartbeats 400000 in
theorem place_in (s : ByteArray) (k : Nat) (hk : k ≤ s.size) (hs : s.size ≤ 1000000000) (w : World) : Calls Tryz.prog 22 #[.string s, .int .i64 k] w fun e w' => e = .returned (.tuple #[.int .i64 (plcT s k).1, .int .i64 (plcT s k).2]) ∧ w = w' := by
  have e1 := place_line s k hk
  have e2 := place_col s k hk
  have hle := plc_le s k
  have hz : (s.extract 0 k).size = k := by simp; omega
  have b1 : (0 : Int) ≤ (Lib.countByte (s.data.toList.take k) 10 : Nat) := by omega
  have b2 : ((Lib.countByte (s.data.toList.take k) 10 : Nat) : Int) ≤ 1000000001 := by omega
  have b3 : -1 ≤ Lib.lastIndexByte (s.extract 0 k) 10 := by omega
  have b4 : Lib.lastIndexByte (s.extract 0 k) 10 ≤ 1000000001 := by omega
  have hk0 : (0 : Int) ≤ (k : Int) := by omega
  have hk1 : ¬ (s.size : Int) < (k : Int) := by omega
  have E1 := Lib.hid e1
  have E2 := Lib.hid e2
  have HZ := Lib.hid hz
  clear e1 e2 hle hz
  go_enter Tryz.func22, Tryz.ntmps22
  go_wp2_with fail
  refine (Tryz.strings_Count_one _ 10 _).mono ?_
  rintro e w' ⟨rfl, rfl⟩
  go_wp2_with fail
  refine (Tryz.strings_LastIndexByte _ 10 (by rw [HZ.out]; omega) _).mono ?_
  rintro e w' ⟨rfl, rfl⟩
  go_wp2_with fail
  go_ret2
  exact ⟨ret_two E1.out E2.out, rfl⟩
def sepC (i : Nat) : ByteArray := [⟨#[32]⟩, ⟨#[10]⟩, ⟨#[32, 32]⟩, ⟨#[32, 47, 42, 10, 42, 47, 32]⟩].getD i ⟨#[]⟩
theorem sepC_ok (i : Nat) (h : i < 4) : Sep (sepC i).data.toList ∧ (sepC i).size ≤ 9 := by
  match i, h with
  | 0, _ => exact ⟨sep32, by decide⟩
  | 1, _ => exact ⟨sep10, by decide⟩
  | 2, _ => exact ⟨sep3232, by decide⟩
  | 3, _ => exact ⟨sepR3, by decide⟩
theorem infoN : (Tryz.prog.info? 3).map (fun i => (i.zero, i.size, i.bytes)) = some (some (.int .i64 0), 1, 8) := by kernel_rfl
theorem infoN_parts : ∃ i, Tryz.prog.info? 3 = some i ∧ i.zero = some (.int .i64 0) ∧ i.size = 1 ∧ i.bytes = 8 := by
  have h := infoN
  cases hi : Tryz.prog.info? 3 with
  | none => rw [hi] at h; cases h
  | some i =>
    rw [hi] at h
    simp only [Option.map_some, Option.some.injEq, Prod.mk.injEq] at h
    exact ⟨i, rfl, h.1, h.2.1, h.2.2⟩
/-- a row of numbers that a call has made -/
def OI (B : Nat) (w : World) (v : Value) (l : List Nat) : Prop := w.ownsRow B 3 1 v l.length (l.map fun n : Nat => Value.int .i64 (n : Int))
theorem OI.below {w w' : World} {B : Nat} {v : Value} {l : List Nat} (h : OI B w v l) (hb : Below w.heap.size w w') : OI B w' v l :=
  World.ownsRow.kept (row := none) h ⟨hb.os, hb.tape, hb.output, hb.size, fun k hk _ => hb.block k hk⟩ (by cases v.ownBlock <;> simp)
theorem oi_slice {B : Nat} {w : World} {v : Value} {l : List Nat} (h : OI B w v l) : ∃ ad cp, v = .slice ad l.length cp := by
  rcases h.2 with ⟨h1, h2⟩ | ⟨g, cap, cur, hv, _⟩
  · exact ⟨none, 0, by rw [h1, h2]⟩
  · exact ⟨_, _, hv⟩
theorem oi_at {B : Nat} {w : World} {v : Value} {n : Nat} {xs : List Value} (h : w.ownsRow B 3 1 v n xs) (hn : 1 ≤ n) : ∃ g cap, v = .slice (some ⟨g, 0, none⟩) n cap ∧ n ≤ cap ∧ ∀ j, j < n → w.cell? ⟨g, j, none⟩ = xs[j]? := by
  have hh := h
  rcases h.2 with ⟨_, h0⟩ | ⟨g, cap, cur, hv, hb, hg, hc, _⟩
  · omega
  · subst hv
    exact ⟨g, cap, rfl, hc, fun j hj => World.ownsRow.cellAt hh j (by omega)⟩
theorem TxtRow.grown {W W' : World} {g n : Nat} {f : Nat → ByteArray} {r : Option Nat} (h : TxtRow W g n f) (hg : W.grownBy W' r) (hr : ∀ q, r = some q → g < q) : TxtRow W' g n f := fun i hi =>
  hg.cell (h i hi) (fun e => by
    have := hr g e.symm
    omega)
/-- the texts, the places and the stream on the way -/
structure PL (w : World) (a : Option Addr) (len cap g n : Nat) (f : Nat → ByteArray) (Bo : Nat) (v : Value) (S : List Nat) (k : Nat) (W : World) : Prop where
  row : TxtRow W g n f
  str : Str w.heap.size a len cap k W
  low : Below w.heap.size w W
  own : OI Bo W v S
  gb : n = 0 ∨ (g < Bo ∧ w.heap.size < g)
  wb : w.heap.size < Bo
  bo : Bo ≤ W.heap.size
theorem PL.below {w : World} {a : Option Addr} {len cap g n : Nat} {f : Nat → ByteArray} {Bo : Nat} {v : Value} {S : List Nat} {k : Nat} {W W' : World} (h : PL w a len cap g n f Bo v S k W) (hb : Below W.heap.size W W') : PL w a len cap g n f Bo v S k W' :=
  ⟨h.row.below hb, h.str.below hb, h.low.trans (hb.mono h.low.size), h.own.below hb, h.gb, h.wb, Nat.le_trans h.bo hb.size⟩
theorem PL.adv {w : World} {a : Option Addr} {len cap g n c : Nat} {f : Nat → ByteArray} {Bo : Nat} {v : Value} {S : List Nat} {k : Nat} {W W' : World} (h : PL w a len cap g n f Bo v S k W) (A : Adv w.heap.size a len cap k c W W') : ∃ k', k' ≤ k + c ∧ PL w a len cap g n f Bo v S k' W' := by
  obtain ⟨k', hk', s⟩ := A.st
  have hwb := h.wb
  refine ⟨k', hk', ?_, s, adv_low A h.low, World.ownsRow.kept h.own A.gr ?_, h.gb, h.wb, Nat.le_trans h.bo A.gr.size⟩
  · rcases h.gb with h0 | ⟨_, h1⟩
    · exact fun i hi => by omega
    · exact h.row.adv A h1
  cases e : v.ownBlock with
  | none => exact .inl rfl
  | some q =>
    right
    intro e2
    have := lp_block h.own q e
    injection e2 with e2
    omega
theorem PL.more {w : World} {a : Option Addr} {len cap g n : Nat} {f : Nat → ByteArray} {Bo : Nat} {v v' : Value} {S : List Nat} {k : Nat} {W W' : World} (hS : Sl a len w) (h : PL w a len cap g n f Bo v S k W) (x : Nat) (ho : W'.ownsRow Bo 3 1 v' (S.length + 1) ((S.map fun n : Nat => Value.int .i64 (n : Int)) ++ [.int .i64 (x : Int)])) (hg : W.grownBy W' v.ownBlock) : PL w a len cap g n f Bo v' (S ++ [x]) k W' := by
  have hwb := h.wb
  have hr : ∀ q, v.ownBlock = some q → Bo ≤ q := fun q e => lp_block h.own q e
  have hrow : TxtRow W' g n f := by
    rcases h.gb with h0 | ⟨h1, _⟩
    · exact fun i hi => by omega
    · exact h.row.grown hg (fun q e => by have := hr q e; omega)
  refine ⟨hrow, lp_str hS h.str hg (fun q e => by have := hr q e; omega) h.low, lp_low h.low hg (fun q e => by have := hr q e; omega), ?_, h.gb, h.wb, Nat.le_trans h.bo hg.size⟩
  unfold OI
  rw [List.map_append, show (S ++ [x]).length = S.length + 1 by simp]
  exact ho
/-- where the pieces begin -/
structure SOk (P : List Pc) (S : List Nat) (j : Nat) : Prop where
  len : S.length = j
  at_ : ∀ i, i < j → S[i]? = some (ptx (P.take i)).length
theorem sok_next {P : List Pc} {S : List Nat} {j : Nat} (h : SOk P S j) (hP : P.length = j) (x : Pc) : SOk (P ++ [x]) (S ++ [(ptx P).length]) (j + 1) := by
  refine ⟨by rw [List.length_append, h.len]; rfl, fun i hi => ?_⟩
  rw [List.take_append_of_le_length (by omega)]
  by_cases hij : i < j
  · rw [List.getElem?_append_left (by rw [h.len]; exact hij)]
    exact h.at_ i hij
  · obtain rfl : i = j := by omega
    rw [List.getElem?_append_right (by rw [h.len]; exact Nat.le_refl _), h.len, ← hP, List.take_length]
    simp
theorem os_row {B : Nat} {w : World} {ad : Option Addr} {n cp : Nat} {L : List ByteArray} (h : OS B w (.slice ad n cp) L) (hn : L.length = n) (hB : B ≤ w.heap.size) (hB1 : 1 ≤ B) : ∃ g, (n = 0 ∨ (ad = some ⟨g, 0, none⟩ ∧ n ≤ cp)) ∧ TxtRow w g n (fun i => L.getD i ⟨#[]⟩) ∧ (g < w.heap.size ∨ n = 0) ∧ (B ≤ g ∨ n = 0) := by
  by_cases h0 : n = 0
  · exact ⟨0, .inl h0, fun i hi => by omega, .inr h0, .inr h0⟩
  · obtain ⟨g, cap, hv, hc, hr⟩ := h.at (by omega)
    injection hv with hv1 hv2 hv3
    have hb : B ≤ g := lp_block h g (by rw [hv1]; rfl)
    refine ⟨g, .inr ⟨hv1, by omega⟩, fun i hi => ?_, .inl ?_, .inl hb⟩
    · rw [hr i (by omega)]
      simp [List.getD, List.getElem?_eq_getElem (show i < L.length by omega)]
    · exact World.block_lt_of_cell? w _ (hr 0 (by omega))
theorem ptx_take_le (P : List Pc) (i : Nat) : (ptx (P.take i)).length ≤ (ptx P).length := by
  have h : ptx P = ptx (P.take i) ++ ptx (P.drop i) := by
    unfold ptx
    rw [← List.flatMap_append, List.take_append_drop]
  rw [h, List.length_append]
  omega
set_option maxRecDepth 100000 in
set_option maxHeartbeats 16000000 in
theorem places_any (a : Option Addr) (len cap : Nat) (w : World) (hS : Sl a len w) (hG : PG w) : Calls Tryz.prog 5 #[.slice a len cap] w fun e w' => e = .returned (.bool true) ∧ Below w.heap.size w w' := by
  obtain ⟨i0, hi, hz0, hz1, hz2⟩ := infoN_parts
  have HI := Lib.hid hi
  have HZ := Lib.hid (And.intro hz0 (And.intro hz1 hz2))
  clear hi hz0 hz1 hz2
  have HS0 := Lib.hid hS
  have HG0 := Lib.hid hG
  clear hS hG
  go_enter Tryz.func5, Tryz.ntmps5
  go_upto_region 3 with (go_at_call 18; refine (chopped_ok _ HG0.out).mono ?_; rintro e w1 ⟨rfl, hb1⟩)
  have G1 := HG0.out.below hb1
  have S1 := sl_below HS0.out hb1
  have HB1 := Lib.hid hb1
  clear HS0 HG0 hb1
  obtain ⟨W2, hW2⟩ : ∃ W, W = w1.alloc (.cells #[.slice a len cap, .int .i64 0] 31) := ⟨_, rfl⟩
  have hStr := S1.str cap W2 hW2
  have hlow : Below w1.heap.size w1 W2 := by rw [hW2]; exact (Below.refl _ _).alloc (Nat.le_refl _) _
  go_upto_region 4 with fail
  rw [← hW2]
  clear hW2
  go_upto_region 5 with (go_at_call 19; refine (tokens_made a len cap 0 (by omega) w1 W2 G1 S1 hStr hlow).mono ?_; rintro e w3 ⟨v, L, k0, rfl, hk0, M0⟩)
  clear hStr hlow
  obtain ⟨ad, cp, rfl⟩ := os_slice M0.own
  obtain ⟨D, hD⟩ := choose_td L M0.good
  have hn30 := M0.ll
  obtain ⟨n, hn⟩ : ∃ n, L.length = n := ⟨_, rfl⟩
  rw [hn] at M0 hn30 ⊢
  have l3 := M0.lt
  obtain ⟨g, hag, hrow, hg1, hg2⟩ := os_row M0.own hn (by omega) (by omega)
  have HN := Lib.hid hn
  have HD := Lib.hid hD
  have HS := Lib.hid S1
  have HG1 := Lib.hid G1
  have PL0 : PL w1 a len cap g n (fun i => L.getD i ⟨#[]⟩) w3.heap.size (.slice none 0 0) [] k0 w3 := ⟨hrow, M0.str, M0.low, ⟨rfl, .inl ⟨rfl, rfl⟩⟩, by omega, l3, Nat.le_refl _⟩
  have HAG := Lib.hid hag
  have HL3 := Lib.hid M0.low
  clear hn hD M0 S1 G1 hag hrow hg1 hg2
  have HP0 := Lib.hid PL0
  have hbo := l3
  generalize w3.heap.size = Bo at HP0 hbo
  clear PL0 l3
  have z32 : (ByteArray.mk #[32]).size = 1 := rfl
  go_upto_block 0 with fail
  go_cut [5, 6] (fun x v wx => ∃ (P : List Pc) (S : List Nat) (X : ByteArray) (k : Nat), x = .string X ∧ PT L D n P X ∧ SOk P S n ∧ PL w1 a len cap g n (fun i => L.getD i ⟨#[]⟩) Bo v S k wx)
  case first =>
    go_wp2_with fail
    go_loopw [5, 6, 26] (fun x v i wr => ∃ (j : Nat) (P : List Pc) (S : List Nat) (X : ByteArray) (k : Nat), j ≤ n ∧ i = .int .i64 (j : Int) ∧ x = .string X ∧ PT L D j P X ∧ SOk P S j ∧ k ≤ 100 + j ∧ PL w1 a len cap g n (fun i => L.getD i ⟨#[]⟩) Bo v S k wr) (fun _ _ i _ => n - (intOf i).toNat)
    case atStart => exact ⟨0, [], [], ⟨#[]⟩, k0, Nat.zero_le _, rfl, rfl, ⟨rfl, pc_nil L D, by decide⟩, ⟨rfl, fun i hi => by omega⟩, by omega, HP0.out⟩
    case round =>
      obtain ⟨j, P, S, X, k, hj, rfl, rfl, TP, TS, hk, M⟩ := hrel
      rename World => WR
      have hj0 : (0 : Int) ≤ (j : Int) := by omega
      by_cases hjn : j < n
      · have hji : (j : Int) < (n : Int) := by omega
        have hjL : j < L.length := by rw [HN.out]; exact hjn
        obtain ⟨rfl, hcap⟩ : ad = some ⟨g, 0, none⟩ ∧ n ≤ cp := by
          rcases HAG.out with h | h
          · omega
          · exact h
        have hc : WR.cell? ⟨g, j, none⟩ = some (.string L[j]) := by
          have := M.row j hjn
          simpa [List.getD, List.getElem?_eq_getElem hjL] using this
        have hgx := (HD.out _ (List.getElem_mem hjL)).hi
        rw [len_list] at hgx
        have sX := TP.sz
        have hXS : X.size = (ptx P).length := by rw [← len_list, TP.eq]
        have HS2 := Lib.hid (fun x => sok_next TS TP.ok.len x)
        have HTP := Lib.hid (fun (s : ByteArray) (hs : Sep s.data.toList) (hz : s.size ≤ 9) => TP.next HD.out hjL s hs hz)
        rw [← hXS] at HS2
        clear TP hXS
        have hSb : S.length ≤ 30 := by have := TS.len; omega
        clear TS
        have hLL := Lib.hid (show L[j] = L[j] from rfl)
        generalize L[j] = x at *
        obtain ⟨asl, csl, rfl⟩ := oi_slice M.own
        have M1 := M.below (W' := WR.alloc (Obj.cells #[.int .i64 (X.size : Int)] 3)) ((Below.refl _ _).alloc (Nat.le_refl _) _)
        have HM1 := Lib.hid M1
        have hXl : X.size ≤ 870 := by omega
        have l1 := World.block_lt_of_cell? WR _ M.str.c0
        clear M M1
        go_upto_region 10 with fail
        go_wp2_with (at_builtin; refine wpList_append_own _ rfl _ _ 28 rfl Bo 3 i0 (.int .i64 0) 1 8 Tryz.underlying28 HI.out HZ.out.1 HZ.out.2.1 HZ.out.2.2 rfl (by decide) _ _ _ rfl (show (WR.alloc (Obj.cells #[.int .i64 (X.size : Int)] 3)).ownsRow Bo 3 1 _ S.length (S.map fun n : Nat => Value.int .i64 (n : Int)) from HM1.out.own) ⟨WR.heap.size, 0, none⟩ 1 1 [.int .i64 (X.size : Int)] rfl rfl ?d1 ?d2 ?d3 ?d4 ?d5 ?_)
        try case d1 =>
          intro q u hq
          match q, hq with
          | 0, hq => simp at hq; subst hq; simp [Addr.add]
        try case d2 => first | (intro u hu; simp at hu; subst hu; rfl) | rfl
        try case d3 => unfold maxLen; omega
        try case d4 => omega
        try case d5 => have := HM1.out.bo; first | exact this | (simp at this ⊢; omega)
        intro v9 w9 hown hgrow _
        have M9 := HM1.out.more HS.out X.size hown hgrow
        clear hown hgrow HM1 hc l1
        have hX' := (HTP.out ⟨#[32]⟩ sep32 (by decide)).sz
        have M2 := M9.below (W' := w9.alloc (Obj.cells #[.string ⟨#[32]⟩, .string ⟨#[10]⟩, .string ⟨#[32, 32]⟩, .string ⟨#[32, 47, 42, 10, 42, 47, 32]⟩] 9)) ((Below.refl _ _).alloc (Nat.le_refl _) _)
        have l1 : w1.heap.size < w9.heap.size := World.block_lt_of_cell? w9 _ M9.str.c0
        have T1 : TxtRow (w9.alloc (Obj.cells #[.string ⟨#[32]⟩, .string ⟨#[10]⟩, .string ⟨#[32, 32]⟩, .string ⟨#[32, 47, 42, 10, 42, 47, 32]⟩] 9)) w9.heap.size 4 sepC := fun i hi => by
          rw [World.cell?_alloc_new]
          match i, hi with
          | 0, _ => rfl
          | 1, _ => rfl
          | 2, _ => rfl
          | 3, _ => rfl
        clear M9
        go_wp2_with (go_at_call 20; refine (next_any w1.heap.size len cap a _ 4 (by omega) (by omega) (by omega) _ M2.str).mono ?_; rintro e w4 ⟨q, hq, rfl, A4⟩; replace T1 := T1.adv A4 l1; obtain ⟨k3, hk3, M3⟩ := M2.adv A4; clear A4 M2; have cq := T1 q (by omega); clear T1; have hq0 : (0 : Int) ≤ (q : Int) := (by omega); have hsq := sepC_ok q (by omega); have hsz := hsq.2; have HP2 := Lib.hid (HTP.out _ hsq.1 hsq.2); have HS3 := Lib.hid (HS2.out (x.data.toList, D x, (sepC q).data.toList)); clear hsq HTP HS2; generalize sepC q = sp at *; have HM3 := Lib.hid M3; clear M3)
        go_roundw
        case rel => exact ⟨j + 1, _, _, _, k3, by omega, by go_num, rfl, HP2.out, HS3.out, by omega, HM3.out⟩
        case measure => simp [intOf] <;> omega
      · obtain rfl : j = n := by omega
        have HP2 := Lib.hid TP
        have HS3 := Lib.hid TS
        have HM3 := Lib.hid M
        clear TP TS M
        go_wp2_with fail
        go_meet
        exact ⟨P, S, X, k, rfl, HP2.out, HS3.out, HM3.out⟩
  case rest =>
  obtain ⟨P, S, X, k, rfl, TP, TS, M⟩ := hcut
  rename World => W4
  have G4 := HG1.out.below M.low
  have sX := TP.sz
  have HPX := Lib.hid (show X.data.toList = ptx P ∧ PcOk L D L.length P from ⟨TP.eq, by rw [HN.out]; exact TP.ok⟩)
  have HPl := Lib.hid TP.ok.len
  have HXl := Lib.hid (show X.size = (ptx P).length by rw [← len_list, TP.eq])
  clear TP HP0
  obtain ⟨asl, csl, rfl⟩ := oi_slice M.own
  have hSl := TS.len
  have HSl := Lib.hid hSl
  rw [hSl] at M ⊢
  have HTS := Lib.hid TS
  clear TS hSl
  have HM := Lib.hid M
  clear M
  go_upto_region 14 with (go_at_call 21; refine (parts_tokens X L D P HPX.out.1 HPX.out.2 HD.out (by omega) n HN.out _ G4).mono ?_; rintro e w5 ⟨ga, ca, rfl, hca, hA, hE1, hE2, hb5, hga⟩)
  have HL := Lib.hid (show ∀ i, i ≤ n → ∃ s : Nat, ((S.map fun n : Nat => Value.int .i64 (n : Int)) ++ [.int .i64 (X.size : Int)])[i]? = some (.int .i64 (s : Int)) ∧ s ≤ X.size ∧ w5.cell? ⟨ga, i * 9 + 1, none⟩ = some (.int .i64 ((plcT X s).1 : Nat)) ∧ w5.cell? ⟨ga, i * 9 + 2, none⟩ = some (.int .i64 ((plcT X s).2 : Nat)) from by
    intro i hi
    by_cases h : i < n
    · have hL : i < L.length := by rw [HN.out]; exact h
      have hS := HTS.out.at_ i h
      refine ⟨(ptx (P.take i)).length, ?_, ?_, (hA i hL).c1, (hA i hL).c2⟩
      · rw [List.getElem?_append_left (by rw [List.length_map, HSl.out]; exact h), List.getElem?_map, hS]
        rfl
      · rw [HXl.out]
        exact ptx_take_le P i
    · obtain rfl : i = n := by omega
      refine ⟨X.size, ?_, Nat.le_refl _, hE1, hE2⟩
      rw [List.getElem?_append_right (by rw [List.length_map, HSl.out]; exact Nat.le_refl _), List.length_map, HSl.out]
      simp)
  clear hA hE1 hE2 HTS HPX HPl G4
  have M5 := HM.out.below hb5
  have M6 := M5.below (W' := w5.alloc (Obj.cells #[.int .i64 (X.size : Int)] 3)) ((Below.refl _ _).alloc (Nat.le_refl _) _)
  have HM6 := Lib.hid M6
  have hob : ∀ q, (Value.slice asl n csl).ownBlock = some q → q < ga := fun q e => by
    have h4 : q < W4.heap.size := by
      obtain ⟨_, ⟨h1, _⟩ | ⟨g', c', cur, h1, _, h3, _⟩⟩ := HM.out.own
      · rw [h1] at e; simp [Value.ownBlock] at e
      · rw [h1] at e
        simp [Value.ownBlock] at e
        subst e
        exact (Array.getElem?_eq_some_iff.1 h3).1
    omega
  have HOB := Lib.hid hob
  have hs5 : X.size ≤ 870 := by omega
  clear M5 M6 hob hb5
  go_upto_region 16 with fail
  go_wp2_with (at_builtin; refine wpList_append_own _ rfl _ _ 28 rfl Bo 3 i0 (.int .i64 0) 1 8 Tryz.underlying28 HI.out HZ.out.1 HZ.out.2.1 HZ.out.2.2 rfl (by decide) _ _ _ rfl (show (w5.alloc (Obj.cells #[.int .i64 (X.size : Int)] 3)).ownsRow Bo 3 1 _ n (S.map fun n : Nat => Value.int .i64 (n : Int)) from HSl.out ▸ HM6.out.own) ⟨w5.heap.size, 0, none⟩ 1 1 [.int .i64 (X.size : Int)] rfl rfl ?f1 ?f2 ?f3 ?f4 ?f5 ?_)
  try case f1 =>
    intro q u hq
    match q, hq with
    | 0, hq => simp at hq; subst hq; simp [Addr.add]
  try case f2 => first | (intro u hu; simp at hu; subst hu; rfl) | rfl
  try case f3 => unfold maxLen; omega
  try case f4 => omega
  try case f5 => have := HM6.out.bo; first | exact this | (simp at this ⊢; omega)
  intro v6 w6 hown hgrow _
  have M7 := HM6.out.more HS.out X.size (by rw [HSl.out]; exact hown) hgrow
  have HLW := Lib.hid M7.low
  obtain ⟨gs, cps, rfl, hcps, hri⟩ := oi_at hown (by omega)
  have HL6 := Lib.hid (show ∀ i, i ≤ n → ∃ s : Nat, s ≤ X.size ∧ w6.cell? ⟨gs, i, none⟩ = some (.int .i64 (s : Int)) ∧ w6.cell? ⟨ga, i * 9 + 1, none⟩ = some (.int .i64 ((plcT X s).1 : Nat)) ∧ w6.cell? ⟨ga, i * 9 + 2, none⟩ = some (.int .i64 ((plcT X s).2 : Nat)) from by
    intro i hi
    obtain ⟨s, h1, h2, h3, h4⟩ := HL.out i hi
    have hne : ∀ o, (⟨ga, o, none⟩ : Addr).block ≠ ga → False := fun o h => h rfl
    have ka : ∀ {o : Nat} {v : Value}, w5.cell? ⟨ga, o, none⟩ = some v → w6.cell? ⟨ga, o, none⟩ = some v := fun {o v} hc => by
      have h5 := World.block_lt_of_cell? w5 _ hc
      have h6 : (w5.alloc (Obj.cells #[.int .i64 (X.size : Int)] 3)).cell? ⟨ga, o, none⟩ = some v := by rw [World.cell?_alloc_past _ _ _ h5]; exact hc
      exact hgrow.cell h6 (fun e => by
        have := HOB.out ga e.symm
        omega)
    exact ⟨s, h2, by rw [hri i (by omega)]; exact h1, ka h3, ka h4⟩)
  clear HL HOB HM6 M7 hown hgrow hri HM
  go_wp2_with fail
  go_loopw [68] (fun i wr => ∃ j : Nat, j ≤ n + 1 ∧ i = .int .i64 (j : Int) ∧ w6 = wr) (fun i _ => n + 1 - (intOf i).toNat)
  case atStart => exact ⟨0, Nat.zero_le _, rfl, by first | rfl | trivial⟩
  case round =>
    obtain ⟨j, hj, rfl, rfl⟩ := hrel
    have hj0 : (0 : Int) ≤ (j : Int) := by omega
    by_cases hjn : j < n + 1
    · have hj1 : (j : Int) < (n : Int) + 1 := by omega
      obtain ⟨s, hs, ci, c1, c2⟩ := HL6.out j (by omega)
      have HPp := Lib.hid (fun W => place_in X s hs (by omega) W)
      generalize (((plcT X s).1 : Nat) : Int) = y at *
      generalize (((plcT X s).2 : Nat) : Int) = z at *
      go_wp2_with (go_at_call 22; refine (HPp.out _).mono ?_; rintro e w7 ⟨rfl, rfl⟩)
      go_roundw
      case rel => exact ⟨j + 1, by omega, by go_num, by first | rfl | trivial⟩
      case measure => simp [intOf] <;> omega
    · obtain rfl : j = n + 1 := by omega
      go_wp2_with fail
      go_ret
      exact ⟨rfl, HB1.out.trans (HLW.out.mono HB1.out.size)⟩
end Go.Proofs.YtogmipbdnffegaaGreatDoor
