/- slices.Clone at texts, literals, nodes and registers: a row of the call's own with the same elements. Condition: at most 4,000,000,000 elements. -/
import Derived.Test.YtcpifmhcebfglaaGrOk
import Derived.Lib.SliceRun
import Derived.Lib.Walk
namespace Go.Proofs.Ytcpifmhcebfglaa
open Go Go.RowKit Go.Sort
set_option linter.unusedVariables false
theorem row_flat {α : Type} [Inhabited α] {k : Nat} {enc : α → List Value} {l : List α} {e : Addr} {w : World} (hk : ∀ x, (enc x).length = k) (hk0 : 0 < k) (h : RowAt k enc l (some e) w) : ∀ j u, (l.flatMap enc)[j]? = some u → w.cell? (e.add j) = some u := by
  rcases h with h0 | ⟨bb, oo, he, hcell⟩
  · intro j u hj
    rw [List.eq_nil_of_length_eq_zero h0] at hj
    simp at hj
  · cases he
    intro j u hj
    have hlt : j < (l.flatMap enc).length := (List.getElem?_eq_some_iff.1 hj).1
    rw [flat_len hk] at hlt
    have hd : j / k < l.length := Nat.div_lt_of_lt_mul (by rw [Nat.mul_comm]; exact hlt)
    have e1 : j / k * k + j % k = j := by rw [Nat.mul_comm]; exact Nat.div_add_mod j k
    rw [← e1, flat_get hk l (j / k) (j % k) hd (Nat.mod_lt _ hk0)] at hj
    have := hcell (j / k) hd (j % k) u hj
    rw [show (⟨bb, oo, none⟩ : Addr).add j = ⟨bb, oo + j, none⟩ from Addr.add_lit _ _ _]
    rwa [show oo + j / k * k + j % k = oo + j by omega] at this
/-- an owned row of k cells, opened -/
theorem OwnK.rowC {B : Nat} {t : TypeId} {k : Nat} {α : Type} [Inhabited α] {enc : α → List Value} (hk : ∀ x, (enc x).length = k) {w : World} {v : Value} {l : List α} (h : OwnK B t k enc w v l) : ∃ ad cap, v = .slice ad l.length cap ∧ l.length ≤ cap ∧ (ad = none → cap = 0) ∧ RowAt k enc l ad w := by
  obtain ⟨ad, cap, h1, h2, h3⟩ := (h.row hk).open'
  refine ⟨ad, cap, h1, h2, fun hn => ?_, h3⟩
  subst hn
  rcases h.2 with ⟨e1, _⟩ | ⟨g, cap', cur, hv, _⟩
  · rw [e1] at h1; injection h1 with _ _ e3; exact e3.symm
  · rw [hv] at h1; cases h1
theorem flat_one {α : Type} {f : α → Value} (l : List α) : l.flatMap (fun x => [f x]) = l.map f := by
  induction l with
  | nil => rfl
  | cons x l ih => simp [ih]
theorem OwnK.own {B : Nat} {t : TypeId} {α : Type} {f : α → Value} {w : World} {v : Value} {l : List α} (h : OwnK B t 1 (fun x => [f x]) w v l) : Own B t f w v l := by
  unfold OwnK at h
  rw [flat_one] at h
  exact h
theorem Own.ownK {B : Nat} {t : TypeId} {α : Type} {f : α → Value} {w : World} {v : Value} {l : List α} (h : Own B t f w v l) : OwnK B t 1 (fun x => [f x]) w v l := by
  unfold OwnK
  rw [flat_one]
  exact h
theorem infoCT : (Try.prog.info? 9).map (fun i => (i.zero, i.size, i.bytes)) = some (some (.string ⟨#[]⟩), 1, 16) := by kernel_rfl
theorem infoCT_parts : ∃ i, Try.prog.info? 9 = some i ∧ i.zero = some (.string ⟨#[]⟩) ∧ i.size = 1 ∧ i.bytes = 16 := by
  have h := infoCT
  cases hi : Try.prog.info? 9 with
  | none => rw [hi] at h; cases h
  | some i =>
    rw [hi] at h
    simp only [Option.map_some, Option.some.injEq, Prod.mk.injEq] at h
    exact ⟨i, rfl, h.1, h.2.1, h.2.2⟩
theorem lenT (x : ByteArray) : (encT x).length = 1 := rfl
theorem oneT (x : ByteArray) : ∀ u ∈ encT x, u.oneCell' = true := by
  intro u hu
  simp [encT] at hu
  rcases hu with rfl <;> rfl
set_option maxHeartbeats 2000000 in
set_option maxRecDepth 100000 in
theorem cloneT_any (l : List ByteArray) (v : Value) (w : World) (hn : l.length ≤ 4000000000) (h : RowOf 1 encT l v w) : Calls Try.prog 97 #[v] w fun e w' => ∃ u, e = .returned u ∧ OwnK w.heap.size 9 1 encT w' u l ∧ Below w.heap.size w w' := by
  obtain ⟨ad, cap, rfl, hc, R⟩ := h.open'
  have hfl := flat_len lenT l
  have q32 : ∀ (w : World) (a : Option Addr) (n c n' c' : Nat), (binOp .eql 26 (.slice a n c) (.slice none n' c')).run Try.prog w = .ok (.bool a.isNone) w := fun w a n c n' c' => Lib.run_eql_slice_nil w _ _ a n c n' c' Try.underlying26
  cases ad with
  | none =>
    have h0 : l = [] := by
      rcases R with h0 | ⟨b, o, h1, _⟩
      · exact List.eq_nil_of_length_eq_zero h0
      · cases h1
    subst h0
    go_enter Try.func97, Try.ntmps97
    go_wp2_with fail
    go_ret
    exact ⟨_, rfl, OwnK.nil _ _ _ _ _, Below.refl _ _⟩
  | some e =>
    have A := Lib.hid (row_flat lenT (by decide) R)
    obtain ⟨i0, hi, hz0, hz1, hz2⟩ := infoCT_parts
    have h1 := Lib.hid (fun u (hu : u ∈ l.flatMap encT) => (List.mem_flatMap.1 hu).elim fun x hx => oneT x u hx.2)
    clear R h
    go_enter Try.func97, Try.ntmps97
    go_wp2_with (at_builtin; refine wpList_append_own _ rfl _ _ 26 rfl w.heap.size 9 i0 _ 1 16 Try.underlying26 hi hz0 hz1 hz2 rfl (by decide) _ _ _ rfl (World.ownsRow_made w #[] 0 (Nat.le_refl _) (Nat.zero_le _) rfl) e l.length cap (l.flatMap encT) rfl ?qc1 ?qc2 ?qc3 ?qc4 ?qc5 ?qc6 ?_)
    case qc1 => exact hfl
    case qc2 =>
      intro j u hj
      exact Lib.cell?_alloc_some _ (A.out j u hj)
    case qc3 => exact h1.out
    case qc4 => unfold maxLen; omega
    case qc5 => omega
    case qc6 => simp
    intro v' w1 hown hgrow hnil
    go_wp2_with fail
    go_ret
    refine ⟨v', rfl, ?_, ((Below.refl _ w).alloc (Nat.le_refl _) _).grown hgrow (by simp) (by intro k hk; simp [Value.ownBlock] at hk; omega)⟩
    unfold OwnK
    simpa using hown
theorem infoCI : (Try.prog.info? 67).map (fun i => (i.zero, i.size, i.bytes)) = some (some (.int .i64 0), 1, 8) := by kernel_rfl
theorem infoCI_parts : ∃ i, Try.prog.info? 67 = some i ∧ i.zero = some (.int .i64 0) ∧ i.size = 1 ∧ i.bytes = 8 := by
  have h := infoCI
  cases hi : Try.prog.info? 67 with
  | none => rw [hi] at h; cases h
  | some i =>
    rw [hi] at h
    simp only [Option.map_some, Option.some.injEq, Prod.mk.injEq] at h
    exact ⟨i, rfl, h.1, h.2.1, h.2.2⟩
theorem lenI (x : Int) : (encI x).length = 1 := rfl
theorem oneI (x : Int) : ∀ u ∈ encI x, u.oneCell' = true := by
  intro u hu
  simp [encI] at hu
  rcases hu with rfl <;> rfl
set_option maxHeartbeats 2000000 in
set_option maxRecDepth 100000 in
theorem cloneI_any (l : List Int) (v : Value) (w : World) (hn : l.length ≤ 4000000000) (h : RowOf 1 encI l v w) : Calls Try.prog 152 #[v] w fun e w' => ∃ u, e = .returned u ∧ OwnK w.heap.size 67 1 encI w' u l ∧ Below w.heap.size w w' := by
  obtain ⟨ad, cap, rfl, hc, R⟩ := h.open'
  have hfl := flat_len lenI l
  have q32 : ∀ (w : World) (a : Option Addr) (n c n' c' : Nat), (binOp .eql 29 (.slice a n c) (.slice none n' c')).run Try.prog w = .ok (.bool a.isNone) w := fun w a n c n' c' => Lib.run_eql_slice_nil w _ _ a n c n' c' Try.underlying29
  cases ad with
  | none =>
    have h0 : l = [] := by
      rcases R with h0 | ⟨b, o, h1, _⟩
      · exact List.eq_nil_of_length_eq_zero h0
      · cases h1
    subst h0
    go_enter Try.func152, Try.ntmps152
    go_wp2_with fail
    go_ret
    exact ⟨_, rfl, OwnK.nil _ _ _ _ _, Below.refl _ _⟩
  | some e =>
    have A := Lib.hid (row_flat lenI (by decide) R)
    obtain ⟨i0, hi, hz0, hz1, hz2⟩ := infoCI_parts
    have h1 := Lib.hid (fun u (hu : u ∈ l.flatMap encI) => (List.mem_flatMap.1 hu).elim fun x hx => oneI x u hx.2)
    clear R h
    go_enter Try.func152, Try.ntmps152
    go_wp2_with (at_builtin; refine wpList_append_own _ rfl _ _ 29 rfl w.heap.size 67 i0 _ 1 8 Try.underlying29 hi hz0 hz1 hz2 rfl (by decide) _ _ _ rfl (World.ownsRow_made w #[] 0 (Nat.le_refl _) (Nat.zero_le _) rfl) e l.length cap (l.flatMap encI) rfl ?qc1 ?qc2 ?qc3 ?qc4 ?qc5 ?qc6 ?_)
    case qc1 => exact hfl
    case qc2 =>
      intro j u hj
      exact Lib.cell?_alloc_some _ (A.out j u hj)
    case qc3 => exact h1.out
    case qc4 => unfold maxLen; omega
    case qc5 => omega
    case qc6 => simp
    intro v' w1 hown hgrow hnil
    go_wp2_with fail
    go_ret
    refine ⟨v', rfl, ?_, ((Below.refl _ w).alloc (Nat.le_refl _) _).grown hgrow (by simp) (by intro k hk; simp [Value.ownBlock] at hk; omega)⟩
    unfold OwnK
    simpa using hown
theorem infoCN : (Try.prog.info? 137).map (fun i => (i.zero, i.size, i.bytes)) = some (some (.agg #[.int .i64 0, .int .i64 0]), 2, 16) := by kernel_rfl
theorem infoCN_parts : ∃ i, Try.prog.info? 137 = some i ∧ i.zero = some (.agg #[.int .i64 0, .int .i64 0]) ∧ i.size = 2 ∧ i.bytes = 16 := by
  have h := infoCN
  cases hi : Try.prog.info? 137 with
  | none => rw [hi] at h; cases h
  | some i =>
    rw [hi] at h
    simp only [Option.map_some, Option.some.injEq, Prod.mk.injEq] at h
    exact ⟨i, rfl, h.1, h.2.1, h.2.2⟩
theorem lenN (x : Int × Int) : (encN x).length = 2 := rfl
theorem oneN (x : Int × Int) : ∀ u ∈ encN x, u.oneCell' = true := by
  intro u hu
  simp [encN] at hu
  rcases hu with rfl | rfl <;> rfl
set_option maxHeartbeats 2000000 in
set_option maxRecDepth 100000 in
theorem cloneN_any (l : List (Int × Int)) (v : Value) (w : World) (hn : l.length ≤ 4000000000) (h : RowOf 2 encN l v w) : Calls Try.prog 156 #[v] w fun e w' => ∃ u, e = .returned u ∧ OwnK w.heap.size 137 2 encN w' u l ∧ Below w.heap.size w w' := by
  obtain ⟨ad, cap, rfl, hc, R⟩ := h.open'
  have hfl := flat_len lenN l
  have q32 : ∀ (w : World) (a : Option Addr) (n c n' c' : Nat), (binOp .eql 28 (.slice a n c) (.slice none n' c')).run Try.prog w = .ok (.bool a.isNone) w := fun w a n c n' c' => Lib.run_eql_slice_nil w _ _ a n c n' c' Try.underlying28
  cases ad with
  | none =>
    have h0 : l = [] := by
      rcases R with h0 | ⟨b, o, h1, _⟩
      · exact List.eq_nil_of_length_eq_zero h0
      · cases h1
    subst h0
    go_enter Try.func156, Try.ntmps156
    go_wp2_with fail
    go_ret
    exact ⟨_, rfl, OwnK.nil _ _ _ _ _, Below.refl _ _⟩
  | some e =>
    have A := Lib.hid (row_flat lenN (by decide) R)
    obtain ⟨i0, hi, hz0, hz1, hz2⟩ := infoCN_parts
    have h1 := Lib.hid (fun u (hu : u ∈ l.flatMap encN) => (List.mem_flatMap.1 hu).elim fun x hx => oneN x u hx.2)
    clear R h
    go_enter Try.func156, Try.ntmps156
    go_wp2_with (at_builtin; refine wpList_append_own _ rfl _ _ 28 rfl w.heap.size 137 i0 _ 2 16 Try.underlying28 hi hz0 hz1 hz2 rfl (by decide) _ _ _ rfl (World.ownsRow_made w #[] 0 (Nat.le_refl _) (Nat.zero_le _) rfl) e l.length cap (l.flatMap encN) rfl ?qc1 ?qc2 ?qc3 ?qc4 ?qc5 ?qc6 ?_)
    case qc1 => exact hfl
    case qc2 =>
      intro j u hj
      exact Lib.cell?_alloc_some _ (A.out j u hj)
    case qc3 => exact h1.out
    case qc4 => unfold maxLen; omega
    case qc5 => omega
    case qc6 => simp
    intro v' w1 hown hgrow hnil
    go_wp2_with fail
    go_ret
    refine ⟨v', rfl, ?_, ((Below.refl _ w).alloc (Nat.le_refl _) _).grown hgrow (by simp) (by intro k hk; simp [Value.ownBlock] at hk; omega)⟩
    unfold OwnK
    simpa using hown
theorem infoCR : (Try.prog.info? 128).map (fun i => (i.zero, i.size, i.bytes)) = some (some (.agg #[.string ⟨#[]⟩, .int .i64 0, .bool false]), 3, 32) := by kernel_rfl
theorem infoCR_parts : ∃ i, Try.prog.info? 128 = some i ∧ i.zero = some (.agg #[.string ⟨#[]⟩, .int .i64 0, .bool false]) ∧ i.size = 3 ∧ i.bytes = 32 := by
  have h := infoCR
  cases hi : Try.prog.info? 128 with
  | none => rw [hi] at h; cases h
  | some i =>
    rw [hi] at h
    simp only [Option.map_some, Option.some.injEq, Prod.mk.injEq] at h
    exact ⟨i, rfl, h.1, h.2.1, h.2.2⟩
theorem lenR (x : Rg) : (encR x).length = 3 := rfl
theorem oneR (x : Rg) : ∀ u ∈ encR x, u.oneCell' = true := by
  intro u hu
  simp [encR] at hu
  rcases hu with rfl | rfl | rfl <;> rfl
set_option maxHeartbeats 2000000 in
set_option maxRecDepth 100000 in
theorem cloneR_any (l : List Rg) (v : Value) (w : World) (hn : l.length ≤ 4000000000) (h : RowOf 3 encR l v w) : Calls Try.prog 98 #[v] w fun e w' => ∃ u, e = .returned u ∧ OwnK w.heap.size 128 3 encR w' u l ∧ Below w.heap.size w w' := by
  obtain ⟨ad, cap, rfl, hc, R⟩ := h.open'
  have hfl := flat_len lenR l
  have q32 : ∀ (w : World) (a : Option Addr) (n c n' c' : Nat), (binOp .eql 27 (.slice a n c) (.slice none n' c')).run Try.prog w = .ok (.bool a.isNone) w := fun w a n c n' c' => Lib.run_eql_slice_nil w _ _ a n c n' c' Try.underlying27
  cases ad with
  | none =>
    have h0 : l = [] := by
      rcases R with h0 | ⟨b, o, h1, _⟩
      · exact List.eq_nil_of_length_eq_zero h0
      · cases h1
    subst h0
    go_enter Try.func98, Try.ntmps98
    go_wp2_with fail
    go_ret
    exact ⟨_, rfl, OwnK.nil _ _ _ _ _, Below.refl _ _⟩
  | some e =>
    have A := Lib.hid (row_flat lenR (by decide) R)
    obtain ⟨i0, hi, hz0, hz1, hz2⟩ := infoCR_parts
    have h1 := Lib.hid (fun u (hu : u ∈ l.flatMap encR) => (List.mem_flatMap.1 hu).elim fun x hx => oneR x u hx.2)
    clear R h
    go_enter Try.func98, Try.ntmps98
    go_wp2_with (at_builtin; refine wpList_append_own _ rfl _ _ 27 rfl w.heap.size 128 i0 _ 3 32 Try.underlying27 hi hz0 hz1 hz2 rfl (by decide) _ _ _ rfl (World.ownsRow_made w #[] 0 (Nat.le_refl _) (Nat.zero_le _) rfl) e l.length cap (l.flatMap encR) rfl ?qc1 ?qc2 ?qc3 ?qc4 ?qc5 ?qc6 ?_)
    case qc1 => exact hfl
    case qc2 =>
      intro j u hj
      exact Lib.cell?_alloc_some _ (A.out j u hj)
    case qc3 => exact h1.out
    case qc4 => unfold maxLen; omega
    case qc5 => omega
    case qc6 => simp
    intro v' w1 hown hgrow hnil
    go_wp2_with fail
    go_ret
    refine ⟨v', rfl, ?_, ((Below.refl _ w).alloc (Nat.le_refl _) _).grown hgrow (by simp) (by intro k hk; simp [Value.ownBlock] at hk; omega)⟩
    unfold OwnK
    simpa using hown
end Go.Proofs.Ytcpifmhcebfglaa
