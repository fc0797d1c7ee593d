/- The program's Loads. -/
import Derived.Test.YtimojbjamfckmaaNlLo
import Derived.Test.YtimojbjamfckmaaNlCp
import Derived.Deep.RegionLaw
namespace Go.Proofs.Ytimojbjamfckmaa
open Go Go.RowKit Go.Sort
set_option linter.unusedVariables false
theorem arr_grown {t : TypeId} {q : Nat} {l : List Value} {w w' : World} {r : Option Nat} (h : Arr t gV q l w) (hg : w.grownBy w' r) (hne : r ≠ some q) : Arr t gV q l w' :=
  ⟨(hg.block q (Arr.lt h) (fun e => hne e.symm)).trans h.1⟩
/-- rows of uses that a call made: one block with the rows, each row a block of its own -/
structure LdM (B k q : Nat) (cp : Nat) (L : List (List (Int × Int × Int))) (V : List Value) (w : World) : Prop where
  len : V.length = L.length
  box : w.cell? ⟨k, 0, none⟩ = some (.slice (some ⟨q, 0, none⟩) L.length cp)
  arr : Arr 68 gV q V w
  rows : ∀ i, i < L.length → OwnK B 71 3 encLd w V[i]! L[i]!
  apart : ∀ i j, i < L.length → j < L.length → i ≠ j → ∀ b, V[i]!.ownBlock = some b → V[j]!.ownBlock ≠ some b
  kB : k < B
  qB : q < B
  kq : k ≠ q
theorem LdM.put {B k q cp j : Nat} {L : List (List (Int × Int × Int))} {V : List Value} {w WA w5 : World} (hM : LdM B k q cp L V w) (hj : j < L.length) {R : List (Int × Int × Int)} {ad : Option Addr} {cp2 : Nat} (hv : V[j]! = .slice ad R.length cp2) (hb : Below w.heap.size w WA) {g cap5 : Nat} {x : Int × Int × Int} (O5 : OwnK B 71 3 encLd w5 (.slice (some ⟨g, 0, none⟩) (R.length + 1) cap5) (R ++ [x])) (hg : WA.grownBy w5 (Value.slice ad R.length cp2).ownBlock) (hloc : (Value.slice ad R.length cp2).ownBlock = some g ∨ g = WA.heap.size) : LdM B k q cp (L.set j (R ++ [x])) (V.set j (.slice (some ⟨g, 0, none⟩) (R.length + 1) cap5)) (w5.setCell ⟨q, j, none⟩ (.slice (some ⟨g, 0, none⟩) (R.length + 1) cap5)) := by
  have hVl := hM.len
  have hqB := hM.qB
  have hkB := hM.kB
  have hkq := hM.kq
  have hown : ∀ b, (Value.slice ad R.length cp2).ownBlock = some b → B ≤ b := fun b h => (World.ownsRow.lt (hM.rows j hj) b (by rw [hv]; exact h)).1
  have hgo : ∀ i, i < L.length → i ≠ j → V[i]!.ownBlock ≠ some g := fun i hi hne e => by
    rcases hloc with h | h
    · exact hM.apart i j hi hj hne g e (by rw [hv]; exact h)
    · have h1 := (World.ownsRow.lt (hM.rows i hi) g e).2
      have h2 := hb.size
      omega
  refine ⟨by rw [List.length_set, List.length_set]; exact hVl, ?_, ?_, fun i hi => ?_, fun i i2 hi hi2 hne b h => ?_, hkB, hqB, hkq⟩
  · rw [List.length_set, World.cell?_setCell_other _ _ _ _ (fun e => hkq (congrArg Addr.block e).symm)]
    exact cell_grown hg (cellB hb hM.box) (fun e => by have := hown k e.symm; omega)
  · exact Arr.set (arr_grown (Arr.below hM.arr hb) hg (fun e => by have := hown q e; omega)) j _
  · rw [List.length_set] at hi
    rw [set_getA V j i _ (by omega) (by omega), set_getA L j i _ hj hi]
    by_cases e : i = j
    · rw [if_pos e, if_pos e]
      exact OwnK.set O5 ⟨q, j, none⟩ _ hqB
    · rw [if_neg e, if_neg e]
      refine OwnK.set (World.ownsRow.kept ((hM.rows i hi).below hb) hg ?_) ⟨q, j, none⟩ _ hqB
      cases hvi : V[i]!.ownBlock with
      | none => exact .inl rfl
      | some b => exact .inr (fun h => hM.apart i j hi hj e b hvi (by rw [hv]; exact h.symm))
  · rw [List.length_set] at hi hi2
    rw [set_getA V j i2 _ (by omega) (by omega)]
    rw [set_getA V j i _ (by omega) (by omega)] at h
    by_cases e : i = j
    · rw [if_pos e] at h
      have hb2 : g = b := Option.some.inj h
      subst hb2
      rw [if_neg (fun h => hne (e.trans h.symm))]
      exact hgo i2 hi2 (fun h => hne (e.trans h.symm))
    · rw [if_neg e] at h
      by_cases e2 : i2 = j
      · rw [if_pos e2]
        intro h3
        have hb2 : g = b := Option.some.inj h3
        subst hb2
        exact hgo i hi e h
      · rw [if_neg e2]
        exact hM.apart i i2 hi hi2 hne b h
theorem step_append_at {P : Program} {α : Type} {enc : α → List Value} {k : Nat} (hk : ∀ x, (enc x).length = k) (hk0 : 0 < k) (hf : ∀ x, ∀ u ∈ enc x, u.oneCell' = true) {w : World} {ops : Array Oper} {o : Oper} {a : Act} {K : Act → World → Prop} {Q : Exit → Act → World → Prop} {E : Prop} (hgd : o.guard = none) (s x : Operand) (t : TypeId)
    (ho : o.op = .call { callee := .builtin .append, args := #[s, x], argTypes := #[t, t] }) (base : Nat) (e : TypeId) (i : TypeInfo) (z : Value) (bytes : Nat) (ht : P.underlying t = some (.slice e)) (hi : P.info? e = some i) (hz : i.zero = some z) (hsize : i.size = k) (hby : i.bytes = bytes) (hzs : z.cells.size = k)
    (v : Value) (xs : List α) (hs : a.eval s = v) (hown : OwnK base e k enc w v xs) (r cap : Nat) (y : α) (hx : a.eval x = .slice (some ⟨r, 0, none⟩) 1 cap) (hy : ∀ j u, (enc y)[j]? = some u → w.cell? ⟨r, j, none⟩ = some u)
    (h63 : xs.length + 1 ≤ maxLen) (hbytes : (xs.length + 1) * bytes ≤ 140737488355328) (hbase : base ≤ w.heap.size)
    (h : ∀ g cap w', OwnK base e k enc w' (.slice (some ⟨g, 0, none⟩) (xs.length + 1) cap) (xs ++ [y]) → Below base w w' → w.grownBy w' v.ownBlock → (v.ownBlock = some g ∨ g = w.heap.size) → K (a.put o.dst (.slice (some ⟨g, 0, none⟩) (xs.length + 1) cap)) w') :
    if Region.wanted o (yielded ops a.tmps) = true then Oper.wp P o a w K Q else E := by
  refine step_append_lies w hgd s x t ho base e i z k bytes ht hi hz hsize hby hzs hk0 v xs.length (xs.flatMap enc) hs hown ⟨r, 0, none⟩ 1 cap (enc y) hx (by rw [hk]; omega) (fun j u hj => ?_) (hf y) (by decide) h63 hbytes hbase _ rfl ?_
  · rw [show (⟨r, 0, none⟩ : Addr).add j = ⟨r, 0 + j, none⟩ from Addr.add_lit _ _ _, Nat.zero_add]
    exact hy j u hj
  · intro g cap' w' ho' hg hl _
    refine h g cap' w' ?_ ((Below.refl base w).grown hg hbase (fun q hq => (World.ownsRow.lt hown q hq).1)) hg hl
    unfold OwnK
    rw [List.flatMap_append, List.length_append]
    simpa using ho'
/-- what one more use leaves -/
structure UseP (L : List (List (Int × Int × Int))) (V : List Value) (B k q cp j : Nat) (R : List (Int × Int × Int)) (x : Int × Int × Int) (w w' : World) : Prop where
  mem : ∃ V', LdM B k q cp (L.set j (R ++ [x])) V' w'
  bel : ∀ b0, b0 ≤ B → b0 ≤ q → Below b0 w w'
  keep : ∀ p y, w.cell? p = some y → p.block ≠ q → V[j]!.ownBlock ≠ some p.block → w'.cell? p = some y
set_option maxRecDepth 100000 in
set_option maxHeartbeats 8000000 in
theorem use1_any (L : List (List (Int × Int × Int))) (V : List Value) (B k q cp : Nat) (net : Int) (h0 : 0 ≤ net) (h1 : net < (L.length : Int)) (hLn : L.length ≤ 4000) (x : Int × Int × Int) (w : World) (hB2 : B ≤ w.heap.size) (hM : LdM B k q cp L V w) (hl : L[net.toNat]!.length ≤ 1000000) : Calls Try.prog 93 #[.int .i64 net, .agg #[.int .i64 x.1, .int .i64 x.2.1, .int .i64 x.2.2], .pointer (some ⟨k, 0, none⟩)] w fun e w' => e = .returned (.tuple #[]) ∧ UseP L V B k q cp net.toNat L[net.toNat]! x w w' := by
  obtain ⟨j, rfl⟩ : ∃ j : Nat, net = (j : Int) := ⟨net.toNat, by omega⟩
  have hj : j < L.length := by omega
  have hrow := hM.rows j hj
  have hVl := hM.len
  have hcj := Arr.cell (j := j) hM.arr (by omega)
  have hbx := hM.box
  have hfz := Arr.free hM.arr j
  have hqB := hM.qB
  have hkB := hM.kB
  have hkq := hM.kq
  obtain ⟨ad, cp2, hv⟩ := hrow.slice
  obtain ⟨x0, x1, x2⟩ := x
  simp only [gV] at hcj
  rw [hv] at hcj hrow
  have HM := Lib.hid hM
  have HV := Lib.hid hv
  have hl2 : L[j]!.length ≤ 1000000 := by simpa using hl
  clear hM hv hl
  have HR0 : Hid (∀ R, R = L[j]! → L[(j : Int).toNat]! = R) := Lib.hid (fun R e => by rw [e]; simp)
  generalize hR : L[j]! = R at hrow hcj hl2 HV
  have HR := Lib.hid hR
  clear hR
  rw [show ((j : Int).toNat) = j by simp, HR.out]
  go_enter Try.func93, Try.ntmps93
  go_upto_region 1 with fail
  have bA := (Below.refl w.heap.size w).alloc (Nat.le_refl _) (.cells #[.int .i64 x0, .int .i64 x1, .int .i64 x2] 71)
  have z0 : (w.alloc (.cells #[.int .i64 x0, .int .i64 x1, .int .i64 x2] 71)).cell? ⟨w.heap.size, 0, none⟩ = some (.int .i64 x0) := by go_simp
  have z1 : (w.alloc (.cells #[.int .i64 x0, .int .i64 x1, .int .i64 x2] 71)).cell? ⟨w.heap.size, 1, none⟩ = some (.int .i64 x1) := by go_simp
  have z2 : (w.alloc (.cells #[.int .i64 x0, .int .i64 x1, .int .i64 x2] 71)).cell? ⟨w.heap.size, 2, none⟩ = some (.int .i64 x2) := by go_simp
  have hkB2 := cellB bA hbx
  have hcj2 := cellB bA hcj
  have hrow2 := hrow.below bA
  have hbk := fun b hb => (World.ownsRow.lt hrow b hb).2
  have hbk2 := fun b hb => (World.ownsRow.lt hrow b hb).1
  have hsz := World.block_lt_of_cell? w _ hbx
  have hsq := World.block_lt_of_cell? w _ hcj
  have hBs : B ≤ w.heap.size := hB2
  have hB9 := Nat.le_trans hB2 bA.size
  have HBA := Lib.hid bA
  clear hbx hcj hrow bA
  generalize w.alloc (.cells #[.int .i64 x0, .int .i64 x1, .int .i64 x2] 71) = W1 at z0 z1 z2 hkB2 hcj2 hrow2 HBA hB9 ⊢
  generalize hp : w.heap.size = p at z0 z1 z2 hbk hsz hsq hBs ⊢
  have HP := Lib.hid hp
  clear hp
  obtain ⟨i0, ihi, ihz, ihs, ihb⟩ := infoLd_parts
  have bD := ((Below.refl W1.heap.size W1).alloc (Nat.le_refl _) (.cells #[.int .i64 x0, .int .i64 x1, .int .i64 x2] 71)).drew
  have HROW := Lib.hid (show OwnK B 71 3 encLd (W1.alloc (.cells #[.int .i64 x0, .int .i64 x1, .int .i64 x2] 71)).drew (.slice ad R.length cp2) R from hrow2.below bD)
  have HSB : B ≤ (W1.alloc (.cells #[.int .i64 x0, .int .i64 x1, .int .i64 x2] 71)).drew.heap.size := Nat.le_trans hB9 bD.size
  have bL := (Below.refl W1.heap.size W1).alloc (Nat.le_refl _) (.cells #[.int .i64 x0, .int .i64 x1, .int .i64 x2] 71)
  have hkB3 := cellB bL hkB2
  have hcj3 := cellB bL hcj2
  have z03 := cellB bL z0
  have z13 := cellB bL z1
  have z23 := cellB bL z2
  clear bL
  have HARR := Lib.hid (show Arr 68 gV q V (W1.alloc (.cells #[.int .i64 x0, .int .i64 x1, .int .i64 x2] 71)).drew from Arr.below (Arr.below HM.out.arr HBA.out) bD)
  have HK5 := Lib.hid (cellB bD hkB2)
  have HNQ : Hid ((Value.slice ad R.length cp2).ownBlock ≠ some q) := Lib.hid (fun e => by have := hbk2 q e; omega)
  have HNK : Hid (some k ≠ (Value.slice ad R.length cp2).ownBlock) := Lib.hid (fun e => by have := hbk2 k e.symm; omega)
  have HEND := Lib.hid (fun (g cap5 : Nat) (w5 : World) (O5 : OwnK B 71 3 encLd w5 (.slice (some ⟨g, 0, none⟩) (R.length + 1) cap5) (R ++ [(x0, x1, x2)])) (hb5 : Below B (W1.alloc (.cells #[.int .i64 x0, .int .i64 x1, .int .i64 x2] 71)).drew w5) (hg5 : (W1.alloc (.cells #[.int .i64 x0, .int .i64 x1, .int .i64 x2] 71)).drew.grownBy w5 (Value.slice ad R.length cp2).ownBlock) (hl5 : (Value.slice ad R.length cp2).ownBlock = some g ∨ g = (W1.alloc (.cells #[.int .i64 x0, .int .i64 x1, .int .i64 x2] 71)).drew.heap.size) => show Ending.returned (.tuple #[]) = Ending.returned (.tuple #[]) ∧ UseP L V B k q cp j R (x0, x1, x2) w (w5.setCell ⟨q, j, none⟩ (.slice (some ⟨g, 0, none⟩) (R.length + 1) cap5)) from ⟨rfl, ⟨_, LdM.put HM.out hj HV.out (HBA.out.trans (bD.mono (by first | omega | exact HBA.out.size))) O5 hg5 hl5⟩, fun b0 h1 h2 => by
    have e1 := (HBA.out.trans (bD.mono HBA.out.size)).mono (show b0 ≤ w.heap.size by omega)
    exact (e1.trans (hb5.mono h1)).setCell (p := ⟨q, j, none⟩) h2 _, fun p9 y9 h1 h2 h3 => by
    rw [World.cell?_setCell_other _ _ _ _ (fun e => h2 (congrArg Addr.block e).symm)]
    exact cell_grown hg5 (cellB bD (cellB HBA.out h1)) (fun e => h3 (by rw [HV.out]; exact e.symm))⟩)
  clear bD
  go_region_law (refine step_append_at (enc := encLd) (k := 3) (fun _ => rfl) (by decide) (fun x u hu => by simp [encLd] at hu; rcases hu with rfl | rfl | rfl <;> rfl) rfl (.tmp 10) (.tmp 12) 68 rfl B 71 i0 (.agg #[.int .i64 0, .int .i64 0, .int .i64 0]) 24 Try.underlying68 ihi ihz ihs ihb (by decide) (.slice ad R.length cp2) R rfl HROW.out W1.heap.size 1 (x0, x1, x2) rfl (newLd W1 x0 x1 x2) (by unfold maxLen; omega) (by omega) HSB ?_; intro g cap5 w5 O5 hb5 hg5 hl5; have A5 := arr_grown HARR.out hg5 HNQ.out; have c5 := Arr.cell (j := j) A5 (by omega); simp only [gV] at c5; have f5 := Arr.free A5 j; have k5 := cell_grown hg5 HK5.out HNK.out)
  all_goals go_end0
  all_goals exact HEND.out g cap5 w5 O5 hb5 hg5 hl5
end Go.Proofs.Ytimojbjamfckmaa
