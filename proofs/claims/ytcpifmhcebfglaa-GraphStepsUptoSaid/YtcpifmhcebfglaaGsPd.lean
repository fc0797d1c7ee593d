/- The makers' rows of cycles: rows that lie from a block on. Conditions: few cycles and bits; the stream has handed out few numbers. -/
import Derived.Test.YtcpifmhcebfglaaGsPl
namespace Go.Proofs.Ytcpifmhcebfglaa
open Go Go.RowKit Go.Sort
set_option linter.unusedVariables false
/-- rows of bits, all of the call's own -/
def PL (B : Nat) (L : List (List Bool)) (u : Value) (w : World) : Prop := ∃ vs : List (Option Addr × Nat × Nat), vs.length = L.length ∧ OwnK B 40 1 (fun x => [f3 x]) w u vs ∧ ∀ i, i < L.length → OwnK B 4 1 encB w (f3 vs[i]!) L[i]!
theorem PL.below {B : Nat} {L : List (List Bool)} {u : Value} {w w' : World} (h : PL B L u w) (hb : Below w.heap.size w w') : PL B L u w' := by
  obtain ⟨vs, h1, h2, h3⟩ := h
  exact ⟨vs, h1, h2.below hb, fun i hi => (h3 i hi).below hb⟩
theorem PL.kept {B q : Nat} {L : List (List Bool)} {u : Value} {w w' : World} (h : PL B L u w) (hg : w.grownBy w' (some q)) (hq : q < B) : PL B L u w' := by
  obtain ⟨vs, h1, h2, h3⟩ := h
  exact ⟨vs, h1, h2.aparts hg hq, fun i hi => (h3 i hi).aparts hg hq⟩
theorem PL.mono {B B' : Nat} {L : List (List Bool)} {u : Value} {w : World} (h : PL B L u w) (hb : B' ≤ B) : PL B' L u w := by
  obtain ⟨vs, h1, h2, h3⟩ := h
  exact ⟨vs, h1, World.ownsRow.mono h2 hb, fun i hi => World.ownsRow.mono (h3 i hi) hb⟩
theorem PL.slice {B : Nat} {L : List (List Bool)} {u : Value} {w : World} (h : PL B L u w) : ∃ ad cp, u = .slice ad L.length cp := by
  obtain ⟨vs, h1, h2, h3⟩ := h
  obtain ⟨ad, cp, hv⟩ := h2.slice
  exact ⟨ad, cp, by rw [← h1]; exact hv⟩
theorem PL.tr {B : Nat} {L : List (List Bool)} {u : Value} {w : World} (h : PL B L u w) : TR L u w := by
  obtain ⟨vs, h1, h2, h3⟩ := h
  obtain ⟨ad, cap, hv, hc, hn, hr⟩ := OwnK.rowC (enc := fun x => [f3 x]) (k := 1) (fun _ => rfl) h2
  refine ⟨ad, cap, vs.map f3, by rw [hv, h1], by omega, hn, by simp [h1], hr.mapped, fun j hj => ?_⟩
  rw [show (vs.map f3)[j]! = f3 vs[j]! from by rw [getElem!_pos (vs.map f3) j (by rw [List.length_map]; omega), List.getElem_map, getElem!_pos vs j (by omega)]]
  exact (OwnK.own (h3 j hj)).rowC
theorem PL.nil (B : Nat) (w : World) : PL B [] (.slice none 0 0) w := ⟨[], rfl, OwnK.nil _ _ _ _ _, fun i hi => by simp at hi⟩
theorem PL.snoc {B : Nat} {L : List (List Bool)} {u v5 : Value} {w w5 : World} {vs : List (Option Addr × Nat × Nat)} {x : Option Addr × Nat × Nat} {l : List Bool} (h1 : vs.length = L.length) (h2 : OwnK B 40 1 (fun x => [f3 x]) w u vs) (h3 : ∀ i, i < L.length → OwnK B 4 1 encB w (f3 vs[i]!) L[i]!) (hx : OwnK B 4 1 encB w (f3 x) l) (O5 : OwnK B 40 1 (fun x => [f3 x]) w5 v5 (vs ++ [x])) (hg : w.grownBy w5 u.ownBlock) : PL B (L ++ [l]) v5 w5 := by
  refine ⟨_, by simp [h1], O5, fun i hi => ?_⟩
  rw [List.length_append, List.length_singleton] at hi
  by_cases hl : i < L.length
  · rw [app_low L _ hl, app_low vs _ (by omega)]
    exact (h3 i hl).asideS h2 (by decide) hg
  · have e : i = L.length := by omega
    subst e
    rw [app_last, ← h1, app_last]
    exact hx.asideS h2 (by decide) hg
theorem newF3 (W : World) (x : Option Addr × Nat × Nat) (t : TypeId) : ∀ (j : Nat) (u : Value), ([f3 x])[j]? = some u → (W.alloc (.cells #[f3 x] t)).cell? ⟨W.heap.size, j, none⟩ = some u := by
  intro q u hq
  match q, hq with
  | 0, hq => cases hq; go_simp
set_option maxRecDepth 100000 in
set_option maxHeartbeats 4000000 in
theorem played_made (b len cap : Nat) (a : Option Addr) (k n m : Nat) (hn : n ≤ 100) (hm : m ≤ 1000) (hk : k ≤ 300000) (w : World) (hS : Str b a len cap k w) :
    Calls Try.prog 16 #[.pointer (some ⟨b, 0, none⟩), .int .i64 (n : Int), .int .i64 (m : Int)] w fun e w' => ∃ u, e = .returned u ∧ (∃ L, L.length = n ∧ (∀ r ∈ L, r.length = m) ∧ PL w.heap.size L u w') ∧ Adv b a len cap k (n * m) w w' := by
  have hbl := World.block_lt_of_cell? w _ hS.c0
  obtain ⟨i0, ihi, ihz, ihs, ihb⟩ := infoSb_parts
  have HHS := Lib.hid hS
  have A0 := adv_refl hS 0
  have O0 := PL.nil w.heap.size w
  clear hS
  go_enter Try.func16, Try.ntmps16
  go_upto_block 0 with fail
  go_wp2_with fail
  go_loopw [7, 9] (fun u i wr => ∃ j : Nat, j ≤ n ∧ i = .int .i64 (j : Int) ∧ Hid (∃ L : List (List Bool), L.length = j ∧ (∀ r ∈ L, r.length = m) ∧ PL w.heap.size L u wr) ∧ Hid (Adv b a len cap k (j * m) w wr)) (fun _ i _ => n - (intOf i).toNat)
  case atStart => exact ⟨0, Nat.zero_le _, rfl, Lib.hid ⟨[], rfl, (fun r hr => by cases hr), O0⟩, Lib.hid (by rw [Nat.zero_mul]; exact A0)⟩
  case round =>
    clear O0 A0
    obtain ⟨j, hj, rfl, hO, hA⟩ := hrel
    rename World => WR
    have hj0 : (0 : Int) ≤ (j : Int) := by omega
    by_cases hlt : j < n
    · have hji : (j : Int) < (n : Int) := by omega
      obtain ⟨L, hl, hr, vs, hvs, O1, R1⟩ := hO.out
      have A1 := hA.out
      obtain ⟨⟨k1, hk1, S1⟩, G1⟩ := id A1
      have HS1 := Lib.hid S1
      obtain ⟨ad, cp, hv⟩ := O1.slice
      subst hv
      have hsz := G1.size
      have HL : vs.length ≤ 8000000000 := by omega
      have hjm : j * m ≤ 100 * 1000 := Nat.mul_le_mul (by omega) hm
      have hk1' : k1 ≤ 400000 := by omega
      have HO1 := Lib.hid O1
      have HR1 := Lib.hid R1
      have HA1 := Lib.hid A1
      have HV := Lib.hid hvs
      have HLL := Lib.hid hl
      have HRR := Lib.hid hr
      have HK1 := Lib.hid hk1
      clear hO hA S1 O1 R1 A1 hl hr hvs hk1 hjm G1
      go_wp2_with fail
      refine (values_made b len cap a k1 m (by omega) (by omega) _ HS1.out).mono ?_
      rintro ee w2 ⟨u2, rfl, ⟨l2, hl2, O2⟩, A2⟩
      obtain ⟨ad2, n2, cp2, rfl⟩ := OwnK.sl O2
      have bL := (Below.refl w2.heap.size w2).alloc (Nat.le_refl _) (.cells #[.slice ad2 n2 cp2] 40)
      have hs2 := Nat.le_trans hsz A2.gr.size
      have O3 := (HO1.out.aparts A2.gr hbl).below bL
      have HA2 := Lib.hid A2
      have HO2 := Lib.hid (OwnK.below (OwnK.mono O2 hsz) bL)
      have HR2 := Lib.hid (fun i hi => ((HR1.out i hi).aparts A2.gr hbl).below bL)
      have HBL := Lib.hid bL
      have HL2 := Lib.hid hl2
      clear O2 A2 hl2
      go_wp2_with (at_builtin; refine wpList_append_one (enc := fun x => [f3 x]) (k := 1) (fun _ => rfl) (by decide) (fun x u hu => by simp at hu; subst hu; rfl) rfl _ _ 33 rfl (w.heap.size) 40 i0 (.slice none 0 0) 24 Try.underlying33 ihi ihz ihs ihb (by decide) _ vs rfl O3 w2.heap.size 1 (ad2, n2, cp2) rfl (newF3 w2 (ad2, n2, cp2) 40) (show vs.length + 1 ≤ maxLen by unfold maxLen; omega) (show (vs.length + 1) * 24 ≤ 140737488355328 by omega) (by first | omega | (simp; omega)) ?_)
      intro v5 w5 O5 hb5 hg5
      have HO5 := Lib.hid (⟨L ++ [l2], by rw [List.length_append, HLL.out]; rfl, fun r hr => by
        rcases List.mem_append.1 hr with hr | hr
        · exact HRR.out r hr
        · rw [List.mem_singleton] at hr; rw [hr]; exact HL2.out, PL.snoc HV.out O3 HR2.out HO2.out O5 hg5⟩ : ∃ L : List (List Bool), L.length = j + 1 ∧ (∀ r ∈ L, r.length = m) ∧ PL w.heap.size L v5 w5)
      have HA5 := Lib.hid (adv_app HHS.out (adv_below (adv_trans (c := (j + 1) * m) HA1.out HK1.out HA2.out (by rw [Nat.add_mul]; omega)) HBL.out) hb5)
      clear O5 hb5 hg5 O3 bL
      go_wp2_with fail
      go_roundw
      case rel => exact ⟨j + 1, by omega, by go_num, HO5, HA5⟩
      all_goals first | done | (simp [intOf]; done) | (simp [intOf]; omega)
    · have hji : ¬ (j : Int) < (n : Int) := by omega
      have hjn : j = n := by omega
      subst hjn
      have HO := Lib.hid hO.out
      have HA := Lib.hid hA.out
      clear hO hA
      go_wp2_with fail
      go_ret
      exact ⟨_, rfl, HO.out, HA.out⟩
end Go.Proofs.Ytcpifmhcebfglaa
