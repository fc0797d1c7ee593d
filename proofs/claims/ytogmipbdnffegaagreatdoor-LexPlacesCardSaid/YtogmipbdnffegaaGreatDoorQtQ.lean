/- lex.Quote: the token of a string. -/
import Derived.Test.YtogmipbdnffegaaGreatDoorMgQtB
import Derived.Laws.AppendOwn
namespace Go.Proofs.YtogmipbdnffegaaGreatDoor
open Go Go.RowKit Go.Sort
set_option linter.unusedVariables false
theorem qinfoS_parts : ∃ i, Tryz.prog.info? 9 = some i ∧ i.zero = some (.string ⟨#[]⟩) ∧ i.size = 1 ∧ i.bytes = 16 := by
  have h := qinfoS
  cases hi : Tryz.prog.info? 9 with
  | none => rw [hi] at h; cases h
  | some i =>
    rw [hi] at h
    simp only [Option.map_some, Option.some.injEq, Prod.mk.injEq] at h
    exact ⟨i, rfl, h.1, h.2.1, h.2.2⟩
def fourL : List Value := [.string ⟨#[92]⟩, .string ⟨#[92, 92]⟩, .string ⟨#[34]⟩, .string ⟨#[92, 34]⟩]
theorem ON.four {w : World} {s : Nat} (h : ON w s) : ∀ j u, fourL[j]? = some u → w.cell? ((⟨s, 0, none⟩ : Addr).add j) = some u := by
  intro j u hj
  rw [Addr.add_lit, Nat.zero_add]
  match j, hj with
  | 0, hj => injection hj with hj; subst hj; exact h.s0
  | 1, hj => injection hj with hj; subst hj; exact h.s1
  | 2, hj => injection hj with hj; subst hj; exact h.s2
  | 3, hj => injection hj with hj; subst hj; exact h.s3
theorem four_one : ∀ u ∈ fourL, u.oneCell' = true := by
  intro u hu
  simp only [fourL, List.mem_cons, List.mem_nil_iff, or_false] at hu
  rcases hu with rfl | rfl | rfl | rfl <;> rfl
theorem ON.of_owns {w : World} {base : Nat} {v : Value} (h : w.ownsRow base 9 1 v 4 fourL) : ∃ g cap, v = .slice (some ⟨g, 0, none⟩) 4 cap ∧ 4 ≤ cap ∧ base ≤ g ∧ g < w.heap.size ∧ ON w g := by
  rcases h.2 with ⟨-, h0⟩ | ⟨g, cap, cur, rfl, hb, hg, hn, -, hsz, htk⟩
  · cases h0
  · have hlt : g < w.heap.size := (Array.getElem?_eq_some_iff.1 hg).1
    have hc : ∀ i, i < 4 → w.cell? ⟨g, i, none⟩ = fourL[i]? := fun i hi => by
      rw [cell_of_row w g i cur 9 (0, 0) hg]
      have : (cur.toList.take (4 * 1))[i]? = fourL[i]? := by rw [htk]
      rw [List.getElem?_take_of_lt (by omega)] at this
      rw [← this, Array.getElem?_toList]
    exact ⟨g, cap, rfl, hn, hb, hlt, ⟨hc 0 (by decide), hc 1 (by decide), hc 2 (by decide), hc 3 (by decide)⟩⟩
/-- a new Replacer -/
structure NR4 (H : Nat) (w w' : World) (e : Ending) : Prop where
  ex : ∃ rb o cp, e = .returned (.pointer (some ⟨rb, 0, none⟩)) ∧ RP w' rb 0 0 .nilIface (.slice (some ⟨o, 0, none⟩) 4 cp) ∧ ON w' o ∧ 4 ≤ cp ∧ rb ≠ o ∧ H ≤ rb
  bel : Below H w w'
set_option maxRecDepth 100000 in
set_option maxHeartbeats 1600000 in
theorem new_any (s cs : Nat) (w : World) (hO : ON w s) : Calls Tryz.prog 34 #[.slice (some ⟨s, 0, none⟩) 4 cs] w fun e w' => NR4 w.heap.size w w' e := by
  obtain ⟨i0, hi, hz0, hz1, hz2⟩ := qinfoS_parts
  go_enter Tryz.func34, Tryz.ntmps34
  go_upto_region 3 with fail
  go_wp2_with (at_builtin; refine wpList_append_own _ rfl _ _ 24 rfl w.heap.size 9 i0 (.string ⟨#[]⟩) 1 16 Tryz.underlying24 hi hz0 hz1 hz2 rfl (by decide) _ 0 [] rfl ⟨rfl, .inl ⟨rfl, rfl⟩⟩ ⟨s, 0, none⟩ 4 cs fourL rfl rfl ?d1 ?d2 ?d3 ?d4 ?d5 ?_)
  try case d1 => exact hO.four
  try case d2 => exact four_one
  try case d3 => unfold maxLen; omega
  try case d4 => omega
  try case d5 => omega
  intro v5 w5 hown hgr _
  have hb5 : Below w.heap.size w w5 := (Below.refl _ _).grown hgr (Nat.le_refl _) (fun k hk => by cases hk)
  obtain ⟨g, cap, rfl, hcap, hge, hlt, hO5⟩ := ON.of_owns hown
  clear hown hgr hi hz0 hz1 hz2 hO
  go_wp2_with fail
  go_ret
  have hR : RP (w5.alloc (.cells #[.int .u32 0, .int .i32 0, .int .u32 0, .nilIface, .slice (some ⟨g, 0, none⟩) 4 cap] 79)) w5.heap.size 0 0 .nilIface (.slice (some ⟨g, 0, none⟩) 4 cap) := ⟨by go_simp, by go_simp, by go_simp, by go_simp, fun i => by go_simp⟩
  exact ⟨⟨w5.heap.size, g, cap, rfl, hR, hO5.below ((Below.refl _ _).alloc (Nat.le_refl _) _), hcap, by omega, hb5.size⟩, hb5.alloc hb5.size _⟩
theorem cntB_le (c : UInt8) (l : List UInt8) : cntB c l ≤ l.length := List.countP_le_length
theorem esc_le (s : ByteArray) (hs : s.size ≤ 1000) : (escL s.data.toList).length ≤ 3000 := by
  have h := escL_len s.data.toList
  have h1 := cntB_le 92 s.data.toList
  have h2 := cntB_le 34 s.data.toList
  have hll : s.data.toList.length = s.size := Array.length_toList
  omega
/-- the token of a string -/
def quoL (l : List UInt8) : List UInt8 := [34] ++ escL l ++ [34]
theorem quo_eq (l : List UInt8) : (⟨#[34]⟩ : ByteArray) ++ qbs l ++ ⟨#[34]⟩ = qbs ([34] ++ l ++ [34]) := by
  apply ByteArray.ext
  simp [qbs, ByteArray.data_append]
set_option maxRecDepth 100000 in
set_option maxHeartbeats 1600000 in
theorem quote_any (s : ByteArray) (hs : s.size ≤ 1000) (w : World) : Calls Tryz.prog 16 #[.string s] w fun e w' => e = .returned (.string (qbs (quoL s.data.toList))) ∧ Below w.heap.size w w' := by
  have hO1 : ON (w.alloc (.cells #[.string ⟨#[92]⟩, .string ⟨#[92, 92]⟩, .string ⟨#[34]⟩, .string ⟨#[92, 34]⟩] 9)) w.heap.size := ⟨by go_simp, by go_simp, by go_simp, by go_simp⟩
  have hb1 : Below w.heap.size w (w.alloc (.cells #[.string ⟨#[92]⟩, .string ⟨#[92, 92]⟩, .string ⟨#[34]⟩, .string ⟨#[92, 34]⟩] 9)) := (Below.refl _ _).alloc (Nat.le_refl _) _
  have hel := esc_le s hs
  have hsz : (qbs (escL s.data.toList)).size ≤ 3000 := by show (escL s.data.toList).toArray.size ≤ 3000; rw [List.size_toArray]; exact hel
  have hqq := quo_eq (escL s.data.toList)
  have HQ := Lib.hid hqq
  clear hqq hel
  go_enter Tryz.func16, Tryz.ntmps16
  go_upto_region 2 with (with_reducible refine (new_any w.heap.size 4 _ hO1).mono ?_; rintro e w2 hN; obtain ⟨rb, o, cp, rfl, hR, hO, hcp, hne, hH⟩ := hN.ex; have hb2 := hN.bel; clear hN)
  go_wp2_with (with_reducible refine (replace_any s hs _ rb o cp hcp _ _ hH hR hO hne).mono ?_; rintro e w4 ⟨rfl, hb4⟩)
  go_ret
  exact ⟨by show Ending.returned (Value.string _) = _; rw [HQ.out]; rfl, (hb1.trans (hb2.mono hb1.size)).trans (hb4.mono hb1.size)⟩
end Go.Proofs.YtogmipbdnffegaaGreatDoor
