/- The program's Name and Names: what they answer. Conditions: sizes below 2^63. -/
import Derived.Test.YtcpifmhcebfglaaGrOk
import Derived.Test.YtcpifmhcebfglaaGrFb
import Derived.Lib.ConvBytes
import Derived.MapKept
import Derived.Carry
namespace Go.Proofs.Ytcpifmhcebfglaa
open Go Go.RowKit Go.Sort
set_option linter.unusedVariables false
theorem bytesWorld_below (w : World) (e : TypeId) (s : ByteArray) : Below w.heap.size w (Lib.bytesWorld w e s) :=
  ⟨rfl, rfl, rfl, by rw [Lib.bytesWorld_size]; omega, fun j hj => Lib.bytesWorld_at_old w e s j hj⟩
set_option maxRecDepth 100000 in
set_option maxHeartbeats 1600000 in
theorem name_any (s : ByteArray) (hs : s.size ≤ 9223372036854775000) (w : World) : Calls Try.prog 76 #[.string s] w fun e w' => e = .returned (.bool (nmB s)) ∧ Below w.heap.size w w' := by
  have hl := len_data s
  by_cases h1 : 1 ≤ s.size
  · have h1i : ¬ (s.size : Int) < 1 := by omega
    by_cases h2 : s.size ≤ 128
    · have h2i : ¬ (128 : Int) < (s.size : Int) := by omega
      have HP : Hid (nmB s = s.data.toList.all (fun c => decide (33 ≤ c.toNat) && decide (c.toNat ≤ 126))) := Lib.hid (by unfold nmB; rw [decide_eq_true h1, decide_eq_true h2, Bool.and_true, Bool.and_true])
      go_enter Try.func76, Try.ntmps76
      go_upto_region 3 with fail
      have hcv := Lib.run_convert_string_bytes (P := Try.prog) w 9 152 5 s Try.underlying9 Try.underlying152 Try.underlying5
      obtain ⟨cap, hcap⟩ : ∃ cap, grownCap w s.size 0 5 = cap := ⟨_, rfl⟩
      rw [hcap] at hcv
      have hcells : ∀ j (hj : j < s.size), (Lib.bytesWorld w 5 s).cell? ⟨w.heap.size, j, none⟩ = some (.int .u8 (s[j].toNat : Nat)) := fun j hj => by
        rw [Lib.bytesWorld_cell w 5 s j hj, List.getD_eq_getElem?_getD, List.getElem?_eq_getElem (by rw [hl]; exact hj)]; rfl
      have hbw := bytesWorld_below w 5 s
      generalize Lib.bytesWorld w 5 s = W1 at hcv hcells hbw
      clear hcap
      have HB := Lib.hid hbw
      have HC := Lib.hid hcells
      clear hbw hcells
      go_upto_block 0 with fail
      clear hcv
      go_wp2_with fail
      go_loopw [16] (fun i wr => ∃ k : Nat, k ≤ s.size ∧ i = .int .i64 k ∧ Hid ((s.data.toList.take k).all (fun c => decide (33 ≤ c.toNat) && decide (c.toNat ≤ 126)) = true) ∧ wr = W1) (fun i _ => s.size - (intOf i).toNat)
      case atStart => exact ⟨0, Nat.zero_le _, rfl, Lib.hid rfl, rfl⟩
      case round =>
        obtain ⟨k, hk, rfl, hz, rfl⟩ := hrel
        have hk0 : (0 : Int) ≤ (k : Int) := by omega
        by_cases hlt : k < s.size
        · have hki : (k : Int) < (s.size : Int) := by omega
          have hmem : s[k] ∈ s.data.toList := List.getElem_mem (by rw [hl]; exact hlt)
          have hcell := HC.out k hlt
          have HF0 : Hid (¬ (33 ≤ s[k].toNat ∧ s[k].toNat ≤ 126) → nmB s = false) := Lib.hid (fun hh => by
            rw [HP.out]
            cases e : s.data.toList.all (fun c => decide (33 ≤ c.toNat) && decide (c.toNat ≤ 126)) with
            | false => rfl
            | true => have := List.all_eq_true.1 e _ hmem; simp at this; omega)
          by_cases h3 : s[k].toNat < 33
          · have HF := Lib.hid (HF0.out (by omega))
            have h3i : (s[k].toNat : Int) < 33 := by omega
            clear hmem HF0
            go_wp2_with fail
            go_ret
            exact ⟨ret_bool HF.out.symm, HB.out⟩
          · have h3i : ¬ (s[k].toNat : Int) < 33 := by omega
            by_cases h4 : 126 < s[k].toNat
            · have HF := Lib.hid (HF0.out (by omega))
              have h4i : (126 : Int) < (s[k].toNat : Int) := by omega
              clear hmem HF0
              go_wp2_with fail
              go_ret
              exact ⟨ret_bool HF.out.symm, HB.out⟩
            · have h4i : ¬ (126 : Int) < (s[k].toNat : Int) := by omega
              have HS : Hid ((s.data.toList.take (k + 1)).all (fun c => decide (33 ≤ c.toNat) && decide (c.toNat ≤ 126)) = true) := Lib.hid (by
                rw [tk_data s k hlt, List.all_append, hz.out]; simp; omega)
              clear hmem HF0
              go_wp2_with fail
              go_roundw
              case rel => exact ⟨k + 1, by omega, by go_num, HS, by first | rfl | trivial⟩
              case measure => first | done | (simp [intOf]; done) | (simp [intOf]; omega)
        · have hki : ¬ (k : Int) < (s.size : Int) := by omega
          have HF := Lib.hid (show nmB s = true by
            rw [HP.out]
            have := hz.out
            rwa [List.take_of_length_le (by omega)] at this)
          go_wp2_with fail
          go_ret
          exact ⟨ret_bool HF.out.symm, HB.out⟩
    · have h2i : (128 : Int) < (s.size : Int) := by omega
      have HF : Hid (nmB s = false) := Lib.hid (by unfold nmB; rw [decide_eq_false h2, Bool.and_false])
      go_enter Try.func76, Try.ntmps76
      go_wp2_with fail
      go_ret
      exact ⟨ret_bool HF.out.symm, Below.refl _ _⟩
  · have h1i : (s.size : Int) < 1 := by omega
    have HF : Hid (nmB s = false) := Lib.hid (by unfold nmB; rw [decide_eq_false h1, Bool.and_false, Bool.false_and])
    go_enter Try.func76, Try.ntmps76
    go_wp2_with fail
    go_ret
    exact ⟨ret_bool HF.out.symm, Below.refl _ _⟩
theorem mapSB : Try.prog.underlying 223 = some (.map 9 4) := by kernel_rfl
theorem keyS : Try.prog.underlying 9 = some .string := by kernel_rfl
theorem zeroB (w : World) : (zeroValue 4).run Try.prog w = .ok (.bool false) w := by kernel_rfl
/-- a map of the texts that were seen -/
def Seen (b : Nat) (L : List ByteArray) (w : World) : Prop :=
  ∃ es clock, w.heap[b]? = some (.map es clock) ∧ (∀ e ∈ es.toList, ∃ s, e.key = .string s ∧ e.val = .bool true ∧ s ∈ L) ∧ ∀ s ∈ L, ∃ e ∈ es.toList, e.key = .string s
theorem Seen.lt {b : Nat} {L : List ByteArray} {w : World} (h : Seen b L w) : b < w.heap.size := by
  obtain ⟨es, clock, hb, _⟩ := h
  exact (Array.getElem?_eq_some_iff.1 hb).1
theorem Seen.below {b : Nat} {L : List ByteArray} {w w' : World} (h : Seen b L w) (hb : Below w.heap.size w w') : Seen b L w' := by
  have hlt := h.lt
  obtain ⟨es, clock, h1, h2, h3⟩ := h
  exact ⟨es, clock, (hb.block b hlt).trans h1, h2, h3⟩
theorem Seen.made (w : World) : Seen w.heap.size [] (w.alloc (.map #[] 0)) := ⟨#[], 0, (MapKept.heap_alloc w _).1, by simp, by simp⟩
theorem Seen.keys {es : Array MapEntry} {L : List ByteArray} (h : ∀ e ∈ es.toList, ∃ s, e.key = .string s ∧ e.val = .bool true ∧ s ∈ L) : ∀ x ∈ es.toList, MapKept.IsKey .string x.key := fun x hx => by
  obtain ⟨s, h1, _⟩ := h x hx
  rw [h1]; trivial
theorem Seen.look {b : Nat} {L : List ByteArray} {w : World} (h : Seen b L w) (s : ByteArray) : (Instr.lookup 223 (.map (some b)) (.string s) false).run Try.prog w = .ok (.bool (inT s L)) w := by
  obtain ⟨es, clock, hb, h2, h3⟩ := h
  have hk : MapKept.IsKey .string (.string s) := trivial
  rcases MapKept.findNow_spec hk es.toList 0 (Seen.keys h2) with ⟨h4, h5⟩ | ⟨j, e, h4, h5, h6⟩
  · have hn : inT s L = false := inT_no (fun hm => by obtain ⟨e, he, hq⟩ := h3 s hm; exact h5 e he hq)
    have hfk := MapKept.run_findKey (P := Try.prog) (w := w) keyS h4
    rw [hn]
    simp [Instr.lookup, run_underlying mapSB, MapKept.run_getObj_map hb, MapKept.run_checkKey keyS hk, hfk, zeroB, Result.andThen]
  · have hmem : e ∈ es.toList := List.mem_of_getElem? h5
    obtain ⟨t, q1, q2, q3⟩ := h2 e hmem
    rw [q1] at h6
    cases h6
    have hn : inT s L = true := inT_iff.2 q3
    have hfk := MapKept.run_findKey (P := Try.prog) (w := w) keyS h4
    rw [hn]
    simp [Instr.lookup, run_underlying mapSB, MapKept.run_getObj_map hb, MapKept.run_checkKey keyS hk, hfk, q2, Result.andThen]
theorem Seen.put {b : Nat} {L : List ByteArray} {w : World} (h : Seen b L w) (s : ByteArray) (hs : s ∉ L) : ∃ w', (Instr.mapUpdate 223 (.map (some b)) (.string s) (.bool true)).run Try.prog w = .ok () w' ∧ Seen b (L ++ [s]) w' ∧ Below b w w' := by
  obtain ⟨es, clock, hb, h2, h3⟩ := h
  have hk : MapKept.IsKey .string (.string s) := trivial
  have hlt := (Array.getElem?_eq_some_iff.1 hb).1
  rcases MapKept.findNow_spec hk es.toList 0 (Seen.keys h2) with ⟨h4, h5⟩ | ⟨j, e, h4, h5, h6⟩
  · refine ⟨{ w with heap := w.heap.setIfInBounds b (.map (es.push ⟨.string s, .bool true, clock⟩) (clock + 1)) }, ?_, ⟨_, _, (MapKept.heap_set hb).1, ?_, ?_⟩, ⟨rfl, rfl, rfl, by simp, fun k hk => (MapKept.heap_set hb).2 k (by omega)⟩⟩
    · simp [Instr.mapUpdate, run_underlying mapSB, MapKept.run_getObj_map hb, MapKept.run_checkKey keyS hk, MapKept.run_findKey keyS h4, MapKept.run_setObj_map _ hb, Result.andThen]
    · intro e he
      simp only [Array.toList_push, List.mem_append, List.mem_singleton] at he
      rcases he with he | rfl
      · obtain ⟨t, q1, q2, q3⟩ := h2 e he
        exact ⟨t, q1, q2, List.mem_append_left _ q3⟩
      · exact ⟨s, rfl, rfl, by simp⟩
    · intro t ht
      simp only [Array.toList_push, List.mem_append, List.mem_singleton] at ht ⊢
      rcases ht with ht | rfl
      · obtain ⟨e, he, hq⟩ := h3 t ht
        exact ⟨e, .inl he, hq⟩
      · exact ⟨_, .inr rfl, rfl⟩
  · have hmem : e ∈ es.toList := List.mem_of_getElem? h5
    obtain ⟨t, q1, q2, q3⟩ := h2 e hmem
    rw [q1] at h6
    cases h6
    exact absurd q3 hs
set_option maxRecDepth 100000 in
set_option maxHeartbeats 1600000 in
theorem names_any (l : List ByteArray) (v : Value) (hn : l.length ≤ 9000000000000000) (hz : ∀ x ∈ l, x.size ≤ 9223372036854775000) (w : World) (h : RowOf 1 encT l v w) : Calls Try.prog 147 #[v] w fun e w' => e = .returned (.int .i64 (namesF l)) ∧ Below w.heap.size w w' := by
  obtain ⟨ad, cap, rfl, hc, R⟩ := h.open'
  have HZ := Lib.hid hz
  clear hz h
  have hmk := @run_makeMap Try.prog
  go_enter Try.func147, Try.ntmps147
  go_upto_region 2 with fail
  have bel := (Below.refl w.heap.size w).alloc (Nat.le_refl _) (.map #[] 0)
  have S0 := Seen.made w
  have hsz : w.heap.size < (w.alloc (.map #[] 0)).heap.size := S0.lt
  generalize w.alloc (.map #[] 0) = W0 at bel S0 hsz ⊢
  generalize hk : w.heap.size = k0 at S0 bel hsz ⊢
  have HK := Lib.hid hk
  clear hk hmk
  have HR := Lib.hid (fun W (hb : Below k0 w W) => R.below (by rw [HK.out]; exact hb))
  go_upto_block 0 with fail
  go_wp2_with fail
  go_loopw [9] (fun i wr => ∃ k : Nat, k ≤ l.length ∧ i = .int .i64 k ∧ Hid (namesF l = nfL (l.take k) (l.drop k)) ∧ Hid (Seen k0 (l.take k) wr) ∧ Hid (Below k0 w wr)) (fun i _ => l.length - (intOf i).toNat)
  case atStart => exact ⟨0, Nat.zero_le _, rfl, Lib.hid rfl, Lib.hid S0, Lib.hid bel⟩
  case round =>
    clear S0 bel hsz
    obtain ⟨k, hk, rfl, hq, hS, hB⟩ := hrel
    rename World => WR
    have hk1 : (0 : Int) ≤ (k : Int) := by omega
    by_cases hlt : k < l.length
    · have hki : (k : Int) < (l.length : Int) := by omega
      have HT := Lib.hid (tk1 l hlt)
      have HM := Lib.hid (mem1 l hlt)
      have hd : l.drop k = l[k]! :: l.drop (k + 1) := by rw [getElem!_pos l k hlt]; exact List.drop_eq_getElem_cons hlt
      have HQ : Hid (namesF l = if nmB l[k]! = false then 9 else if inT l[k]! (l.take k) = true then 6 else nfL (l.take (k + 1)) (l.drop (k + 1))) := Lib.hid (by rw [hq.out, hd, HT.out]; rfl)
      have hnm := Lib.hid (name_any l[k]! (HZ.out _ HM.out) WR)
      obtain ⟨b, o, hdd, hcell⟩ := (HR.out _ hB.out).pick (by omega)
      subst hdd
      have c0 := hcell k hlt 0 _ rfl
      simp only [Nat.mul_one, Nat.add_zero] at c0
      clear hcell hd hq
      generalize l[k]! = x at c0 HQ hnm HM HT
      have hsS := hS.out.lt
      cases hb : nmB x with
      | false =>
        rw [hb] at hnm
        have HR : Hid (namesF l = 9) := Lib.hid (by rw [HQ.out, if_pos hb])
        clear hb
        have HB := Lib.hid hB.out
        go_wp2_with (first | (go_at_call 76; refine hnm.out.mono ?_; rintro e w3 ⟨rfl, hb3⟩))
        go_ret
        exact ⟨ret_num HR.out.symm, by rw [HK.out]; exact HB.out.trans (hb3.mono (Nat.le_of_lt hsS))⟩
      | true =>
        rw [hb] at hnm
        by_cases hm : x ∈ l.take k
        · have HR : Hid (namesF l = 6) := Lib.hid (by rw [HQ.out, if_neg (by rw [hb]; simp), if_pos (inT_iff.2 hm)])
          have hi := inT_iff.2 hm
          have HI := Lib.hid hi
          clear hb hm hi
          have HB := Lib.hid hB.out
          have HSS := Lib.hid hS.out
          clear hS
          go_upto_region 7 with (first | (go_at_call 76; refine hnm.out.mono ?_; rintro e w3 ⟨rfl, hb3⟩))
          have hlk := (HSS.out.below hb3).look x
          rw [HI.out] at hlk
          have HB3 := Lib.hid (HB.out.trans (hb3.mono (Nat.le_of_lt hsS)))
          go_wp2_with fail
          go_ret
          exact ⟨ret_num HR.out.symm, by rw [HK.out]; exact HB3.out⟩
        · have HR : Hid (namesF l = nfL (l.take (k + 1)) (l.drop (k + 1))) := Lib.hid (by rw [HQ.out, if_neg (by rw [hb]; simp), if_neg (by rw [inT_no hm]; simp)])
          have HM2 := Lib.hid hm
          have HI := Lib.hid (inT_no hm)
          clear hb hm
          have HB := Lib.hid hB.out
          have HSS := Lib.hid hS.out
          clear hS
          go_upto_region 7 with (first | (go_at_call 76; refine hnm.out.mono ?_; rintro e w3 ⟨rfl, hb3⟩))
          have S3 := HSS.out.below hb3
          have hlk := S3.look x
          rw [HI.out] at hlk
          obtain ⟨w4, hup, S4, B4⟩ := S3.put x HM2.out
          rw [← HT.out] at S4
          have HS4 := Lib.hid S4
          have HB4 := Lib.hid ((HB.out.trans (hb3.mono (Nat.le_of_lt hsS))).trans B4)
          clear S3 S4 B4 hb3
          go_wp2_with fail
          go_roundw
          case rel => exact ⟨k + 1, by omega, by go_num, HR, HS4, HB4⟩
          case measure => first | done | (simp [intOf]; done) | (simp [intOf]; omega)
    · have hki : ¬ (k : Int) < (l.length : Int) := by omega
      have HR : Hid (namesF l = 0) := Lib.hid (by rw [hq.out, List.drop_of_length_le (by omega)]; rfl)
      have HB := Lib.hid hB.out
      clear hq hS hB
      go_wp2_with fail
      go_ret
      exact ⟨ret_num HR.out.symm, by rw [HK.out]; exact HB.out⟩
end Go.Proofs.Ytcpifmhcebfglaa
