/- The makers' words and messages. -/
import Derived.Test.YtmememehlfbgaaaDoorNoteRt
import Derived.Test.YtmememehlfbgaaaDoorSplitMath
import Derived.Test.YtmememehlfbgaaaDoorNStream
import Derived.Test.YtmememehlfbgaaaDoorShelfRep
import Derived.Lib.ReplaceLaws
namespace Go.Proofs.YtmememehlfbgaaaDoor
open Go Go.RowKit
set_option linter.unusedVariables false
def rep1 (c d x : UInt8) : UInt8 := if x = c then d else x
theorem replK (c d : UInt8) (n : Nat) : ∀ l : List UInt8, Lib.count l [c] = n → Lib.replaceK [c] [d] n l = l.map (rep1 c d) := by
  have same : ∀ l : List UInt8, (∀ x ∈ l, x ≠ c) → l.map (rep1 c d) = l := fun l h => by
    conv => rhs; rw [← List.map_id l]
    apply List.map_congr_left
    intro x hx
    unfold rep1; rw [if_neg (h x hx)]; rfl
  induction n with
  | zero =>
    intro l h
    have h1 : Lib.index l [c] = -1 := by
      rcases Lib.index_spec l [c] with ⟨h1, _⟩ | ⟨i, h1, _⟩
      · exact h1
      · have := Lib.count_hit (by simp) h1; omega
    rw [Lib.index_one] at h1
    rw [same l (idx_none h1)]; rfl
  | succ n ih =>
    intro l h
    rcases Lib.index_spec l [c] with ⟨h1, _⟩ | ⟨i, h1, _⟩
    · have := Lib.count_miss h1; omega
    · have h2 := Lib.count_hit (by simp) h1
      rw [Lib.replaceK_hit [c] [d] n l i h1]
      have h3 := h1
      rw [Lib.index_one] at h3
      obtain ⟨hl, he, hno⟩ := idx_hit h3
      have e1 : l = l.take i ++ c :: l.drop (i + 1) := by
        conv => lhs; rw [← List.take_append_drop i l, List.drop_eq_getElem_cons hl, he]
      rw [ih _ (by simp at h2 ⊢; omega)]
      conv => rhs; rw [e1]
      rw [List.map_append, List.map_cons, same (l.take i) (fun x hx => by
        obtain ⟨j, hj, rfl⟩ := List.getElem_of_mem hx
        simp at hj
        rw [List.getElem_take]; exact hno j (by omega))]
      have e2 : rep1 c d c = d := by unfold rep1; rw [if_pos rfl]
      rw [e2]; simp
theorem replAll (c d : UInt8) (l : List UInt8) (h : c ≠ d) : Lib.replaceAll l [c] [d] = l.map (rep1 c d) := by
  unfold Lib.replaceAll Lib.replace
  have e : ([c] == [d]) = false := by simpa using h
  rw [e]
  simp only [Bool.false_eq_true, if_false]
  have e2 : Lib.replaceNum l [c] (-1) = Lib.count l [c] := by unfold Lib.replaceNum; rw [if_pos (Or.inl (by decide))]
  rw [e2]; exact replK c d _ l rfl
/-- a word of the makers -/
def wordOk (q : ByteArray) : Prop := 1 ≤ q.size ∧ q.size ≤ 8 ∧ wib 33 126 [58, 34] q.data.toList = true
theorem word_clean (l : List UInt8) (h : wi 33 126 l = true) : wib 33 126 [58, 34] ((l.map (rep1 58 99)).map (rep1 34 113)) = true := by
  unfold wib
  unfold wi at h
  rw [List.all_eq_true] at h ⊢
  intro x hx
  simp only [List.mem_map] at hx
  obtain ⟨y, ⟨z, hz, rfl⟩, rfl⟩ := hx
  have h1 := h z hz
  simp only [Bool.and_eq_true, decide_eq_true_eq] at h1
  unfold rep1
  by_cases e1 : z = 58
  · rw [if_pos e1]; decide
  · rw [if_neg e1]
    by_cases e2 : z = 34
    · rw [if_pos e2]; decide
    · rw [if_neg e2]
      simp only [Bool.and_eq_true, decide_eq_true_eq, Bool.not_eq_true']
      refine ⟨h1, ?_⟩
      simp [e1, e2]
theorem conv_byte (r : Nat) (hr : r ≤ 255) (w : World) : (convert 63 9 (.slice (some ⟨w.heap.size, 0, none⟩) 1 1)).run Tryd.prog (w.alloc (.cells #[.int .u8 (r : Int)] 5)) = .ok (.string ⟨#[UInt8.ofNat r]⟩) (w.alloc (.cells #[.int .u8 (r : Int)] 5)) := by
  refine run_convert_bytes_back (P := Tryd.prog) (w.alloc (.cells #[.int .u8 (r : Int)] 5)) 63 9 5 ⟨w.heap.size, 0, none⟩ 1 [UInt8.ofNat r] Tryd.underlying63 Tryd.underlying5 Tryd.underlying9 ?_
  intro q hq
  match q, hq with
  | 0, _ =>
    have e : ((UInt8.ofNat r).toNat : Int) = r := by simp; omega
    show World.cell? _ ⟨w.heap.size, 0, none⟩ = some (.int .u8 ((UInt8.ofNat r).toNat : Int))
    rw [e]; go_simp
def SomeStr (P : ByteArray → Prop) (R : World → Prop) (e : Ending) (w' : World) : Prop := ∃ q, P q ∧ e = .returned (.string q) ∧ R w'
/-- what the loop that makes a word knows -/
def Wd (b : Nat) (a : Option Addr) (len cap k : Nat) (w : World) (j : Nat) (v : Value) (wr : World) : Prop :=
  ∃ s : ByteArray, v = .string s ∧ s.size = j ∧ wi 33 126 s.data.toList = true ∧ Adv b a len cap k (1 + j) w wr
set_option maxRecDepth 100000 in
set_option maxHeartbeats 2000000 in
theorem word_any (b len cap : Nat) (a : Option Addr) (k : Nat) (hk : k ≤ 800000) (w : World) (hS : Str b a len cap k w) (hM : Mx w) (hbm : b ≠ 0) :
    Calls Tryd.prog 45 #[.pointer (some ⟨b, 0, none⟩)] w (SomeStr wordOk (Adv b a len cap k 9 w)) := by
  have HM := Lib.hid hM
  clear hM
  go_enter Tryd.func45, Tryd.ntmps45
  go_wp2_with fail
  refine (range_any b len cap a k 1 8 (by omega) (by omega) (by omega) _ hS).mono ?_
  rintro e w1 ⟨n, ⟨h1, h2⟩, rfl, A1⟩
  go_wp2_with fail
  go_loopw [3, 6] (fun v i wr => ∃ j : Nat, j ≤ n ∧ i = .int .i64 j ∧ Wd b a len cap k w j v wr) (fun _ i _ => n - (intOf i).toNat)
  case atStart => exact ⟨0, Nat.zero_le _, rfl, ⟨⟨#[]⟩, rfl, rfl, rfl, A1⟩⟩
  case round =>
    obtain ⟨j, hj, rfl, ⟨s, rfl, hs, hw, A⟩⟩ := hrel
    clear A1
    have hs8 : s.size ≤ 8 := by omega
    have HJ := Lib.hid hs
    have HW := Lib.hid hw
    clear hs hw
    by_cases hlt : j < n
    · obtain ⟨k1, hk1, S1⟩ := A.st
      go_wp2_with fail
      refine (range_any b len cap a k1 33 126 (by omega) (by omega) (by omega) _ S1).mono ?_
      rintro e w2 ⟨r, ⟨r1, r2⟩, rfl, A2⟩
      have hconv := conv_byte r (by omega) w2
      have hu8 : IntKind.u8.wrap (r : Int) = (r : Int) := by rw [IntKind.wrap_u8]; omega
      have hsum : ¬ 9223372036854775807 < s.size + 1 := by omega
      have hsz : (s ++ ⟨#[UInt8.ofNat r]⟩).size = s.size + 1 := by rw [ByteArray.size_append]; rfl
      have hwi : wi 33 126 (s ++ ⟨#[UInt8.ofNat r]⟩).data.toList = true := by
        have e : (s ++ ⟨#[UInt8.ofNat r]⟩).data.toList = s.data.toList ++ [UInt8.ofNat r] := by simp
        rw [e, wi_snoc, HW.out]
        have e2 : (UInt8.ofNat r).toNat = r := by simp; omega
        rw [e2]; simp; omega
      generalize UInt8.ofNat r = c at hconv hsz hwi
      have HZ := Lib.hid hsz
      have HI := Lib.hid hwi
      have A3 := adv_below (adv_trans A hk1 A2 (Nat.le_refl _)) ((Below.refl _ _).alloc (Nat.le_refl _) (.cells #[.int .u8 (r : Int)] 5))
      clear hsz hwi A2 S1
      go_wp2_with fail
      go_roundw
      case rel => exact ⟨j + 1, by omega, by go_num, ⟨_, rfl, by rw [HZ.out, HJ.out], HI.out, adv_mono A3 (by omega)⟩⟩
      case measure => simp [intOf]; omega
    · have hjn : j = n := by omega
      have hle : s.size ≤ 8 := hs8
      have HJN := Lib.hid hjn
      clear hjn
      go_wp2_with fail
      obtain ⟨m, hm0⟩ := HM.out
      have hm : wr.cell? ⟨0, 0, none⟩ = some (.int .i64 m) := A.gr.cell hm0 (by simpa using fun e => hbm e.symm)
      have hcb : ∀ (x : ByteArray) (c d : UInt8), x.size ≤ 8 → x.size + Lib.countB x ⟨#[c]⟩ * (⟨#[d]⟩ : ByteArray).size ≤ 140737488355328 := fun x c d hx => by
        have h9 := Lib.countB_le ⟨#[c]⟩ (by show 1 ≤ 1; omega) x.size x (Nat.le_refl _)
        have h8 : (⟨#[d]⟩ : ByteArray).size = 1 := rfl
        rw [h8]; omega
      refine (Tryd.strings_ReplaceAll s ⟨#[58]⟩ ⟨#[99]⟩ m wr (by omega) hm (by decide) (hcb s 58 99 hle)).mono ?_
      rintro e w2 ⟨rfl, hb2⟩
      have e1 : Lib.replaceAll s.data.toList (⟨#[58]⟩ : ByteArray).data.toList (⟨#[99]⟩ : ByteArray).data.toList = s.data.toList.map (rep1 58 99) := replAll 58 99 _ (by decide)
      rw [e1]
      clear e1
      have z1 : (⟨(s.data.toList.map (rep1 58 99)).toArray⟩ : ByteArray).size = s.size := by rw [ba_size]; simp
      have hl1 : (⟨(s.data.toList.map (rep1 58 99)).toArray⟩ : ByteArray).data.toList = s.data.toList.map (rep1 58 99) := ba_list _
      generalize (⟨(s.data.toList.map (rep1 58 99)).toArray⟩ : ByteArray) = s1 at z1 hl1 ⊢
      have hle1 : s1.size ≤ 8 := by omega
      have Z1 := Lib.hid z1
      have L1 := Lib.hid hl1
      have hm2 : w2.cell? ⟨0, 0, none⟩ = some (.int .i64 m) := (hb2.cell (p := ⟨0, 0, none⟩) (World.block_lt_of_cell? wr _ hm)).trans hm
      have HM2 := Lib.hid hm2
      clear z1 hl1 hm hm0 hm2
      go_wp2_with fail
      refine (Tryd.strings_ReplaceAll s1 ⟨#[34]⟩ ⟨#[113]⟩ m w2 (by omega) HM2.out (by decide) (hcb s1 34 113 hle1)).mono ?_
      rintro e w3 ⟨rfl, hb3⟩
      have e1 : Lib.replaceAll s1.data.toList (⟨#[34]⟩ : ByteArray).data.toList (⟨#[113]⟩ : ByteArray).data.toList = s1.data.toList.map (rep1 34 113) := replAll 34 113 _ (by decide)
      rw [e1]
      clear e1
      have z2 : (⟨(s1.data.toList.map (rep1 34 113)).toArray⟩ : ByteArray).size = s1.size := by rw [ba_size]; simp
      have hl2 : (⟨(s1.data.toList.map (rep1 34 113)).toArray⟩ : ByteArray).data.toList = s1.data.toList.map (rep1 34 113) := ba_list _
      generalize (⟨(s1.data.toList.map (rep1 34 113)).toArray⟩ : ByteArray) = s2 at z2 hl2 ⊢
      have hok : wordOk s2 := by
        refine ⟨?_, ?_, ?_⟩
        · rw [z2, Z1.out, HJ.out, HJN.out]; exact h1
        · rw [z2, Z1.out]; exact hle
        · rw [hl2, L1.out]; exact word_clean _ HW.out
      have HOK := Lib.hid hok
      clear z2 hl2 hok
      go_wp2_with fail
      go_ret
      exact ⟨s2, HOK.out, rfl, adv_mono (adv_below (adv_below A hb2) hb3) (by omega)⟩
end Go.Proofs.YtmememehlfbgaaaDoor
