/- The example of the chapter on trees. -/
import Derived.Test.YtpjnjcljaoaceaaSySameP
import Derived.Test.YtpjnjcljaoaceaaSyMeas
import Derived.Test.YtpjnjcljaoaceaaShelf
import Derived.Lib.BufferRead
import Derived.RegionTactic
import Derived.Deep.RegionWith
import Derived.Lib.QuietBelow
import Derived.Lib.ConvBytes
import Derived.Lib.AtoiErrMem
namespace Go.Proofs.Ytpjnjcljaoaceaa
open Go Go.RowKit Go.Sort
set_option linter.unusedVariables false
theorem ib (s : ByteArray) (c : Int) (n : Int) (h : Lib.indexByte s.data.toList c.toNat.toUInt8 = n) (w : World) : Calls Try.prog 37 #[.string s, .int .u8 c] w fun e w' => e = .returned (.int .i64 n) ∧ w = w' :=
  (Try.strings_IndexByte s c w).mono fun _ _ ⟨a, b⟩ => ⟨by rw [a, h], b.symm⟩
theorem set3 {w : World} {p : Nat} {a b c a' b' c' : Value} (h0 : w.cell? ⟨p, 0, none⟩ = some a) (h1 : w.cell? ⟨p, 1, none⟩ = some b) (h2 : w.cell? ⟨p, 2, none⟩ = some c) (hf : ∀ o, w.frozen? ⟨p, o, none⟩ = false) :
    let W := ((w.setCell ⟨p, 0, none⟩ a').setCell ⟨p, 1, none⟩ b').setCell ⟨p, 2, none⟩ c'
    W.cell? ⟨p, 0, none⟩ = some a' ∧ W.cell? ⟨p, 1, none⟩ = some b' ∧ W.cell? ⟨p, 2, none⟩ = some c' := by
  have f0 := hf 0
  have f1 := hf 1
  have f2 := hf 2
  refine ⟨by go_simp, by go_simp, by go_simp⟩
def nq (nm : ByteArray) : Nd := .mk 79 0 0 nm ⟨#[]⟩ 0 0 0 false none 0 []
def nqV (nm : ByteArray) : Value := .agg #[.int .i64 79, .int .i64 0, .int .i64 0, .string nm, .string ⟨#[]⟩, .int .i64 0, .int .u64 0, .int .u64 0, .bool false, .slice none 0 0]
set_option maxRecDepth 100000 in
set_option maxHeartbeats 2000000 in
theorem formExpr79 (w : World) : Calls Try.prog 32 #[.int .i64 79] w fun e w' => e = .returned (.agg #[.string ⟨#[69, 117, 116]⟩, .string ⟨#[]⟩, .string ⟨#[78]⟩]) ∧ Below w.heap.size w w' := by
  go_enter Try.func32, Try.ntmps32
  go_wp2_with fail
  exact bodyPost_ret (v := .agg #[.string ⟨#[69, 117, 116]⟩, .string ⟨#[]⟩, .string ⟨#[78]⟩]) (by simp [results, Try.results32, go_sem]) rfl ⟨rfl, (Below.refl _ _).alloc (Nat.le_refl _) _⟩
set_option maxRecDepth 100000 in
set_option maxHeartbeats 2000000 in
theorem form79 (w : World) : Calls Try.prog 21 #[.int .i64 79] w fun e w' => e = .returned (.agg #[.string ⟨#[69, 117, 116]⟩, .string ⟨#[]⟩, .string ⟨#[78]⟩]) ∧ Below w.heap.size w w' := by
  obtain ⟨W1, hW1⟩ : ∃ W, W = w.alloc (.cells #[.string ⟨#[]⟩, .string ⟨#[]⟩, .string ⟨#[]⟩] 55) := ⟨_, rfl⟩
  have b0 : Below w.heap.size w W1 := by rw [hW1]; exact (Below.refl _ _).alloc (Nat.le_refl _) _
  have x0 : W1.cell? ⟨w.heap.size, 0, none⟩ = some (.string ⟨#[]⟩) := by rw [hW1]; go_simp
  have x1 : W1.cell? ⟨w.heap.size, 1, none⟩ = some (.string ⟨#[]⟩) := by rw [hW1]; go_simp
  have x2 : W1.cell? ⟨w.heap.size, 2, none⟩ = some (.string ⟨#[]⟩) := by rw [hW1]; go_simp
  have y0 : ∀ o, W1.frozen? ⟨w.heap.size, o, none⟩ = false := by rw [hW1]; intro o; go_simp
  have hz : w.heap.size < W1.heap.size := World.block_lt_of_cell? W1 _ x0
  go_enter Try.func21, Try.ntmps21
  go_upto_region 1 with fail
  rw [← hW1]
  clear hW1
  go_wp2_with (refine (formExpr79 _).mono ?_; rintro e w3 ⟨rfl, hb3⟩; obtain ⟨hc, hf⟩ := bcell hb3; have z0 := (hc _ 0 hz).trans x0; have z1 := (hc _ 1 hz).trans x1; have z2 := (hc _ 2 hz).trans x2; have v0 := fun o => (hf _ o hz).trans (y0 o); clear hc hf x0 x1 x2 y0)
  obtain ⟨q0, q1, q2⟩ := set3 (a' := .string ⟨#[69, 117, 116]⟩) (b' := .string ⟨#[]⟩) (c' := .string ⟨#[78]⟩) z0 z1 z2 v0
  exact bodyPost_ret (v := .agg #[.string ⟨#[69, 117, 116]⟩, .string ⟨#[]⟩, .string ⟨#[78]⟩]) (by simp [results, Try.results21, go_sem, q0, q1, q2]) rfl ⟨rfl, (((b0.trans (hb3.mono b0.size)).setCell (Nat.le_refl _) _).setCell (Nat.le_refl _) _).setCell (Nat.le_refl _) _⟩
set_option maxRecDepth 100000 in
set_option maxHeartbeats 2000000 in
theorem isPrintable0 (w : World) : Calls Try.prog 41 #[.string ⟨#[]⟩] w fun e w' => e = .returned (.bool true) ∧ Below w.heap.size w w' := by
  have hcv := Lib.run_convert_string_bytes (P := Try.prog) w 9 58 5 ⟨#[]⟩ Try.underlying9 Try.underlying58 Try.underlying5
  have hb : Below w.heap.size w (Lib.bytesWorld w 5 ⟨#[]⟩) := Lib.bytesWorld_below _ _ _
  generalize Lib.bytesWorld w 5 ⟨#[]⟩ = W1 at *
  generalize grownCap w (ByteArray.mk #[]).size 0 5 = cp at *
  go_enter Try.func41, Try.ntmps41
  go_wp2_with fail
  go_loopw [8] (fun i wr => i = .int .i64 0 ∧ wr = W1) (fun _ _ => 0)
  case atStart => exact ⟨rfl, rfl⟩
  case round =>
    obtain ⟨rfl, rfl⟩ := hrel
    go_wp2_with fail
    go_ret
    exact ⟨rfl, hb⟩
set_option maxRecDepth 100000 in
set_option maxHeartbeats 2000000 in
theorem match0 (w : World) : Calls Try.prog 24 #[.string ⟨#[]⟩, .slice none 0 0] w fun e w' => e = .returned (.tuple #[.slice none 0 0, .bool true]) ∧ w = w' := by
  go_enter Try.func24, Try.ntmps24
  go_wp2_with fail
  go_loopw [0, 6] (fun i c wr => i = .string ⟨#[]⟩ ∧ c = .slice none 0 0 ∧ wr = w) (fun _ _ _ => 0)
  case atStart => exact ⟨rfl, rfl, rfl⟩
  case round =>
    obtain ⟨rfl, rfl, rfl⟩ := hrel
    go_wp2_with fail
    go_ret2
    exact ⟨rfl, rfl⟩
set_option maxRecDepth 100000 in
set_option maxHeartbeats 2000000 in
theorem selects79 (nm : ByteArray) (w : World) : Calls Try.prog 27 #[nqV nm] w fun e w' => e = .returned (.bool false) ∧ Below w.heap.size w w' := by
  unfold nqV
  go_enter Try.func27, Try.ntmps27
  go_wp2_with fail
  go_ret
  exact ⟨rfl, (Below.refl _ _).alloc (Nat.le_refl _) _⟩
set_option maxRecDepth 100000 in
set_option maxHeartbeats 2000000 in
theorem ambiguous79 (nm : ByteArray) (w : World) : Calls Try.prog 25 #[nqV nm] w fun e w' => e = .returned (.bool false) ∧ Below w.heap.size w w' := by
  unfold nqV
  go_enter Try.func25, Try.ntmps25
  go_wp2_with fail
  go_ret
  exact ⟨rfl, (Below.refl _ _).alloc (Nat.le_refl _) _⟩
set_option maxRecDepth 100000 in
set_option maxHeartbeats 2000000 in
theorem narrow79 (nm : ByteArray) (w : World) : Calls Try.prog 26 #[nqV nm, .int .u8 69, .slice none 0 0] w fun e w' => e = .returned (.tuple #[]) ∧ Below w.heap.size w w' := by
  have hs := selects79 nm
  unfold nqV at *
  have HS := Lib.hid hs
  clear hs
  go_enter Try.func26, Try.ntmps26
  go_wp2_with (refine (HS.out _).mono ?_; rintro e w3 ⟨rfl, hb3⟩; have x0 : w3.cell? ⟨w.heap.size, 0, none⟩ = some (.int .i64 79) := by (rw [(bcell hb3).1 _ _ (by simp)]; go_simp))
  exact bodyPost_end (v := .tuple #[]) (by simp [results, Try.results26, go_sem]) rfl ⟨rfl, ((Below.refl _ _).alloc (Nat.le_refl _) _).trans (hb3.mono (by simp))⟩
set_option maxRecDepth 100000 in
set_option maxHeartbeats 2000000 in
theorem inQuoted_q (w : World) : Calls Try.prog 48 #[.int .u8 113] w fun e w' => e = .returned (.bool true) ∧ w = w' := by
  go_enter Try.func48, Try.ntmps48
  go_wp2_with (refine (ib _ _ (-1) (by decide) _).mono ?_; rintro e w3 ⟨rfl, rfl⟩)
  go_ret
  exact ⟨rfl, rfl⟩
set_option maxRecDepth 100000 in
set_option maxHeartbeats 2000000 in
theorem span_q (w : World) : Calls Try.prog 47 #[.string ⟨#[113]⟩, .func (.func 48) #[] #[]] w fun e w' => e = .returned (.int .i64 1) ∧ w = w' := by
  go_enter Try.func47, Try.ntmps47
  go_wp2_with fail
  go_loopw [5] (fun i wr => (i = .int .i64 0 ∨ i = .int .i64 1) ∧ wr = w) (fun i _ => 1 - (intOf i).toNat)
  case atStart => exact ⟨.inl rfl, rfl⟩
  case round =>
    obtain ⟨rfl | rfl, rfl⟩ := hrel
    · go_wp2_with (refine (inQuoted_q _).mono ?_; rintro e w3 ⟨rfl, rfl⟩)
      go_round
      case rel => exact ⟨.inr rfl, trivial⟩
      case measure => simp [intOf]
    · go_wp2_with fail
      go_ret
      exact ⟨rfl, rfl⟩
set_option maxRecDepth 100000 in
set_option maxHeartbeats 2000000 in
theorem quoted_q (w : World) : Calls Try.prog 39 #[.string ⟨#[113]⟩] w fun e w' => e = .returned (.bool true) ∧ w = w' := by
  have e0 : ¬ (ByteArray.mk #[113]).toList = (ByteArray.mk #[]).toList := by rw [ByteArray.toList_eq, ByteArray.toList_eq]; decide
  go_enter Try.func39, Try.ntmps39
  go_wp2_with (refine (span_q _).mono ?_; rintro e w3 ⟨rfl, rfl⟩)
  go_ret
  exact ⟨rfl, rfl⟩
set_option maxRecDepth 100000 in
set_option maxHeartbeats 2000000 in
theorem belongs79 (w : World) : Calls Try.prog 22 #[.int .i64 79, .int .u8 69] w fun e w' => e = .returned (.bool true) ∧ Below w.heap.size w w' := by
  have hfield : ∀ w, (Instr.field 55 (.agg #[.string ⟨#[69, 117, 116]⟩, .string ⟨#[]⟩, .string ⟨#[78]⟩]) 0).run Try.prog w = .ok (.string ⟨#[69, 117, 116]⟩) w := fun _ => by kernel_rfl
  go_enter Try.func22, Try.ntmps22
  go_wp2_with (first | (refine (form79 _).mono ?_; rintro e w3 ⟨rfl, hb3⟩) | (refine (ib ⟨#[69, 117, 116]⟩ 69 0 (by decide) _).mono ?_; rintro e w4 ⟨rfl, rfl⟩))
  go_ret
  exact ⟨rfl, hb3⟩
/-- the closure that looks for a letter in "N" -/
theorem has_N (c : Int) (R : Bool) (n : Int) (h : Lib.indexByte [78] c.toNat.toUInt8 = n) (hR : decide (0 ≤ n) = R) (b : Nat) (w : World) (hb : w.cell? ⟨b, 0, none⟩ = some (.string ⟨#[78]⟩)) : Calls Try.prog 38 (#[.int .u8 c] ++ #[.pointer (some ⟨b, 0, none⟩)]) w fun e w' => e = .returned (.bool R) ∧ w = w' := by
  go_enter Try.func38, Try.ntmps38
  go_wp2_with (refine (ib ⟨#[78]⟩ c n h _).mono ?_; rintro e w4 ⟨rfl, rfl⟩)
  go_ret
  exact ⟨by rw [← hR]; rfl, rfl⟩
end Go.Proofs.Ytpjnjcljaoaceaa
