/- The reference's ReadBits. -/
import Derived.Test.YtogmipbdnffegaaGreatDoorMgRd
import Derived.Test.YtogmipbdnffegaaGreatDoorMgRfDec
import Derived.Test.YtogmipbdnffegaaGreatDoorMgRfDig
import Derived.Laws.RangeString
import Derived.Laws.RangeAny
namespace Go.Proofs.YtogmipbdnffegaaGreatDoor
open Go Go.RowKit
set_option linter.unusedVariables false
theorem dig_all {d : ByteArray} (h : allB (fun c => isDig c.toNat) d = true) : ∀ k (hk : k < d.size), 48 ≤ d[k].toNat ∧ d[k].toNat ≤ 57 := fun k hk => isDig_yes.1 (allB_yes h k hk)
theorem dig_some {d : ByteArray} (h : allB (fun c => isDig c.toNat) d = false) : ¬ ∀ k (hk : k < d.size), 48 ≤ d[k].toNat ∧ d[k].toNat ≤ 57 := fun ha => by
  obtain ⟨k, hk, hf⟩ := allB_no h
  have := isDig_yes.2 (ha k hk)
  rw [this] at hf; cases hf
theorem dok_all {size : Nat} {d : ByteArray} (h : allB (fun c => digOk size c.toNat) d = true) : ∀ k, k < d.size → digOk size (dgt d k) = true := fun k hk => by rw [dgt_get hk]; exact allB_yes h _ (by omega)
theorem dok_some {size : Nat} {d : ByteArray} (h : allB (fun c => digOk size c.toNat) d = false) : ¬ ∀ k, k < d.size → digOk size (dgt d k) = true := fun ha => by
  obtain ⟨k, hk, hf⟩ := allB_no h
  have h2 := ha (d.size - 1 - k) (by omega)
  rw [dgt_get (by omega)] at h2
  have e : d.size - 1 - (d.size - 1 - k) = k := by omega
  simp only [e] at h2
  rw [h2] at hf; cases hf
theorem deca_form {n : Nat} {d : ByteArray} {v : Value} (h : DecA n d v) : ∃ a b c e : Int, v = .tuple #[.agg #[.int .i64 a, .int .u64 b, .int .u64 c], .int .i64 e] := by
  cases h <;> exact ⟨_, _, _, _, rfl⟩
theorem diga_form {n size : Nat} {d : ByteArray} {v : Value} (h : DigA n size d v) : ∃ a b c e : Int, v = .tuple #[.agg #[.int .i64 a, .int .u64 b, .int .u64 c], .int .i64 e] := by
  cases h <;> exact ⟨_, _, _, _, rfl⟩
theorem mz_of (c : Nat) : mz (c : Int) = if c = 100 then 99 else dw c := by
  unfold mz dw
  repeat' split
  all_goals omega
end Go.Proofs.YtogmipbdnffegaaGreatDoor
