/- What a row's first world gives a law of one slice of integers. -/
import Derived.Test.YtogmipbdnffegaaGreatDoorLxGlo
import Derived.Test.YtogmipbdnffegaaGreatDoorMgLpB
namespace Go.Proofs.YtogmipbdnffegaaGreatDoor
open Go.ChangeShapes Go.WideShapes Go.ChangeAt Go.RowKit
set_option linter.unusedVariables false
theorem sl_of_trod {H : Type} {enc : TypeId × Value → H} {W : World} {a0 : Option Addr} {len0 cap0 : Nat} {d0 : DataW H} {p0 : List MemPlace} {hh : Bool} {ts : List TypeId} {ds : List (DataW H)}
    (h0 : DataW.Trod enc Tryz.prog W 0 (fun _ => true) hh 28 (.slice a0 len0 cap0) d0 p0) (hsz : (DataW.weightsEach Tryz.prog (28 :: ts) (d0 :: ds)).all (· ≤ reachBytes) = true) : Sl a0 len0 W := by
  obtain ⟨fuel, hf⟩ := h0
  rcases open_ints Tryz.underlying28 Tryz.underlying3 (by kernel_rfl) hf with ⟨hcs, _⟩ | ⟨x, l, c, zs, hcs, _, hl, hm, hz, hx, hcell, hwz⟩
  · simp [Value.cells] at hcs
    obtain ⟨rfl, rfl, rfl⟩ := hcs
    exact ⟨by decide, fun j hj => by omega⟩
  · simp [Value.cells] at hcs
    obtain ⟨rfl, rfl, rfl⟩ := hcs
    simp only [if_true] at hz
    simp only [Prod.mk.injEq] at hx
    obtain ⟨rfl, _⟩ := hx
    have hw := sized_slice hsz (j := 0) (t := 28) (e := 3) rfl rfl Tryz.underlying28
    have h8 : Tryz.prog.bytesOf 3 = 8 := by kernel_rfl
    have hr := reachBytes_lt
    have e3 : (2 : Nat) ^ 47 = 140737488355328 := by decide
    rw [h8] at hw
    simp [lits] at hw
    refine ⟨by omega, fun j hj => ?_⟩
    have hc := hcell j (by omega)
    obtain ⟨bl, off, spot⟩ := x
    have hspot : spot = none := by simpa [Addr.add] using World.cell?_spot (hcell 0 (by omega))
    subst hspot
    have hadd : (⟨bl, off, none⟩ : Addr).add j = ⟨bl, off + j, none⟩ := by unfold Addr.add; split <;> simp_all
    rw [hadd] at hc
    exact ⟨bl, off, zs.getD j 0, rfl, hc⟩
end Go.Proofs.YtogmipbdnffegaaGreatDoor
