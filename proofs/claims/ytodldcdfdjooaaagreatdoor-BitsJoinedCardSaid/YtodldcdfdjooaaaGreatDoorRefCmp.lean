/- The reference's One, Opposite, truthOf, same, Compared, below. No condition but lengths. -/
import Derived.Test.YtodldcdfdjooaaaGreatDoorRefB2
import Derived.Test.YtodldcdfdjooaaaGreatDoorEach
import Derived.Laws.IdiomStrings
namespace Go.Proofs.YtodldcdfdjooaaaGreatDoor
open Go Go.RowKit Go.Sort
set_option linter.unusedVariables false
def oneB (c : Nat) : UInt8 := if c = 116 then 49 else if c = 102 then 48 else 120
def oppN (c : Nat) : Nat := if c = 116 then 102 else if c = 102 then 116 else 117
def truN (b : Bool) : Nat := if b then 116 else 102
theorem row8_one {w : World} {bl : Nat} {c : UInt8} (h : w.cell? ⟨bl, 0, none⟩ = some (.int .u8 (c.toNat : Int))) : Row8 w (.slice (some ⟨bl, 0, none⟩) 1 1) [c] :=
  ⟨⟨some ⟨bl, 0, none⟩, 1, rfl, .inr ⟨bl, 0, rfl, fun q hq => by
    have : q = 0 := by simpa using hq
    subst this; exact h⟩⟩, fun a n c e => by injection e; omega⟩
set_option maxRecDepth 100000 in
set_option maxHeartbeats 800000 in
theorem one_is (c : Nat) (hc : c = 116 ∨ c = 102 ∨ c = 117) (w : World) : Calls Tryz.prog 73 #[.int .u8 (c : Int)] w fun e w' => ∃ v, e = .returned v ∧ Row8 w' v [oneB c] ∧ Below w.heap.size w w' := by
  rcases hc with rfl | rfl | rfl
  · show Calls Tryz.prog 73 #[.int .u8 116] w _
    go_enter Tryz.func73, Tryz.ntmps73
    go_wp2_with fail
    go_ret
    exact ⟨_, rfl, row8_one (by go_simp; rfl), (Below.refl _ _).alloc (Nat.le_refl _) _⟩
  · show Calls Tryz.prog 73 #[.int .u8 102] w _
    go_enter Tryz.func73, Tryz.ntmps73
    go_wp2_with fail
    go_ret
    exact ⟨_, rfl, row8_one (by go_simp; rfl), (Below.refl _ _).alloc (Nat.le_refl _) _⟩
  · show Calls Tryz.prog 73 #[.int .u8 117] w _
    go_enter Tryz.func73, Tryz.ntmps73
    go_wp2_with fail
    go_ret
    exact ⟨_, rfl, row8_one (by go_simp; rfl), (Below.refl _ _).alloc (Nat.le_refl _) _⟩
set_option maxRecDepth 100000 in
set_option maxHeartbeats 800000 in
theorem opp_is (c : Nat) (hc : c = 116 ∨ c = 102 ∨ c = 117) (w : World) : Calls Tryz.prog 74 #[.int .u8 (c : Int)] w fun e w' => e = .returned (.int .u8 (oppN c : Nat)) ∧ w = w' := by
  rcases hc with rfl | rfl | rfl
  · show Calls Tryz.prog 74 #[.int .u8 116] w _
    go_enter Tryz.func74, Tryz.ntmps74
    go_wp2_with fail
    go_ret
    exact ⟨rfl, rfl⟩
  · show Calls Tryz.prog 74 #[.int .u8 102] w _
    go_enter Tryz.func74, Tryz.ntmps74
    go_wp2_with fail
    go_ret
    exact ⟨rfl, rfl⟩
  · show Calls Tryz.prog 74 #[.int .u8 117] w _
    go_enter Tryz.func74, Tryz.ntmps74
    go_wp2_with fail
    go_ret
    exact ⟨rfl, rfl⟩
theorem truthOf_is (b : Bool) (w : World) : Calls Tryz.prog 88 #[.bool b] w fun e w' => e = .returned (.int .u8 (truN b : Nat)) ∧ w = w' := by
  cases b
  · go_enter Tryz.func88, Tryz.ntmps88
    go_wp2_with fail
    go_ret
    exact ⟨rfl, rfl⟩
  · go_enter Tryz.func88, Tryz.ntmps88
    go_wp2_with fail
    go_ret
    exact ⟨rfl, rfl⟩
theorem bytes_beq (l m : List UInt8) : (l == m) = decide (l = m) := by
  rw [Bool.eq_iff_iff]; simp
theorem row_nth0 {w : World} {a : Option Addr} {m cap : Nat} {l : List UInt8} (h : Row8 w (.slice a m cap) l) {k : Nat} (hk : k < l.length) : ∃ bl off, a = some ⟨bl, off, none⟩ ∧ m = l.length ∧ ∀ q (hq : q < l.length), w.cell? ⟨bl, off + q, none⟩ = some (.int .u8 (l[q].toNat : Int)) := by
  obtain ⟨a', c, he, h0 | ⟨b, o, ha, hc⟩⟩ := h.sh
  · omega
  · injection he with e1 e2 e3
    exact ⟨b, o, e1.trans ha, e2, hc⟩
theorem Row8.all {w : World} {a : Option Addr} {cap : Nat} {l : List UInt8} (h1 : 1 ≤ l.length) (h : Row8 w (.slice a l.length cap) l) : ∃ bl off, a = some ⟨bl, off, none⟩ ∧ ∀ j (hj : j < l.length), w.cell? ((⟨bl, off, none⟩ : Addr).add j) = some (.int .u8 (l[j].toNat : Int)) := by
  obtain ⟨bl, off, rfl, _, hc⟩ := row_nth0 h (k := 0) (by omega)
  refine ⟨bl, off, rfl, fun j hj => ?_⟩
  have := hc j hj
  by_cases h0 : j = 0
  · subst h0; first | (simp [Addr.add]; done) | simpa [Addr.add] using this
  · first | (simp [Addr.add, h0]; done) | simpa [Addr.add, h0] using this
set_option maxRecDepth 100000 in
set_option maxHeartbeats 800000 in
theorem same_is (v u : Value) (l m : List UInt8) (hl : 1 ≤ l.length) (hm : 1 ≤ m.length) (w : World) (h : Row8 w v l) (h' : Row8 w u m) : Calls Tryz.prog 89 #[v, u] w fun e w' => e = .returned (.bool (decide (l = m))) ∧ w = w' := by
  obtain ⟨a, cap, rfl, -⟩ := id h.sh
  obtain ⟨b, capb, rfl, -⟩ := id h'.sh
  obtain ⟨bl, off, rfl, hc⟩ := h.all hl
  obtain ⟨bm, ofm, rfl, hcm⟩ := h'.all hm
  have k1 := run_convert_bytes_back (P := Tryz.prog) w 30 9 5 ⟨bl, off, none⟩ cap l Tryz.underlying30 Tryz.underlying5 Tryz.underlying9 hc
  have k2 := run_convert_bytes_back (P := Tryz.prog) w 30 9 5 ⟨bm, ofm, none⟩ capb m Tryz.underlying30 Tryz.underlying5 Tryz.underlying9 hcm
  have HB := Lib.hid (bytes_beq l m)
  clear h h' hc hcm
  go_enter Tryz.func89, Tryz.ntmps89
  go_wp2_with fail
  go_ret
  exact ⟨congrArg (fun b => Ending.returned (.bool b)) HB.out, rfl⟩
/-- whether a state is known -/
def kn1 (x : UInt8) : Bool := x == 48 || x == 49
def cmpF (o : Nat) (x y : UInt8) : Nat := if kn1 x && kn1 y then (if x = y then o else 102) else (if o = 116 then 117 else o)
/-- how the first k states of two lists compare -/
def cmpK (l m : List UInt8) : Nat → Nat
  | 0 => 116
  | k + 1 => cmpF (cmpK l m k) (l.getD k 0) (m.getD k 0)
theorem cmpF_in {o : Nat} (h : o = 116 ∨ o = 102 ∨ o = 117) (x y : UInt8) : cmpF o x y = 116 ∨ cmpF o x y = 102 ∨ cmpF o x y = 117 := by
  unfold cmpF; split <;> split <;> simp_all
theorem cmpK_in (l m : List UInt8) : ∀ k, cmpK l m k = 116 ∨ cmpK l m k = 102 ∨ cmpK l m k = 117
  | 0 => .inl rfl
  | k + 1 => cmpF_in (cmpK_in l m k) _ _
/-- one state of a slice, as a slice -/
theorem row8_sub {w : World} {bl off cap : Nat} {x : UInt8} (hcap : 1 ≤ cap) (h : w.cell? ⟨bl, off, none⟩ = some (.int .u8 (x.toNat : Int))) : Row8 w (.slice (some ⟨bl, off, none⟩) 1 cap) [x] :=
  ⟨⟨some ⟨bl, off, none⟩, cap, rfl, .inr ⟨bl, off, rfl, fun q hq => by
    have : q = 0 := by simpa using hq
    subst this; exact h⟩⟩, fun a n c e => by injection e; omega⟩
theorem known_sub {w : World} {bl off cap : Nat} {x : UInt8} (hcap : 1 ≤ cap) (t : Bool) (ht : kn1 x = t) (h : w.cell? ⟨bl, off, none⟩ = some (.int .u8 (x.toNat : Int))) : Calls Tryz.prog 90 #[.slice (some ⟨bl, off, none⟩) 1 cap] w fun e w' => e = .returned (.bool t) ∧ w = w' := by
  have := refKnown_any (.slice (some ⟨bl, off, none⟩) 1 cap) [x] (by simp) w (row8_sub hcap h)
  rw [← ht]
  have e : knownL [x] = kn1 x := by unfold knownL kn1; simp
  rwa [e] at this
end Go.Proofs.YtodldcdfdjooaaaGreatDoor
