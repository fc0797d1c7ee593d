/- What a check of a node answers. -/
import Derived.Test.YtpjnjcljaoaceaaSyFld
import Derived.Test.YtpjnjcljaoaceaaMgAmb
import Derived.Test.YtpjnjcljaoaceaaSyMeas
import Derived.Test.YtpjnjcljaoaceaaSySameP
namespace Go.Proofs.Ytpjnjcljaoaceaa
open Go Go.RowKit
set_option linter.unusedVariables false
def rbN (n v x : Int) : Rb := ⟨n, BitVec.ofInt 64 v, BitVec.ofInt 64 x⟩
theorem U_ofInt {v : Int} (h0 : 0 ≤ v) (h1 : v < 18446744073709551616) : U (BitVec.ofInt 64 v) = v := by
  unfold U
  rw [BitVec.toNat_ofInt]
  omega
/-- the numbers of all nodes of a tree are 64 bits -/
inductive Nu : Nd → Prop
  | mk {k l c : Int} {nm tx : ByteArray} {n v x : Int} {s : Bool} {a : Option Addr} {cap : Nat} {ks : List Nd} (v0 : 0 ≤ v) (v1 : v < 18446744073709551616) (x0 : 0 ≤ x) (x1 : x < 18446744073709551616) (all : ∀ T ∈ ks, Nu T) : Nu (.mk k l c nm tx n v x s a cap ks)
theorem Nu.all {k l c : Int} {nm tx : ByteArray} {n v x : Int} {s : Bool} {a : Option Addr} {cap : Nat} {ks : List Nd} : Nu (.mk k l c nm tx n v x s a cap ks) → ∀ T ∈ ks, Nu T
  | .mk _ _ _ _ h => h
def fldN (F : List UInt8) : Nd → Int
  | .mk k l c nm tx n v x s a cap ks => fldE (F.contains 78) (F.contains 86) (F.contains 83) (F.contains 88) nm tx (rbN n v x) s
theorem fields_nd (k l c : Int) (nm tx : ByteArray) (n v x : Int) (s : Bool) (a : Option Addr) (cap : Nat) (ks : List Nd) (hu : Nu (.mk k l c nm tx n v x s a cap ks)) (F : List UInt8) (w : World) : Calls Try.prog 23 #[.agg #[.int .i64 k, .int .i64 l, .int .i64 c, .string nm, .string tx, .int .i64 n, .int .u64 v, .int .u64 x, .bool s, .slice a ks.length cap], .string (bs F)] w fun e w' => e = .returned (.int .i64 (fldN F (.mk k l c nm tx n v x s a cap ks))) ∧ Below w.heap.size w w' := by
  obtain ⟨v0, v1, x0, x1, _⟩ := hu
  have h := fields_any k l c nm tx (rbN n v x) s a ks.length cap F w
  simp only [rbN, U_ofInt v0 v1, U_ofInt x0 x1] at h
  exact h
def nd0 : Nd := .mk 0 0 0 ⟨#[]⟩ ⟨#[]⟩ 0 0 0 false none 0 []
theorem nd0_in (w : World) : Nin w nd0 := .mk ⟨Nat.le_refl _, fun h => absurd rfl h⟩ (fun T h => by cases h)
/-- a kid in a place of a class -/
def kidE (f : Nd → UInt8 → Int) (x : Nd) (c : UInt8) : Int := if x.kind = 0 then (if same x nd0 = true then 0 else 4) else f x c
/-- the kids, from the kid j on -/
def kidsE (f : Nd → UInt8 → Int) (sel : Bool) : Nat → List Nd → List UInt8 → Int
  | _, [], _ => 0
  | _, _ :: _, [] => 0
  | j, x :: r, c :: q => if (decide (j = 0) && (sel && x.kind == 114)) = true then 8 else if kidE f x c = 0 then kidsE f sel (j + 1) r q else kidE f x c
/-- a node in a place of a class, and all below -/
def chkN : Nat → Nd → UInt8 → Int
  | 0, _, _ => 0
  | d + 1, .mk k l co nm tx n v x s a cap ks, c =>
    if (decide (k < 0) || decide (121 < k)) = true then 2
    else if (k != 0 && (decide (l < 0) || decide (co < 0))) = true then 2
    else if bel k c = false then 8
    else if fldN (formO k).2.2 (.mk k l co nm tx n v x s a cap ks) ≠ 0 then fldN (formO k).2.2 (.mk k l co nm tx n v x s a cap ks)
    else match mt (formO k).2.1 ks with
      | none => 4
      | some L => if ambK d (.mk k l co nm tx n v x s a cap ks) = true then 4 else kidsE (chkN d) (selK k) 0 ks (narL k c L)
theorem kidsE_drop (f : Nd → UInt8 → Int) (sel : Bool) (j : Nat) (ks : List Nd) (L : List UInt8) (h : j < ks.length) (h' : j < L.length) :
    kidsE f sel j (ks.drop j) (L.drop j) = if (decide (j = 0) && (sel && ks[j].kind == 114)) = true then 8 else if kidE f ks[j] L[j] = 0 then kidsE f sel (j + 1) (ks.drop (j + 1)) (L.drop (j + 1)) else kidE f ks[j] L[j] := by
  rw [List.drop_eq_getElem_cons h, List.drop_eq_getElem_cons h']
  rfl
theorem takeN_one (c mk : UInt8) (ks : List Nd) (h : mk ≠ 42 ∧ mk ≠ 43) : takeN c mk ks ≤ 1 := by
  unfold takeN
  rw [if_neg (by rintro (e | e); exact h.1 e; exact h.2 e)]
  split
  · omega
  · split <;> omega
/-- a letter that is not repeated takes one kid -/
theorem mt_one {c : UInt8} {p : List UInt8} {ks : List Nd} {L : List UInt8} (h : mt (c :: p) ks = some L) (hm : (markN p).1 ≠ 42 ∧ (markN p).1 ≠ 43) : 1 ≤ ks.length ∧ ∃ L', mt (markN p).2 (ks.drop 1) = some L' := by
  rw [mt_cons] at h
  split at h
  · cases h
  · rename_i hn
    obtain ⟨L', h', _⟩ := Option.map_eq_some_iff.1 h
    have h1 := takeN_one c (markN p).1 ks hm
    have h2 := takeN_le c (markN p).1 ks
    have h3 : takeN c (markN p).1 ks ≠ 0 := fun e => hn ⟨e, hm.1⟩
    have h4 : takeN c (markN p).1 ks = 1 := by omega
    rw [h4] at h'
    exact ⟨by omega, L', h'⟩
theorem mt_if {ks : List Nd} {L : List UInt8} (h : mt (formO 57).2.1 ks = some L) : ks.length = 3 := by
  have e : (formO 57).2.1 = [69, 83, 83, 63] := by decide +kernel
  rw [e] at h
  obtain ⟨a1, L1, h1⟩ := mt_one h (by decide)
  obtain ⟨a2, L2, h2⟩ := mt_one (show mt (83 :: [83, 63]) _ = _ from h1) (by decide)
  obtain ⟨a3, L3, h3⟩ := mt_one (show mt (83 :: [63]) _ = _ from h2) (by decide)
  rw [show (markN [63]).2 = [] from rfl, mt_nil] at h3
  split at h3
  · rename_i hz
    have := congrArg List.length hz
    simp only [List.length_drop, List.length_nil] at this a2 a3
    omega
  · cases h3
theorem mt_sel {k : Int} {ks : List Nd} {L : List UInt8} (hk : selK k = true) (h : mt (formO k).2.1 ks = some L) : 0 < ks.length := by
  have e : k = 80 ∨ k = 81 ∨ k = 82 ∨ k = 83 := by
    unfold selK at hk
    simpa [Bool.or_eq_true, beq_iff_eq] using hk
  rcases e with rfl | rfl | rfl | rfl
  · rw [show (formO 80).2.1 = [69] from by decide +kernel] at h
    exact (mt_one h (by decide)).1
  · rw [show (formO 81).2.1 = [69, 69] from by decide +kernel] at h
    exact (mt_one h (by decide)).1
  · rw [show (formO 82).2.1 = [69, 69, 69] from by decide +kernel] at h
    exact (mt_one h (by decide)).1
  · rw [show (formO 83).2.1 = [69, 69, 69] from by decide +kernel] at h
    exact (mt_one h (by decide)).1
set_option maxRecDepth 100000 in
set_option maxHeartbeats 2000000 in
theorem kid_step (f : Nd → UInt8 → Int) (K : Nd) (c : UInt8) (hcc : K.cnt ≤ 4000000000000) (w : World) (hK : Nin w K) (hN : ∀ wq, Below w.heap.size w wq → Calls Try.prog 15 #[K.val, .int .u8 (c.toNat : Int)] wq fun e w' => e = .returned (.int .i64 (f K c)) ∧ Below wq.heap.size wq w') :
    Calls Try.prog 28 #[K.val, .int .u8 (c.toNat : Int)] w fun e w' => e = .returned (.int .i64 (kidE f K c)) ∧ Below w.heap.size w w' := by
  have hS := fun wq (hb : Below w.heap.size w wq) => same_any K nd0 hcc wq (hK.keep hb) (nd0_in wq)
  obtain ⟨R, hR⟩ : ∃ R, kidE f K c = R := ⟨_, rfl⟩
  rw [hR]
  have HR1 : Hid (K.kind = 0 → (if same K nd0 = true then 0 else 4) = R) := Lib.hid (fun h => by rw [← hR, kidE, if_pos h])
  have HR2 : Hid (K.kind ≠ 0 → f K c = R) := Lib.hid (fun h => by rw [← hR, kidE, if_neg h])
  clear hR
  generalize f K c = E at *
  generalize same K nd0 = S at *
  obtain ⟨k, l, co, nm, tx, n, v, x, s, a, cap, ks⟩ := K
  simp only [Nd.val, Nd.kind, nd0, List.length_nil] at *
  have HN := Lib.hid hN
  have HS := Lib.hid hS
  clear hN hS hcc hK
  cases hk : (k != 0)
  · have hk0 : k = 0 := by simpa using hk
    have HR := Lib.hid (HR1.out hk0)
    clear hk0 HR1 HR2
    cases S
    all_goals
      go_enter Try.func28, Try.ntmps28
      go_wp2_with (refine (HS.out _ ((Below.refl _ _).alloc (Nat.le_refl _) _)).mono ?_; rintro e w3 ⟨rfl, hb3⟩)
      go_ret
      exact ⟨by rw [← HR.out]; rfl, ((Below.refl _ _).alloc (Nat.le_refl _) _).trans (hb3.mono (by simp))⟩
  · have hk0 : ¬ k = 0 := by simpa using hk
    have HR := Lib.hid (HR2.out hk0)
    clear hk0 HR1 HR2
    go_enter Try.func28, Try.ntmps28
    go_wp2_with (refine (HN.out _ ((Below.refl _ _).alloc (Nat.le_refl _) _)).mono ?_; rintro e w3 ⟨rfl, hb3⟩)
    go_ret
    exact ⟨by rw [← HR.out]; rfl, ((Below.refl _ _).alloc (Nat.le_refl _) _).trans (hb3.mono (by simp))⟩
end Go.Proofs.Ytpjnjcljaoaceaa
