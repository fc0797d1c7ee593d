/- Which kids a pattern takes. No program here. -/
import Derived.Test.YtpjnjcljaoaceaaSyForm
import Derived.Test.YtpjnjcljaoaceaaSyTree
namespace Go.Proofs.Ytpjnjcljaoaceaa
open Go Go.RowKit
set_option linter.unusedVariables false
def bel (k : Int) (c : UInt8) : Bool := (formO k).1.contains c
/-- how many kids in front are of a class -/
def preN (c : UInt8) : List Nd → Nat
  | [] => 0
  | x :: r => if bel x.kind c = true then preN c r + 1 else 0
theorem preN_le (c : UInt8) : ∀ ks : List Nd, preN c ks ≤ ks.length
  | [] => Nat.le_refl _
  | x :: r => by have := preN_le c r; unfold preN; split <;> simp <;> omega
theorem preN_bel (c : UInt8) : ∀ (ks : List Nd) (j : Nat) (h : j < ks.length), j < preN c ks → bel ks[j].kind c = true
  | x :: r, 0, _, hj => by unfold preN at hj; split at hj <;> simp_all
  | x :: r, j + 1, h, hj => by
    unfold preN at hj
    split at hj
    · exact preN_bel c r j (by simpa using h) (by omega)
    · omega
theorem preN_is (c : UInt8) : ∀ (ks : List Nd) (n : Nat), n ≤ ks.length → (∀ j (h : j < ks.length), j < n → bel ks[j].kind c = true) → (∀ h : n < ks.length, bel ks[n].kind c = false) → preN c ks = n
  | [], n, hn, _, _ => by simp at hn; subst hn; rfl
  | x :: r, 0, _, _, h2 => by have := h2 (by simp); unfold preN; rw [if_neg]; simp at this; simp [this]
  | x :: r, n + 1, hn, h1, h2 => by
    unfold preN
    rw [if_pos (show bel x.kind c = true from h1 0 (by simp) (by omega)), preN_is c r n (by simpa using hn) (fun j h hj => h1 (j + 1) (by simpa using h) (by omega)) (fun h => h2 (by simpa using h))]
/-- how many kids a letter with a mark takes -/
def takeN (c mk : UInt8) (ks : List Nd) : Nat :=
  if mk = 42 ∨ mk = 43 then preN c ks
  else match ks with
    | [] => 0
    | x :: _ => if mk = 63 ∨ x.kind ≠ 0 then 1 else 0
theorem takeN_le (c mk : UInt8) (ks : List Nd) : takeN c mk ks ≤ ks.length := by
  unfold takeN
  split
  · exact preN_le c ks
  · split
    · exact Nat.le_refl _
    · split <;> simp
def isMark (c : UInt8) : Bool := c == 42 || c == 43 || c == 63
/-- the mark behind a letter, and what is left of the pattern -/
def markN : List UInt8 → UInt8 × List UInt8
  | [] => (0, [])
  | m :: q => if isMark m = true then (m, q) else (0, m :: q)
theorem markN_le : ∀ p : List UInt8, (markN p).2.length ≤ p.length
  | [] => Nat.le_refl _
  | m :: q => by
    show (if isMark m = true then (m, q) else ((0 : UInt8), m :: q)).2.length ≤ _
    split <;> simp
/-- the class of the letter that took each kid; none where the kids have not the form of the pattern -/
def mt (p : List UInt8) (ks : List Nd) : Option (List UInt8) :=
  match p with
  | [] => if ks = [] then some [] else none
  | c :: p =>
    if takeN c (markN p).1 ks = 0 ∧ (markN p).1 ≠ 42 then none
    else (mt (markN p).2 (ks.drop (takeN c (markN p).1 ks))).map (List.replicate (takeN c (markN p).1 ks) c ++ ·)
termination_by p.length
decreasing_by simp only [List.length_cons]; exact Nat.lt_succ_of_le (markN_le _)
theorem mt_nil (ks : List Nd) : mt [] ks = if ks = [] then some [] else none := by rw [mt]
theorem mt_cons (c : UInt8) (p : List UInt8) (ks : List Nd) : mt (c :: p) ks = if takeN c (markN p).1 ks = 0 ∧ (markN p).1 ≠ 42 then none else (mt (markN p).2 (ks.drop (takeN c (markN p).1 ks))).map (List.replicate (takeN c (markN p).1 ks) c ++ ·) := by rw [mt]
theorem mt_len : ∀ (m : Nat) (p : List UInt8) (ks : List Nd) (l : List UInt8), p.length ≤ m → mt p ks = some l → l.length = ks.length
  | _, [], ks, l, _, h => by
    rw [mt_nil] at h
    split at h
    · rename_i e; subst e; simp at h; subst h; rfl
    · simp at h
  | 0, c :: p, ks, l, hm, h => by simp at hm
  | m + 1, c :: p, ks, l, hm, h => by
    rw [mt_cons] at h
    split at h
    · simp at h
    · obtain ⟨l', h', rfl⟩ := Option.map_eq_some_iff.1 h
      have := mt_len m _ _ l' (by have := markN_le p; simp at hm; omega) h'
      have hle := takeN_le c (markN p).1 ks
      simp [this] <;> omega
theorem bs_tail (c : UInt8) (p : List UInt8) : (bs (c :: p)).extract 1 (bs (c :: p)).size = bs p := by
  have : ((bs (c :: p)).extract 1 (bs (c :: p)).size).data = (bs p).data := by
    rw [ByteArray.data_extract]
    simp [bs, ByteArray.size]
  exact ByteArray.ext this
end Go.Proofs.Ytpjnjcljaoaceaa
