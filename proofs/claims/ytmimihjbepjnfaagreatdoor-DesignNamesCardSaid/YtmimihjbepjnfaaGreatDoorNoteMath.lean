/- Messages: plain facts on lists of bytes. -/
import Derived.Lib.IndexAny
import Derived.Lib.ItoaNum
import Derived.Lib.Hide
namespace Go.Proofs.YtmimihjbepjnfaaGreatDoor
set_option linter.unusedVariables false
/-- every byte lies between two ones -/
def wi (lo hi : Nat) (l : List UInt8) : Bool := l.all fun c => decide (lo ≤ c.toNat) && decide (c.toNat ≤ hi)
/-- every byte lies between two ones and is none of some -/
def wib (lo hi : Nat) (but l : List UInt8) : Bool := l.all fun c => decide (lo ≤ c.toNat) && decide (c.toNat ≤ hi) && !but.contains c
def fileB (l : List UInt8) : Bool := !l.isEmpty && decide (l.length ≤ 60) && wi 33 126 l && !Lib.containsAny l [58, 34]
theorem containsAny_eq (chars : List UInt8) : ∀ l : List UInt8, Lib.containsAny l chars = l.any chars.contains
  | [] => rfl
  | b :: l => by
    have ih := containsAny_eq chars l
    have hg := Lib.indexAny_ge chars l
    unfold Lib.containsAny at ih ⊢
    rw [Lib.indexAny, List.any_cons, ← ih]
    cases hb : chars.contains b
    · simp only [Bool.false_eq_true, if_false, Bool.false_or]
      by_cases h : Lib.indexAny l chars = -1
      · rw [h]; rfl
      · rw [if_neg (by simpa using h)]
        have e : decide (0 ≤ Lib.indexAny l chars + 1) = true := by simp; omega
        have e2 : decide (0 ≤ Lib.indexAny l chars) = true := by simp; omega
        rw [e, e2]
    · rfl
theorem wi_snoc (lo hi : Nat) (l : List UInt8) (c : UInt8) : wi lo hi (l ++ [c]) = (wi lo hi l && (decide (lo ≤ c.toNat) && decide (c.toNat ≤ hi))) := by
  unfold wi; simp
theorem wi_out {lo hi : Nat} {l : List UInt8} {k : Nat} (h : k < l.length) (hc : l[k].toNat < lo ∨ hi < l[k].toNat) : wi lo hi l = false := by
  cases e : wi lo hi l
  · rfl
  · unfold wi at e
    have := List.all_eq_true.1 e l[k] (List.getElem_mem h)
    simp at this
    omega
theorem wib_out {lo hi : Nat} {but l : List UInt8} {k : Nat} (h : k < l.length) (hc : l[k].toNat < lo ∨ hi < l[k].toNat ∨ but.contains l[k] = true) : wib lo hi but l = false := by
  cases e : wib lo hi but l
  · rfl
  · unfold wib at e
    have := List.all_eq_true.1 e l[k] (List.getElem_mem h)
    simp only [Bool.and_eq_true, decide_eq_true_eq, Bool.not_eq_true'] at this
    rcases hc with h1 | h1 | h1
    · omega
    · omega
    · rw [h1] at this; simp at this
theorem wib_snoc (lo hi : Nat) (but l : List UInt8) (c : UInt8) : wib lo hi but (l ++ [c]) = (wib lo hi but l && (decide (lo ≤ c.toNat) && decide (c.toNat ≤ hi) && !but.contains c)) := by
  unfold wib; simp
theorem wib_nil (lo hi : Nat) (l : List UInt8) : wib lo hi [] l = wi lo hi l := by
  unfold wib wi; simp
theorem wib_wi (lo hi : Nat) (but l : List UInt8) : wib lo hi but l = (wi lo hi l && !l.any but.contains) := by
  unfold wib wi
  induction l with
  | nil => rfl
  | cons c l ih =>
    simp only [List.all_cons, List.any_cons, ih]
    cases decide (lo ≤ c.toNat) <;> cases decide (c.toNat ≤ hi) <;> cases but.contains c <;> cases (l.all fun c => decide (lo ≤ c.toNat) && decide (c.toNat ≤ hi)) <;> simp
/-- the reference's file names are the program's -/
def fileR (l : List UInt8) : Bool := decide (1 ≤ l.length) && decide (l.length ≤ 60) && wib 33 126 [58, 34] l
theorem file_eq (l : List UInt8) : fileB l = fileR l := by
  unfold fileB fileR
  rw [wib_wi, containsAny_eq]
  have e : (!l.isEmpty) = decide (1 ≤ l.length) := by
    cases l with
    | nil => rfl
    | cons c l => simp
  rw [e]
  cases decide (1 ≤ l.length) <;> cases decide (l.length ≤ 60) <;> simp
theorem wi_ascii {lo hi : Nat} {l : List UInt8} (h : wi lo hi l = true) (hh : hi < 128) : ∀ (j : Nat) b, l[j]? = some b → b.toNat < 128 := by
  intro j b hb
  unfold wi at h
  have := List.all_eq_true.1 h b (List.mem_of_getElem? hb)
  simp at this
  omega
/-- the words of the error codes -/
def wordsL : List (List UInt8) := [[], [97, 114, 103, 117, 109, 101, 110, 116], [114, 97, 110, 103, 101], [108, 97, 114, 103, 101], [102, 111, 114, 109], [111, 114, 100, 101, 114], [116, 119, 105, 99, 101], [117, 110, 107, 110, 111, 119, 110], [116, 121, 112, 101], [110, 97, 109, 101], [115, 121, 110, 116, 97, 120], [115, 104, 111, 114, 116], [115, 117, 109], [115, 116, 97, 116, 101], [102, 117, 108, 108], [99, 108, 97, 115, 104], [108, 111, 115, 116], [108, 111, 111, 112], [111, 112, 101, 110], [99, 111, 110, 115, 116, 97, 110, 116], [119, 105, 100, 116, 104], [116, 105, 109, 101], [114, 117, 108, 101]]
def wordB (j : Nat) : ByteArray := ⟨(wordsL.getD j []).toArray⟩
/-- the word of any number -/
def wordOf (e : Int) : ByteArray := if 0 ≤ e ∧ e < 23 then wordB e.toNat else ⟨#[]⟩
theorem wordsL_le : ∀ j, (wordsL.getD j []).length ≤ 8 := by
  intro j
  rcases Nat.lt_or_ge j 23 with h | h
  · exact (by decide : ∀ j : Fin 23, (wordsL.getD j.1 []).length ≤ 8) ⟨j, h⟩
  · rw [List.getD_eq_getElem?_getD, List.getElem?_eq_none (by exact h)]; decide
theorem wordB_pos {j : Nat} (h1 : 1 ≤ j) (h2 : j < 23) : 0 < (wordB j).size := by
  exact (by decide : ∀ j : Fin 23, 1 ≤ j.1 → 0 < (wordB j.1).size) ⟨j, h2⟩ h1
/-- what Check says of a message -/
def noteChk (f : List UInt8) (l c e : Int) (t : List UInt8) : Int :=
  if fileB f = true then
    (if 1 ≤ l ∧ l ≤ 16000 ∧ 1 ≤ c ∧ c ≤ 16001 ∧ 1 ≤ e ∧ e ≤ 22 then (if t.length ≤ 200 ∧ wi 32 126 t = true then 0 else 4) else 2)
  else 9
/-- the text of a message -/
def noteTxt (f : List UInt8) (l c e : Int) (t : List UInt8) : List UInt8 :=
  f ++ [58] ++ Lib.itoa l ++ [58] ++ Lib.itoa c ++ [58, 32] ++ wordsL.getD e.toNat [] ++ (if t.isEmpty then [] else 32 :: t)
end Go.Proofs.YtmimihjbepjnfaaGreatDoor
