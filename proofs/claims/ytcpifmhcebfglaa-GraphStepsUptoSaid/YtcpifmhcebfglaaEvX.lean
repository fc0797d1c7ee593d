/- Running a closed program text by its own rules: trees of things by numbers, values whose addresses have names, and what it means that a memory is as described. No condition.
   Running a closed program text by its own rules: single operations. No condition.
   Running a closed program text by its own rules: operations on values that bear addresses. No condition.
   Running a closed program text by its own rules: slices, append, lengths. No condition.
   Running a closed program text by its own rules: append, lengths, rows that are made. No condition.
   Running a closed program text by its own rules: append, second half. No condition.
   Running a closed program text by its own rules: lengths, values that are built, maps, ranges over strings. No condition.
   Running a closed program text by its own rules: maps, rows that are made, strings out of bytes, what is held against nil. No condition.
   Running a closed program text by its own rules: an entry of a map that is read and written in one. No condition.
   Running a closed program text by its own rules: a walk over a map of which at most one entry is left. No condition.
   Running a closed program text by its own rules: an operation, whatever it is; a region in the order of its text. No condition. -/
import Derived.Orders
import Derived.Below
import Derived.Laws.Cells
import Derived.Laws.CopyRow
import Derived.Laws.Append
import Derived.Laws.BytesString
import Derived.Laws.IdiomStrings
import Derived.Laws.MakeOwn
import Derived.MapKept
import Derived.Tactics
namespace Go.Proofs.Ytcpifmhcebfglaa
open Go Go.RowKit
set_option linter.unusedVariables false
/-- a tree of things by numbers -/
inductive T (α : Type) where
  | nil
  | node (l : T α) (v : Option α) (r : T α)
namespace T
variable {α : Type}
def getF (f : Nat) : T α → Nat → Option α := Nat.rec (motive := fun _ => T α → Nat → Option α) (fun _ _ => none) (fun _ ih t n => T.casesOn t none (fun l v r => Bool.casesOn (Nat.beq n 1) (Bool.casesOn (Nat.beq (Nat.mod n 2) 1) (ih l (Nat.div n 2)) (ih r (Nat.div n 2))) v)) f
def stp (x : Option α) (ih : T α → Nat → T α) (n : Nat) (l : T α) (v : Option α) (r : T α) : T α := Bool.casesOn (Nat.beq n 1) (Bool.casesOn (Nat.beq (Nat.mod n 2) 1) (.node (ih l (Nat.div n 2)) v r) (.node l v (ih r (Nat.div n 2)))) (.node l x r)
def putF (x : Option α) (f : Nat) : T α → Nat → T α := Nat.rec (motive := fun _ => T α → Nat → T α) (fun t _ => t) (fun _ ih t n => T.casesOn t (stp x ih n .nil none .nil) (fun l v r => stp x ih n l v r)) f
theorem beq_no {n m : Nat} (h : n ≠ m) : Nat.beq n m = false := by
  cases hb : Nat.beq n m with
  | false => rfl
  | true => exact absurd (Nat.eq_of_beq_eq_true hb) h
theorem getF_nil (n : Nat) : ∀ f, getF f (T.nil : T α) n = none
  | 0 => rfl
  | _ + 1 => rfl
theorem getF_node (f : Nat) (l : T α) (v : Option α) (r : T α) (n : Nat) : getF (f + 1) (.node l v r) n = if n = 1 then v else if n % 2 = 1 then getF f r (n / 2) else getF f l (n / 2) := by
  by_cases h : n = 1
  · subst h; rfl
  · rw [if_neg h]
    have h1 : Nat.beq n 1 = false := beq_no h
    by_cases h2 : n % 2 = 1
    · rw [if_pos h2]
      have h3 : Nat.beq (Nat.mod n 2) 1 = true := by show Nat.beq (n % 2) 1 = true; rw [h2]; rfl
      dsimp only [getF]; rw [h1]; dsimp only; rw [h3]; rfl
    · rw [if_neg h2]
      have h3 : Nat.beq (Nat.mod n 2) 1 = false := beq_no h2
      dsimp only [getF]; rw [h1]; dsimp only; rw [h3]; rfl
theorem stp_eq (x : Option α) (ih : T α → Nat → T α) (n : Nat) (l : T α) (v : Option α) (r : T α) : stp x ih n l v r = if n = 1 then .node l x r else if n % 2 = 1 then .node l v (ih r (n / 2)) else .node (ih l (n / 2)) v r := by
  by_cases h : n = 1
  · subst h; rfl
  · rw [if_neg h]
    have h1 : Nat.beq n 1 = false := beq_no h
    by_cases h2 : n % 2 = 1
    · rw [if_pos h2]
      have h3 : Nat.beq (Nat.mod n 2) 1 = true := by show Nat.beq (n % 2) 1 = true; rw [h2]; rfl
      unfold stp; rw [h1]; dsimp only; rw [h3]; rfl
    · rw [if_neg h2]
      have h3 : Nat.beq (Nat.mod n 2) 1 = false := beq_no h2
      unfold stp; rw [h1]; dsimp only; rw [h3]; rfl
theorem putF_nil (x : Option α) (f n : Nat) : putF x (f + 1) .nil n = stp x (putF x f) n .nil none .nil := rfl
theorem putF_node (x : Option α) (f n : Nat) (l : T α) (v : Option α) (r : T α) : putF x (f + 1) (.node l v r) n = stp x (putF x f) n l v r := rfl
/-- enough fuel reads the same -/
theorem getF_more : ∀ (f g : Nat) (t : T α) (n : Nat), n < f → n < g → 0 < n → getF f t n = getF g t n
  | 0, _, _, _, h, _, _ => by omega
  | _, 0, _, _, _, h, _ => by omega
  | f + 1, g + 1, .nil, n, _, _, _ => rfl
  | f + 1, g + 1, .node l v r, n, h1, h2, h3 => by
    rw [getF_node, getF_node]
    by_cases hn : n = 1
    · rw [if_pos hn, if_pos hn]
    · rw [if_neg hn, if_neg hn, getF_more f g r (n / 2) (by omega) (by omega) (by omega), getF_more f g l (n / 2) (by omega) (by omega) (by omega)]
theorem getF_putF (x : Option α) : ∀ (f g : Nat) (t : T α) (n m : Nat), 0 < n → 0 < m → n < f → m < g → getF g (putF x f t n) m = if m = n then x else getF g t m
  | 0, _, _, _, _, _, _, h, _ => by omega
  | f + 1, 0, _, _, _, _, _, _, h => by omega
  | f + 1, g + 1, t, n, m, hn, hm, hf, hg => by
    have key : ∀ (l : T α) (v : Option α) (r : T α), getF (g + 1) (stp x (putF x f) n l v r) m = if m = n then x else getF (g + 1) (.node l v r) m := by
      intro l v r
      rw [stp_eq]
      by_cases h1 : n = 1
      · rw [if_pos h1, getF_node, getF_node]
        by_cases h2 : m = 1
        · rw [if_pos h2, if_pos (by omega)]
        · rw [if_neg h2, if_neg (show ¬ m = n by omega), if_neg h2]
      · rw [if_neg h1]
        by_cases h3 : n % 2 = 1
        · rw [if_pos h3, getF_node, getF_node]
          by_cases h2 : m = 1
          · rw [if_pos h2, if_neg (by omega), if_pos h2]
          · rw [if_neg h2, if_neg h2]
            by_cases h4 : m % 2 = 1
            · rw [if_pos h4, if_pos h4, getF_putF x f g r (n / 2) (m / 2) (by omega) (by omega) (by omega) (by omega)]
              by_cases h5 : m = n
              · rw [if_pos h5, if_pos (by omega)]
              · rw [if_neg h5, if_neg (by omega)]
            · rw [if_neg h4, if_neg h4, if_neg (by omega)]
        · rw [if_neg h3, getF_node, getF_node]
          by_cases h2 : m = 1
          · rw [if_pos h2, if_neg (by omega), if_pos h2]
          · rw [if_neg h2, if_neg h2]
            by_cases h4 : m % 2 = 1
            · rw [if_pos h4, if_pos h4, if_neg (by omega)]
            · rw [if_neg h4, if_neg h4, getF_putF x f g l (n / 2) (m / 2) (by omega) (by omega) (by omega) (by omega)]
              by_cases h5 : m = n
              · rw [if_pos h5, if_pos (by omega)]
              · rw [if_neg h5, if_neg (by omega)]
    cases t with
    | nil =>
      rw [putF_nil, key]
      by_cases h : m = n
      · rw [if_pos h, if_pos h]
      · rw [if_neg h, if_neg h, getF_node, getF_nil, getF_nil]
        repeat (split <;> try rfl)
        all_goals rfl
    | node l v r => rw [putF_node, key]
def get (t : T α) (n : Nat) : Option α := getF (Nat.add n 2) t (Nat.add n 1)
def set (t : T α) (n : Nat) (x : Option α) : T α := putF x (Nat.add n 2) t (Nat.add n 1)
theorem get_nil (n : Nat) : (T.nil : T α).get n = none := rfl
theorem get_set (t : T α) (n m : Nat) (x : Option α) : (t.set n x).get m = if m = n then x else t.get m := by
  unfold set get
  rw [getF_putF x _ _ t _ _ (Nat.succ_pos n) (Nat.succ_pos m) (Nat.lt_succ_self _) (Nat.lt_succ_self _)]
  by_cases h : m = n
  · rw [if_pos h, if_pos (by rw [h])]
  · rw [if_neg h, if_neg (fun e => h (Nat.succ.inj e))]
end T
/-- what is known of a slice's capacity: nothing; its number; that it is the block's -/
inductive Cap where
  | unk
  | num (c : Nat)
  | all
/-- a value whose addresses have names; z: an empty slice, not nil, of whatever place; q: a value of which nothing is known -/
inductive AV where
  | c (v : Value)
  | p (id off : Nat)
  | s (id off len : Nat) (cap : Cap)
  | z
  | q
  | y (id : Nat)
  | m (id : Nat)
  | f (fn : Fn) (l : List AV)
  | g (fn : Fn) (fs l : List AV)
  | a (l : List AV)
  | t (l : List AV)
  deriving Inhabited
/-- what the names stand for: a block, and how many elements it has room for -/
abbrev Sg := Nat → Option (Nat × Nat)
def CapR (off k cp : Nat) : Cap → Prop
  | .unk => True
  | .num c => cp = c
  | .all => off = 0 ∧ cp = k
mutual
inductive VR (σ : Sg) : AV → Value → Prop
  | c (v : Value) : VR σ (.c v) v
  | p {id off b k : Nat} (h : σ id = some (b, k)) : VR σ (.p id off) (.pointer (some ⟨b, off, none⟩))
  | s {id off len b k cp : Nat} {cap : Cap} (h : σ id = some (b, k)) (hl : len ≤ cp) (hc : CapR off k cp cap) : VR σ (.s id off len cap) (.slice (some ⟨b, off, none⟩) len cp)
  | z {ad : Addr} {cp : Nat} : VR σ .z (.slice (some ad) 0 cp)
  | q {v : Value} : VR σ .q v
  | y {id b k : Nat} (h : σ id = some (b, k)) : VR σ (.y id) (.func (.yield b) #[] #[])
  | m {id b k : Nat} (h : σ id = some (b, k)) : VR σ (.m id) (.map (some b))
  | f {fn : Fn} {l : List AV} {l' : List Value} (h : VRs σ l l') : VR σ (.f fn l) (.func fn #[] l'.toArray)
  | g {fn : Fn} {fs l : List AV} {fs' l' : List Value} (hf : VRs σ fs fs') (h : VRs σ l l') : VR σ (.g fn fs l) (.func fn fs'.toArray l'.toArray)
  | a {l : List AV} {l' : List Value} (h : VRs σ l l') : VR σ (.a l) (.agg l'.toArray)
  | t {l : List AV} {l' : List Value} (h : VRs σ l l') : VR σ (.t l) (.tuple l'.toArray)
inductive VRs (σ : Sg) : List AV → List Value → Prop
  | nil : VRs σ [] []
  | cons {x : AV} {v : Value} {l : List AV} {l' : List Value} (h : VR σ x v) (hs : VRs σ l l') : VRs σ (x :: l) (v :: l')
end
def Sub (σ τ : Sg) : Prop := ∀ i b, σ i = some b → τ i = some b
theorem Sub.refl (σ : Sg) : Sub σ σ := fun _ _ h => h
theorem Sub.trans {σ τ υ : Sg} (h : Sub σ τ) (k : Sub τ υ) : Sub σ υ := fun i b e => k i b (h i b e)
mutual
theorem VR.sub {σ τ : Sg} (h : Sub σ τ) : ∀ {x : AV} {v : Value}, VR σ x v → VR τ x v
  | _, _, .c v => .c v
  | _, _, .p e => .p (h _ _ e)
  | _, _, .s e hl hc => .s (h _ _ e) hl hc
  | _, _, .z => .z
  | _, _, .q => .q
  | _, _, .y e => .y (h _ _ e)
  | _, _, .m e => .m (h _ _ e)
  | _, _, .f e => .f (VRs.sub h e)
  | _, _, .g d e => .g (VRs.sub h d) (VRs.sub h e)
  | _, _, .a e => .a (VRs.sub h e)
  | _, _, .t e => .t (VRs.sub h e)
theorem VRs.sub {σ τ : Sg} (h : Sub σ τ) : ∀ {x : List AV} {v : List Value}, VRs σ x v → VRs τ x v
  | _, _, .nil => .nil
  | _, _, .cons a b => .cons (VR.sub h a) (VRs.sub h b)
end
theorem VRs.length {σ : Sg} : ∀ {l : List AV} {l' : List Value}, VRs σ l l' → l.length = l'.length
  | _, _, .nil => rfl
  | _, _, .cons _ h => by simp [VRs.length h]
theorem VRs.append {σ : Sg} : ∀ {l : List AV} {l' : List Value} {k : List AV} {k' : List Value}, VRs σ l l' → VRs σ k k' → VRs σ (l ++ k) (l' ++ k')
  | _, _, _, _, .nil, h => h
  | _, _, _, _, .cons a b, h => .cons a (VRs.append b h)
theorem VRs.take {σ : Sg} : ∀ {l : List AV} {l' : List Value} (n : Nat), VRs σ l l' → VRs σ (l.take n) (l'.take n)
  | _, _, 0, _ => by simp; exact .nil
  | _, _, n + 1, .nil => by simp; exact .nil
  | _, _, n + 1, .cons a b => by simp only [List.take_succ_cons]; exact .cons a (VRs.take n b)
theorem VRs.drop {σ : Sg} : ∀ {l : List AV} {l' : List Value} (n : Nat), VRs σ l l' → VRs σ (l.drop n) (l'.drop n)
  | _, _, 0, h => by simpa using h
  | _, _, n + 1, .nil => by simp; exact .nil
  | _, _, n + 1, .cons a b => by simp only [List.drop_succ_cons]; exact VRs.drop n b
theorem VRs.get {σ : Sg} : ∀ {l : List AV} {l' : List Value} {n : Nat} {x : AV}, VRs σ l l' → l[n]? = some x → ∃ v, l'[n]? = some v ∧ VR σ x v
  | _, _, n, x, .nil, h => by simp at h
  | _, _, 0, x, .cons a b, h => by simp at h; subst h; exact ⟨_, by simp, a⟩
  | _, _, n + 1, x, .cons a b, h => by simp at h; obtain ⟨v, h1, h2⟩ := VRs.get b h; exact ⟨v, by simpa using h1, h2⟩
theorem VRs.cs {σ : Sg} : ∀ (l : List Value), VRs σ (l.map .c) l
  | [] => .nil
  | v :: l => .cons (.c v) (VRs.cs l)
/-- values that bear no names -/
def AV.val? : AV → Option Value
  | .c v => some v
  | _ => none
def vals? : List AV → Option (List Value)
  | [] => some []
  | .c v :: l => (vals? l).map (v :: ·)
  | _ :: _ => none
theorem VR.val {σ : Sg} {x : AV} {v u : Value} (h : VR σ x v) (e : x.val? = some u) : v = u := by
  cases h <;> simp [AV.val?] at e; exact e
theorem VRs.vals {σ : Sg} : ∀ {l : List AV} {l' k : List Value}, VRs σ l l' → vals? l = some k → l' = k
  | _, _, k, .nil, e => by simp [vals?] at e; exact e.symm ▸ rfl
  | _, _, k, .cons (x := x) a b, e => by
    cases a with
    | c v =>
      simp only [vals?, Option.map_eq_some_iff] at e
      obtain ⟨k', e1, rfl⟩ := e
      rw [VRs.vals b e1]
    | _ => simp [vals?] at e
/-- a value made of cells -/
def mkA (l : List AV) : AV := match vals? l with
  | some k => .c (.agg k.toArray)
  | none => .a l
theorem mkA_ok {σ : Sg} {l : List AV} {l' : List Value} (h : VRs σ l l') : VR σ (mkA l) (.agg l'.toArray) := by
  unfold mkA
  split
  · rename_i k e; rw [VRs.vals h e]; exact .c _
  · exact .a h
def mkT (l : List AV) : AV := match vals? l with
  | some k => .c (.tuple k.toArray)
  | none => .t l
theorem mkT_ok {σ : Sg} {l : List AV} {l' : List Value} (h : VRs σ l l') : VR σ (mkT l) (.tuple l'.toArray) := by
  unfold mkT
  split
  · rename_i k e; rw [VRs.vals h e]; exact .c _
  · exact .t h
def AV.cells : AV → List AV
  | .c v => v.cells.toList.map .c
  | .a l => l
  | x => [x]
def AV.isQ : AV → Bool
  | .q => true
  | _ => false
theorem cells_ok {σ : Sg} {x : AV} {v : Value} (h : VR σ x v) (hq : x.isQ = false) : VRs σ x.cells v.cells.toList := by
  cases h with
  | c v => exact VRs.cs _
  | a h => simpa [AV.cells, Value.cells] using h
  | p h => exact .cons (.p h) .nil
  | s h hl hc => exact .cons (.s h hl hc) .nil
  | m h => exact .cons (.m h) .nil
  | z => exact .cons .z .nil
  | q => cases hq
  | y h => exact .cons (.y h) .nil
  | f h => exact .cons (.f h) .nil
  | g d h => exact .cons (.g d h) .nil
  | t h => exact .cons (.t h) .nil
def AV.one : AV → Bool
  | .c v => v.oneCell'
  | .a _ | .t _ | .q => false
  | _ => true
theorem one_ok {σ : Sg} {x : AV} {v : Value} (h : VR σ x v) (e : x.one = true) : v.oneCell' = true := by
  cases h <;> first | exact e | rfl | simp [AV.one] at e
theorem ones_ok {σ : Sg} : ∀ {l : List AV} {l' : List Value}, VRs σ l l' → l.all AV.one = true → ∀ v ∈ l', v.oneCell' = true
  | _, _, .nil, _, v, hv => by simp at hv
  | _, _, .cons a b, e, v, hv => by
    simp only [List.all_cons, Bool.and_eq_true] at e
    rcases List.mem_cons.1 hv with rfl | hv
    · exact one_ok a e.1
    · exact ones_ok b e.2 v hv
/-- an object of the described memory; some k: the block has room for more elements of k cells -/
inductive AO where
  | cells (l : List AV) (t : TypeId) (grow : Option Nat)
  | ro (l : List AV) (t : TypeId)
  | map (es : List (AV × AV × Nat)) (clock : Nat)
  | iter (s : ByteArray) (pos : Nat)
  | loop (st : LoopState) (pe : Option Code) (fn : FuncId) (tm : T AV) (sz : Nat) (ps : Array Tmp) (as bd : Code) (df : Nat)
  | dfr (b : Bool)
  | mit0
  | mit (m since : Nat) (seen : List Nat) (last : Nat)
inductive ER (σ : Sg) : List (AV × AV × Nat) → List MapEntry → Prop
  | nil : ER σ [] []
  | cons {k v : AV} {n : Nat} {k' v' : Value} {l : List (AV × AV × Nat)} {l' : List MapEntry} (hk : VR σ k k') (hv : VR σ v v') (hs : ER σ l l') : ER σ ((k, v, n) :: l) (⟨k', v', n⟩ :: l')
theorem ER.sub {σ τ : Sg} (h : Sub σ τ) : ∀ {l : List (AV × AV × Nat)} {l' : List MapEntry}, ER σ l l' → ER τ l l'
  | _, _, .nil => .nil
  | _, _, .cons a b c => .cons (a.sub h) (b.sub h) (ER.sub h c)
def GrowR (n len kap : Nat) : Option Nat → Prop
  | none => n = len
  | some k => n = kap * k
def OR (σ : Sg) (kap : Nat) (o : Option Obj) : AO → Prop
  | .cells l t g => ∃ arr, o = some (.cells arr t (0, 0)) ∧ VRs σ l (arr.toList.take l.length) ∧ l.length ≤ arr.size ∧ GrowR arr.size l.length kap g
  | .ro l t => ∃ arr fr, o = some (.cells arr t fr) ∧ VRs σ l (arr.toList.take l.length) ∧ l.length ≤ arr.size
  | .map es ck => ∃ es', o = some (.map es' ck) ∧ ER σ es es'.toList
  | .iter s pos => o = some (.stringIter s pos)
  | .loop st pe fn tm sz ps as bd df => ∃ tmps db kd, o = some (.loop { state := st, pending := pe, fn := fn, tmps := tmps, params := ps, assign := as, body := bd, defers := db }) ∧ σ df = some (db, kd) ∧ tmps.size = sz ∧ ∀ t, VR σ ((tm.get t).getD .q) (tmps.getD t undef)
  | .dfr b => o = some (.deferred (cond b (some []) none))
  | .mit0 => o = some (.mapIter none 0 #[] 0)
  | .mit m since seen last => ∃ b k, σ m = some (b, k) ∧ o = some (.mapIter (some b) since seen.toArray last)
theorem OR.sub {σ τ : Sg} (h : Sub σ τ) {kap : Nat} {o : Option Obj} {x : AO} (k : OR σ kap o x) : OR τ kap o x := by
  cases x with
  | cells l t g => obtain ⟨arr, h1, h2, h3, h4⟩ := k; exact ⟨arr, h1, h2.sub h, h3, h4⟩
  | ro l t => obtain ⟨arr, fr, h1, h2, h3⟩ := k; exact ⟨arr, fr, h1, h2.sub h, h3⟩
  | map es ck => obtain ⟨es', h1, h2⟩ := k; exact ⟨es', h1, h2.sub h⟩
  | iter s pos => exact k
  | loop st pe fn tm sz ps as bd df => obtain ⟨tmps, db, kd, h1, h2, h3, h4⟩ := k; exact ⟨tmps, db, kd, h1, h _ _ h2, h3, fun t => (h4 t).sub h⟩
  | dfr b => exact k
  | mit0 => exact k
  | mit m since seen last => obtain ⟨b, kd, h1, h2⟩ := k; exact ⟨b, kd, h _ _ h1, h2⟩
abbrev Hp := T AO
/-- the memory from block B on is as described -/
structure RelF (σ : Sg) (h : Nat → Option AO) (B : Nat) (w : World) : Prop where
  obj : ∀ i o, h i = some o → ∃ b k, σ i = some (b, k) ∧ B ≤ b ∧ b < w.heap.size ∧ OR σ k w.heap[b]? o
  inj : ∀ i j b k k', (h i).isSome → (h j).isSome → σ i = some (b, k) → σ j = some (b, k') → i = j
/-- what an act leaves as it was: all but the blocks that are described -/
structure FrE (σ : Sg) (h : Nat → Option AO) (w w' : World) : Prop where
  os : w'.os = w.os
  tape : w'.tape = w.tape
  output : w'.output = w.output
  size : w.heap.size ≤ w'.heap.size
  block : ∀ k, k < w.heap.size → (∀ i c, (h i).isSome → σ i ≠ some (k, c)) → w'.heap[k]? = w.heap[k]?
/-- what an act may do: σ, h, w before; τ, h', w' behind; the names from n up to n' are new -/
structure ActF (σ : Sg) (h : Nat → Option AO) (n : Nat) (B : Nat) (w : World) (τ : Sg) (h' : Nat → Option AO) (n' : Nat) (w' : World) : Prop where
  le : n ≤ n'
  sub : Sub σ τ
  dom : ∀ i, (τ i).isSome → (σ i).isSome ∨ (n ≤ i ∧ i < n')
  rel : RelF τ h' B w'
  fr : FrE σ h w w'
  src : ∀ i b k, (h' i).isSome → τ i = some (b, k) → w.heap.size ≤ b ∨ ∃ j k', (h j).isSome ∧ σ j = some (b, k')
theorem FrE.refl (σ : Sg) (h : Nat → Option AO) (w : World) : FrE σ h w w := ⟨rfl, rfl, rfl, Nat.le_refl _, fun _ _ _ => rfl⟩
theorem ActF.refl {σ : Sg} {h : Nat → Option AO} {n B : Nat} {w : World} (r : RelF σ h B w) : ActF σ h n B w σ h n w :=
  ⟨Nat.le_refl _, Sub.refl _, fun i hi => .inl hi, r, FrE.refl _ _ _, fun i b k hi hb => .inr ⟨i, k, hi, hb⟩⟩
theorem ActF.trans {σ τ υ : Sg} {h h' h'' : Nat → Option AO} {n n' n'' B : Nat} {w w' w'' : World} (x : ActF σ h n B w τ h' n' w') (y : ActF τ h' n' B w' υ h'' n'' w'') : ActF σ h n B w υ h'' n'' w'' where
  le := Nat.le_trans x.le y.le
  sub := x.sub.trans y.sub
  dom := fun i hi => by
    rcases y.dom i hi with h1 | h1
    · rcases x.dom i h1 with h2 | h2
      · exact .inl h2
      · exact .inr ⟨h2.1, Nat.lt_of_lt_of_le h2.2 y.le⟩
    · exact .inr ⟨Nat.le_trans x.le h1.1, h1.2⟩
  rel := y.rel
  fr := {
    os := y.fr.os.trans x.fr.os
    tape := y.fr.tape.trans x.fr.tape
    output := y.fr.output.trans x.fr.output
    size := Nat.le_trans x.fr.size y.fr.size
    block := fun k hk hn => by
      rw [y.fr.block k (Nat.lt_of_lt_of_le hk x.fr.size) ?_, x.fr.block k hk hn]
      intro i c hi he
      rcases x.src i k c hi he with h1 | ⟨j, k', h1, h2⟩
      · omega
      · exact hn j k' h1 h2 }
  src := fun i b k hi hb => by
    rcases y.src i b k hi hb with h1 | ⟨j, k', h1, h2⟩
    · exact .inl (Nat.le_trans x.fr.size h1)
    · exact x.src j b k' h1 h2
theorem ActF.below {σ τ : Sg} {h h' : Nat → Option AO} {n n' B : Nat} {w w' : World} (x : ActF σ h n B w τ h' n' w') (r : RelF σ h B w) (hB : B ≤ w.heap.size) : Below B w w' :=
  ⟨x.fr.os, x.fr.tape, x.fr.output, x.fr.size, fun k hk => x.fr.block k (Nat.lt_of_lt_of_le hk hB) fun i c hi he => by
    obtain ⟨o, ho⟩ := Option.isSome_iff_exists.1 hi
    obtain ⟨b, k, h1, h2, _⟩ := r.obj i o ho
    rw [h1] at he; cases he; omega⟩
abbrev Rel (σ : Sg) (h : Hp) (B : Nat) (w : World) : Prop := RelF σ h.get B w
abbrev Act1 (σ : Sg) (h : Hp) (n : Nat) (B : Nat) (w : World) (τ : Sg) (h' : Hp) (n' : Nat) (w' : World) : Prop := ActF σ h.get n B w τ h'.get n' w'
/-- one name more -/
def ext (σ : Sg) (n : Nat) (b : Nat × Nat) : Sg := fun i => if i = n then some b else σ i
theorem ext_sub {σ : Sg} {n : Nat} {b : Nat × Nat} (h : σ n = none) : Sub σ (ext σ n b) := fun i c e => by
  unfold ext; split
  · rename_i hi; subst hi; rw [h] at e; cases e
  · exact e
theorem ext_dom {σ : Sg} {n : Nat} {b : Nat × Nat} (i : Nat) (h : (ext σ n b i).isSome) : (σ i).isSome ∨ (n ≤ i ∧ i < n + 1) := by
  unfold ext at h; split at h
  · right; omega
  · exact .inl h
/-- a new block -/
theorem act_new {σ : Sg} {h : Hp} {n B : Nat} {w : World} (r : Rel σ h B w) (hB : B ≤ w.heap.size) (hn : σ n = none) {x : AO} {o : Obj} {kap : Nat} (ho : OR σ kap (some o) x) :
    Act1 σ h n B w (ext σ n (w.heap.size, kap)) (h.set n (some x)) (n + 1) (w.alloc o) where
  le := by omega
  sub := ext_sub hn
  dom := ext_dom
  rel := {
    obj := fun i y hy => by
      rw [T.get_set] at hy
      split at hy
      · rename_i hi; cases hy
        refine ⟨w.heap.size, kap, by simp [ext, hi], hB, by simp, ?_⟩
        have e : (w.alloc o).heap[w.heap.size]? = some o := by show (w.heap.push o)[w.heap.size]? = _; simp
        rw [e]; exact ho.sub (ext_sub hn)
      · obtain ⟨b, k, h1, h2, h3, h4⟩ := r.obj i y hy
        refine ⟨b, k, ext_sub hn _ _ h1, h2, by simp; omega, ?_⟩
        rw [Below.heap_alloc w o b h3]; exact h4.sub (ext_sub hn)
    inj := fun i j b c d hi hj e1 e2 => by
      rw [T.get_set] at hi hj
      have old : ∀ k, (h.get k).isSome → ∀ b c, ext σ n (w.heap.size, kap) k = some (b, c) → b < w.heap.size ∧ σ k = some (b, c) := by
        intro k hk b c e
        obtain ⟨y, hy⟩ := Option.isSome_iff_exists.1 hk
        obtain ⟨b2, c2, h1, h2, h3, _⟩ := r.obj k y hy
        have := ext_sub (b := (w.heap.size, kap)) hn _ _ h1
        rw [this] at e; cases e; exact ⟨h3, h1⟩
      split at hi
      · rename_i hin
        split at hj
        · rename_i hjn; rw [hin, hjn]
        · have := old j hj b d e2
          rw [hin] at e1; simp [ext] at e1; omega
      · split at hj
        · rename_i hjn
          have := old i hi b c e1
          rw [hjn] at e2; simp [ext] at e2; omega
        · exact r.inj i j b c d hi hj (old i hi b c e1).2 (old j hj b d e2).2 }
  fr := ⟨rfl, rfl, rfl, by simp, fun k hk _ => Below.heap_alloc w o k hk⟩
  src := fun i b c hi e => by
    rw [T.get_set] at hi
    split at hi
    · rename_i hin; rw [hin] at e; simp [ext] at e; left; omega
    · obtain ⟨y, hy⟩ := Option.isSome_iff_exists.1 hi
      obtain ⟨b2, c2, h1, h2, h3, _⟩ := r.obj i y hy
      have := ext_sub (b := (w.heap.size, kap)) hn _ _ h1
      rw [this] at e; cases e
      exact .inr ⟨i, _, hi, h1⟩
/-- an object turns -/
theorem act_put {σ : Sg} {h : Hp} {n B : Nat} {w w' : World} (r : Rel σ h B w) {i b c : Nat} {x y : AO} (hx : h.get i = some x) (hb : σ i = some (b, c))
    (hos : w'.os = w.os) (htp : w'.tape = w.tape) (hou : w'.output = w.output) (hsz : w'.heap.size = w.heap.size) (hot : ∀ k, k ≠ b → w'.heap[k]? = w.heap[k]?) (hy : OR σ c w'.heap[b]? y) :
    Act1 σ h n B w σ (h.set i (some y)) n w' where
  le := Nat.le_refl _
  sub := Sub.refl _
  dom := fun i hi => .inl hi
  rel := {
    obj := fun j z hz => by
      rw [T.get_set] at hz
      split at hz
      · rename_i hj; cases hz
        obtain ⟨b2, c2, h1, h2, h3, _⟩ := r.obj i x hx
        rw [hb] at h1; cases h1
        exact ⟨b, c, by rw [hj]; exact hb, h2, by omega, hy⟩
      · rename_i hj
        obtain ⟨b2, c2, h1, h2, h3, h4⟩ := r.obj j z hz
        refine ⟨b2, c2, h1, h2, by omega, ?_⟩
        rw [hot b2 (fun e => hj (r.inj j i b2 c2 c (by simp [hz]) (by simp [hx]) h1 (by rw [e]; exact hb)))]; exact h4
    inj := fun j k b c d hj hk e1 e2 => by
      rw [T.get_set] at hj hk
      refine r.inj j k b c d ?_ ?_ e1 e2
      · split at hj
        · rename_i e; rw [e, hx]; rfl
        · exact hj
      · split at hk
        · rename_i e; rw [e, hx]; rfl
        · exact hk }
  fr := ⟨hos, htp, hou, by omega, fun k _ hn => hot k fun e => hn i c (by simp [hx]) (by rw [e]; exact hb)⟩
  src := fun j b2 c2 hj e => by
    rw [T.get_set] at hj
    right
    split at hj
    · rename_i hji; exact ⟨j, c2, by rw [hji, hx]; rfl, e⟩
    · exact ⟨j, c2, hj, e⟩
/-- an object turns, under a new name: the old one is gone -/
theorem act_move {σ : Sg} {h : Hp} {n B : Nat} {w w' : World} (r : Rel σ h B w) {i b c c' : Nat} {x y : AO} (hx : h.get i = some x) (hb : σ i = some (b, c)) (hn : σ n = none)
    (hos : w'.os = w.os) (htp : w'.tape = w.tape) (hou : w'.output = w.output) (hsz : w'.heap.size = w.heap.size) (hot : ∀ k, k ≠ b → w'.heap[k]? = w.heap[k]?) (hy : OR σ c' w'.heap[b]? y) :
    Act1 σ h n B w (ext σ n (b, c')) ((h.set i none).set n (some y)) (n + 1) w' where
  le := by omega
  sub := ext_sub hn
  dom := ext_dom
  rel := {
    obj := fun j z hz => by
      rw [T.get_set] at hz
      split at hz
      · rename_i hj; cases hz
        obtain ⟨b2, c2, h1, h2, h3, _⟩ := r.obj i x hx
        rw [hb] at h1; cases h1
        exact ⟨b, c', by simp [ext, hj], h2, by omega, hy.sub (ext_sub hn)⟩
      · rename_i hj
        rw [T.get_set] at hz
        split at hz
        · cases hz
        · rename_i hji
          obtain ⟨b2, c2, h1, h2, h3, h4⟩ := r.obj j z hz
          refine ⟨b2, c2, ext_sub hn _ _ h1, h2, by omega, ?_⟩
          rw [hot b2 (fun e => hji (r.inj j i b2 c2 c (by simp [hz]) (by simp [hx]) h1 (by rw [e]; exact hb)))]; exact h4.sub (ext_sub hn)
    inj := fun j k b2 c2 d2 hj hk e1 e2 => by
      have old : ∀ j, j ≠ n → (((h.set i none).set n (some y)).get j).isSome → ∀ b2 c2, ext σ n (b, c') j = some (b2, c2) → j ≠ i ∧ (h.get j).isSome ∧ σ j = some (b2, c2) := by
        intro j hj hs b2 c2 e
        rw [T.get_set, if_neg hj, T.get_set] at hs
        split at hs
        · cases hs
        · rename_i hji
          exact ⟨hji, hs, by simpa [ext, hj] using e⟩
      have cl : ∀ j, j ≠ n → (((h.set i none).set n (some y)).get j).isSome → ∀ c2, ext σ n (b, c') j ≠ some (b, c2) := by
        intro j hj hs c2 e
        obtain ⟨h1, h2, h3⟩ := old j hj hs b c2 e
        exact h1 (r.inj j i b c2 c h2 (by simp [hx]) h3 hb)
      by_cases hjn : j = n
      · by_cases hkn : k = n
        · rw [hjn, hkn]
        · subst hjn
          simp [ext] at e1
          exact absurd e2 (by rw [← e1.1]; exact cl k hkn hk d2)
      · by_cases hkn : k = n
        · subst hkn
          simp [ext] at e2
          exact absurd e1 (by rw [← e2.1]; exact cl j hjn hj c2)
        · obtain ⟨_, h2, h3⟩ := old j hjn hj b2 c2 e1
          obtain ⟨_, k2, k3⟩ := old k hkn hk b2 d2 e2
          exact r.inj j k b2 c2 d2 h2 k2 h3 k3 }
  fr := ⟨hos, htp, hou, by omega, fun k _ hn => hot k fun e => hn i c (by simp [hx]) (by rw [e]; exact hb)⟩
  src := fun j b2 c2 hj e => by
    right
    by_cases hjn : j = n
    · subst hjn; simp [ext] at e; exact ⟨i, c, by simp [hx], by rw [← e.1]; exact hb⟩
    · rw [T.get_set, if_neg hjn, T.get_set] at hj
      split at hj
      · cases hj
      · exact ⟨j, c2, hj, by simpa [ext, hjn] using e⟩
end Go.Proofs.Ytcpifmhcebfglaa
namespace Go.Proofs.Ytcpifmhcebfglaa
open Go Go.RowKit
set_option linter.unusedVariables false
/-- what a computation without memory yields -/
def pureV (P : Program) : Sem Next → Option Next
  | .pure x => some x
  | .program k => pureV P (k P)
  | .mark _ k => pureV P k
  | .choose q k => cond q.forced (pureV P (k 0)) none
  | _ => none
theorem pureV_ok {P : Program} {x : Next} (w : World) : ∀ (s : Sem Next), pureV P s = some x → s.run P w = .ok x w
  | .pure y, h => by simp only [pureV, Option.some.injEq] at h; subst h; rfl
  | .program k, h => by simp only [pureV] at h; simp only [Sem.run]; exact pureV_ok w (k P) h
  | .mark m k, h => by simp only [pureV] at h; simp only [Sem.run]; exact pureV_ok w k h
  | .choose q k, h => by
    simp only [pureV] at h
    cases hq : q.forced <;> simp only [hq, cond] at h
    · cases h
    · simp only [Sem.run, hq, if_true]; exact pureV_ok w (k 0) h
  | .load .., h => by simp [pureV] at h
  | .store .., h => by simp [pureV] at h
  | .new .., h => by simp [pureV] at h
  | .shape .., h => by simp [pureV] at h
  | .freeze .., h => by simp [pureV] at h
  | .frozen .., h => by simp [pureV] at h
  | .getObj .., h => by simp [pureV] at h
  | .setObj .., h => by simp [pureV] at h
  | .sys .., h => by simp [pureV] at h
  | .halt .., h => by simp [pureV] at h
/-- the value of an operand -/
def ev (tm : T AV) : Operand → AV
  | .tmp t => (tm.get t).getD .q
  | .const v => .c v
  | .global g => .c (.pointer (some ⟨g, 0, none⟩))
  | .func f => .c (.func (.func f) #[] #[])
/-- the slots are as described -/
def TRE (σ : Sg) (tm : T AV) (a : Act) : Prop := ∀ t, VR σ ((tm.get t).getD .q) (a.tmps.getD t undef)
theorem TRE.sub {σ τ : Sg} (h : Sub σ τ) {tm : T AV} {a : Act} (k : TRE σ tm a) : TRE τ tm a := fun t => (k t).sub h
theorem ev_ok {σ : Sg} {tm : T AV} {a : Act} (h : TRE σ tm a) : ∀ x, VR σ (ev tm x) (a.eval x)
  | .tmp t => h t
  | .const v => .c v
  | .global g => .c _
  | .func f => .c _
theorem TRE.put {σ : Sg} {tm : T AV} {a : Act} (h : TRE σ tm a) {d : Tmp} (hd : d < a.tmps.size) {x : AV} {v : Value} (hv : VR σ x v) : TRE σ (tm.set d (some x)) (a.put (some d) v) := by
  intro t
  have e := h t
  rw [T.get_set]
  simp only [Act.put, Array.getD_eq_getD_getElem?, Array.getElem?_setIfInBounds] at e ⊢
  by_cases ht : t = d
  · subst ht; simp [hd, hv]
  · rw [if_neg ht, if_neg (Ne.symm ht)]; exact e
def cev (tm : T AV) (x : Operand) : Value := ((ev tm x).val?).getD undef
theorem cev_ok {σ : Sg} {tm : T AV} {a : Act} (h : TRE σ tm a) {x : Operand} (e : (ev tm x).val?.isSome = true) : cev tm x = a.eval x := by
  obtain ⟨v, hv⟩ := Option.isSome_iff_exists.1 e
  unfold cev; rw [hv, (ev_ok h x).val hv]; rfl
/-- what is called: a function; a round of a loop -/
inductive Tgt where
  | fn (f : FuncId)
  | yld (i : Nat)
/-- what an operation comes to: a value, the memory, the next name, the names whose objects turned; or a call -/
inductive Out where
  | val (v : AV) (h : Hp) (n : Nat) (u : List Nat)
  | call (f : Tgt) (args : List AV)
/-- package-level variables whose content is known -/
abbrev Gl := Nat → Option (List Value)
def GR (G : Gl) (B : Nat) (w : World) : Prop := ∀ g l, G g = some l → g < B ∧ ∀ j v, l[j]? = some v → w.cell? ⟨g, j, none⟩ = some v
theorem GR.step {G : Gl} {B : Nat} {w w' : World} (h : GR G B w) (hb : Below B w w') : GR G B w' := fun g l e =>
  ⟨(h g l e).1, fun j v k => (hb.cell (p := ⟨g, j, none⟩) (h g l e).1).trans ((h g l e).2 j v k)⟩
def KeptE (h : Hp) (n n' : Nat) (h' : Hp) (u : List Nat) : Prop := ∀ i, (i < n ∨ n' ≤ i) → u.contains i = false → h'.get i = h.get i
theorem KeptE.refl (h : Hp) (n n' : Nat) (u : List Nat) : KeptE h n n' h u := fun _ _ _ => rfl
/-- what is shown of an operation that comes to a value -/
def Yields (P : Program) (s : Sem Next) (σ : Sg) (h : Hp) (n B : Nat) (w : World) (v : AV) (h' : Hp) (n' : Nat) : Prop :=
  ∃ τ w' v', (s.run P w = .ok (.value v') w' ∨ (s.run P w = .ok .skip w' ∧ v' = undef)) ∧ VR τ v v' ∧ Act1 σ h n B w τ h' n' w'
theorem Yields.same {P : Program} {s : Sem Next} {σ : Sg} {h : Hp} {n B : Nat} {w : World} {v : AV} {v' : Value} (r : Rel σ h B w) (e : s.run P w = .ok (.value v') w) (hv : VR σ v v') : Yields P s σ h n B w v h n :=
  ⟨σ, w, v', .inl e, hv, ActF.refl r⟩
/-- closed operands: the operation itself is run -/
def evClosed (P : Program) (tm : T AV) (h : Hp) (n : Nat) (o : Oper) : Option Out :=
  match o.op with
  | .select _ _ => none
  | _ => cond (o.op.operands.toList.all fun x => (ev tm x).val?.isSome)
    (match pureV P (execOp (cev tm) o) with
     | some (.value v) => some (.val (.c v) h n [])
     | some (.enter f args) => some (.call (.fn f) (args.toList.map .c))
     | _ => none) none
theorem closed_run {P : Program} {tm : T AV} {h : Hp} {n : Nat} {o : Oper} {x : Out} (e : evClosed P tm h n o = some x) {σ : Sg} {a : Act} (ht : TRE σ tm a) (w : World) :
    (∃ v, x = .val (.c v) h n [] ∧ (execOp a.eval o).run P w = .ok (.value v) w) ∨ (∃ f args, x = .call (.fn f) (args.toList.map .c) ∧ (execOp a.eval o).run P w = .ok (.enter f args) w) := by
  unfold evClosed at e
  split at e
  · cases e
  · rename_i hs
    cases hc : (o.op.operands.toList.all fun x => (ev tm x).val?.isSome) <;> rw [hc] at e <;> simp only [cond] at e
    · cases e
    · have hx : ∀ x ∈ o.op.operands, cev tm x = a.eval x := fun x hx => cev_ok ht (by
        rw [List.all_eq_true] at hc; exact hc x (Array.mem_toList_iff.2 hx))
      rw [execOp_congr o (fun cs b h => hs cs b h) hx] at e
      split at e
      · rename_i v hv; cases e; exact Or.inl ⟨v, rfl, pureV_ok w _ hv⟩
      · rename_i f args hv; cases e; exact Or.inr ⟨f, args, rfl, pureV_ok w _ hv⟩
      · cases e
section ops
variable {P : Program} {tm : T AV} {h : Hp} {n B : Nat} {o : Oper} {σ : Sg} {a : Act} {w : World}
theorem sizeOf_run {t : TypeId} {i : TypeInfo} (hi : P.info? t = some i) : (sizeOf t).run P w = .ok i.size w := by simp [sizeOf, typeInfo, hi]
theorem zero_run {t : TypeId} {i : TypeInfo} {z : Value} (hi : P.info? t = some i) (hz : i.zero = some z) : (zeroValue t).run P w = .ok z w := by simp [zeroValue, typeInfo, hi, hz]
theorem und_run {t : TypeId} {d : TypeDesc} (hd : P.underlying t = some d) : (underlying t).run P w = .ok d w := by simp [underlying, hd]
def isAg : TypeDesc → Bool
  | .struct _ | .array _ _ => true
  | _ => false
theorem isAgg_run {t : TypeId} {d : TypeDesc} (hd : P.underlying t = some d) : (isAgg t).run P w = .ok (isAg d) w := by
  unfold isAgg; rw [Sem.run_bind, und_run hd]; cases d <;> rfl
/-- a new row of cells -/
theorem row_new (r : Rel σ h B w) (hB : B ≤ w.heap.size) (hn : σ n = none) {l : List AV} {l' : Array Value} (hl : VRs σ l l'.toList) (t : TypeId) :
    (newRow t l').run P w = .ok ⟨w.heap.size, 0, none⟩ (w.alloc (.cells l' t)) ∧ Act1 σ h n B w (ext σ n (w.heap.size, 0)) (h.set n (some (.cells l t none))) (n + 1) (w.alloc (.cells l' t)) := by
  refine ⟨by simp [newRow], act_new r hB hn (x := .cells l t none) ⟨l', rfl, ?_, ?_, ?_⟩⟩
  · have := hl.length; rw [this, List.take_length]; exact hl
  · have := hl.length; simp at this; omega
  · have := hl.length; simp at this; simp only [GrowR]; omega
def evAlloc (P : Program) (h : Hp) (n : Nat) (t : TypeId) : Option Out :=
  match P.info? t with
  | some i => match i.zero with
    | some z => some (.val (.p n 0) (h.set n (some (.cells (z.cells.toList.map .c) t none))) (n + 1) [])
    | none => none
  | none => none
theorem kept_set {h : Hp} {n : Nat} {x : Option AO} {u : List Nat} : KeptE h n (n + 1) (h.set n x) u := fun i hi _ => by rw [T.get_set, if_neg (by omega)]
theorem evAlloc_ok {t : TypeId} (ho : o.op = .alloc t) {v : AV} {h' : Hp} {n' : Nat} {u : List Nat} (e : evAlloc P h n t = some (.val v h' n' u)) (ht : TRE σ tm a) (r : Rel σ h B w) (hB : B ≤ w.heap.size) (hf : ∀ i, n ≤ i → i < n' → σ i = none) :
    Yields P (execOp a.eval o) σ h n B w v h' n' ∧ KeptE h n n' h' u := by
  unfold evAlloc at e
  split at e
  · rename_i i hi
    split at e
    · rename_i z hz
      cases e
      have hr := row_new (P := P) (n := n) r hB (hf n (by omega) (by omega)) (VRs.cs z.cells.toList) t
      refine ⟨⟨_, _, _, .inl ?_, VR.p (b := w.heap.size) (k := 0) (by simp [ext]), hr.2⟩, kept_set⟩
      simp only [execOp, ho, Instr.alloc, Sem.run_bind, zero_run hi hz, Result.andThen_ok, newVar, hr.1, Sem.run_pure]
    · cases e
  · cases e
def evBox (h : Hp) (n : Nat) (t : TypeId) (x : AV) : Option Out := cond x.isQ none <| some (.val (.p n 0) (h.set n (some (.cells x.cells t none))) (n + 1) [])
theorem evBox_ok {t : TypeId} {x : Operand} (ho : o.op = .box t x) {v : AV} {h' : Hp} {n' : Nat} {u : List Nat} (e : evBox h n t (ev tm x) = some (.val v h' n' u)) (ht : TRE σ tm a) (r : Rel σ h B w) (hB : B ≤ w.heap.size) (hf : ∀ i, n ≤ i → i < n' → σ i = none) :
    Yields P (execOp a.eval o) σ h n B w v h' n' ∧ KeptE h n n' h' u := by
  unfold evBox at e
  cases hq : (ev tm x).isQ with
  | true => rw [hq] at e; simp [cond] at e
  | false =>
  rw [hq] at e
  simp only [cond, Option.some.injEq, Out.val.injEq] at e
  obtain ⟨rfl, rfl, rfl, rfl⟩ := e
  have hr := row_new (P := P) (n := n) r hB (hf n (by omega) (by omega)) (cells_ok (ev_ok ht x) hq) t
  refine ⟨⟨_, _, _, .inl ?_, VR.p (b := w.heap.size) (k := 0) (by simp [ext]), hr.2⟩, kept_set⟩
  simp only [execOp, ho, Instr.box, Sem.run_bind, Result.andThen_ok, newVar, hr.1, Sem.run_pure]
/-- cells of an object -/
theorem cell_at (r : Rel σ h B w) {i : Nat} {l : List AV} {t : TypeId} {g : Option Nat} (e : h.get i = some (.cells l t g)) {b kp : Nat} (hb : σ i = some (b, kp)) {j : Nat} {x : AV} (hj : l[j]? = some x) : ∃ v, w.cell? ⟨b, j, none⟩ = some v ∧ VR σ x v := by
  obtain ⟨c, kq, h1, h2, h3, arr, h4, h5, h6, h7⟩ := r.obj i _ e
  rw [hb] at h1; cases h1
  obtain ⟨v, hv, hr⟩ := h5.get hj
  refine ⟨v, ?_, hr⟩
  have hlt : j < l.length := by
    rcases Nat.lt_or_ge j l.length with h | h
    · exact h
    · rw [List.getElem?_eq_none h] at hj; cases hj
  rw [List.getElem?_take, if_pos hlt] at hv
  simp only [World.cell?, h4]
  simpa using hv
/-- what lies at a place: k cells from off on -/
def take? (l : List AV) (off k : Nat) : Option (List AV) := cond (Nat.ble (off + k) l.length) (some ((l.drop off).take k)) none
def objCells (h : Hp) (i : Nat) : Option (List AV) := match h.get i with
  | some (.cells l _ _) => some l
  | some (.ro l _) => some l
  | _ => none
theorem objCells_at (r : Rel σ h B w) {i : Nat} {l : List AV} (e : objCells h i = some l) {b kp : Nat} (hb : σ i = some (b, kp)) {j : Nat} {x : AV} (hj : l[j]? = some x) : ∃ v, w.cell? ⟨b, j, none⟩ = some v ∧ VR σ x v := by
  unfold objCells at e
  split at e
  · rename_i l2 t g hg; cases e; exact cell_at r hg hb hj
  · rename_i l2 t hg
    cases e
    obtain ⟨c, kq, h1, h2, h3, arr, fr, h4, h5, h6⟩ := r.obj i _ hg
    rw [hb] at h1; cases h1
    obtain ⟨v, hv, hr⟩ := h5.get hj
    refine ⟨v, ?_, hr⟩
    have hlt : j < l.length := by
      rcases Nat.lt_or_ge j l.length with h | h
      · exact h
      · rw [List.getElem?_eq_none h] at hj; cases hj
    rw [List.getElem?_take, if_pos hlt] at hv
    simp only [World.cell?, h4]
    simpa using hv
  · cases e
def loadAs (P : Program) (t : TypeId) (l : List AV) (off : Nat) : Option AV :=
  match P.underlying t with
  | some d => cond (isAg d) (match P.info? t with
      | some i => (take? l off i.size).map mkA
      | none => none) (l[off]?)
  | none => none
def cellsAt (G : Gl) (h : Hp) : AV → Option (List AV × Nat)
  | .p i off => (objCells h i).map (·, off)
  | .c (.pointer (some ⟨g, off, none⟩)) => (G g).map fun l => (l.map .c, off)
  | _ => none
theorem cellsAt_ok {G : Gl} (r : Rel σ h B w) (hG : GR G B w) {x : AV} {v : Value} (hx : VR σ x v) {l : List AV} {off : Nat} (e : cellsAt G h x = some (l, off)) : ∃ b, v = .pointer (some ⟨b, off, none⟩) ∧ ∀ j y, l[j]? = some y → ∃ u, w.cell? ⟨b, j, none⟩ = some u ∧ VR σ y u := by
  unfold cellsAt at e
  split at e
  · rename_i i o2
    cases hx with
    | p hb =>
      simp only [Option.map_eq_some_iff, Prod.mk.injEq] at e
      obtain ⟨l', hl, rfl, rfl⟩ := e
      exact ⟨_, rfl, fun j y hy => objCells_at r hl hb hy⟩
  · rename_i g o2
    cases hx with
    | c =>
      simp only [Option.map_eq_some_iff, Prod.mk.injEq] at e
      obtain ⟨l', hl, rfl, rfl⟩ := e
      refine ⟨g, rfl, fun j y hy => ?_⟩
      rw [List.getElem?_map] at hy
      cases hl' : l'[j]? with
      | none => rw [hl'] at hy; simp at hy
      | some u => rw [hl'] at hy; simp at hy; subst hy; exact ⟨u, (hG g l' hl).2 j u hl', .c u⟩
  · cases e
theorem loadAs_ok {l : List AV} {off b : Nat} {t : TypeId} {v : AV} (hc : ∀ j y, l[j]? = some y → ∃ u, w.cell? ⟨b, j, none⟩ = some u ∧ VR σ y u) (e : loadAs P t l off = some v) : ∃ u, (loadVar t ⟨b, off, none⟩).run P w = .ok u w ∧ VR σ v u := by
  unfold loadAs at e
  split at e
  · rename_i d hd
    cases hag : isAg d with
    | false =>
      simp only [hag, cond] at e
      obtain ⟨u, h1, h2⟩ := hc off v e
      refine ⟨u, ?_, h2⟩
      simp only [loadVar, Sem.run_bind, isAgg_run hd, hag, Result.andThen_ok, Bool.false_eq_true, if_false, run_load, h1]
    | true =>
      simp only [hag, cond] at e
      split at e
      · rename_i i hi
        simp only [take?, Option.map_eq_some_iff] at e
        obtain ⟨k, hk, rfl⟩ := e
        cases hle : Nat.ble (off + i.size) l.length with
        | false => rw [hle] at hk; simp [cond] at hk
        | true =>
          rw [hle] at hk
          simp only [cond, Option.some.injEq] at hk
          have hle' := Nat.le_of_ble_eq_true hle
          have key : ∀ (m q : Nat), off + q + m ≤ l.length → ∃ us : List Value, us.length = m ∧ VRs σ ((l.drop (off + q)).take m) us ∧ ∀ j v, us[j]? = some v → w.cell? ((⟨b, off, none⟩ : Addr).add (q + j)) = some v := by
            intro m
            induction m with
            | zero => intro q _; exact ⟨[], rfl, by simp; exact .nil, fun j v hv => by simp at hv⟩
            | succ m ih =>
              intro q hq
              obtain ⟨us, h1, h2, h3⟩ := ih (q + 1) (by omega)
              have hlt : off + q < l.length := by omega
              obtain ⟨u, hu, hr⟩ := hc (off + q) l[off + q] (List.getElem?_eq_getElem hlt)
              have hadd : ∀ z : Nat, ((⟨b, off, none⟩ : Addr).add z) = ⟨b, off + z, none⟩ := by intro z; unfold Addr.add; split <;> simp_all
              refine ⟨u :: us, by simp [h1], ?_, ?_⟩
              · rw [List.drop_eq_getElem_cons hlt, List.take_succ_cons]
                exact .cons hr (by simpa [Nat.add_assoc] using h2)
              · intro j v hv
                cases j with
                | zero => simp at hv; subst hv; rw [hadd]; simpa using hu
                | succ j => simp at hv; have := h3 j v hv; rwa [show q + (j + 1) = q + 1 + j by omega]
          obtain ⟨us, h1, h2, h3⟩ := key i.size 0 (by omega)
          subst hk
          refine ⟨.agg us.toArray, ?_, mkA_ok (by simpa using h2)⟩
          have := run_loadCells_list (P := P) w ⟨b, off, none⟩ us (fun j v hv => by simpa using h3 j v hv)
          rw [h1] at this
          simp only [loadVar, Sem.run_bind, isAgg_run hd, hag, Result.andThen_ok, if_true, sizeOf_run hi, this, Sem.run_pure]
      · cases e
  · cases e
def evLoad (P : Program) (G : Gl) (h : Hp) (n : Nat) (t : TypeId) (x : AV) : Option Out :=
  match cellsAt G h x with
  | some (l, off) => (loadAs P t l off).map fun v => .val v h n []
  | none => none
theorem evLoad_ok {G : Gl} {t : TypeId} {x : Operand} (ho : o.op = .load t x) {v : AV} {h' : Hp} {n' : Nat} {u : List Nat} (e : evLoad P G h n t (ev tm x) = some (.val v h' n' u)) (ht : TRE σ tm a) (r : Rel σ h B w) (hG : GR G B w) :
    Yields P (execOp a.eval o) σ h n B w v h' n' ∧ KeptE h n n' h' u := by
  unfold evLoad at e
  split at e
  · rename_i l off hl
    simp only [Option.map_eq_some_iff, Out.val.injEq] at e
    obtain ⟨v', hv, rfl, rfl, rfl, rfl⟩ := e
    obtain ⟨b, hb, hc⟩ := cellsAt_ok r hG (ev_ok ht x) hl
    obtain ⟨u', h1, h2⟩ := loadAs_ok (P := P) hc hv
    refine ⟨Yields.same r ?_ h2, KeptE.refl _ _ _ _⟩
    simp only [execOp, ho, Instr.loadAt, hb, Instr.sureAddr, Sem.run_bind, Sem.run_pure, Result.andThen_ok, h1]
  · cases e
/-- a store -/
def evStore (P : Program) (h : Hp) (n : Nat) (t : TypeId) (x y : AV) : Option Out :=
  match x with
  | .p i off => match h.get i, P.info? t with
    | some (.cells l e g), some k => cond (Nat.beq y.cells.length k.size && Nat.ble (off + k.size) l.length && y.cells.all AV.one && !y.isQ)
      (some (.val (.c undef) (h.set i (some (.cells (l.take off ++ y.cells ++ l.drop (off + k.size)) e g))) n [i])) none
    | _, _ => none
  | _ => none
theorem evStore_ok {t : TypeId} {x y : Operand} (ho : o.op = .store t x y) {v : AV} {h' : Hp} {n' : Nat} {u : List Nat} (e : evStore P h n t (ev tm x) (ev tm y) = some (.val v h' n' u)) (ht : TRE σ tm a) (r : Rel σ h B w) :
    Yields P (execOp a.eval o) σ h n B w v h' n' ∧ KeptE h n n' h' u := by
  unfold evStore at e
  split at e
  · rename_i i off hx
    split at e
    · rename_i l e' g k hg hk
      cases hc : (Nat.beq (ev tm y).cells.length k.size && Nat.ble (off + k.size) l.length && (ev tm y).cells.all AV.one && !(ev tm y).isQ) with
      | false => rw [hc] at e; simp [cond] at e
      | true =>
        rw [hc] at e
        simp only [cond, Option.some.injEq, Out.val.injEq] at e
        obtain ⟨rfl, rfl, rfl, rfl⟩ := e
        simp only [Bool.and_eq_true] at hc
        obtain ⟨⟨⟨c1, c2⟩, c3⟩, c4⟩ := hc
        have c4 : (ev tm y).isQ = false := by simpa using c4
        have c1 := Nat.eq_of_beq_eq_true c1
        have c2 := Nat.le_of_ble_eq_true c2
        have hxv := ev_ok ht x
        rw [hx] at hxv
        cases hxe : a.eval x with
        | pointer p =>
          rw [hxe] at hxv
          cases hxv with
          | p hb =>
            rename_i b kap
            have hyv := ev_ok ht y
            have hcs := cells_ok hyv c4
            have hlen := hcs.length
            obtain ⟨c, kq, h1, h2, h3, arr, h4, h5, h6, h7⟩ := r.obj i _ hg
            rw [hb] at h1; cases h1
            have hrun := run_storeCells_at (P := P) b off e' (a.eval y).cells.toList 0 arr w h4 (by omega) (ones_ok hcs c3)
            simp only [Nat.add_zero] at hrun
            have hsz : (a.eval y).cells.size = k.size := by rw [← c1, hlen]; simp
            refine ⟨⟨σ, w.setRow b (List.take off arr.toList ++ (a.eval y).cells.toList ++ List.drop (off + (a.eval y).cells.toList.length) arr.toList).toArray, undef, .inr ⟨?_, rfl⟩, .c undef, ?_⟩, ?_⟩
            · simp only [execOp, ho, hxe, Instr.storeAt, Instr.sureAddr, Sem.run_bind, Sem.run_pure, Result.andThen_ok, storeVar, sizeOf_run hk, hsz, ne_eq, not_true_eq_false, if_false, hrun]
            · refine act_put r hg hb rfl rfl rfl (by simp [World.setRow]) ?_ ?_
              · intro k hk; exact setRow_other _ _ _ _ hk
              · refine ⟨_, setRow_heap w b arr _ e' _ h4, ?_, ?_, ?_⟩
                · have hl2 : (l.take off ++ (ev tm y).cells ++ l.drop (off + k.size)).length = l.length := by simp; omega
                  rw [hl2]
                  have e1 : (List.take off arr.toList ++ (a.eval y).cells.toList ++ List.drop (off + (a.eval y).cells.toList.length) arr.toList).take l.length = (arr.toList.take l.length).take off ++ (a.eval y).cells.toList ++ (arr.toList.take l.length).drop (off + k.size) := by
                    apply List.ext_getElem?
                    intro j
                    have hs1 : (a.eval y).cells.toList.length = k.size := by simpa using hsz
                    have hs2 : arr.toList.length = arr.size := by simp
                    simp only [List.getElem?_take, List.getElem?_append, List.length_append, List.length_take, List.getElem?_drop, hs1, hs2]
                    have m1 : min off arr.size = off := by omega
                    have m2 : min off (min l.length arr.size) = off := by omega
                    simp only [m1, m2]
                    by_cases q1 : j < l.length
                    · simp only [q1, if_true]
                      by_cases q2 : j < off + k.size
                      · simp only [q2, if_true]
                      · simp only [q2, if_false]
                        rw [if_pos (by omega)]
                    · simp only [q1, if_false]
                      rw [if_neg (by omega)]
                      symm
                      rw [if_neg (by omega)]
                  simp only
                  rw [e1]
                  exact ((h5.take off).append hcs).append (h5.drop (off + k.size))
                · have hs1 : (a.eval y).cells.toList.length = k.size := by simpa using hsz
                  simp; omega
                · have hs1 : (a.eval y).cells.toList.length = k.size := by simpa using hsz
                  cases g with
                  | none => simp only [GrowR] at h7 ⊢; simp; omega
                  | some kk => simp only [GrowR] at h7 ⊢; simp; omega
            · intro j hj hu
              rw [T.get_set, if_neg]
              intro e; subst e; simp at hu
        | _ => rw [hxe] at hxv; cases hxv
    · cases e
  · cases e
end ops
end Go.Proofs.Ytcpifmhcebfglaa
namespace Go.Proofs.Ytcpifmhcebfglaa
open Go Go.RowKit
set_option linter.unusedVariables false
section ops
variable {P : Program} {tm : T AV} {h : Hp} {n B : Nat} {o : Oper} {σ : Sg} {a : Act} {w : World}
theorem add_at (b off k : Nat) : (⟨b, off, none⟩ : Addr).add k = ⟨b, off + k, none⟩ := by unfold Addr.add; split <;> simp_all
/-- a field's address -/
def evFieldAddr (P : Program) (h : Hp) (n : Nat) (s f : Nat) (x : AV) : Option Out :=
  match x, P.underlying s with
  | .p i off, some (.struct fs) => match fs[f]? with
    | some fl => match P.info? fl.type with
      | some k => cond (Nat.beq k.size 0) none (some (.val (.p i (off + fl.offset)) h n []))
      | none => none
    | none => none
  | _, _ => none
theorem evFieldAddr_ok {s f : Nat} {x : Operand} (ho : o.op = .fieldAddr s x f) {v : AV} {h' : Hp} {n' : Nat} {u : List Nat} (e : evFieldAddr P h n s f (ev tm x) = some (.val v h' n' u)) (ht : TRE σ tm a) (r : Rel σ h B w) :
    Yields P (execOp a.eval o) σ h n B w v h' n' ∧ KeptE h n n' h' u := by
  unfold evFieldAddr at e
  split at e
  · rename_i i off fs hx hs
    split at e
    · rename_i fl hfl
      split at e
      · rename_i k hk
        cases hz : Nat.beq k.size 0 with
        | true => rw [hz] at e; simp [cond] at e
        | false =>
          rw [hz] at e
          simp only [cond, Option.some.injEq, Out.val.injEq] at e
          obtain ⟨rfl, rfl, rfl, rfl⟩ := e
          have hxv := ev_ok ht x
          rw [hx] at hxv
          have hne : ¬ k.size = 0 := Nat.ne_of_beq_eq_false hz
          generalize hxe : a.eval x = xv at hxv
          cases hxv with
          | p hb =>
            refine ⟨Yields.same r ?_ (.p hb), KeptE.refl _ _ _ _⟩
            simp only [execOp, ho, hxe, Instr.fieldAt, Instr.sureAddr, fieldPlace, Sem.run_bind, und_run hs, Result.andThen_ok, hfl, Sem.run_pure, sizeOf_run hk, hne, if_false, add_at]
      · cases e
    · cases e
  · cases e
def inLen (z : Int) (len : Nat) : Bool := match z with
  | .ofNat k => Nat.blt k len
  | .negSucc _ => false
/-- an element's address -/
def evIndexAddr (P : Program) (h : Hp) (n : Nat) (t : TypeId) (x ix : AV) : Option Out :=
  match ix with
  | .c (.int _ z) => match x, P.underlying t with
    | .s i off len _, some (.slice el) => match P.info? el with
      | some k => cond (inLen z len) (some (.val (.p i (off + z.toNat * k.size)) h n [])) none
      | none => none
    | .p i off, some (.array len el) => match P.info? el with
      | some k => cond (inLen z len) (some (.val (.p i (off + z.toNat * k.size)) h n [])) none
      | none => none
    | _, _ => none
  | _ => none
theorem index_ok {z : Int} {len : Nat} (h : inLen z len = true) : 0 ≤ z ∧ z < (len : Int) := by
  unfold inLen at h
  split at h
  · rename_i k
    have := Nat.le_of_ble_eq_true h
    exact ⟨Int.natCast_nonneg k, by simp only [Int.ofNat_eq_natCast]; omega⟩
  · cases h
theorem evIndexAddr_ok {t : TypeId} {x y : Operand} (ho : o.op = .indexAddr t x y) {v : AV} {h' : Hp} {n' : Nat} {u : List Nat} (e : evIndexAddr P h n t (ev tm x) (ev tm y) = some (.val v h' n' u)) (ht : TRE σ tm a) (r : Rel σ h B w) :
    Yields P (execOp a.eval o) σ h n B w v h' n' ∧ KeptE h n n' h' u := by
  unfold evIndexAddr at e
  split at e
  · rename_i k z hy
    have hyv := ev_ok ht y
    rw [hy] at hyv
    generalize hye : a.eval y = yv at hyv
    cases hyv
    have hxv := ev_ok ht x
    split at e
    · rename_i i off len cp el hx hd
      split at e
      · rename_i kk hk
        cases hc : (inLen z len) with
        | false => rw [hc] at e; simp [cond] at e
        | true =>
          rw [hc] at e
          simp only [cond, Option.some.injEq, Out.val.injEq] at e
          obtain ⟨rfl, rfl, rfl, rfl⟩ := e
          rw [hx] at hxv
          generalize hxe : a.eval x = xv at hxv
          have hz := index_ok hc
          cases hxv with
          | s hb hl hcp =>
            refine ⟨Yields.same r ?_ (.p hb), KeptE.refl _ _ _ _⟩
            simp only [execOp, ho, hxe, hye, Instr.indexAt, asIntOf, Sem.run_bind, und_run hd, Result.andThen_ok, Sem.run_pure, hz.1, hz.2, and_self, if_true, sizeOf_run hk, add_at]
      · cases e
    · rename_i i off len el hx hd
      split at e
      · rename_i kk hk
        cases hc : (inLen z len) with
        | false => rw [hc] at e; simp [cond] at e
        | true =>
          rw [hc] at e
          simp only [cond, Option.some.injEq, Out.val.injEq] at e
          obtain ⟨rfl, rfl, rfl, rfl⟩ := e
          rw [hx] at hxv
          generalize hxe : a.eval x = xv at hxv
          have hz := index_ok hc
          cases hxv with
          | p hb =>
            refine ⟨Yields.same r ?_ (.p hb), KeptE.refl _ _ _ _⟩
            simp only [execOp, ho, hxe, hye, Instr.indexAt, Instr.sureAddr, asIntOf, Sem.run_bind, und_run hd, Result.andThen_ok, Sem.run_pure, hz.1, hz.2, and_self, if_true, sizeOf_run hk, add_at]
      · cases e
    · cases e
  · cases e
/-- a part of a value -/
def partOf (P : Program) (t : TypeId) (l : List AV) (off : Nat) : Option AV :=
  match P.underlying t with
  | some d => cond (isAg d) (match P.info? t with
      | some i => some (mkA ((l.drop off).take i.size))
      | none => none) (l[off]?)
  | none => none
theorem partOf_ok {t : TypeId} {l : List AV} {l' : List Value} (hl : VRs σ l l') {off : Nat} {v : AV} (e : partOf P t l off = some v) : ∃ u, (part t l'.toArray off).run P w = .ok u w ∧ VR σ v u := by
  unfold partOf at e
  split at e
  · rename_i d hd
    cases hag : isAg d with
    | true =>
      simp only [hag, cond] at e
      split at e
      · rename_i i hi
        cases e
        refine ⟨.agg ((l'.drop off).take i.size).toArray, ?_, mkA_ok ((hl.drop off).take i.size)⟩
        simp only [part, Sem.run_bind, isAgg_run hd, hag, Result.andThen_ok, if_true, sizeOf_run hi, Sem.run_pure]
        congr 2
        apply Array.ext'
        simp [List.extract_eq_take_drop]
      · cases e
    | false =>
      simp only [hag, cond] at e
      obtain ⟨u, h1, h2⟩ := hl.get e
      refine ⟨u, ?_, h2⟩
      simp only [part, Sem.run_bind, isAgg_run hd, hag, Result.andThen_ok, Bool.false_eq_true, if_false]
      have : l'.toArray[off]? = some u := by simpa using h1
      simp only [this, Sem.run_pure]
  · cases e
def evField (P : Program) (h : Hp) (n : Nat) (s f : Nat) (x : AV) : Option Out :=
  match x, P.underlying s with
  | .a l, some (.struct fs) => match fs[f]? with
    | some fl => (partOf P fl.type l fl.offset).map fun v => .val v h n []
    | none => none
  | _, _ => none
theorem evField_ok {s f : Nat} {x : Operand} (ho : o.op = .field s x f) {v : AV} {h' : Hp} {n' : Nat} {u : List Nat} (e : evField P h n s f (ev tm x) = some (.val v h' n' u)) (ht : TRE σ tm a) (r : Rel σ h B w) :
    Yields P (execOp a.eval o) σ h n B w v h' n' ∧ KeptE h n n' h' u := by
  unfold evField at e
  split at e
  · rename_i l fs hx hs
    split at e
    · rename_i fl hfl
      simp only [Option.map_eq_some_iff, Out.val.injEq] at e
      obtain ⟨v', hv, rfl, rfl, rfl, rfl⟩ := e
      have hxv := ev_ok ht x
      rw [hx] at hxv
      generalize hxe : a.eval x = xv at hxv
      cases hxv with
      | a hl =>
        obtain ⟨u', h1, h2⟩ := partOf_ok (P := P) (w := w) hl hv
        refine ⟨Yields.same r ?_ h2, KeptE.refl _ _ _ _⟩
        simp only [execOp, ho, hxe, Instr.field, asAgg, Sem.run_bind, und_run hs, Result.andThen_ok, hfl, Sem.run_pure, h1]
    · cases e
  · cases e
def evIndex (P : Program) (h : Hp) (n : Nat) (t : TypeId) (x ix : AV) : Option Out :=
  match ix with
  | .c (.int _ z) => match x, P.underlying t with
    | .a l, some (.array len el) => match P.info? el with
      | some k => cond (inLen z len) ((partOf P el l (z.toNat * k.size)).map fun v => .val v h n []) none
      | none => none
    | _, _ => none
  | _ => none
theorem evIndex_ok {t : TypeId} {x y : Operand} (ho : o.op = .index t x y) {v : AV} {h' : Hp} {n' : Nat} {u : List Nat} (e : evIndex P h n t (ev tm x) (ev tm y) = some (.val v h' n' u)) (ht : TRE σ tm a) (r : Rel σ h B w) :
    Yields P (execOp a.eval o) σ h n B w v h' n' ∧ KeptE h n n' h' u := by
  unfold evIndex at e
  split at e
  · rename_i k z hy
    have hyv := ev_ok ht y
    rw [hy] at hyv
    generalize hye : a.eval y = yv at hyv
    cases hyv
    have hxv := ev_ok ht x
    split at e
    · rename_i l len el hx hd
      split at e
      · rename_i kk hk
        cases hc : (inLen z len) with
        | false => rw [hc] at e; simp [cond] at e
        | true =>
          rw [hc] at e
          simp only [cond, Option.map_eq_some_iff, Out.val.injEq] at e
          obtain ⟨v', hv, rfl, rfl, rfl, rfl⟩ := e
          rw [hx] at hxv
          generalize hxe : a.eval x = xv at hxv
          have hz := index_ok hc
          cases hxv with
          | a hl =>
            obtain ⟨u', h1, h2⟩ := partOf_ok (P := P) (w := w) hl hv
            refine ⟨Yields.same r ?_ h2, KeptE.refl _ _ _ _⟩
            simp only [execOp, ho, hxe, hye, Instr.index, asIntOf, Sem.run_bind, und_run hd, Result.andThen_ok, Sem.run_pure, hz.1, hz.2, and_self, if_true, sizeOf_run hk, h1]
      · cases e
    · cases e
  · cases e
def evExtract (h : Hp) (n : Nat) (x : AV) (i : Nat) : Option Out :=
  match x with
  | .t l => (l[i]?).map fun v => .val v h n []
  | _ => none
theorem evExtract_ok {x : Operand} {i : Nat} (ho : o.op = .extract x i) {v : AV} {h' : Hp} {n' : Nat} {u : List Nat} (e : evExtract h n (ev tm x) i = some (.val v h' n' u)) (ht : TRE σ tm a) (r : Rel σ h B w) :
    Yields P (execOp a.eval o) σ h n B w v h' n' ∧ KeptE h n n' h' u := by
  unfold evExtract at e
  split at e
  · rename_i l hx
    simp only [Option.map_eq_some_iff, Out.val.injEq] at e
    obtain ⟨v', hv, rfl, rfl, rfl, rfl⟩ := e
    have hxv := ev_ok ht x
    rw [hx] at hxv
    generalize hxe : a.eval x = xv at hxv
    cases hxv with
    | t hl =>
      obtain ⟨u', h1, h2⟩ := hl.get hv
      have h3 := h1
      rw [← List.getElem?_toArray] at h3
      refine ⟨Yields.same r ?_ h2, KeptE.refl _ _ _ _⟩
      simp only [execOp, ho, hxe, Instr.extract, Sem.run_bind, h3, Sem.run_pure, Result.andThen_ok]
  · cases e
/-- the value is that of an operand -/
def evMove (h : Hp) (n : Nat) (x : AV) : Option Out := some (.val x h n [])
theorem evMove_ok {x : Operand} (ho : o.op = .move x ∨ o.op = .assign x) {v : AV} {h' : Hp} {n' : Nat} {u : List Nat} (e : evMove h n (ev tm x) = some (.val v h' n' u)) (ht : TRE σ tm a) (r : Rel σ h B w) :
    Yields P (execOp a.eval o) σ h n B w v h' n' ∧ KeptE h n n' h' u := by
  cases e
  refine ⟨Yields.same r ?_ (ev_ok ht x), KeptE.refl _ _ _ _⟩
  rcases ho with ho | ho <;> simp only [execOp, ho, Sem.run_pure]
def evPick (h : Hp) (n : Nat) (c x y : AV) : Option Out :=
  match c with
  | .c (.bool t) => some (.val (cond t x y) h n [])
  | _ => none
theorem evPick_ok {c x y : Operand} (ho : o.op = .pick c x y) {v : AV} {h' : Hp} {n' : Nat} {u : List Nat} (e : evPick h n (ev tm c) (ev tm x) (ev tm y) = some (.val v h' n' u)) (ht : TRE σ tm a) (r : Rel σ h B w) :
    Yields P (execOp a.eval o) σ h n B w v h' n' ∧ KeptE h n n' h' u := by
  unfold evPick at e
  split at e
  · rename_i t hc
    cases e
    have hcv := ev_ok ht c
    rw [hc] at hcv
    generalize hce : a.eval c = cv at hcv
    cases hcv
    refine ⟨Yields.same (v' := if t then a.eval x else a.eval y) r ?_ ?_, KeptE.refl _ _ _ _⟩
    · simp only [execOp, ho, hce, asBool, Sem.run_bind, Sem.run_pure, Result.andThen_ok]
    · cases t
      · exact ev_ok ht y
      · exact ev_ok ht x
  · cases e
/-- a function value -/
def evMakeFunc (h : Hp) (n : Nat) (fn : Fn) (first : Array Operand) (fs l : List AV) : Option Out :=
  some (.val (cond first.isEmpty (.f fn l) (.g fn fs l)) h n [])
theorem evs_ok (ht : TRE σ tm a) : ∀ l : List Operand, VRs σ (l.map (ev tm)) (l.map a.eval)
  | [] => .nil
  | x :: l => .cons (ev_ok ht x) (evs_ok ht l)
theorem evMakeFunc_ok {fn : Fn} {first cap : Array Operand} (ho : o.op = .makeFunc fn first cap) {v : AV} {h' : Hp} {n' : Nat} {u : List Nat} (e : evMakeFunc h n fn first (first.toList.map (ev tm)) (cap.toList.map (ev tm)) = some (.val v h' n' u)) (ht : TRE σ tm a) (r : Rel σ h B w) :
    Yields P (execOp a.eval o) σ h n B w v h' n' ∧ KeptE h n n' h' u := by
  unfold evMakeFunc at e
  simp only [Option.some.injEq, Out.val.injEq] at e
  obtain ⟨rfl, rfl, rfl, rfl⟩ := e
  have hl := evs_ok ht cap.toList
  have hfs := evs_ok ht first.toList
  have e1 : ∀ q : Array Operand, q.map a.eval = (q.toList.map a.eval).toArray := fun q => by apply Array.ext'; simp
  have hrun : (execOp a.eval o).run P w = .ok (.value (.func fn (first.toList.map a.eval).toArray (cap.toList.map a.eval).toArray)) w := by
    simp only [execOp, ho, Instr.makeFunc, Sem.run_bind, Sem.run_pure, Result.andThen_ok]
    rw [e1, e1]
  cases hf : first.isEmpty with
  | false => exact ⟨Yields.same r hrun (.g hfs hl), KeptE.refl _ _ _ _⟩
  | true =>
    have hfe : first = #[] := by simpa using hf
    subst hfe
    exact ⟨Yields.same r hrun (.f hl), KeptE.refl _ _ _ _⟩
/-- what is no nil pointer -/
def evNilCheck (h : Hp) (n : Nat) (x : AV) : Option Out :=
  match x with
  | .p i off => some (.val (.p i off) h n [])
  | _ => none
theorem evNilCheck_ok {x : Operand} (ho : o.op = .nilCheck x) {v : AV} {h' : Hp} {n' : Nat} {u : List Nat} (e : evNilCheck h n (ev tm x) = some (.val v h' n' u)) (ht : TRE σ tm a) (r : Rel σ h B w) :
    Yields P (execOp a.eval o) σ h n B w v h' n' ∧ KeptE h n n' h' u := by
  unfold evNilCheck at e
  split at e
  · rename_i i off hx
    cases e
    have hxv := ev_ok ht x
    rw [hx] at hxv
    generalize hxe : a.eval x = xv at hxv
    cases hxv with
    | p hb =>
      refine ⟨Yields.same r ?_ (.p hb), KeptE.refl _ _ _ _⟩
      simp only [execOp, ho, hxe, Sem.run_pure]
  · cases e
end ops
end Go.Proofs.Ytcpifmhcebfglaa
namespace Go.Proofs.Ytcpifmhcebfglaa
open Go Go.RowKit
set_option linter.unusedVariables false
section ops
variable {P : Program} {tm : T AV} {h : Hp} {n B : Nat} {o : Oper} {σ : Sg} {a : Act} {w : World}
theorem cells_read {l : List AV} {b : Nat} (hc : ∀ j y, l[j]? = some y → ∃ u, w.cell? ⟨b, j, none⟩ = some u ∧ VR σ y u) (m : Nat) : ∀ (off : Nat), off + m ≤ l.length → ∃ us : List Value, us.length = m ∧ VRs σ ((l.drop off).take m) us ∧ (loadCells ⟨b, off, none⟩ m).run P w = .ok us.toArray w := by
  have key : ∀ (m q : Nat), q + m ≤ l.length → ∃ us : List Value, us.length = m ∧ VRs σ ((l.drop q).take m) us ∧ ∀ j v, us[j]? = some v → w.cell? ⟨b, q + j, none⟩ = some v := by
    intro m
    induction m with
    | zero => intro q _; exact ⟨[], rfl, by simp; exact .nil, fun j v hv => by simp at hv⟩
    | succ m ih =>
      intro q hq
      obtain ⟨us, h1, h2, h3⟩ := ih (q + 1) (by omega)
      have hlt : q < l.length := by omega
      obtain ⟨u, hu, hr⟩ := hc q l[q] (List.getElem?_eq_getElem hlt)
      refine ⟨u :: us, by simp [h1], ?_, ?_⟩
      · rw [List.drop_eq_getElem_cons hlt, List.take_succ_cons]
        exact .cons hr h2
      · intro j v hv
        cases j with
        | zero => simp at hv; subst hv; simpa using hu
        | succ j => simp at hv; have := h3 j v hv; rwa [show q + (j + 1) = q + 1 + j by omega]
  intro off hle
  obtain ⟨us, h1, h2, h3⟩ := key m off hle
  have := run_loadCells_list (P := P) w ⟨b, off, none⟩ us (fun j v hv => by rw [add_at]; exact h3 j v hv)
  rw [h1] at this
  exact ⟨us, h1, h2, this⟩
/-- a bound of a slice expression -/
def bnd (d : Nat) : Option AV → Option Nat
  | none => some d
  | some (.c (.int _ (.ofNat k))) => some k
  | _ => none
theorem bnd_some (d d' : Nat) (y : AV) : bnd d (some y) = bnd d' (some y) := by
  cases y with
  | c v => cases v with
    | int k q => cases q <;> rfl
    | _ => rfl
  | _ => rfl
def BndR (σ : Sg) (x : Option AV) (v : Option Value) : Prop := match x, v with
  | none, none => True
  | some y, some u => VR σ y u
  | _, _ => False
theorem bndR_of (ht : TRE σ tm a) (x : Option Operand) : BndR σ (x.map (ev tm)) (x.map a.eval) := by
  cases x with
  | none => trivial
  | some y => exact ev_ok ht y
theorem bnd_run {x : Option AV} {v : Option Value} (hv : BndR σ x v) {d q : Nat} (e : bnd d x = some q) : (v = none ∧ q = d) ∨ ∃ k, v = some (.int k (Int.ofNat q)) := by
  cases x with
  | none => cases v with
    | none => simp only [bnd, Option.some.injEq] at e; exact .inl ⟨rfl, e.symm⟩
    | some u => exact hv.elim
  | some y => cases v with
    | none => exact hv.elim
    | some u =>
      unfold bnd at e
      split at e
      · rename_i e2; cases e2
      · rename_i k z he
        cases he; cases e
        have : VR σ (.c (.int k (Int.ofNat q))) u := hv
        cases this
        exact .inr ⟨k, rfl⟩
      · cases e
theorem bound_run {q y : Nat} (k : IntKind) (c : BoundsCode) (hq : q ≤ y) : (Instr.sliceBound (.int k (Int.ofNat q)) y c).run P w = .ok q w := by
  have h1 : (0 : Int) ≤ Int.ofNat q := Int.natCast_nonneg q
  have h2 : Int.ofNat q ≤ (y : Int) := by simp only [Int.ofNat_eq_natCast]; omega
  simp only [Instr.sliceBound, asIntOf, Sem.run_bind, Sem.run_pure, Result.andThen_ok, h1, h2, and_self, if_true]
  rfl
theorem bounds_run {len cp : Nat} {isS : Bool} {lo hi mx : Option AV} {lo' hi' mx' : Option Value} (r1 : BndR σ lo lo') (r2 : BndR σ hi hi') (r3 : BndR σ mx mx') {l hh m : Nat} (hl : len ≤ cp)
    (e1 : bnd 0 lo = some l) (e2 : bnd len hi = some hh) (e3 : bnd cp mx = some m) (c1 : l ≤ hh) (c2 : hh ≤ m) (c3 : m ≤ cp) (c4 : mx.isSome = true → hi.isSome = true) : (Instr.sliceBounds isS len cp lo' hi' mx').run P w = .ok (l, hh, m) w := by
  rcases bnd_run r1 e1 with ⟨rfl, rfl⟩ | ⟨k1, rfl⟩ <;> rcases bnd_run r2 e2 with ⟨rfl, rfl⟩ | ⟨k2, rfl⟩ <;> rcases bnd_run r3 e3 with ⟨rfl, rfl⟩ | ⟨k3, rfl⟩ <;>
    simp only [Instr.sliceBounds, Sem.run_bind, bound_run, Sem.run_pure, Result.andThen_ok, c1, c2, c3]
  all_goals
    cases mx with
    | none => exact r3.elim
    | some y =>
      cases hi with
      | none => exact absurd (c4 rfl) (by simp)
      | some zz => exact r2.elim
/-- a slice expression -/
def evSlice (P : Program) (h : Hp) (n : Nat) (t : TypeId) (x : AV) (lo hi mx : Option AV) : Option Out :=
  match x, P.underlying t with
  | .s i off len cp, some (.slice el) =>
    match P.info? el, bnd 0 lo, bnd len hi with
    | some k, some l, some hh => match mx with
      | none => cond (Nat.ble l hh && Nat.ble hh len)
        (some (.val (cond (Nat.beq l 0) (.s i off hh cp) (cond (Nat.blt l len) (.s i (off + l * k.size) (hh - l) .unk) .z)) h n [])) none
      | some _ => match bnd 0 mx with
        | some m => cond (Nat.ble l hh && Nat.ble hh m && Nat.ble m len && hi.isSome)
          (some (.val (cond (Nat.beq l m) .z (.s i (off + l * k.size) (hh - l) (.num (m - l)))) h n [])) none
        | none => none
    | _, _, _ => none
  | .p i off, some (.array len el) =>
    match P.info? el, bnd 0 lo, bnd len hi, mx with
    | some k, some l, some hh, none => cond (Nat.ble l hh && Nat.ble hh len && Nat.blt l len)
        (some (.val (.s i (off + l * k.size) (hh - l) (.num (len - l))) h n [])) none
    | _, _, _, _ => none
  | _, _ => none
theorem evSlice_ok {t : TypeId} {x : Operand} {lo hi mx : Option Operand} (ho : o.op = .slice t x lo hi mx) {v : AV} {h' : Hp} {n' : Nat} {u : List Nat} (e : evSlice P h n t (ev tm x) (lo.map (ev tm)) (hi.map (ev tm)) (mx.map (ev tm)) = some (.val v h' n' u)) (ht : TRE σ tm a) (r : Rel σ h B w) :
    Yields P (execOp a.eval o) σ h n B w v h' n' ∧ KeptE h n n' h' u := by
  have r1 := bndR_of ht lo
  have r2 := bndR_of ht hi
  have r3 := bndR_of ht mx
  generalize lo.map (ev tm) = lo1 at e r1
  generalize hi.map (ev tm) = hi1 at e r2
  generalize mx.map (ev tm) = mx1 at e r3
  unfold evSlice at e
  have hxv := ev_ok ht x
  split at e
  · rename_i i off len cp el hx hd
    rw [hx] at hxv
    generalize hxe : a.eval x = xv at hxv
    cases hxv with
    | s hb hl hcp =>
      rename_i b kap cq
      split at e
      · rename_i k l hh hk e1 e2
        split at e
        · cases hc : (Nat.ble l hh && Nat.ble hh len) with
          | false => rw [hc] at e; simp [cond] at e
          | true =>
            rw [hc] at e
            simp only [cond, Option.some.injEq, Out.val.injEq] at e
            obtain ⟨rfl, rfl, rfl, rfl⟩ := e
            simp only [Bool.and_eq_true] at hc
            have c1 := Nat.le_of_ble_eq_true hc.1
            have c2 := Nat.le_of_ble_eq_true hc.2
            have hrun := bounds_run (P := P) (w := w) (isS := true) (cp := cq) r1 r2 r3 hl e1 e2 rfl c1 (by omega) (Nat.le_refl _) (by simp)
            have hex : (execOp a.eval o).run P w = .ok (.value (.slice (if cq = l then some ⟨b, off, none⟩ else some ⟨b, off + l * k.size, none⟩) (hh - l) (cq - l))) w := by
              simp only [execOp, ho, hxe, Instr.sliceAt, Instr.slice, Sem.run_bind, und_run hd, Result.andThen_ok, hrun, sizeOf_run hk, Sem.run_pure, Option.map_some, add_at]
            refine ⟨Yields.same r hex ?_, KeptE.refl _ _ _ _⟩
            by_cases hl0 : l = 0
            · subst hl0
              simp only [Nat.zero_mul, Nat.add_zero, ite_self, Nat.sub_zero]
              exact .s hb (by omega) hcp
            · have hb0 : Nat.beq l 0 = false := by cases l with
                | zero => exact absurd rfl hl0
                | succ l => rfl
              simp only [hb0]
              by_cases hll : l < len
              · have : Nat.blt l len = true := by simpa [Nat.blt_eq] using hll
                rw [this, if_neg (by omega)]
                exact .s hb (by omega) trivial
              · have : Nat.blt l len = false := by
                  cases hq : Nat.blt l len with
                  | false => rfl
                  | true => exact absurd (by simpa [Nat.blt_eq] using hq) hll
                rw [this]
                have hz : hh - l = 0 := by omega
                rw [hz]
                by_cases hm : cq = l
                · rw [if_pos hm]; exact .z
                · rw [if_neg hm]; exact .z
        · split at e
          · rename_i m e3
            cases hc : (Nat.ble l hh && Nat.ble hh m && Nat.ble m len && hi1.isSome) with
            | false => rw [hc] at e; simp [cond] at e
            | true =>
              rw [hc] at e
              simp only [cond, Option.some.injEq, Out.val.injEq] at e
              obtain ⟨rfl, rfl, rfl, rfl⟩ := e
              simp only [Bool.and_eq_true] at hc
              have c1 := Nat.le_of_ble_eq_true hc.1.1.1
              have c2 := Nat.le_of_ble_eq_true hc.1.1.2
              have c3 := Nat.le_of_ble_eq_true hc.1.2
              rw [bnd_some 0 cq] at e3
              have hrun := bounds_run (P := P) (w := w) (isS := true) (cp := cq) r1 r2 r3 hl e1 e2 e3 c1 c2 (by omega) (fun _ => hc.2)
              have hex : (execOp a.eval o).run P w = .ok (.value (.slice (if m = l then some ⟨b, off, none⟩ else some ⟨b, off + l * k.size, none⟩) (hh - l) (m - l))) w := by
                simp only [execOp, ho, hxe, Instr.sliceAt, Instr.slice, Sem.run_bind, und_run hd, Result.andThen_ok, hrun, sizeOf_run hk, Sem.run_pure, Option.map_some, add_at]
              refine ⟨Yields.same r hex ?_, KeptE.refl _ _ _ _⟩
              by_cases hlm : l = m
              · subst hlm
                simp only [Nat.beq_refl, if_true]
                have hz : hh - l = 0 := by omega
                rw [hz]
                exact .z
              · have hbm : Nat.beq l m = false := by
                  cases hq : Nat.beq l m with
                  | false => rfl
                  | true => exact absurd (Nat.eq_of_beq_eq_true hq) hlm
                rw [hbm, if_neg (Ne.symm hlm)]
                exact .s hb (by omega) rfl
          · cases e
      · cases e
  · rename_i i off len el hx hd
    rw [hx] at hxv
    generalize hxe : a.eval x = xv at hxv
    cases hxv with
    | p hb =>
      split at e
      · rename_i k l hh hk e1 e2
        cases hc : (Nat.ble l hh && Nat.ble hh len && Nat.blt l len) with
        | false => rw [hc] at e; simp [cond] at e
        | true =>
          rw [hc] at e
          simp only [cond, Option.some.injEq, Out.val.injEq] at e
          obtain ⟨rfl, rfl, rfl, rfl⟩ := e
          simp only [Bool.and_eq_true] at hc
          have c1 := Nat.le_of_ble_eq_true hc.1.1
          have c2 := Nat.le_of_ble_eq_true hc.1.2
          have c3 := Nat.le_of_ble_eq_true hc.2
          have hrun := bounds_run (P := P) (w := w) (isS := false) (cp := len) r1 r2 r3 (Nat.le_refl _) e1 e2 rfl c1 c2 (Nat.le_refl _) (by simp)
          have hne : ¬ len = l := by omega
          refine ⟨Yields.same r ?_ (.s hb (cp := len - l) (by omega) rfl), KeptE.refl _ _ _ _⟩
          simp only [execOp, ho, hxe, Instr.sliceAt, Instr.sureAddr, Sem.run_bind, und_run hd, Result.andThen_ok, hrun, sizeOf_run hk, Sem.run_pure, add_at, hne, if_false]
      · cases e
  · cases e
end ops
end Go.Proofs.Ytcpifmhcebfglaa
namespace Go.Proofs.Ytcpifmhcebfglaa
open Go Go.RowKit
set_option linter.unusedVariables false
def pureA (P : Program) {α : Type} : Sem α → Option α
  | .pure x => some x
  | .program k => pureA P (k P)
  | .mark _ k => pureA P k
  | _ => none
theorem pureA_ok {P : Program} {α : Type} {x : α} (w : World) : ∀ (s : Sem α), pureA P s = some x → s.run P w = .ok x w
  | .pure y, h => by simp only [pureA, Option.some.injEq] at h; subst h; rfl
  | .program k, h => by simp only [pureA] at h; simp only [Sem.run]; exact pureA_ok w (k P) h
  | .mark m k, h => by simp only [pureA] at h; simp only [Sem.run]; exact pureA_ok w k h
  | .choose .., h => by simp [pureA] at h
  | .load .., h => by simp [pureA] at h
  | .store .., h => by simp [pureA] at h
  | .new .., h => by simp [pureA] at h
  | .shape .., h => by simp [pureA] at h
  | .freeze .., h => by simp [pureA] at h
  | .frozen .., h => by simp [pureA] at h
  | .getObj .., h => by simp [pureA] at h
  | .setObj .., h => by simp [pureA] at h
  | .sys .., h => by simp [pureA] at h
  | .halt .., h => by simp [pureA] at h
section ops
variable {P : Program} {tm : T AV} {h : Hp} {n B : Nat} {o : Oper} {σ : Sg} {a : Act} {w : World}
theorem builtin_run {c : Call} {b : Builtin} (ho : o.op = .call c) (hc : c.callee = .builtin b) : ∃ consts, execOp a.eval o = builtin b c.argTypes o.type consts (c.args.map a.eval) := by
  refine ⟨c.args.map fun | .const _ => true | _ => false, ?_⟩
  simp only [execOp, ho, resolve, hc, invoke, bind, Sem.bind, pure]
  rfl
/-- the cells of what is appended -/
def srcOf (h : Hp) (k : Nat) : AV → Option (List AV × Nat)
  | .s j off n _ => match objCells h j with
    | some l => (take? l off (n * k)).map (·, n)
    | none => none
  | .c (.string s) => cond (Nat.beq k 1) (some ((((s.extract 0 s.size).data.map fun b => Value.int .u8 b.toNat).toList).map .c, s.size)) none
  | .c (.slice none 0 _) => some ([], 0)
  | .z => some ([], 0)
  | _ => none
theorem srcOf_ok (r : Rel σ h B w) {k : Nat} {x : AV} {v : Value} (hx : VR σ x v) {xs : List AV} {m : Nat} (e : srcOf h k x = some (xs, m)) :
    ∃ news : List Value, (∀ w', (Builtin.lenOf v).run P w' = .ok m w') ∧ (∀ w', w'.heap = w.heap → (Builtin.firstCells k m v).run P w' = .ok news.toArray w') ∧ VRs σ xs news := by
  unfold srcOf at e
  split at e
  · rename_i j off q cp
    cases hx with
    | s hb hl hcp =>
      rename_i b kap cq
      split at e
      · rename_i l hl'
        simp only [Option.map_eq_some_iff, Prod.mk.injEq] at e
        obtain ⟨ys, hys, rfl, rfl⟩ := e
        unfold take? at hys
        cases hle : Nat.ble (off + q * k) l.length with
        | false => rw [hle] at hys; simp [cond] at hys
        | true =>
          rw [hle] at hys
          simp only [cond, Option.some.injEq] at hys
          subst hys
          have hc : ∀ j' y, l[j']? = some y → ∃ u, w.cell? ⟨b, j', none⟩ = some u ∧ VR σ y u := by
            exact fun j' y hy => objCells_at r hl' hb hy
          obtain ⟨us, h1, h2, h3⟩ := cells_read (P := P) hc (q * k) off (Nat.le_of_ble_eq_true hle)
          refine ⟨us, fun w' => rfl, fun w' hw' => ?_, h2⟩
          have hc' : ∀ j' y, l[j']? = some y → ∃ u, w'.cell? ⟨b, j', none⟩ = some u ∧ VR σ y u := fun j' y hy => by
            obtain ⟨u, h5, h6⟩ := hc j' y hy
            refine ⟨u, ?_, h6⟩
            unfold World.cell? at h5 ⊢; rw [hw']; exact h5
          have same : ∀ (m i : Nat) (acc : Array Value) (r1 : Array Value), (loadCellsFrom ⟨b, off, none⟩ i m acc).run P w = .ok r1 w → (∀ j', j' < m → (w.cell? ((⟨b, off, none⟩ : Addr).add (i + j'))).isSome) → (loadCellsFrom ⟨b, off, none⟩ i m acc).run P w' = .ok r1 w' := by
            intro m
            induction m with
            | zero => intro i acc r1 hr _; simp only [loadCellsFrom] at hr ⊢; cases hr; rfl
            | succ m ih =>
              intro i acc r1 hr hs
              have h0 := hs 0 (by omega)
              obtain ⟨u, hu⟩ := Option.isSome_iff_exists.1 h0
              have hu' : w'.cell? ((⟨b, off, none⟩ : Addr).add (i + 0)) = some u := by unfold World.cell? at hu ⊢; rw [hw']; exact hu
              simp only [Nat.add_zero] at hu hu'
              simp only [loadCellsFrom, Sem.run_bind, run_load, hu, hu', Result.andThen_ok] at hr ⊢
              exact ih (i + 1) _ r1 hr (fun j' hj' => by have := hs (j' + 1) (by omega); rwa [show i + (j' + 1) = i + 1 + j' by omega] at this)
          simp only [Builtin.firstCells, loadCells]
          refine same (q * k) 0 #[] us.toArray (by simpa [loadCells] using h3) fun j' hj' => ?_
          have hlt : off + j' < l.length := by have := Nat.le_of_ble_eq_true hle; omega
          obtain ⟨u, h5, _⟩ := hc (off + j') l[off + j'] (List.getElem?_eq_getElem hlt)
          rw [Nat.zero_add, add_at, h5]; rfl
      · cases e
  · rename_i s
    cases hx
    cases hk : Nat.beq k 1 with
    | false => rw [hk] at e; simp [cond] at e
    | true =>
      rw [hk] at e
      simp only [cond, Option.some.injEq, Prod.mk.injEq] at e
      obtain ⟨rfl, rfl⟩ := e
      refine ⟨((s.extract 0 s.size).data.map fun b => Value.int .u8 b.toNat).toList, fun w' => rfl, fun w' _ => ?_, VRs.cs _⟩
      simp only [Builtin.firstCells, Sem.run_pure, Array.toArray_toList]
  · cases hx
    cases e
    exact ⟨[], fun w' => rfl, fun w' _ => rfl, .nil⟩
  · cases hx
    cases e
    refine ⟨[], fun w' => rfl, fun w' _ => ?_, .nil⟩
    simp [Builtin.firstCells, loadCells, loadCellsFrom]
  · cases e
/-- the cells of zeros behind -/
def zerosOk (i : TypeInfo) (z : Value) : Bool := Nat.beq z.cells.size i.size && !Nat.beq i.size 0
/-- append: what comes of it -/
def evAppendTo (h : Hp) (n : Nat) (el : TypeId) (k : Nat) (x : AV) (ys : List AV) (m : Nat) : Option Out :=
  match x with
  | .c (.slice none 0 0) => some (.val (.s n 0 m .all) (h.set n (some (.cells ys el (some k)))) (n + 1) [])
  | .s i off len cp => match h.get i with
    | some (.cells l t g) => cond (Nat.ble (off + len * k) l.length && Nat.ble len 16777216)
      (match cp with
      | .num c => cond (Nat.ble (len + m) c)
        (cond (Nat.ble (off + (len + m) * k) l.length && ys.all AV.one) (some (.val (.s i off (len + m) (.num c)) (h.set i (some (.cells (l.take (off + len * k) ++ ys ++ l.drop (off + len * k + m * k)) t g))) n [i])) none)
        (some (.val (.s n 0 (len + m) .all) (h.set n (some (.cells ((l.drop off).take (len * k) ++ ys) el (some k)))) (n + 1) []))
      | .all => match g with
        | some k' => cond (Nat.beq k' k && Nat.beq t el && Nat.beq off 0 && ys.all AV.one) (some (.val (.s n 0 (len + m) .all) ((h.set i none).set n (some (.cells (l.take (len * k) ++ ys) el (some k)))) (n + 1) [i])) none
        | none => none
      | .unk => none) none
    | _ => none
  | _ => none
def evAppend (P : Program) (h : Hp) (n : Nat) (ts : Array TypeId) (xs : List AV) : Option Out :=
  match ts[0]?, ts[1]?, xs with
  | some t0, some t1, [x, y] => match P.underlying t0, P.underlying t1 with
    | some (.slice el), some d1 => match d1 with
      | .int _ => none
      | _ => match P.info? el with
        | some i => match i.zero, srcOf h i.size y with
          | some z, some (ys, m) => cond (zerosOk i z && Nat.beq ys.length (m * i.size) && Nat.ble m 16777216 && Nat.ble i.bytes 4096)
            (cond (Nat.beq m 0) none (evAppendTo h n el i.size x ys m)) none
          | _, _ => none
        | none => none
    | _, _ => none
  | _, _, _ => none
theorem zerosLen (z : Array Value) (m : Nat) : (Builtin.zeroCells z m).size = m * z.size := by simp [Builtin.zeroCells]
/-- a row that has grown elsewhere -/
theorem append_far {t0 t1 el ty : TypeId} {d1 : TypeDesc} (h0 : P.underlying t0 = some (.slice el)) (h1 : P.underlying t1 = some d1) (hd : ∀ k, d1 ≠ .int k) {i : TypeInfo} (hi : P.info? el = some i) {z : Value} (hz : i.zero = some z) (hzo : zerosOk i z = true)
    {base : Option Addr} {len cp m : Nat} {y : Value} {olds news : List Value} (hfar : ¬ len + m ≤ cp) (hlen : len + m ≤ 33554432) (hby : i.bytes ≤ 4096)
    (hy1 : ∀ w', (Builtin.lenOf y).run P w' = .ok m w') (hy2 : ∀ w', w'.heap = w.heap → (Builtin.firstCells i.size m y).run P w' = .ok news.toArray w')
    (ho2 : ∀ w', w'.heap = w.heap → (Builtin.firstCells i.size len (.slice base len cp)).run P w' = .ok olds.toArray w') (hl1 : olds.length = len * i.size) (hl2 : news.length = m * i.size) :
    ∃ kap rest, len + m ≤ kap ∧ (olds ++ news ++ rest).length = kap * i.size ∧ (Builtin.append_ #[t0, t1] ty #[.slice base len cp, y]).run P w = .ok (.slice (some ⟨w.heap.size, 0, none⟩) (len + m) kap) (({ w with drawn := w.drawn + 1 } : World).alloc (.cells (olds ++ news ++ rest).toArray el)) := by
  have hn1 : ¬ (((len + m : Nat) : Int) > IntKind.i64.max ∧ (False ∨ i.bytes = 0)) := by
    intro hh
    have : IntKind.i64.max = 9223372036854775807 := rfl
    rw [this] at hh; omega
  have hn2 : ¬ (Builtin.nextslicecap (len + m) cp * i.bytes > 2 ^ 48) := by
    have := growslice_fits (need := len + m) (old := cp) (bytes := i.bytes) (by omega) (by
      have : (len + m) * i.bytes ≤ 33554432 * 4096 := Nat.mul_le_mul hlen hby
      omega)
    omega
  have hq : (Question.appendCap (len + m) cp el).forced = false := rfl
  simp only [zerosOk, Bool.and_eq_true] at hzo
  have hzs := Nat.eq_of_beq_eq_true hzo.1
  refine ⟨Question.cut (.appendCap (len + m) cp el) (w.tape w.drawn (.appendCap (len + m) cp el)), (Builtin.zeroCells z.cells (Question.cut (.appendCap (len + m) cp el) (w.tape w.drawn (.appendCap (len + m) cp el)) - (len + m))).toList, ?_, ?_, ?_⟩
  · simp only [Question.cut]; omega
  · simp only [List.length_append, Array.length_toList, zerosLen, hzs, hl1, hl2]
    generalize hK : Question.cut (.appendCap (len + m) cp el) (w.tape w.drawn (.appendCap (len + m) cp el)) = K
    have hKle : len + m ≤ K := by rw [← hK]; simp only [Question.cut]; omega
    rw [← Nat.add_mul, ← Nat.add_mul]
    congr 1; omega
  · have hkind : ∀ (α : Type) (f g : α), (match d1 with | .int _ => f | _ => g) = g := by
      intro α f g
      cases d1 <;> first | rfl | exact absurd rfl (hd _)
    have hmt : (match d1 with | .int _ => true | _ => false) = false := by
      cases d1 <;> first | rfl | exact absurd rfl (hd _)
    have hz0 : ∀ w', (zeroValue el).run P w' = .ok z w' := fun w' => zero_run hi hz
    have hs0 : ∀ w', (sizeOf el).run P w' = .ok i.size w' := fun w' => sizeOf_run hi
    have ht0 : ∀ w', (typeInfo el).run P w' = .ok i w' := fun w' => by simp [typeInfo, hi]
    simp only [Builtin.append_, List.getElem?_toArray, List.getElem?_cons_zero, List.getElem?_cons_succ, Sem.run_bind, und_run h0, und_run h1, Result.andThen_ok, hs0, Sem.run_pure, Bool.false_eq_true, if_false, hy1, hfar, ht0, hn1, hn2, run_choose, hq, hz0, run_askRoom, ho2 { w with drawn := w.drawn + 1 } rfl, hy2 { w with drawn := w.drawn + 1 } rfl, Bool.not_false, if_true, newRow, run_newObj]
    simp
    generalize Builtin.zeroCells z.cells _ = Z
    have hA : ((olds ++ news).toArray ++ Z) = (olds ++ (news ++ Z.toList)).toArray := by apply Array.ext'; simp
    rw [hA]
    rfl
end ops
end Go.Proofs.Ytcpifmhcebfglaa
namespace Go.Proofs.Ytcpifmhcebfglaa
open Go Go.RowKit
set_option linter.unusedVariables false
section ops
variable {P : Program} {tm : T AV} {h : Hp} {n B : Nat} {o : Oper} {σ : Sg} {a : Act} {w : World}
theorem append_ts {ts : Array TypeId} {t0 t1 ty : TypeId} {args : Array Value} (h0 : ts[0]? = some t0) (h1 : ts[1]? = some t1) : Builtin.append_ ts ty args = Builtin.append_ #[t0, t1] ty args := by
  simp only [Builtin.append_, h0, h1, List.getElem?_toArray, List.getElem?_cons_zero, List.getElem?_cons_succ]
theorem RelF.world {σ : Sg} {g : Nat → Option AO} {B : Nat} {w w' : World} (r : RelF σ g B w) (e : w'.heap = w.heap) : RelF σ g B w' :=
  ⟨fun i o ho => by rw [e]; exact r.obj i o ho, r.inj⟩
theorem act_drew (r : Rel σ h B w) (d : Nat) : Act1 σ h n B w σ h n { w with drawn := d } :=
  ⟨Nat.le_refl _, Sub.refl _, fun i hi => .inl hi, r.world rfl, ⟨rfl, rfl, rfl, Nat.le_refl _, fun _ _ _ => rfl⟩, fun i b k hi hb => .inr ⟨i, k, hi, hb⟩⟩
theorem act_drop (r : Rel σ h B w) (i : Nat) : Act1 σ h n B w σ (h.set i none) n w where
  le := Nat.le_refl _
  sub := Sub.refl _
  dom := fun i hi => .inl hi
  rel := ⟨fun j o ho => by
      rw [T.get_set] at ho
      split at ho
      · cases ho
      · exact r.obj j o ho, fun j k b c d hj hk e1 e2 => by
      rw [T.get_set] at hj hk
      split at hj
      · cases hj
      · split at hk
        · cases hk
        · exact r.inj j k b c d hj hk e1 e2⟩
  fr := FrE.refl _ _ _
  src := fun j b k hj hb => by
    rw [T.get_set] at hj
    split at hj
    · cases hj
    · exact .inr ⟨j, k, hj, hb⟩
theorem splice_ok {l ys : List AV} {arr : List Value} {us : List Value} {off : Nat} (h5 : VRs σ l (arr.take l.length)) (hy : VRs σ ys us) (h1 : off + ys.length ≤ l.length) (h6 : l.length ≤ arr.length) :
    VRs σ (l.take off ++ ys ++ l.drop (off + ys.length)) ((arr.take off ++ us ++ arr.drop (off + us.length)).take (l.take off ++ ys ++ l.drop (off + ys.length)).length) := by
  have hlen := hy.length
  have hl2 : (l.take off ++ ys ++ l.drop (off + ys.length)).length = l.length := by simp; omega
  rw [hl2]
  have e1 : (List.take off arr ++ us ++ List.drop (off + us.length) arr).take l.length = (arr.take l.length).take off ++ us ++ (arr.take l.length).drop (off + us.length) := by
    apply List.ext_getElem?
    intro j
    simp only [List.getElem?_take, List.getElem?_append, List.length_append, List.length_take, List.getElem?_drop]
    have m1 : min off arr.length = off := by omega
    have m2 : min off (min l.length arr.length) = off := by omega
    simp only [m1, m2]
    by_cases q1 : j < l.length
    · simp only [q1, if_true]
      by_cases q2 : j < off + us.length
      · simp only [q2, if_true]
      · simp only [q2, if_false]
        rw [if_pos (by omega)]
    · simp only [q1, if_false]
      rw [if_neg (by omega)]
      symm
      rw [if_neg (by omega)]
  rw [e1, ← hlen]
  exact ((h5.take off).append hy).append (h5.drop (off + ys.length))
/-- grown elsewhere -/
theorem far_out (r : Rel σ h B w) (hB : B ≤ w.heap.size) (hn : σ n = none) {xs ys : List AV} {olds news rest : List Value} (hx : VRs σ xs olds) (hy : VRs σ ys news) {el : TypeId} {k kap need : Nat} (hk : need ≤ kap) (hl : (olds ++ news ++ rest).length = kap * k) (d : Nat) :
    VR (ext σ n (w.heap.size, kap)) (.s n 0 need .all) (.slice (some ⟨w.heap.size, 0, none⟩) need kap) ∧
    Act1 σ h n B w (ext σ n (w.heap.size, kap)) (h.set n (some (.cells (xs ++ ys) el (some k)))) (n + 1) (({ w with drawn := d } : World).alloc (.cells (olds ++ news ++ rest).toArray el)) := by
  have a1 := act_drew (n := n) r d
  have a2 := act_new (n := n) (kap := kap) (o := .cells (olds ++ news ++ rest).toArray el) (x := .cells (xs ++ ys) el (some k)) a1.rel hB hn ⟨_, rfl, ?_, ?_, ?_⟩
  · refine ⟨.s (k := kap) (by simp [ext]) hk ⟨rfl, rfl⟩, a1.trans a2⟩
  · have h1 := (hx.append hy)
    have h2 := h1.length
    rw [h2]
    have e : List.take (olds ++ news).length (olds ++ news ++ rest).toArray.toList = olds ++ news := by simp only; exact List.take_left' rfl
    rw [e]; exact h1
  · have h2 := (hx.append hy).length
    simp at h2 ⊢; omega
  · simp only [GrowR, List.size_toArray]; exact hl
theorem evAppend_ok {c : Call} (ho : o.op = .call c) (hc : c.callee = .builtin .append) {v : AV} {h' : Hp} {n' : Nat} {u : List Nat} (e : evAppend P h n c.argTypes (c.args.toList.map (ev tm)) = some (.val v h' n' u)) (ht : TRE σ tm a) (r : Rel σ h B w) (hB : B ≤ w.heap.size) (hf : ∀ i, n ≤ i → i < n' → σ i = none) :
    Yields P (execOp a.eval o) σ h n B w v h' n' ∧ KeptE h n n' h' u := by
  obtain ⟨consts, hb⟩ := builtin_run (a := a) ho hc
  unfold evAppend at e
  split at e
  · rename_i t0 t1 x y e0 e1 e2
    have hargs : ∃ x' y', c.args.toList = [x', y'] ∧ ev tm x' = x ∧ ev tm y' = y := by
      cases hl : c.args.toList with
      | nil => rw [hl] at e2; cases e2
      | cons p q => cases q with
        | nil => rw [hl] at e2; cases e2
        | cons p2 q2 => cases q2 with
          | cons _ _ => rw [hl] at e2; cases e2
          | nil => rw [hl] at e2; simp only [List.map_cons, List.map_nil, List.cons.injEq, and_true] at e2; exact ⟨p, p2, rfl, e2.1, e2.2⟩
    obtain ⟨x', y', hl, hx', hy'⟩ := hargs
    have hca : c.args.map a.eval = #[a.eval x', a.eval y'] := by apply Array.ext'; simp [hl]
    have hxv := ev_ok ht x'
    have hyv := ev_ok ht y'
    rw [hx'] at hxv
    rw [hy'] at hyv
    rw [hca] at hb
    generalize a.eval x' = xv at hxv hb
    generalize a.eval y' = yv at hyv hb
    have hbb : ∀ (v' : Value) (w' : World), (Builtin.append_ #[t0, t1] o.type #[xv, yv]).run P w = .ok v' w' → (execOp a.eval o).run P w = .ok (.value v') w' := by
      intro v' w' hr
      rw [hb]
      simp only [builtin, Sem.run_bind, append_ts e0 e1, hr, Result.andThen_ok, Sem.run_pure]
    split at e
    · rename_i el d1 hu0 hu1
      split at e
      · cases e
      · rename_i hd
        split at e
        · rename_i i hi
          split at e
          · rename_i z ys m hz hs
            cases hcc : (zerosOk i z && Nat.beq ys.length (m * i.size) && Nat.ble m 16777216 && Nat.ble i.bytes 4096) with
            | false => rw [hcc] at e; simp [cond] at e
            | true =>
              rw [hcc] at e
              simp only [cond] at e
              simp only [Bool.and_eq_true] at hcc
              obtain ⟨⟨⟨c1, c2⟩, c3⟩, c4⟩ := hcc
              have c2 := Nat.eq_of_beq_eq_true c2
              have c3 := Nat.le_of_ble_eq_true c3
              have c4 := Nat.le_of_ble_eq_true c4
              cases hm : Nat.beq m 0 with
              | true => rw [hm] at e; cases e
              | false =>
                rw [hm] at e
                have hm0 := Nat.ne_of_beq_eq_false hm
                simp only at e
                obtain ⟨news, q1, q2, q3⟩ := srcOf_ok (P := P) r hyv hs
                have hnl : news.length = m * i.size := by rw [← q3.length]; exact c2
                have far := fun (base : Option Addr) (len cp : Nat) (olds : List Value) (hfar : ¬ len + m ≤ cp) (hlen : len + m ≤ 33554432) => append_far (P := P) (w := w) (ty := o.type) hu0 hu1 (fun k hk => hd k hk) hi hz c1 (base := base) (len := len) (cp := cp) (m := m) (y := yv) (olds := olds) (news := news) hfar hlen c4 q1 q2
                unfold evAppendTo at e
                split at e
                · cases hxv
                  cases e
                  obtain ⟨kap, rest, f1, f2, f3⟩ := far none 0 0 [] (by omega) (by omega) (fun w' _ => rfl) (by simp) hnl
                  have := far_out (el := el) (k := i.size) r hB (hf n (by omega) (by omega)) (.nil : VRs σ [] []) q3 (need := m) (by omega) f2 (w.drawn + 1)
                  exact ⟨⟨_, _, _, .inl (hbb _ _ (by simpa using f3)), this.1, by simpa using this.2⟩, kept_set⟩
                · rename_i i1 off len cp
                  cases hxv with
                  | s hb1 hl1 hcp =>
                    rename_i b kap0 cq
                    split at e
                    · rename_i l t g hg
                      cases hle : (Nat.ble (off + len * i.size) l.length && Nat.ble len 16777216) with
                      | false => rw [hle] at e; simp [cond] at e
                      | true =>
                        rw [hle] at e
                        simp only [Bool.and_eq_true] at hle
                        have hlen16 := Nat.le_of_ble_eq_true hle.2
                        have hle := Nat.le_of_ble_eq_true hle.1
                        obtain ⟨b2, kq, h1, h2, h3, arr, h4, h5, h6, h7⟩ := r.obj i1 _ hg
                        rw [hb1] at h1; cases h1
                        have olds := fun (w' : World) (hw' : w'.heap = w.heap) => cells_read (P := P) (w := w') (fun j y hy => cell_at (r.world hw') hg hb1 hy) (len * i.size) off hle
                        obtain ⟨os, o1, o2, o3⟩ := olds w rfl
                        have o4 : ∀ w' : World, w'.heap = w.heap → (Builtin.firstCells i.size len (.slice (some ⟨b, off, none⟩) len cq)).run P w' = .ok os.toArray w' := by
                          intro w' hw'
                          obtain ⟨os', p1, p2, p3⟩ := olds w' hw'
                          have hsrc := srcOf_ok (P := P) (k := i.size) (x := .s i1 off len .unk) (v := .slice (some ⟨b, off, none⟩) len cq) (m := len) (xs := (l.drop off).take (len * i.size)) r (.s hb1 hl1 trivial) (by
                            simp only [srcOf, objCells, hg, take?]
                            have : Nat.ble (off + len * i.size) l.length = true := by rw [Nat.ble_eq]; exact hle
                            rw [this]; rfl)
                          obtain ⟨nw, s1, s2, s3⟩ := hsrc
                          have e3 := s2 w rfl
                          have e4 : (Builtin.firstCells i.size len (.slice (some ⟨b, off, none⟩) len cq)).run P w = .ok os.toArray w := o3
                          rw [e3] at e4
                          have := s2 w' hw'
                          rw [this]
                          injection e4 with e5
                          rw [e5]
                        have put := fun (hroom : len + m ≤ cq) (at_ : off + len * i.size + m * i.size ≤ arr.size) (h1s : ys.all AV.one = true) => show (Builtin.append_ #[t0, t1] o.type #[.slice (some ⟨b, off, none⟩) len cq, yv]).run P w = .ok (.slice (some ⟨b, off, none⟩) (len + m) cq) (w.setRow b (arr.toList.take (off + len * i.size) ++ news ++ arr.toList.drop (off + len * i.size + news.length)).toArray) from by
                          have hst := run_storeCells_at (P := P) b (off + len * i.size) t news 0 arr w h4 (by omega) (ones_ok q3 h1s)
                          simp only [Nat.add_zero] at hst
                          have hs0 : ∀ w', (sizeOf el).run P w' = .ok i.size w' := fun w' => sizeOf_run hi
                          simp only [Builtin.append_, List.getElem?_toArray, List.getElem?_cons_zero, List.getElem?_cons_succ, Sem.run_bind, und_run hu0, und_run hu1, Result.andThen_ok, hs0, Sem.run_pure, Bool.false_eq_true, if_false, q1, hroom, if_true, add_at]
                          have hmt : ∀ (α : Type) (p q : α), (match d1 with | .int _ => p | _ => q) = q := by
                            intro α p q; cases d1 <;> first | rfl | exact absurd rfl (hd _)
                          simp [hst, q2 w rfl]
                        have hos := o2.length
                        have hlen' := q3.length
                        split at e
                        · rename_i c
                          have hcp : cq = c := hcp
                          cases hroom : Nat.ble (len + m) c with
                          | true =>
                            rw [hroom] at e
                            have hroom := Nat.le_of_ble_eq_true hroom
                            cases hin : (Nat.ble (off + (len + m) * i.size) l.length && ys.all AV.one) with
                            | false => rw [hin] at e; simp [cond] at e
                            | true =>
                              rw [hin] at e
                              simp only [cond, Option.some.injEq, Out.val.injEq] at e
                              obtain ⟨rfl, rfl, rfl, rfl⟩ := e
                              simp only [Bool.and_eq_true] at hin
                              have i1' := Nat.le_of_ble_eq_true hin.1
                              rw [Nat.add_mul] at i1'
                              have pr := put (by omega) (by omega) hin.2
                              refine ⟨⟨σ, _, _, .inl (hbb _ _ pr), .s hb1 (by omega) hcp, ?_⟩, ?_⟩
                              · refine act_put r hg hb1 rfl rfl rfl (by simp [World.setRow]) (fun k hk => setRow_other _ _ _ _ hk) ⟨_, setRow_heap w b arr _ t _ h4, ?_, ?_, ?_⟩
                                · have := splice_ok (off := off + len * i.size) h5 q3 (by omega) (by simpa using h6)
                                  rw [c2] at this
                                  simpa [List.append_assoc] using this
                                · simp; omega
                                · cases g with
                                  | none => simp only [GrowR] at h7 ⊢; simp; omega
                                  | some kk => simp only [GrowR] at h7 ⊢; simp; omega
                              · intro j hj hu
                                rw [T.get_set, if_neg]
                                intro e; subst e; simp at hu
                          | false =>
                            rw [hroom] at e
                            simp only [cond, Option.some.injEq, Out.val.injEq] at e
                            obtain ⟨rfl, rfl, rfl, rfl⟩ := e
                            have hno : ¬ len + m ≤ c := fun hh => by rw [← Nat.ble_eq, hroom] at hh; cases hh
                            obtain ⟨kap, rest, f1, f2, f3⟩ := far (some ⟨b, off, none⟩) len cq os (by omega) (by omega) o4 (by omega) hnl
                            have := far_out (el := el) (k := i.size) r hB (hf n (by omega) (by omega)) o2 q3 (need := len + m) (by omega) f2 (w.drawn + 1)
                            exact ⟨⟨_, _, _, .inl (hbb _ _ f3), this.1, this.2⟩, kept_set⟩
                        · split at e
                          · rename_i k'
                            cases hin : (Nat.beq k' i.size && Nat.beq t el && Nat.beq off 0 && ys.all AV.one) with
                            | false => rw [hin] at e; simp [cond] at e
                            | true =>
                              rw [hin] at e
                              simp only [cond, Option.some.injEq, Out.val.injEq] at e
                              obtain ⟨rfl, rfl, rfl, rfl⟩ := e
                              simp only [Bool.and_eq_true] at hin
                              obtain ⟨⟨⟨g1, g2⟩, g3⟩, g4⟩ := hin
                              have g1 := Nat.eq_of_beq_eq_true g1
                              have g2 := Nat.eq_of_beq_eq_true g2
                              have g3 := Nat.eq_of_beq_eq_true g3
                              subst g1 g2 g3
                              have hn := hf n (by omega) (by omega)
                              have hcap : cq = kap0 := hcp.2
                              have harr : arr.size = kap0 * i.size := h7
                              have hkp : KeptE h n (n + 1) (((h.set i1 none).set n (some (.cells (l.take (len * i.size) ++ ys) t (some i.size))))) [i1] := by
                                intro j hj hu
                                rw [T.get_set, if_neg (by omega), T.get_set, if_neg]
                                intro e; subst e; simp at hu
                              by_cases hroom : len + m ≤ cq
                              · have hmul : len * i.size + m * i.size ≤ kap0 * i.size := by rw [← Nat.add_mul]; exact Nat.mul_le_mul_right _ (by omega)
                                have pr := put hroom (by omega) g4
                                refine ⟨⟨ext σ n (b, cq), _, _, .inl (hbb _ _ pr), .s (k := cq) (by simp [ext]) hroom ⟨rfl, rfl⟩, ?_⟩, hkp⟩
                                refine act_move r hg hb1 hn rfl rfl rfl (by simp [World.setRow]) (fun k hk => setRow_other _ _ _ _ hk) ⟨_, setRow_heap w b arr _ t _ h4, ?_, ?_, ?_⟩
                                · have e5 : (l.take (len * i.size) ++ ys).length = len * i.size + news.length := by simp; omega
                                  rw [e5]
                                  have e6 : List.take (len * i.size + news.length) (List.take (0 + len * i.size) arr.toList ++ news ++ List.drop (0 + len * i.size + news.length) arr.toList).toArray.toList = (arr.toList.take l.length).take (len * i.size) ++ news := by
                                    have q : (List.take (0 + len * i.size) arr.toList ++ news).length = len * i.size + news.length := by simp; omega
                                    rw [List.toList_toArray, ← q, List.take_left' rfl, List.take_take]
                                    congr 2
                                    omega
                                  rw [e6]
                                  exact (h5.take _).append q3
                                · simp; omega
                                · simp only [GrowR]; rw [hcap]; simp; omega
                              · obtain ⟨kap, rest, f1, f2, f3⟩ := far (some ⟨b, 0, none⟩) len cq os hroom (by omega) o4 (by omega) hnl
                                have d1 := act_drop (n := n) r i1
                                have := far_out (n := n) (el := t) (k := i.size) d1.rel hB hn o2 q3 (need := len + m) (by omega) f2 (w.drawn + 1)
                                refine ⟨⟨_, _, _, .inl (hbb _ _ f3), this.1, ?_⟩, hkp⟩
                                have := d1.trans this.2
                                simpa using this
                          · cases e
                        · cases e
                    · cases e
                · cases e
          · cases e
        · cases e
    · cases e
  · cases e
end ops
end Go.Proofs.Ytcpifmhcebfglaa
namespace Go.Proofs.Ytcpifmhcebfglaa
open Go Go.RowKit
set_option linter.unusedVariables false
section ops
variable {P : Program} {tm : T AV} {h : Hp} {n B : Nat} {o : Oper} {σ : Sg} {a : Act} {w : World}
theorem args1 {c : Call} {x : AV} (e : c.args.toList.map (ev tm) = [x]) (ht : TRE σ tm a) : ∃ xv, c.args.map a.eval = #[xv] ∧ VR σ x xv := by
  cases hl : c.args.toList with
  | nil => rw [hl] at e; cases e
  | cons p q => cases q with
    | cons _ _ => rw [hl] at e; cases e
    | nil =>
      rw [hl] at e; simp only [List.map_cons, List.map_nil, List.cons.injEq, and_true] at e
      refine ⟨a.eval p, by apply Array.ext'; simp [hl], ?_⟩
      rw [← e]; exact ev_ok ht p
theorem args2 {c : Call} {x y : AV} (e : c.args.toList.map (ev tm) = [x, y]) (ht : TRE σ tm a) : ∃ xv yv, c.args.map a.eval = #[xv, yv] ∧ VR σ x xv ∧ VR σ y yv := by
  cases hl : c.args.toList with
  | nil => rw [hl] at e; cases e
  | cons p q => cases q with
    | nil => rw [hl] at e; cases e
    | cons p2 q2 => cases q2 with
      | cons _ _ => rw [hl] at e; cases e
      | nil =>
        rw [hl] at e; simp only [List.map_cons, List.map_nil, List.cons.injEq, and_true] at e
        refine ⟨a.eval p, a.eval p2, by apply Array.ext'; simp [hl], ?_, ?_⟩
        · rw [← e.1]; exact ev_ok ht p
        · rw [← e.2]; exact ev_ok ht p2
theorem ER.length {σ : Sg} : ∀ {l : List (AV × AV × Nat)} {l' : List MapEntry}, ER σ l l' → l.length = l'.length
  | _, _, .nil => rfl
  | _, _, .cons _ _ h => by simp [ER.length h]
def evLen (P : Program) (h : Hp) (n : Nat) (ts : Array TypeId) (xs : List AV) : Option Out :=
  match ts[0]?, xs with
  | some t, [x] => match x, P.underlying t with
    | .s _ _ len _, some (.slice _) => some (.val (.c (goInt len)) h n [])
    | .z, some (.slice _) => some (.val (.c (goInt 0)) h n [])
    | .m i, some (.map _ _) => match h.get i with
      | some (.map es _) => some (.val (.c (goInt es.length)) h n [])
      | _ => none
    | _, _ => none
  | _, _ => none
theorem evLen_ok {c : Call} (ho : o.op = .call c) (hc : c.callee = .builtin .len) {v : AV} {h' : Hp} {n' : Nat} {u : List Nat} (e : evLen P h n c.argTypes (c.args.toList.map (ev tm)) = some (.val v h' n' u)) (ht : TRE σ tm a) (r : Rel σ h B w) :
    Yields P (execOp a.eval o) σ h n B w v h' n' ∧ KeptE h n n' h' u := by
  obtain ⟨consts, hb⟩ := builtin_run (a := a) ho hc
  unfold evLen at e
  split at e
  · rename_i t x e0 e1
    obtain ⟨xv, ha, hx⟩ := args1 e1 ht
    have key : ∀ k : Nat, (Builtin.len_ c.argTypes o.type #[xv]).run P w = .ok (goInt k) w → (execOp a.eval o).run P w = .ok (.value (goInt k)) w := by
      intro k hk
      rw [hb, ha]
      simp only [builtin, Sem.run_bind, hk, Result.andThen_ok, Sem.run_pure]
    split at e
    · rename_i i off len cp el hd
      cases e
      cases hx with
      | s hb1 hl hcp =>
        refine ⟨Yields.same r (key len ?_) (.c _), KeptE.refl _ _ _ _⟩
        simp [Builtin.len_, e0, und_run hd]
    · rename_i el hd
      cases e
      cases hx with
      | z =>
        refine ⟨Yields.same r (key 0 ?_) (.c _), KeptE.refl _ _ _ _⟩
        simp [Builtin.len_, e0, und_run hd]
    · rename_i i kt et hd
      split at e
      · rename_i es ck hg
        cases e
        cases hx with
        | m hb1 =>
          rename_i b k
          obtain ⟨b2, k2, h1, h2, h3, es', h4, h5⟩ := r.obj i _ hg
          rw [hb1] at h1; cases h1
          refine ⟨Yields.same r (key es.length ?_) (.c _), KeptE.refl _ _ _ _⟩
          have := h5.length
          simp only [Array.length_toList] at this
          simp [Builtin.len_, e0, und_run hd, getObj, Sem.run, h4, this]
      · cases e
    · cases e
  · cases e
/-- parts put into cells -/
def fillA (place : Nat → Option (Nat × Nat)) (cells : List AV) : List (Nat × AV) → Option (List AV)
  | [] => some cells
  | (i, v) :: rest => match place i with
    | none => none
    | some (off, size) => cond (Nat.beq v.cells.length size && Nat.ble (off + size) cells.length && !v.isQ) (fillA place (cells.take off ++ v.cells ++ cells.drop (off + size)) rest) none
theorem foldl_set (off : Nat) : ∀ (l : List Value) (k : Nat) (cs : Array Value), off + k + l.length ≤ cs.size → ((l.zipIdx k).foldl (fun cs (c, j) => cs.setIfInBounds (off + j) c) cs).toList = cs.toList.take (off + k) ++ l ++ cs.toList.drop (off + k + l.length)
  | [], k, cs, _ => by simp
  | v :: l, k, cs, hl => by
    simp only [List.length_cons] at hl
    have ih := foldl_set off l (k + 1) (cs.setIfInBounds (off + k) v) (by simp; omega)
    simp only [List.zipIdx_cons, List.foldl_cons]
    rw [ih]
    have hlt : off + k < cs.toList.length := by simp; omega
    apply List.ext_getElem?
    intro j
    simp only [Array.toList_setIfInBounds, List.getElem?_append, List.getElem?_take, List.getElem?_drop, List.getElem?_set, List.length_append, List.length_take, List.length_set, List.length_cons, Array.length_toList]
    have m1 : min (off + (k + 1)) cs.size = off + k + 1 := by omega
    have m2 : min (off + k) cs.size = off + k := by omega
    simp only [m1, m2]
    by_cases q1 : j < off + k
    · have : ¬ off + k = j := by omega
      simp [q1, this, show j < off + k + 1 + l.length by omega, show j < off + k + 1 by omega, show j < off + (k + 1) by omega, show j < off + k + (l.length + 1) by omega]
    · by_cases q2 : j = off + k
      · subst q2
        simp [show off + k < off + k + 1 + l.length by omega, show off + k < off + (k + 1) by omega, show off + k < cs.size by omega]
      · by_cases q3 : j < off + k + 1 + l.length
        · obtain ⟨q, hq⟩ : ∃ q, j = off + k + 1 + q := ⟨j - (off + k + 1), by omega⟩
          subst hq
          simp [show off + k + 1 + q < off + k + 1 + l.length by omega, show ¬ (off + k + 1 + q < off + k + 1) by omega, show off + k + 1 + q < off + k + (l.length + 1) by omega, show ¬ (off + k + 1 + q < off + k) by omega, show off + k + 1 + q - (off + k) = q + 1 by omega]
        · simp [q3, show ¬ (j < off + k + (l.length + 1)) by omega, show ¬ (off + k = off + (k + 1) + l.length + (j - (off + k + 1 + l.length))) by omega]
          congr 1; omega
theorem fillA_ok (place : Nat → Option (Nat × Nat)) : ∀ (ps : List (Nat × AV)) (ps' : List (Nat × Value)) (cells : List AV) (cells' : Array Value) (out : List AV), ps.map (·.1) = ps'.map (·.1) → VRs σ (ps.map (·.2)) (ps'.map (·.2)) → VRs σ cells cells'.toList → fillA place cells ps = some out → ∃ out', Instr.fill place cells' ps' = some out' ∧ VRs σ out out'.toList
  | [], [], cells, cells', out, _, _, h, e => by simp only [fillA, Option.some.injEq] at e; subst e; exact ⟨cells', rfl, h⟩
  | [], _ :: _, _, _, _, h, _, _, _ => by simp at h
  | _ :: _, [], _, _, _, h, _, _, _ => by simp at h
  | (i, v) :: ps, (i', v') :: ps', cells, cells', out, h1, h2, h3, e => by
    simp only [List.map_cons, List.cons.injEq] at h1
    obtain ⟨rfl, h1⟩ := h1
    simp only [List.map_cons] at h2
    cases h2 with
    | cons hv hvs =>
      simp only [fillA] at e
      split at e
      · cases e
      · rename_i off size hp
        cases hc : (Nat.beq v.cells.length size && Nat.ble (off + size) cells.length && !v.isQ) with
        | false => rw [hc] at e; simp [cond] at e
        | true =>
          rw [hc] at e
          simp only [cond] at e
          simp only [Bool.and_eq_true] at hc
          have c1 := Nat.eq_of_beq_eq_true hc.1.1
          have c2 := Nat.le_of_ble_eq_true hc.1.2
          have hq : v.isQ = false := by simpa using hc.2
          have hcs := cells_ok hv hq
          have hl := hcs.length
          have hl3 := h3.length
          simp only [Array.length_toList] at hl hl3
          have hset := foldl_set off v'.cells.toList 0 cells' (by simp; omega)
          obtain ⟨out', k1, k2⟩ := fillA_ok place ps ps' _ (v'.cells.zipIdx.foldl (fun cs (c, j) => cs.setIfInBounds (off + j) c) cells') out h1 hvs (by
            have e1 : (v'.cells.zipIdx.foldl (fun cs (c, j) => cs.setIfInBounds (off + j) c) cells').toList = cells'.toList.take off ++ v'.cells.toList ++ cells'.toList.drop (off + size) := by
              rw [← Array.foldl_toList, Array.toList_zipIdx]
              simp only [Nat.add_zero, Array.length_toList] at hset
              rw [hset, show v'.cells.size = size by omega]
            rw [e1]
            exact ((h3.take off).append hcs).append (h3.drop (off + size))) e
          refine ⟨out', ?_, k2⟩
          simp only [Instr.fill, hp]
          rw [if_neg (by simp; omega)]
          exact k1
/-- what has the parts of a value -/
def placesOf (P : Program) (t : TypeId) : Option (Nat → Option (Nat × Nat)) :=
  match P.underlying t with
  | some (.struct fs) => (pureA P (fs.mapM (m := Sem) fun f => do pure (f.offset, ← sizeOf f.type))).map fun pl i => pl[i]?
  | some (.array _ el) => match P.info? el with
    | some k => some fun i => some (i * k.size, k.size)
    | none => none
  | _ => none
def evBuild (P : Program) (h : Hp) (n : Nat) (t : TypeId) (ps : List (Nat × AV)) : Option Out :=
  match placesOf P t, P.info? t with
  | some pl, some i => match i.zero with
    | some z => (fillA pl (z.cells.toList.map .c) ps).map fun l => .val (mkA l) h n []
    | none => none
  | _, _ => none
theorem parts_ok (ht : TRE σ tm a) (ps : Array (Nat × Operand)) : (ps.toList.map fun p => (p.1, ev tm p.2)).map (·.1) = (ps.map fun (i, x) => (i, a.eval x)).toList.map (·.1) ∧ VRs σ ((ps.toList.map fun p => (p.1, ev tm p.2)).map (·.2)) ((ps.map fun (i, x) => (i, a.eval x)).toList.map (·.2)) := by
  obtain ⟨l⟩ := ps
  simp only [List.map_map, List.map_toArray]
  induction l with
  | nil => exact ⟨rfl, .nil⟩
  | cons p l ih => exact ⟨by simp [ih.1], .cons (ev_ok ht p.2) ih.2⟩
theorem evBuild_ok {t : TypeId} {ps : Array (Nat × Operand)} (ho : o.op = .build t ps) {v : AV} {h' : Hp} {n' : Nat} {u : List Nat} (e : evBuild P h n t (ps.toList.map fun p => (p.1, ev tm p.2)) = some (.val v h' n' u)) (ht : TRE σ tm a) (r : Rel σ h B w) :
    Yields P (execOp a.eval o) σ h n B w v h' n' ∧ KeptE h n n' h' u := by
  have hps := parts_ok ht ps
  unfold evBuild at e
  split at e
  · rename_i pl i hpl hi
    split at e
    · rename_i z hz
      simp only [Option.map_eq_some_iff, Out.val.injEq] at e
      obtain ⟨l, hl, rfl, rfl, rfl, rfl⟩ := e
      obtain ⟨out', k1, k2⟩ := fillA_ok pl _ _ _ z.cells _ hps.1 hps.2 (VRs.cs _) hl
      refine ⟨Yields.same (v' := .agg out') r ?_ (by simpa using mkA_ok k2), KeptE.refl _ _ _ _⟩
      simp only [execOp, ho, Instr.build, Sem.run_bind, zero_run hi hz, Result.andThen_ok]
      unfold placesOf at hpl
      split at hpl
      · rename_i fs hu
        simp only [Option.map_eq_some_iff] at hpl
        obtain ⟨pl', hp, rfl⟩ := hpl
        have hm := pureA_ok w _ hp
        simp only [und_run hu, Result.andThen_ok, Sem.run_bind, hm, k1, Sem.run_pure]
      · rename_i len el hu
        split at hpl
        · rename_i k hk
          cases hpl
          simp only [und_run hu, Result.andThen_ok, Sem.run_bind, sizeOf_run hk, k1, Sem.run_pure]
        · cases hpl
      · cases hpl
    · cases e
  · cases e
def zeroRow (z : Array Value) (m : Nat) : Array Value := (Array.range m).map fun i => z[i % z.size]!
def evBuildSlice (P : Program) (h : Hp) (n : Nat) (t len : Nat) (ps : List (Nat × AV)) : Option Out :=
  match P.underlying t with
  | some (.slice el) => match P.info? el with
    | some i => match i.zero with
      | some z => cond (Nat.ble (len * i.size) 16777216 && !Nat.beq (len * i.size) 0)
        ((fillA (fun j => some (j * i.size, i.size)) ((zeroRow z.cells (len * i.size)).toList.map .c) ps).map fun l => .val (.s n 0 len (.num len)) (h.set n (some (.cells l el none))) (n + 1) [])
        (cond (Nat.beq (len * i.size) 0) (match ps with
          | [] => some (.val (.s n 0 len (.num len)) (h.set n (some (.cells [] el none))) (n + 1) [])
          | _ => none) none)
      | none => none
    | none => none
  | _ => none
theorem evBuildSlice_ok {t len : Nat} {ps : Array (Nat × Operand)} (ho : o.op = .buildSlice t len ps) {v : AV} {h' : Hp} {n' : Nat} {u : List Nat} (e : evBuildSlice P h n t len (ps.toList.map fun p => (p.1, ev tm p.2)) = some (.val v h' n' u)) (ht : TRE σ tm a) (r : Rel σ h B w) (hB : B ≤ w.heap.size) (hf : ∀ i, n ≤ i → i < n' → σ i = none) :
    Yields P (execOp a.eval o) σ h n B w v h' n' ∧ KeptE h n n' h' u := by
  have hps := parts_ok ht ps
  unfold evBuildSlice at e
  split at e
  · rename_i el hu
    split at e
    · rename_i i hi
      split at e
      · rename_i z hz
        cases hc : (Nat.ble (len * i.size) 16777216 && !Nat.beq (len * i.size) 0) with
        | true =>
          rw [hc] at e
          simp only [cond, Option.map_eq_some_iff, Out.val.injEq] at e
          obtain ⟨l, hl, rfl, rfl, rfl, rfl⟩ := e
          simp only [Bool.and_eq_true] at hc
          have c1 := Nat.le_of_ble_eq_true hc.1
          have c2 : ¬ len * i.size = 0 := fun hh => by rw [hh] at hc; simp at hc
          obtain ⟨out', k1, k2⟩ := fillA_ok _ _ _ _ (zeroRow z.cells (len * i.size)) _ hps.1 hps.2 (VRs.cs _) hl
          have hr := row_new (P := P) (n := n) r hB (hf n (by omega) (by omega)) k2 el
          refine ⟨⟨_, _, _, .inl ?_, VR.s (b := w.heap.size) (k := 0) (cp := len) (by simp [ext]) (Nat.le_refl _) rfl, hr.2⟩, kept_set⟩
          have c3 : ¬ (len * i.size > 2 ^ 24) := by omega
          simp only [zeroRow] at k1
          simp only [execOp, ho, Instr.buildSlice, Sem.run_bind, und_run hu, Result.andThen_ok, sizeOf_run hi, c3, if_false, c2, zero_run hi hz, Sem.run_pure, k1, hr.1]
        | false =>
          rw [hc] at e
          cases h0 : Nat.beq (len * i.size) 0 with
          | false => rw [h0] at e; simp [cond] at e
          | true =>
            rw [h0] at e
            have h0 := Nat.eq_of_beq_eq_true h0
            simp only [cond] at e
            split at e
            · rename_i hpe
              cases e
              have hpe' : ps = #[] := by
                apply Array.ext'
                cases hl : ps.toList with
                | nil => rfl
                | cons p q => rw [hl] at hpe; simp at hpe
              subst hpe'
              have hr := row_new (P := P) (n := n) (l' := #[]) r hB (hf n (by omega) (by omega)) (.nil) el
              refine ⟨⟨_, _, _, .inl ?_, VR.s (b := w.heap.size) (k := 0) (cp := len) (by simp [ext]) (Nat.le_refl _) rfl, hr.2⟩, kept_set⟩
              have hz0 : Array.map (fun x => (default : Value)) (Array.range 0) = #[] := by simp
              simp [execOp, ho, Instr.buildSlice, und_run hu, sizeOf_run hi, h0, Instr.fill, hz0, hr.1]
            · cases e
      · cases e
    · cases e
  · cases e
end ops
end Go.Proofs.Ytcpifmhcebfglaa
namespace Go.Proofs.Ytcpifmhcebfglaa
open Go Go.RowKit
set_option linter.unusedVariables false
section ops
variable {P : Program} {tm : T AV} {h : Hp} {n B : Nat} {o : Oper} {σ : Sg} {a : Act} {w : World}
theorem goget {b ck : Nat} {es : Array MapEntry} (e : w.heap[b]? = some (.map es ck)) : (getObj b).run P w = .ok (.map es ck) w := by simp [getObj, Sem.run, e]
theorem goset {b ck : Nat} {es : Array MapEntry} (ob : Obj) (e : w.heap[b]? = some (.map es ck)) : (setObj b ob).run P w = .ok () { w with heap := w.heap.setIfInBounds b ob } := by simp [setObj, Sem.run, e]
def evMakeMap (P : Program) (h : Hp) (n : Nat) (t : TypeId) (r : Option AV) : Option Out :=
  match r with
  | none => some (.val (.m n) (h.set n (some (.map [] 0))) (n + 1) [])
  | some (.c (.int _ _)) => match P.underlying t with
    | some (.map _ _) => some (.val (.m n) (h.set n (some (.map [] 0))) (n + 1) [])
    | _ => none
  | _ => none
theorem evMakeMap_ok {t : TypeId} {rs : Option Operand} (ho : o.op = .makeMap t rs) {v : AV} {h' : Hp} {n' : Nat} {u : List Nat} (e : evMakeMap P h n t (rs.map (ev tm)) = some (.val v h' n' u)) (ht : TRE σ tm a) (r : Rel σ h B w) (hB : B ≤ w.heap.size) (hf : ∀ i, n ≤ i → i < n' → σ i = none) :
    Yields P (execOp a.eval o) σ h n B w v h' n' ∧ KeptE h n n' h' u := by
  have key : v = .m n ∧ h' = h.set n (some (.map [] 0)) ∧ n' = n + 1 ∧ (Instr.makeMap t (rs.map a.eval)).run P w = .ok (.map (some w.heap.size)) (w.alloc (.map #[] 0)) := by
    unfold evMakeMap at e
    split at e
    · rename_i hr
      cases e
      cases rs with
      | some x => simp at hr
      | none => exact ⟨rfl, rfl, rfl, by simp [Instr.makeMap]⟩
    · rename_i k z hr
      split at e
      · rename_i kt et hu
        cases e
        cases rs with
        | none => simp at hr
        | some x =>
          simp only [Option.map_some, Option.some.injEq] at hr
          have hv := ev_ok ht x
          rw [hr] at hv
          generalize hxe : a.eval x = xv at hv
          cases hv
          refine ⟨rfl, rfl, rfl, ?_⟩
          simp [Instr.makeMap, hxe, und_run hu, asInt, asIntOf]
      · cases e
    · cases e
  obtain ⟨rfl, rfl, rfl, hr⟩ := key
  have ac := act_new (n := n) (kap := 0) (o := .map #[] 0) (x := .map [] 0) r hB (hf n (by omega) (by omega)) ⟨#[], rfl, .nil⟩
  refine ⟨⟨_, _, _, .inl ?_, VR.m (b := w.heap.size) (k := 0) (by simp [ext]), ac⟩, kept_set⟩
  simp only [execOp, ho, Sem.run_bind, hr, Result.andThen_ok, Sem.run_pure]
/-- where a key stands -/
def findA (kind : TypeDesc) (kv : Value) : List (AV × AV × Nat) → Nat → Option (Option (Nat × AV))
  | [], _ => some none
  | (.c k, x, _) :: l, i => match Instr.sameNow kind kv k with
    | some true => some (some (i, x))
    | some false => findA kind kv l (i + 1)
    | none => none
  | _ :: _, _ => none
theorem findA_ok {kind : TypeDesc} {kv : Value} : ∀ {l : List (AV × AV × Nat)} {l' : List MapEntry} {i : Nat} {r : Option (Nat × AV)}, ER σ l l' → findA kind kv l i = some r → match r with
    | none => Instr.findNow kind kv l' i = some none
    | some (j, x) => ∃ v, Instr.findNow kind kv l' i = some (some (j, v)) ∧ VR σ x v
  | _, _, i, r, .nil, e => by cases e; rfl
  | _, _, i, r, .cons hk hv hs, e => by
    cases hk with
    | c k =>
      simp only [findA] at e
      split at e
      · rename_i hsn; cases e; exact ⟨_, by simp only [Instr.findNow, hsn], hv⟩
      · rename_i hsn
        have := findA_ok hs e
        cases r with
        | none => simpa only [Instr.findNow, hsn] using this
        | some p => simpa only [Instr.findNow, hsn] using this
      · cases e
    | _ => simp [findA] at e
def isWideK : TypeDesc → Bool
  | .struct _ | .array _ _ => true
  | _ => false
def findB (P : Program) (kt : TypeId) (kv : Value) : List (AV × AV × Nat) → Nat → Option (Option (Nat × AV))
  | [], _ => some none
  | (.c k, x, _) :: l, i => match pureA P (Op.equal kt kv k) with
    | some true => some (some (i, x))
    | some false => findB P kt kv l (i + 1)
    | none => none
  | _ :: _, _ => none
theorem findB_ok {kt : TypeId} {kv : Value} : ∀ {l : List (AV × AV × Nat)} {l' : List MapEntry} {i : Nat} {r : Option (Nat × AV)}, ER σ l l' → findB P kt kv l i = some r → match r with
    | none => (Instr.findAsking kt kv l' i).run P w = .ok none w
    | some (j, x) => ∃ v, (Instr.findAsking kt kv l' i).run P w = .ok (some (j, v)) w ∧ VR σ x v
  | _, _, i, r, .nil, e => by cases e; rfl
  | _, _, i, r, .cons hk hv hs, e => by
    cases hk with
    | c k =>
      simp only [findB] at e
      split at e
      · rename_i hsn
        cases e
        refine ⟨_, ?_, hv⟩
        simp only [Instr.findAsking, Sem.run_bind, pureA_ok w _ hsn, Result.andThen_ok, if_true, Sem.run_pure]
      · rename_i hsn
        have := findB_ok hs e
        cases r with
        | none =>
          simp only at this ⊢
          simp only [Instr.findAsking, Sem.run_bind, pureA_ok w _ hsn, Result.andThen_ok, Bool.false_eq_true, if_false]
          exact this
        | some p =>
          obtain ⟨v, h1, h2⟩ := this
          refine ⟨v, ?_, h2⟩
          simp only [Instr.findAsking, Sem.run_bind, pureA_ok w _ hsn, Result.andThen_ok, Bool.false_eq_true, if_false]
          exact h1
      · cases e
    | _ => simp [findB] at e
def findF (P : Program) (kt : TypeId) (kind : TypeDesc) (kv : Value) (es : List (AV × AV × Nat)) : Option (Option (Nat × AV)) :=
  cond (isWideK kind) (cond es.isEmpty (some none) (findB P kt kv es 0)) (findA kind kv es 0)
theorem findF_ok {kt : TypeId} {kind : TypeDesc} {kv : Value} (hk : P.underlying kt = some kind) {l : List (AV × AV × Nat)} {l' : List MapEntry} {r : Option (Nat × AV)} (h : ER σ l l') (e : findF P kt kind kv l = some r) : match r with
    | none => (Instr.findKey kt kv l').run P w = .ok none w
    | some (j, x) => ∃ v, (Instr.findKey kt kv l').run P w = .ok (some (j, v)) w ∧ VR σ x v := by
  unfold findF at e
  cases hw : isWideK kind with
  | false =>
    rw [hw] at e
    have := findA_ok h e
    cases r with
    | none => exact MapKept.run_findKey hk this
    | some p => obtain ⟨v, h1, h2⟩ := this; exact ⟨v, MapKept.run_findKey hk h1, h2⟩
  | true =>
    rw [hw] at e
    cases h with
    | nil => cases e; exact MapKept.run_findKey hk rfl
    | cons a b c =>
      have hn : ∀ en es, Instr.findNow kind kv (en :: es) 0 = none := fun en es => by
        cases kind <;> first | rfl | (simp [isWideK] at hw)
      have h2 := findB_ok (P := P) (w := w) (ER.cons a b c) e
      cases r with
      | none =>
        simp only at h2 ⊢
        simp only [Instr.findKey, Sem.run_bind, und_run hk, Result.andThen_ok, hn]
        exact h2
      | some p =>
        obtain ⟨v, h3, h4⟩ := h2
        refine ⟨v, ?_, h4⟩
        simp only [Instr.findKey, Sem.run_bind, und_run hk, Result.andThen_ok, hn]
        exact h3
def keyOk (P : Program) (em : Bool) (kt : TypeId) (kv : Value) : Bool := match pureA P (Instr.checkKey em 10000 kt kv) with
  | some _ => true
  | none => false
theorem keyOk_run {em : Bool} {kt : TypeId} {kv : Value} (e : keyOk P em kt kv = true) : (Instr.checkKey em 10000 kt kv).run P w = .ok () w := by
  unfold keyOk at e
  split at e
  · rename_i x hx; exact pureA_ok w _ hx
  · cases e
def evLookup (P : Program) (h : Hp) (n : Nat) (t : TypeId) (x ix : AV) (ok : Bool) : Option Out :=
  match x, ix, P.underlying t with
  | .m i, .c kv, some (.map kt et) => match h.get i, P.underlying kt with
    | some (.map es _), some kind => cond (keyOk P es.isEmpty kt kv) (match findF P kt kind kv es with
      | some (some (_, v)) => some (.val (cond ok (mkT [v, .c (.bool true)]) v) h n [])
      | some none => match P.info? et with
        | some inf => match inf.zero with
          | some z => some (.val (cond ok (mkT [.c z, .c (.bool false)]) (.c z)) h n [])
          | none => none
        | none => none
      | none => none) none
    | _, _ => none
  | _, _, _ => none
theorem evLookup_ok {t : TypeId} {x y : Operand} {ok : Bool} (ho : o.op = .lookup t x y ok) {v : AV} {h' : Hp} {n' : Nat} {u : List Nat} (e : evLookup P h n t (ev tm x) (ev tm y) ok = some (.val v h' n' u)) (ht : TRE σ tm a) (r : Rel σ h B w) :
    Yields P (execOp a.eval o) σ h n B w v h' n' ∧ KeptE h n n' h' u := by
  unfold evLookup at e
  split at e
  · rename_i i kv kt et hx hy hu
    have hxv := ev_ok ht x
    have hyv := ev_ok ht y
    rw [hx] at hxv
    rw [hy] at hyv
    generalize hxe : a.eval x = xv at hxv
    generalize hye : a.eval y = yv at hyv
    cases hyv
    cases hxv with
    | m hb =>
      rename_i b kp
      split at e
      · rename_i es ck kind hg hk
        cases hc : keyOk P es.isEmpty kt kv with
        | false => rw [hc] at e; cases e
        | true =>
          rw [hc] at e
          obtain ⟨b2, k2, h1, h2, h3, es', h4, h5⟩ := r.obj i _ hg
          rw [hb] at h1; cases h1
          have hlen := h5.length
          have hemp : es'.isEmpty = es.isEmpty := by
            rw [← Array.isEmpty_toList]
            generalize es'.toList = q at h5
            cases h5 <;> rfl
          have hck := keyOk_run (w := w) hc
          simp only [cond] at e
          split at e
          · rename_i q v1 hf
            cases e
            obtain ⟨v2, q1, q2⟩ := findF_ok (w := w) hk h5 hf
            refine ⟨Yields.same (v' := if ok then .tuple #[v2, .bool true] else v2) r ?_ ?_, KeptE.refl _ _ _ _⟩
            · simp only [execOp, ho, hxe, hye, Instr.lookup, Sem.run_bind, und_run hu, Result.andThen_ok, goget h4, Sem.run_pure, hemp, hck, q1]
            · cases ok
              · exact q2
              · exact mkT_ok (.cons q2 (.cons (.c _) .nil))
          · rename_i hf
            split at e
            · rename_i inf hi
              split at e
              · rename_i z hz
                cases e
                have q1 := findF_ok (w := w) hk h5 hf
                simp only at q1
                refine ⟨Yields.same (v' := if ok then .tuple #[z, .bool false] else z) r ?_ ?_, KeptE.refl _ _ _ _⟩
                · simp only [execOp, ho, hxe, hye, Instr.lookup, Sem.run_bind, und_run hu, Result.andThen_ok, goget h4, Sem.run_pure, hemp, hck, q1, zero_run hi hz]
                · cases ok
                  · exact .c _
                  · exact mkT_ok (.cons (.c _) (.cons (.c _) .nil))
              · cases e
            · cases e
          · cases e
      · cases e
  · cases e
def modA : List (AV × AV × Nat) → Nat → (AV × AV) → List (AV × AV × Nat)
  | [], _, _ => []
  | (_, _, b) :: l, 0, p => (p.1, p.2, b) :: l
  | e :: l, i + 1, p => e :: modA l i p
theorem modA_ok {k x : AV} {k' x' : Value} (hk : VR σ k k') (hx : VR σ x x') : ∀ {l : List (AV × AV × Nat)} {l' : List MapEntry} (i : Nat), ER σ l l' → ER σ (modA l i (k, x)) (l'.modify i fun e => { e with key := k', val := x' })
  | _, _, i, .nil => by cases i <;> exact .nil
  | _, _, 0, .cons h1 h2 h3 => .cons hk hx h3
  | _, _, i + 1, .cons h1 h2 h3 => .cons h1 h2 (modA_ok hk hx i h3)
theorem ER.push {l : List (AV × AV × Nat)} {l' : List MapEntry} (h : ER σ l l') {k x : AV} {k' x' : Value} {b : Nat} (hk : VR σ k k') (hx : VR σ x x') : ER σ (l ++ [(k, x, b)]) (l' ++ [⟨k', x', b⟩]) := by
  induction h with
  | nil => exact .cons hk hx .nil
  | cons a b c ih => exact .cons a b ih
def oldKey (l : List (AV × AV × Nat)) (i : Nat) : Option Value := match l[i]? with
  | some (.c k, _, _) => some k
  | _ => none
theorem oldKey_ok : ∀ {l : List (AV × AV × Nat)} {l' : List MapEntry} {i : Nat} {k : Value}, ER σ l l' → oldKey l i = some k → ∃ e, l'[i]? = some e ∧ e.key = k
  | _, _, i, k, .nil, e => by simp [oldKey] at e
  | _, _, 0, k, .cons h1 h2 h3, e => by
    cases h1 with
    | c q => simp [oldKey] at e; subst e; exact ⟨_, rfl, rfl⟩
    | _ => simp [oldKey] at e
  | _, _, i + 1, k, .cons (l := l) h1 h2 h3, e => by
    have : oldKey l i = some k := by unfold oldKey at e ⊢; simpa using e
    obtain ⟨e2, h4, h5⟩ := oldKey_ok h3 this
    exact ⟨e2, by simpa using h4, h5⟩
def evMapUpdate (P : Program) (h : Hp) (n : Nat) (t : TypeId) (m k x : AV) : Option Out :=
  match m, k, P.underlying t with
  | .m i, .c kv, some (.map kt _) => match h.get i, P.underlying kt with
    | some (.map es ck), some kind => cond (keyOk P false kt kv && !x.isQ) (match findF P kt kind kv es with
      | some (some (j, _)) => match oldKey es j with
        | some ok => cond (Instr.sameBits 10000 ok kv) (some (.val (.c undef) (h.set i (some (.map (modA es j (.c kv, x)) ck))) n [i])) none
        | none => none
      | some none => some (.val (.c undef) (h.set i (some (.map (es ++ [(.c kv, x, ck)]) (ck + 1)))) n [i])
      | none => none) none
    | _, _ => none
  | _, _, _ => none
theorem kept_put {h : Hp} {n i : Nat} {y : Option AO} : KeptE h n n (h.set i y) [i] := by
  intro j _ hu
  rw [T.get_set, if_neg]
  intro e; subst e; simp at hu
theorem evMapUpdate_ok {t : TypeId} {m k x : Operand} (ho : o.op = .mapUpdate t m k x ∨ o.op = .insert t m k x) {v : AV} {h' : Hp} {n' : Nat} {u : List Nat} (e : evMapUpdate P h n t (ev tm m) (ev tm k) (ev tm x) = some (.val v h' n' u)) (ht : TRE σ tm a) (r : Rel σ h B w) :
    Yields P (execOp a.eval o) σ h n B w v h' n' ∧ KeptE h n n' h' u := by
  have hex : execOp a.eval o = (do Instr.mapUpdate t (a.eval m) (a.eval k) (a.eval x); pure .skip) := by
    rcases ho with ho | ho <;> simp only [execOp, ho]
  unfold evMapUpdate at e
  split at e
  · rename_i i kv kt et hm hk hu
    have hmv := ev_ok ht m
    have hkv := ev_ok ht k
    have hxv := ev_ok ht x
    rw [hm] at hmv
    rw [hk] at hkv
    generalize a.eval m = mv at hmv hex
    generalize a.eval k = kvv at hkv hex
    generalize a.eval x = xv at hxv hex
    cases hkv
    cases hmv with
    | m hb =>
      rename_i b kp
      split at e
      · rename_i es ck kind hg hkd
        cases hc : (keyOk P false kt kv && !(ev tm x).isQ) with
        | false => rw [hc] at e; cases e
        | true =>
          rw [hc] at e
          simp only [Bool.and_eq_true] at hc
          obtain ⟨b2, k2, h1, h2, h3, es', h4, h5⟩ := r.obj i _ hg
          rw [hb] at h1; cases h1
          have hck := keyOk_run (w := w) hc.1
          have put : ∀ (es2 : List (AV × AV × Nat)) (es2' : Array MapEntry) (c2 : Nat), ER σ es2 es2'.toList → Act1 σ h n B w σ (h.set i (some (.map es2 c2))) n { w with heap := w.heap.setIfInBounds b (.map es2' c2) } := by
            intro es2 es2' c2 hER
            refine act_put r hg hb rfl rfl rfl (by simp) (fun k hk => ?_) ⟨es2', ?_, hER⟩
            · show (w.heap.setIfInBounds b _)[k]? = _
              rw [Array.getElem?_setIfInBounds_ne (Ne.symm hk)]
            · show (w.heap.setIfInBounds b _)[b]? = _
              rw [Array.getElem?_setIfInBounds_self_of_lt h3]
          simp only [cond] at e
          split at e
          · rename_i j vv hf
            split at e
            · rename_i okk hok
              cases hsb : Instr.sameBits 10000 okk kv with
              | false => rw [hsb] at e; cases e
              | true =>
                rw [hsb] at e
                cases e
                obtain ⟨v2, q1, q2⟩ := findF_ok (w := w) hkd h5 hf
                obtain ⟨en, q3, q4⟩ := oldKey_ok h5 hok
                have q5 : es'[j]? = some en := by rw [← Array.getElem?_toList]; exact q3
                refine ⟨⟨σ, { w with heap := w.heap.setIfInBounds b (.map (es'.modify j fun e => { e with key := kv, val := xv }) ck) }, undef, .inr ⟨?_, rfl⟩, .c _, put _ _ _ ?_⟩, kept_put⟩
                · rw [hex]
                  simp only [Instr.mapUpdate, Sem.run_bind, und_run hu, Result.andThen_ok, goget h4, hck, q1, Sem.run_pure, Instr.keyThatStays, q5, Option.map_some, Option.getD_some, q4, hsb, if_true, goset _ h4]
                · have := modA_ok (.c kv) hxv j h5
                  rw [Array.toList_modify]; exact this
            · cases e
          · rename_i hf
            cases e
            have q1 := findF_ok (w := w) hkd h5 hf
            simp only at q1
            refine ⟨⟨σ, { w with heap := w.heap.setIfInBounds b (.map (es'.push ⟨kv, xv, ck⟩) (ck + 1)) }, undef, .inr ⟨?_, rfl⟩, .c _, put _ _ _ ?_⟩, kept_put⟩
            · rw [hex]
              simp only [Instr.mapUpdate, Sem.run_bind, und_run hu, Result.andThen_ok, goget h4, hck, q1, Sem.run_pure, goset _ h4]
            · rw [Array.toList_push]; exact h5.push (.c kv) hxv
          · cases e
      · cases e
  · cases e
/-- a row that is made -/
def evMakeSlice (P : Program) (h : Hp) (n : Nat) (t : TypeId) (x y : AV) : Option Out :=
  match x, y, P.underlying t with
  | .c (.int _ (.ofNat l)), .c (.int _ (.ofNat c)), some (.slice el) => match P.info? el with
    | some i => match i.zero with
      | some z => cond (Nat.ble l c && Nat.ble (c * i.size) 16777216 && Nat.ble (i.bytes * c) 281474976710656 && Nat.ble c 16777216)
        (some (.val (.s n 0 l (.num c)) (h.set n (some (.cells ((madeCells z.cells (c * i.size)).toList.map .c) el none))) (n + 1) [])) none
      | none => none
    | none => none
  | _, _, _ => none
theorem evMakeSlice_ok {t : TypeId} {x y : Operand} (ho : o.op = .makeSlice t x y) {v : AV} {h' : Hp} {n' : Nat} {u : List Nat} (e : evMakeSlice P h n t (ev tm x) (ev tm y) = some (.val v h' n' u)) (ht : TRE σ tm a) (r : Rel σ h B w) (hB : B ≤ w.heap.size) (hf : ∀ i, n ≤ i → i < n' → σ i = none) :
    Yields P (execOp a.eval o) σ h n B w v h' n' ∧ KeptE h n n' h' u := by
  unfold evMakeSlice at e
  split at e
  · rename_i kl l kc c el hx hy hu
    split at e
    · rename_i i hi
      split at e
      · rename_i z hz
        cases hc : (Nat.ble l c && Nat.ble (c * i.size) 16777216 && Nat.ble (i.bytes * c) 281474976710656 && Nat.ble c 16777216) with
        | false => rw [hc] at e; cases e
        | true =>
          rw [hc] at e
          cases e
          simp only [Bool.and_eq_true] at hc
          have c1 := Nat.le_of_ble_eq_true hc.1.1.1
          have c2 := Nat.le_of_ble_eq_true hc.1.1.2
          have c3 := Nat.le_of_ble_eq_true hc.1.2
          have c4 := Nat.le_of_ble_eq_true hc.2
          have hxv := ev_ok ht x
          have hyv := ev_ok ht y
          rw [hx] at hxv
          rw [hy] at hyv
          generalize hxe : a.eval x = xv at hxv
          generalize hye : a.eval y = yv at hyv
          cases hxv
          cases hyv
          have hr := run_makeSlice (P := P) w t el i z hu hi hz kl kc (Int.ofNat l) (Int.ofNat c) (Int.natCast_nonneg l) (by simp only [Int.ofNat_eq_natCast]; omega) (by simpa using c2) (by
            have : ((i.bytes * c : Nat) : Int) ≤ 281474976710656 := by omega
            rw [Int.natCast_mul] at this; exact this) (by simp only [Int.ofNat_eq_natCast]; omega)
          have ac := (row_new (P := P) (n := n) r hB (hf n (by omega) (by omega)) (VRs.cs (madeCells z.cells (c * i.size)).toList) el).2
          refine ⟨⟨_, _, _, .inl ?_, VR.s (b := w.heap.size) (k := 0) (cp := c) (by simp [ext]) c1 rfl, ac⟩, kept_set⟩
          simp only [execOp, ho, hxe, hye, Sem.run_bind, hr, Result.andThen_ok, Sem.run_pure]
          rfl
      · cases e
    · cases e
  · cases e
/-- a string out of bytes -/
def bytesOf : List AV → Option (List Int)
  | [] => some []
  | .c (.int .u8 k) :: l => (bytesOf l).map (k :: ·)
  | _ :: _ => none
theorem bytesOf_ok : ∀ {l : List AV} {l' : List Value} {ks : List Int}, VRs σ l l' → bytesOf l = some ks → l' = ks.map (Value.int .u8)
  | _, _, ks, .nil, e => by cases e; rfl
  | _, _, ks, .cons hv hs, e => by
    cases hv with
    | c v =>
      unfold bytesOf at e
      split at e
      · rename_i q; cases q
      · rename_i k l2 q
        simp only [List.cons.injEq, AV.c.injEq] at q
        obtain ⟨rfl, rfl⟩ := q
        simp only [Option.map_eq_some_iff] at e
        obtain ⟨ks', h1, rfl⟩ := e
        rw [bytesOf_ok hs h1]; rfl
      · cases e
    | _ => simp [bytesOf] at e
theorem pushes (ks : List Int) : ∀ (l : List UInt8), ks.foldl (fun r n => r.push (UInt8.ofNat n.toNat)) (⟨l.toArray⟩ : ByteArray) = ⟨(l ++ ks.map fun n => UInt8.ofNat n.toNat).toArray⟩ := by
  induction ks with
  | nil => intro l; simp
  | cons k ks ih =>
    intro l
    simp only [List.foldl_cons, List.map_cons]
    have : (⟨l.toArray⟩ : ByteArray).push (UInt8.ofNat k.toNat) = ⟨(l ++ [UInt8.ofNat k.toNat]).toArray⟩ := by
      simp [ByteArray.push]
    rw [this, ih]
    simp
def evConvert (P : Program) (h : Hp) (n : Nat) (src dst : TypeId) (x : AV) : Option Out :=
  match x, P.underlying src, P.underlying dst with
  | .s i off len _, some (.slice e), some .string => match P.underlying e, objCells h i with
    | some (.int .u8), some l => match take? l off len with
      | some ys => match bytesOf ys with
        | some ks => some (.val (.c (.string ⟨(ks.map fun n => UInt8.ofNat n.toNat).toArray⟩)) h n [])
        | none => none
      | none => none
    | _, _ => none
  | .c (.string s), some .string, some (.slice e) => match P.underlying e with
    | some (.int .u8) => some (.val (.s n 0 s.size .unk) (h.set n (some (.ro ((s.data.toList.map fun b => Value.int .u8 b.toNat).map .c) e))) (n + 1) [])
    | _ => none
  | _, _, _ => none
theorem evConvert_ok {src dst : TypeId} {x : Operand} (ho : o.op = .convert src dst x) {v : AV} {h' : Hp} {n' : Nat} {u : List Nat} (e : evConvert P h n src dst (ev tm x) = some (.val v h' n' u)) (ht : TRE σ tm a) (r : Rel σ h B w) (hB : B ≤ w.heap.size) (hf : ∀ i, n ≤ i → i < n' → σ i = none) :
    Yields P (execOp a.eval o) σ h n B w v h' n' ∧ KeptE h n n' h' u := by
  unfold evConvert at e
  split at e
  · rename_i i off len cp el hx hs hd
    split at e
    · rename_i l hel hl
      split at e
      · rename_i ys hy
        split at e
        · rename_i ks hks
          cases e
          have hxv := ev_ok ht x
          rw [hx] at hxv
          generalize hxe : a.eval x = xv at hxv
          cases hxv with
          | s hb hlc hcp =>
            rename_i b kap cq
            unfold take? at hy
            cases hle : Nat.ble (off + len) l.length with
            | false => rw [hle] at hy; cases hy
            | true =>
              rw [hle] at hy
              cases hy
              have hc : ∀ j' y, l[j']? = some y → ∃ u, w.cell? ⟨b, j', none⟩ = some u ∧ VR σ y u := by
                exact fun j' y hy => objCells_at r hl hb hy
              obtain ⟨us, h1, h2, h3⟩ := cells_read (P := P) hc len off (Nat.le_of_ble_eq_true hle)
              have hus := bytesOf_ok h2 hks
              rw [hus] at h3
              have hrun := run_bytesToString (P := P) w ⟨b, off, none⟩ len cq ks h3
              have hp := pushes ks []
              rw [List.nil_append] at hp
              refine ⟨Yields.same r ?_ (.c _), KeptE.refl _ _ _ _⟩
              simp only [execOp, ho, hxe, Sem.run_bind, run_convert_bytes_string w src dst el _ _ _ hs hel hd, hrun, Result.andThen_ok, Sem.run_pure]
              rw [show (ByteArray.empty : ByteArray) = ⟨([] : List UInt8).toArray⟩ from rfl, hp]
        · cases e
      · cases e
    · cases e
  · rename_i s el hx hs hd
    split at e
    · rename_i hel
      cases e
      have hxv := ev_ok ht x
      rw [hx] at hxv
      generalize hxe : a.eval x = xv at hxv
      cases hxv
      have hrun := run_bytes_of_string (P := P) w src dst el s hs hd hel
      generalize hcp : grownCap w s.size 0 el = cp at hrun
      have hge : s.size ≤ cp := hcp ▸ grownCap_ge w s.size 0 el
      have a1 := act_drew (n := n) r (w.drawn + 1)
      have hor : OR σ 0 (some (Obj.cells (bytesRow s cp) el ((bytesRow s cp).size, (bytesRow s cp).size + 1))) (.ro ((s.data.toList.map fun b => Value.int .u8 b.toNat).map .c) el) := by
        have e1 : (bytesRow s cp).toList = (s.data.toList.map fun b => Value.int .u8 b.toNat) ++ (Array.replicate (cp - s.size) (Value.int .u8 0)).toList := by
          unfold bytesRow
          rw [Array.toList_append, Array.toList_map]
        refine ⟨_, _, rfl, ?_, ?_⟩
        · rw [e1, List.length_map, List.take_left' rfl]
          exact VRs.cs _
        · rw [← Array.length_toList, e1, List.length_map, List.length_append]
          exact Nat.le_add_right _ _
      have a2 := act_new (n := n) a1.rel hB (hf n (Nat.le_refl _) (Nat.lt_succ_self _)) hor
      refine ⟨⟨_, _, _, .inl ?_, VR.s (b := w.heap.size) (k := 0) (cp := cp) (by simp [ext]) hge trivial, a1.trans a2⟩, kept_set⟩
      simp only [execOp, ho, hxe, Sem.run_bind, hrun, Result.andThen_ok, Sem.run_pure]
      rfl
    · cases e
  · cases e
/-- what is held against nil -/
def isNil : AV → Bool
  | .c (.pointer none) | .c (.slice none _ _) | .c (.map none) | .c .nilFunc => true
  | _ => false
def evEqNil (P : Program) (h : Hp) (n : Nat) (op : BinOp) (t : TypeId) (x y : AV) : Option Out :=
  match op, P.underlying t, x, y with
  | .eql, some (.pointer _), .p _ _, .c (.pointer none) => some (.val (.c (.bool false)) h n [])
  | .neq, some (.pointer _), .p _ _, .c (.pointer none) => some (.val (.c (.bool true)) h n [])
  | .eql, some (.slice _), .s _ _ _ _, .c (.slice none _ _) => some (.val (.c (.bool false)) h n [])
  | .neq, some (.slice _), .s _ _ _ _, .c (.slice none _ _) => some (.val (.c (.bool true)) h n [])
  | .eql, some (.map _ _), .m _, .c (.map none) => some (.val (.c (.bool false)) h n [])
  | .neq, some (.map _ _), .m _, .c (.map none) => some (.val (.c (.bool true)) h n [])
  | .eql, some (.func _ _ _), .f _ _, .c .nilFunc => some (.val (.c (.bool false)) h n [])
  | .neq, some (.func _ _ _), .f _ _, .c .nilFunc => some (.val (.c (.bool true)) h n [])
  | _, _, _, _ => none
theorem eqn_p (d : Nat) {t el : TypeId} (hu : P.underlying t = some (.pointer el)) (ad : Addr) : (Op.equalIn (d + 1) t (.pointer (some ad)) (.pointer none)).run P w = .ok false w := by simp [Op.equalIn, und_run hu]
theorem eqn_s (d : Nat) {t el : TypeId} (hu : P.underlying t = some (.slice el)) (ad : Addr) (a1 a2 a3 a4 : Nat) : (Op.equalIn (d + 1) t (.slice (some ad) a1 a2) (.slice none a3 a4)).run P w = .ok false w := by simp [Op.equalIn, und_run hu]
theorem eqn_m (d : Nat) {t kt el : TypeId} (hu : P.underlying t = some (.map kt el)) (b : Nat) : (Op.equalIn (d + 1) t (.map (some b)) (.map none)).run P w = .ok false w := by simp [Op.equalIn, und_run hu]
theorem eqn_f (d : Nat) {t : TypeId} {ps rs : Array TypeId} {va : Bool} (hu : P.underlying t = some (.func ps rs va)) (fn : Fn) (l1 l2 : Array Value) : (Op.equalIn (d + 1) t (.func fn l1 l2) .nilFunc).run P w = .ok false w := by simp [Op.equalIn, und_run hu]
theorem eql_run {t : TypeId} {x y : Value} {b : Bool} (hx : ∀ d, (Op.equalIn (d + 1) t x y).run P w = .ok b w) : (do pure (Value.bool (← Op.equal t x y)) : Sem Value).run P w = .ok (.bool b) w ∧ (do pure (Value.bool (!(← Op.equal t x y))) : Sem Value).run P w = .ok (.bool (!b)) w := by
  have h : (Op.equal t x y).run P w = .ok b w := hx 9999
  constructor
  · rw [Sem.run_bind, h]; rfl
  · rw [Sem.run_bind, h]; rfl
theorem evEqNil_ok {op : BinOp} {t yt : TypeId} {x y : Operand} (ho : o.op = .binOp op t x y yt) {v : AV} {h' : Hp} {n' : Nat} {u : List Nat} (e : evEqNil P h n op t (ev tm x) (ev tm y) = some (.val v h' n' u)) (ht : TRE σ tm a) (r : Rel σ h B w) :
    Yields P (execOp a.eval o) σ h n B w v h' n' ∧ KeptE h n n' h' u := by
  have hxv := ev_ok ht x
  have hyv := ev_ok ht y
  unfold evEqNil at e
  split at e
  all_goals first | (cases e; done) | skip
  all_goals
    rename_i hu hx hy
    rw [hx] at hxv
    rw [hy] at hyv
    generalize hxe : a.eval x = xv at hxv
    generalize hye : a.eval y = yv at hyv
    cases hyv
    cases hxv
    cases e
    refine ⟨Yields.same r ?_ (.c _), KeptE.refl _ _ _ _⟩
    simp only [execOp, ho, hxe, hye]
    rw [Sem.run_bind]
    first
      | exact congrArg (fun r => Result.andThen r fun a w' => Result.ok (Next.value a) w') (eql_run (P := P) (w := w) fun d => eqn_p d hu _).1
      | exact congrArg (fun r => Result.andThen r fun a w' => Result.ok (Next.value a) w') (eql_run (P := P) (w := w) fun d => eqn_p d hu _).2
      | exact congrArg (fun r => Result.andThen r fun a w' => Result.ok (Next.value a) w') (eql_run (P := P) (w := w) fun d => eqn_s d hu _ _ _ _ _).1
      | exact congrArg (fun r => Result.andThen r fun a w' => Result.ok (Next.value a) w') (eql_run (P := P) (w := w) fun d => eqn_s d hu _ _ _ _ _).2
      | exact congrArg (fun r => Result.andThen r fun a w' => Result.ok (Next.value a) w') (eql_run (P := P) (w := w) fun d => eqn_m d hu _).1
      | exact congrArg (fun r => Result.andThen r fun a w' => Result.ok (Next.value a) w') (eql_run (P := P) (w := w) fun d => eqn_m d hu _).2
      | exact congrArg (fun r => Result.andThen r fun a w' => Result.ok (Next.value a) w') (eql_run (P := P) (w := w) fun d => eqn_f d hu _ _ _).1
      | exact congrArg (fun r => Result.andThen r fun a w' => Result.ok (Next.value a) w') (eql_run (P := P) (w := w) fun d => eqn_f d hu _ _ _).2
/-- a walk over a string -/
def evRange (P : Program) (h : Hp) (n : Nat) (t : TypeId) (x : AV) : Option Out :=
  match x, P.underlying t with
  | .c (.string s), some .string => some (.val (.p n 0) (h.set n (some (.iter s 0))) (n + 1) [])
  | .c (.map none), some (.map _ _) => some (.val (.p n 0) (h.set n (some .mit0)) (n + 1) [])
  | _, _ => none
theorem evRange_ok {t : TypeId} {x : Operand} (ho : o.op = .range t x) {v : AV} {h' : Hp} {n' : Nat} {u : List Nat} (e : evRange P h n t (ev tm x) = some (.val v h' n' u)) (ht : TRE σ tm a) (r : Rel σ h B w) (hB : B ≤ w.heap.size) (hf : ∀ i, n ≤ i → i < n' → σ i = none) :
    Yields P (execOp a.eval o) σ h n B w v h' n' ∧ KeptE h n n' h' u := by
  unfold evRange at e
  split at e
  · rename_i s hx hu
    cases e
    have hxv := ev_ok ht x
    rw [hx] at hxv
    generalize hxe : a.eval x = xv at hxv
    cases hxv
    have ac := act_new (n := n) (kap := 0) (o := .stringIter s 0) (x := .iter s 0) r hB (hf n (by omega) (by omega)) rfl
    refine ⟨⟨_, _, _, .inl ?_, VR.p (b := w.heap.size) (k := 0) (by simp [ext]), ac⟩, kept_set⟩
    simp only [execOp, ho, hxe, Instr.range, Sem.run_bind, und_run hu, Result.andThen_ok, Sem.run_pure, run_newObj]
    rfl
  · rename_i kt et hx hu
    cases e
    have hxv := ev_ok ht x
    rw [hx] at hxv
    generalize hxe : a.eval x = xv at hxv
    cases hxv
    have ac := act_new (n := n) (kap := 0) (o := .mapIter none 0 #[] 0) (x := .mit0) r hB (hf n (by omega) (by omega)) rfl
    refine ⟨⟨_, _, _, .inl ?_, VR.p (b := w.heap.size) (k := 0) (by simp [ext]), ac⟩, kept_set⟩
    simp only [execOp, ho, hxe, Instr.range, Sem.run_bind, und_run hu, Result.andThen_ok, Sem.run_pure, run_newObj]
    rfl
  · cases e
def evNext (h : Hp) (n : Nat) (x : AV) (isS : Bool) : Option Out :=
  match x, isS with
  | .p i 0, true => match h.get i with
    | some (.iter s pos) => cond (Nat.blt pos s.size) (some (.val (.c (.tuple #[.bool true, goInt pos, .int .i32 (Utf8.decode s pos).1])) (h.set i (some (.iter s (pos + (Utf8.decode s pos).2)))) n [i]))
      (some (.val (.c (.tuple #[.bool false])) h n []))
    | _ => none
  | .p i 0, false => match h.get i with
    | some .mit0 => some (.val (.c (.tuple #[.bool false])) h n [])
    | _ => none
  | _, _ => none
theorem evNext_ok {x : Operand} {isS : Bool} (ho : o.op = .next x isS) {v : AV} {h' : Hp} {n' : Nat} {u : List Nat} (e : evNext h n (ev tm x) isS = some (.val v h' n' u)) (ht : TRE σ tm a) (r : Rel σ h B w) :
    Yields P (execOp a.eval o) σ h n B w v h' n' ∧ KeptE h n n' h' u := by
  unfold evNext at e
  split at e
  · rename_i i hx
    have hxv := ev_ok ht x
    rw [hx] at hxv
    generalize hxe : a.eval x = xv at hxv
    cases hxv with
    | p hb =>
      rename_i b kp
      split at e
      · rename_i s pos hg
        obtain ⟨b2, k2, h1, h2, h3, h4⟩ := r.obj i _ hg
        rw [hb] at h1; cases h1
        have h4 : w.heap[b]? = some (.stringIter s pos) := h4
        have hgo : (getObj b).run P w = .ok (.stringIter s pos) w := by simp [getObj, Sem.run, h4]
        cases hlt : Nat.blt pos s.size with
        | true =>
          rw [hlt] at e; cases e
          have hlt' : pos < s.size := by simpa [Nat.blt_eq] using hlt
          have hso : ∀ ob, (setObj b ob).run P w = .ok () { w with heap := w.heap.setIfInBounds b ob } := fun ob => by simp [setObj, Sem.run, h4]
          refine ⟨⟨σ, { w with heap := w.heap.setIfInBounds b (.stringIter s (pos + (Utf8.decode s pos).2)) }, _, .inl ?_, .c _, ?_⟩, kept_put⟩
          · simp only [execOp, ho, hxe, Instr.next, Sem.run_bind, Sem.run_pure, Result.andThen_ok, hgo, hlt', if_true, hso]
          · refine act_put r hg hb rfl rfl rfl (by simp) (fun k hk => ?_) ?_
            · show (w.heap.setIfInBounds b _)[k]? = _
              rw [Array.getElem?_setIfInBounds_ne (Ne.symm hk)]
            · show (w.heap.setIfInBounds b _)[b]? = _
              rw [Array.getElem?_setIfInBounds_self_of_lt h3]
        | false =>
          rw [hlt] at e; cases e
          have hlt' : ¬ pos < s.size := fun hh => by rw [← Nat.blt_eq, hlt] at hh; cases hh
          refine ⟨Yields.same r ?_ (.c _), KeptE.refl _ _ _ _⟩
          simp only [execOp, ho, hxe, Instr.next, Sem.run_bind, Sem.run_pure, Result.andThen_ok, hgo, hlt', if_false]
      · cases e
  · rename_i i hx
    have hxv := ev_ok ht x
    rw [hx] at hxv
    generalize hxe : a.eval x = xv at hxv
    cases hxv with
    | p hb =>
      rename_i b kp
      split at e
      · rename_i hg
        cases e
        obtain ⟨b2, k2, h1, h2, h3, h4⟩ := r.obj i _ hg
        rw [hb] at h1; cases h1
        have h4 : w.heap[b]? = some (.mapIter none 0 #[] 0) := h4
        have hgo : (getObj b).run P w = .ok (.mapIter none 0 #[] 0) w := by simp [getObj, Sem.run, h4]
        refine ⟨Yields.same r ?_ (.c _), KeptE.refl _ _ _ _⟩
        simp only [execOp, ho, hxe, Instr.next, Sem.run_bind, Sem.run_pure, Result.andThen_ok, hgo]
      · cases e
  · cases e
end ops
end Go.Proofs.Ytcpifmhcebfglaa
namespace Go.Proofs.Ytcpifmhcebfglaa
open Go Go.RowKit
set_option linter.unusedVariables false
section ops
variable {P : Program} {tm : T AV} {h : Hp} {n B : Nat} {o : Oper} {σ : Sg} {a : Act} {w : World}
def keyA : List (AV × AV × Nat) → Nat → AV → List (AV × AV × Nat)
  | [], _, _ => []
  | (_, x, b) :: l, 0, k => (k, x, b) :: l
  | e :: l, i + 1, k => e :: keyA l i k
theorem keyA_ok {k : AV} {k' : Value} (hk : VR σ k k') : ∀ {l : List (AV × AV × Nat)} {l' : List MapEntry} (i : Nat), ER σ l l' → ER σ (keyA l i k) (l'.modify i fun e => { e with key := k' })
  | _, _, i, .nil => by cases i <;> exact .nil
  | _, _, 0, .cons h1 h2 h3 => .cons hk h2 h3
  | _, _, i + 1, .cons h1 h2 h3 => .cons h1 h2 (keyA_ok hk i h3)
def valA : List (AV × AV × Nat) → Nat → AV → List (AV × AV × Nat)
  | [], _, _ => []
  | (k, _, b) :: l, 0, x => (k, x, b) :: l
  | e :: l, i + 1, x => e :: valA l i x
theorem valA_ok {x : AV} {x' : Value} (hx : VR σ x x') : ∀ {l : List (AV × AV × Nat)} {l' : List MapEntry} (i : Nat), ER σ l l' → ER σ (valA l i x) (l'.modify i fun e => { e with val := x' })
  | _, _, i, .nil => by cases i <;> exact .nil
  | _, _, 0, .cons h1 h2 h3 => .cons h1 hx h3
  | _, _, i + 1, .cons h1 h2 h3 => .cons h1 h2 (valA_ok hx i h3)
def bornA (l : List (AV × AV × Nat)) (i : Nat) : Option Nat := match l[i]? with
  | some (_, _, b) => some b
  | none => none
theorem bornA_ok : ∀ {l : List (AV × AV × Nat)} {l' : List MapEntry} {i : Nat} {b : Nat}, ER σ l l' → bornA l i = some b → (l'[i]?).map (·.born) = some b
  | _, _, i, k, .nil, e => by simp [bornA] at e
  | _, _, 0, k, .cons h1 h2 h3, e => by simp [bornA] at e; subst e; rfl
  | _, _, i + 1, k, .cons (l := l) h1 h2 h3, e => by
    have : bornA l i = some k := by unfold bornA at e ⊢; simpa using e
    simpa using bornA_ok h3 this
theorem ER.find {f : Nat → Bool} : ∀ {l : List (AV × AV × Nat)} {l' : List MapEntry}, ER σ l l' → l'.findIdx? (fun e => f e.born) = l.findIdx? (fun e => f e.2.2)
  | _, _, .nil => rfl
  | _, _, .cons h1 h2 h3 => by simp only [List.findIdx?_cons, ER.find h3]
def evMapEntry (P : Program) (h : Hp) (n : Nat) (t : TypeId) (m k : AV) : Option Out :=
  match m, k, P.underlying t with
  | .m i, .c kv, some (.map kt et) => match h.get i, P.underlying kt with
    | some (.map es ck), some kind => cond (keyOk P false kt kv) (match findF P kt kind kv es with
      | some (some (j, vv)) => match oldKey es j, bornA es j with
        | some ok, some bn => cond (Instr.sameBits 10000 ok kv) (some (.val (mkT [vv, .c (.int .i64 bn)]) (h.set i (some (.map (keyA es j (.c kv)) ck))) n [i])) none
        | _, _ => none
      | some none => match P.info? et with
        | some inf => match inf.zero with
          | some z => some (.val (mkT [.c z, .c (.int .i64 ck)]) (h.set i (some (.map (es ++ [(.c kv, .c z, ck)]) (ck + 1)))) n [i])
          | none => none
        | none => none
      | none => none) none
    | _, _ => none
  | _, _, _ => none
theorem map_put {i b kp : Nat} {es : List (AV × AV × Nat)} {ck : Nat} (r : Rel σ h B w) (hg : h.get i = some (.map es ck)) (hb : σ i = some (b, kp)) (h3 : b < w.heap.size) {es2 : List (AV × AV × Nat)} {es2' : Array MapEntry} {c2 : Nat} (hER : ER σ es2 es2'.toList) : Act1 σ h n B w σ (h.set i (some (.map es2 c2))) n { w with heap := w.heap.setIfInBounds b (.map es2' c2) } := by
  refine act_put r hg hb rfl rfl rfl (by simp) (fun k hk => ?_) ⟨es2', ?_, hER⟩
  · show (w.heap.setIfInBounds b _)[k]? = _
    rw [Array.getElem?_setIfInBounds_ne (Ne.symm hk)]
  · show (w.heap.setIfInBounds b _)[b]? = _
    rw [Array.getElem?_setIfInBounds_self_of_lt h3]
theorem evMapEntry_ok {t : TypeId} {m k : Operand} (ho : o.op = .mapEntry t m k) {v : AV} {h' : Hp} {n' : Nat} {u : List Nat} (e : evMapEntry P h n t (ev tm m) (ev tm k) = some (.val v h' n' u)) (ht : TRE σ tm a) (r : Rel σ h B w) :
    Yields P (execOp a.eval o) σ h n B w v h' n' ∧ KeptE h n n' h' u := by
  have hex : execOp a.eval o = (do let x ← Instr.mapEntry t (a.eval m) (a.eval k); pure (.value x)) := by
    simp only [execOp, ho]
  unfold evMapEntry at e
  split at e
  · rename_i i kv kt et hm hk hu
    have hmv := ev_ok ht m
    have hkv := ev_ok ht k
    rw [hm] at hmv
    rw [hk] at hkv
    generalize a.eval m = mv at hmv hex
    generalize a.eval k = kvv at hkv hex
    cases hkv
    cases hmv with
    | m hb =>
      rename_i b kp
      split at e
      · rename_i es ck kind hg hkd
        cases hc : keyOk P false kt kv with
        | false => rw [hc] at e; cases e
        | true =>
          rw [hc] at e
          obtain ⟨b2, k2, h1, h2, h3, es', h4, h5⟩ := r.obj i _ hg
          rw [hb] at h1; cases h1
          have hck := keyOk_run (w := w) hc
          simp only [cond] at e
          split at e
          · rename_i j vv hf
            split at e
            · rename_i okk bn hok hbn
              cases hsb : Instr.sameBits 10000 okk kv with
              | false => rw [hsb] at e; cases e
              | true =>
                rw [hsb] at e
                cases e
                obtain ⟨v2, q1, q2⟩ := findF_ok (w := w) hkd h5 hf
                obtain ⟨en, q3, q4⟩ := oldKey_ok h5 hok
                have q5 : es'[j]? = some en := by rw [← Array.getElem?_toList]; exact q3
                have q6 : en.born = bn := by
                  have := bornA_ok h5 hbn
                  rw [q3] at this
                  simpa using this
                refine ⟨⟨σ, { w with heap := w.heap.setIfInBounds b (.map (es'.modify j fun e => { e with key := kv }) ck) }, .tuple #[v2, .int .i64 bn], .inl ?_, mkT_ok (.cons q2 (.cons (.c _) .nil)), map_put r hg hb h3 ?_⟩, kept_put⟩
                · rw [hex]
                  simp only [Instr.mapEntry, Sem.run_bind, und_run hu, Result.andThen_ok, goget h4, hck, q1, Sem.run_pure, Instr.keyThatStays, q5, Option.map_some, Option.getD_some, q4, q6, hsb, if_true, goset _ h4, goInt]
                · have := keyA_ok (.c kv) j h5
                  rw [Array.toList_modify]; exact this
            · cases e
          · rename_i hf
            split at e
            · rename_i inf hi
              split at e
              · rename_i z hz
                cases e
                have q1 := findF_ok (w := w) hkd h5 hf
                simp only at q1
                refine ⟨⟨σ, { w with heap := w.heap.setIfInBounds b (.map (es'.push ⟨kv, z, ck⟩) (ck + 1)) }, .tuple #[z, .int .i64 ck], .inl ?_, mkT_ok (.cons (.c _) (.cons (.c _) .nil)), map_put r hg hb h3 ?_⟩, kept_put⟩
                · rw [hex]
                  simp only [Instr.mapEntry, Sem.run_bind, und_run hu, Result.andThen_ok, goget h4, hck, q1, Sem.run_pure, zero_run hi hz, goset _ h4, goInt]
                · rw [Array.toList_push]; exact h5.push (.c kv) (.c z)
              · cases e
            · cases e
          · cases e
      · cases e
  · cases e
def evEntryStore (h : Hp) (n : Nat) (m s x : AV) : Option Out :=
  match m, s with
  | .m i, .c (.int _ bz) => match h.get i with
    | some (.map es ck) => cond x.isQ none (match es.findIdx? (fun e => (e.2.2 : Int) == bz) with
      | some j => some (.val (.c undef) (h.set i (some (.map (valA es j x) ck))) n [i])
      | none => none)
    | _ => none
  | _, _ => none
theorem evEntryStore_ok {t : TypeId} {m s x : Operand} (ho : o.op = .entryStore t m s x) {v : AV} {h' : Hp} {n' : Nat} {u : List Nat} (e : evEntryStore h n (ev tm m) (ev tm s) (ev tm x) = some (.val v h' n' u)) (ht : TRE σ tm a) (r : Rel σ h B w) :
    Yields P (execOp a.eval o) σ h n B w v h' n' ∧ KeptE h n n' h' u := by
  have hex : execOp a.eval o = (do Instr.entryStore t (a.eval m) (a.eval s) (a.eval x); pure .skip) := by
    simp only [execOp, ho]
  unfold evEntryStore at e
  split at e
  · rename_i i kd bz hm hk
    have hmv := ev_ok ht m
    have hkv := ev_ok ht s
    have hxv := ev_ok ht x
    rw [hm] at hmv
    rw [hk] at hkv
    generalize a.eval m = mv at hmv hex
    generalize a.eval s = sv at hkv hex
    generalize a.eval x = xv at hxv hex
    cases hkv
    cases hmv with
    | m hb =>
      rename_i b kp
      split at e
      · rename_i es ck hg
        cases hc : (ev tm x).isQ with
        | true => rw [hc] at e; cases e
        | false =>
          rw [hc] at e
          obtain ⟨b2, k2, h1, h2, h3, es', h4, h5⟩ := r.obj i _ hg
          rw [hb] at h1; cases h1
          simp only [cond] at e
          split at e
          · rename_i j hf
            cases e
            have q1 : es'.findIdx? (fun e => (e.born : Int) == bz) = some j := by
              have := h5.find (f := fun b => (b : Int) == bz)
              rw [hf] at this
              rw [← List.findIdx?_toArray] at this; exact this
            refine ⟨⟨σ, { w with heap := w.heap.setIfInBounds b (.map (es'.modify j fun e => { e with val := xv }) ck) }, undef, .inr ⟨?_, rfl⟩, .c _, map_put r hg hb h3 ?_⟩, kept_put⟩
            · rw [hex]
              simp only [Instr.entryStore, Sem.run_bind, Result.andThen_ok, goget h4, asInt, asIntOf, Sem.run_pure, q1, goset _ h4]
            · have := valA_ok hxv j h5
              rw [Array.toList_modify]; exact this
          · cases e
      · cases e
  · cases e
theorem noC_mapEntry {t : TypeId} {m k : AV} {f : Tgt} {args : List AV} : evMapEntry P h n t m k ≠ some (.call f args) := by
  intro e; unfold evMapEntry at e
  split at e
  · split at e
    · generalize (keyOk P false _ _ : Bool) = q at e
      cases q
      · cases e
      · simp only [cond] at e
        split at e
        · split at e
          · generalize (Instr.sameBits 10000 _ _ : Bool) = q at e
            cases q <;> cases e
          · cases e
        · split at e
          · split at e <;> cases e
          · cases e
        · cases e
    · cases e
  · cases e
theorem noC_entryStore {m s x : AV} {f : Tgt} {args : List AV} : evEntryStore h n m s x ≠ some (.call f args) := by
  intro e; unfold evEntryStore at e
  split at e
  · split at e
    · cases hq : x.isQ <;> rw [hq] at e
      · simp only [cond] at e
        split at e <;> cases e
      · cases e
    · cases e
  · cases e
end ops
end Go.Proofs.Ytcpifmhcebfglaa
namespace Go.Proofs.Ytcpifmhcebfglaa
open Go Go.RowKit
set_option linter.unusedVariables false
section ops
variable {P : Program} {tm : T AV} {h : Hp} {n B : Nat} {o : Oper} {σ : Sg} {a : Act} {w : World}
theorem ER.filter {f : Nat → Bool} : ∀ {l : List (AV × AV × Nat)} {l' : List MapEntry}, ER σ l l' → ER σ (l.filter fun e => f e.2.2) (l'.filter fun e => f e.born)
  | _, _, .nil => .nil
  | _, _, .cons (n := b) h1 h2 h3 => by
    simp only [List.filter_cons]
    cases f b with
    | true => exact .cons h1 h2 (ER.filter h3)
    | false => exact ER.filter h3
theorem ER.find? {f : Nat → Bool} : ∀ {l : List (AV × AV × Nat)} {l' : List MapEntry} {k v : AV} {b : Nat}, ER σ l l' → l.find? (fun e => f e.2.2) = some (k, v, b) → ∃ e, l'.find? (fun e => f e.born) = some e ∧ VR σ k e.key ∧ VR σ v e.val
  | _, _, k, v, b, .nil, e => by simp at e
  | _, _, k, v, b, .cons (n := b2) h1 h2 h3, e => by
    simp only [List.find?_cons] at e ⊢
    cases hf : f b2 with
    | true =>
      rw [hf] at e
      cases e
      exact ⟨_, rfl, h1, h2⟩
    | false =>
      rw [hf] at e
      exact ER.find? h3 e
theorem ER.any {f : Nat → Bool} : ∀ {l : List (AV × AV × Nat)} {l' : List MapEntry}, ER σ l l' → l'.all (fun e => f e.born) = l.all (fun e => f e.2.2)
  | _, _, .nil => rfl
  | _, _, .cons h1 h2 h3 => by simp only [List.all_cons, ER.any h3]
def evRangeM (P : Program) (h : Hp) (n : Nat) (t : TypeId) (x : AV) : Option Out :=
  match x, P.underlying t with
  | .m i, some (.map _ _) => match h.get i with
    | some (.map es ck) => some (.val (.p n 0) (h.set n (some (.mit i ck [] ck))) (n + 1) [])
    | _ => none
  | _, _ => none
theorem evRangeM_ok {t : TypeId} {x : Operand} (ho : o.op = .range t x) {v : AV} {h' : Hp} {n' : Nat} {u : List Nat} (e : evRangeM P h n t (ev tm x) = some (.val v h' n' u)) (ht : TRE σ tm a) (r : Rel σ h B w) (hB : B ≤ w.heap.size) (hf : ∀ i, n ≤ i → i < n' → σ i = none) :
    Yields P (execOp a.eval o) σ h n B w v h' n' ∧ KeptE h n n' h' u := by
  unfold evRangeM at e
  split at e
  · rename_i i kt et hx hu
    split at e
    · rename_i es ck hg
      cases e
      have hxv := ev_ok ht x
      rw [hx] at hxv
      generalize hxe : a.eval x = xv at hxv
      cases hxv with
      | m hb =>
        rename_i b kp
        obtain ⟨b2, k2, h1, h2, h3, es', h4, h5⟩ := r.obj i _ hg
        rw [hb] at h1; cases h1
        have ac := act_new (n := n) (kap := 0) (o := .mapIter (some b) ck #[] ck) (x := .mit i ck [] ck) r hB (hf n (by omega) (by omega)) ⟨b, kp, hb, rfl⟩
        refine ⟨⟨_, _, _, .inl ?_, VR.p (b := w.heap.size) (k := 0) (by simp [ext]), ac⟩, kept_set⟩
        simp only [execOp, ho, hxe, Instr.range, Sem.run_bind, und_run hu, Result.andThen_ok, Sem.run_pure, goget h4, run_newObj]
        rfl
    · cases e
  · cases e
def evNextM (h : Hp) (n : Nat) (x : AV) (isS : Bool) : Option Out :=
  match x, isS with
  | .p i 0, false => match h.get i with
    | some (.mit m since seen last) => match h.get m with
      | some (.map es ck) => cond ((seen.isEmpty || es.isEmpty || !es.all (fun e => Nat.ble last e.2.2)) && (es.filter (fun e => !seen.contains e.2.2)).all (fun e => Nat.blt e.2.2 since))
        (match es.filter (fun e => !seen.contains e.2.2) with
        | [] => some (.val (.c (.tuple #[.bool false])) h n [])
        | [(k, v, b)] => some (.val (mkT [.c (.bool true), k, v]) (h.set i (some (.mit m since (seen ++ [b]) ck))) n [i])
        | _ => none) none
      | _ => none
    | _ => none
  | _, _ => none
theorem evNextM_ok {x : Operand} {isS : Bool} (ho : o.op = .next x isS) {v : AV} {h' : Hp} {n' : Nat} {u : List Nat} (e : evNextM h n (ev tm x) isS = some (.val v h' n' u)) (ht : TRE σ tm a) (r : Rel σ h B w) :
    Yields P (execOp a.eval o) σ h n B w v h' n' ∧ KeptE h n n' h' u := by
  unfold evNextM at e
  split at e
  · rename_i i hx
    have hxv := ev_ok ht x
    rw [hx] at hxv
    generalize hxe : a.eval x = xv at hxv
    cases hxv with
    | p hb =>
      rename_i b kp
      split at e
      · rename_i m since seen last hg
        split at e
        · rename_i es ck hgm
          obtain ⟨b2, k2, h1, h2, h3, bm, km, hbm, h4⟩ := r.obj i _ hg
          rw [hb] at h1; cases h1
          obtain ⟨b3, k3, g1, g2, g3, es', g4, g5⟩ := r.obj m _ hgm
          rw [hbm] at g1; cases g1
          cases hc : ((seen.isEmpty || es.isEmpty || !es.all (fun e => Nat.ble last e.2.2)) && (es.filter (fun e => !seen.contains e.2.2)).all (fun e => Nat.blt e.2.2 since)) with
          | false => rw [hc] at e; cases e
          | true =>
            rw [hc] at e
            simp only [cond] at e
            rw [Bool.and_eq_true] at hc
            obtain ⟨c1, c2⟩ := hc
            have hgo : (getObj b).run P w = .ok (.mapIter (some bm) since seen.toArray last) w := by simp [getObj, Sem.run, h4]
            have hgone : (!seen.toArray.isEmpty && !es'.isEmpty && es'.all fun e => decide (e.born ≥ last)) = false := by
              have e1 : es'.isEmpty = es.isEmpty := by
                rw [← Array.isEmpty_toList]
                generalize es'.toList = q at g5
                cases g5 <;> rfl
              have e2 : (es'.all fun e => decide (e.born ≥ last)) = es.all (fun e => Nat.ble last e.2.2) := by
                have := g5.any (f := fun b => Nat.ble last b)
                rw [← this, ← Array.all_toList]
                congr 1
                funext q
                cases hq : Nat.ble last q.born with
                | true => have := Nat.le_of_ble_eq_true hq; simpa using this
                | false =>
                  have : ¬ last ≤ q.born := fun hh => by rw [Nat.ble_eq_true_of_le hh] at hq; cases hq
                  simpa using this
              rw [e1, e2, List.isEmpty_toArray]
              revert c1
              cases seen.isEmpty <;> cases es.isEmpty <;> cases es.all (fun e => Nat.ble last e.2.2) <;> simp
            have hleft : (es'.filter fun e => !seen.toArray.contains e.born).toList = es'.toList.filter fun e => !seen.contains e.born := by
              rw [Array.toList_filter]
              congr 1
              funext q
              rw [List.contains_toArray]
            have hER := g5.filter (f := fun b => !seen.contains b)
            generalize hL : es.filter (fun e => !seen.contains e.2.2) = L at e c2 hER
            generalize hL' : es'.toList.filter (fun e => !seen.contains e.born) = L' at hER hleft
            have hfil : (es'.filter fun e => !seen.toArray.contains e.born) = L'.toArray := by
              rw [← hleft]
            split at e
            · cases e
              cases hER
              refine ⟨Yields.same r ?_ (.c _), KeptE.refl _ _ _ _⟩
              simp only [execOp, ho, hxe, Instr.next, Sem.run_bind, Sem.run_pure, Result.andThen_ok, hgo, goget g4, hgone, Bool.false_eq_true, if_false, hfil]
              simp [Question.forced]
            · rename_i kk vv bb
              cases e
              cases hER with
              | cons hk hv hs =>
                cases hs
                rename_i k' v'
                have hb2 : bb < since := by
                  simp only [List.all_cons, List.all_nil, Bool.and_true] at c2
                  simpa [Nat.blt_eq] using c2
                have hso : ∀ ob, (setObj b ob).run P w = .ok () { w with heap := w.heap.setIfInBounds b ob } := fun ob => by simp [setObj, Sem.run, h4]
                refine ⟨⟨σ, { w with heap := w.heap.setIfInBounds b (.mapIter (some bm) since (seen.toArray.push bb) ck) }, .tuple #[.bool true, k', v'], .inl ?_, mkT_ok (.cons (.c _) (.cons hk (.cons hv .nil))), ?_⟩, kept_put⟩
                · have hnb : ¬ since ≤ bb := by omega
                  simp only [execOp, ho, hxe, Instr.next, Sem.run_bind, Sem.run_pure, Result.andThen_ok, hgo, goget g4, hgone, Bool.false_eq_true, if_false, hfil]
                  simp [Question.forced, hb2, hnb, hso]
                · refine act_put r hg hb rfl rfl rfl (by simp) (fun k hk => ?_) ⟨bm, km, hbm, ?_⟩
                  · show (w.heap.setIfInBounds b _)[k]? = _
                    rw [Array.getElem?_setIfInBounds_ne (Ne.symm hk)]
                  · show (w.heap.setIfInBounds b _)[b]? = _
                    rw [Array.getElem?_setIfInBounds_self_of_lt h3]
                    simp
            · cases e
        · cases e
      · cases e
  · cases e
def evEntry (h : Hp) (n : Nat) (x : AV) : Option Out :=
  match x with
  | .p i 0 => match h.get i with
    | some (.mit m since seen last) => match h.get m, seen.getLast? with
      | some (.map es ck), some stamp => cond (Nat.beq ck last) (match es.find? (fun e => e.2.2 == stamp) with
        | some (k, v, _) => some (.val (mkT [k, v]) h n [])
        | none => none) none
      | _, _ => none
    | _ => none
  | _ => none
theorem evEntry_ok {x : Operand} (ho : o.op = .entry x) {v : AV} {h' : Hp} {n' : Nat} {u : List Nat} (e : evEntry h n (ev tm x) = some (.val v h' n' u)) (ht : TRE σ tm a) (r : Rel σ h B w) :
    Yields P (execOp a.eval o) σ h n B w v h' n' ∧ KeptE h n n' h' u := by
  unfold evEntry at e
  split at e
  · rename_i i hx
    have hxv := ev_ok ht x
    rw [hx] at hxv
    generalize hxe : a.eval x = xv at hxv
    cases hxv with
    | p hb =>
      rename_i b kp
      split at e
      · rename_i m since seen last hg
        split at e
        · rename_i es ck stamp hgm hst
          obtain ⟨b2, k2, h1, h2, h3, bm, km, hbm, h4⟩ := r.obj i _ hg
          rw [hb] at h1; cases h1
          obtain ⟨b3, k3, g1, g2, g3, es', g4, g5⟩ := r.obj m _ hgm
          rw [hbm] at g1; cases g1
          cases hc : Nat.beq ck last with
          | false => rw [hc] at e; cases e
          | true =>
            rw [hc] at e
            simp only [cond] at e
            have hck : ck = last := Nat.eq_of_beq_eq_true hc
            subst hck
            split at e
            · rename_i kk vv bb hf
              cases e
              obtain ⟨en, q1, q2, q3⟩ := g5.find? (f := fun b => b == stamp) hf
              have hgo : (getObj b).run P w = .ok (.mapIter (some bm) since seen.toArray ck) w := by simp [getObj, Sem.run, h4]
              have q4 : es'.find? (fun e => e.born == stamp) = some en := by rw [← Array.find?_toList]; exact q1
              have q5 : seen.toArray.back? = some stamp := by rw [List.back?_toArray]; exact hst
              refine ⟨Yields.same (v' := .tuple #[en.key, en.val]) r ?_ (mkT_ok (.cons q2 (.cons q3 .nil))), KeptE.refl _ _ _ _⟩
              simp only [execOp, ho, hxe, Instr.entry, Sem.run_bind, Sem.run_pure, Result.andThen_ok, hgo, q5, goget g4, bne_self_eq_false, Bool.false_eq_true, if_false, q4]
            · cases e
        · cases e
      · cases e
  · cases e
theorem noC_rangeM {t : TypeId} {x : AV} {f : Tgt} {args : List AV} : evRangeM P h n t x ≠ some (.call f args) := by
  intro e; unfold evRangeM at e; (repeat' split at e) <;> cases e
theorem noC_nextM {x : AV} {isS : Bool} {f : Tgt} {args : List AV} : evNextM h n x isS ≠ some (.call f args) := by
  intro e; unfold evNextM at e
  split at e
  · split at e
    · split at e
      · generalize ((_ : Bool) && _) = q at e
        cases q
        · cases e
        · simp only [cond] at e
          split at e <;> cases e
      · cases e
    · cases e
  · cases e
theorem noC_entry {x : AV} {f : Tgt} {args : List AV} : evEntry h n x ≠ some (.call f args) := by
  intro e; unfold evEntry at e
  split at e
  · split at e
    · split at e
      · generalize (Nat.beq _ _ : Bool) = q at e
        cases q
        · cases e
        · simp only [cond] at e
          split at e <;> cases e
      · cases e
    · cases e
  · cases e
end ops
end Go.Proofs.Ytcpifmhcebfglaa
namespace Go.Proofs.Ytcpifmhcebfglaa
open Go Go.RowKit
set_option linter.unusedVariables false
/-- no function of the text is one of the runtime's that are asked for the goroutines -/
def NoNum (P : Program) : Prop := ∀ (g : FuncId) (fn : Func), P.funcs[g]? = some fn → (fn.name == "runtime.NumGoroutine") = false
def callOk (P : Program) (g : FuncId) (args : List AV) : Option Out :=
  match P.funcs[g]? with
  | some fn => match fn.body with
    | some _ => some (.call (.fn g) args)
    | none => none
  | none => none
def evCallOp (P : Program) (tm : T AV) (h : Hp) (n : Nat) (c : Call) : Option Out :=
  match c.callee with
  | .builtin .append => evAppend P h n c.argTypes (c.args.toList.map (ev tm))
  | .builtin .len => evLen P h n c.argTypes (c.args.toList.map (ev tm))
  | .value f => match ev tm f with
    | .f (.func g) l => callOk P g (c.args.toList.map (ev tm) ++ l)
    | .g (.func g) fs l => callOk P g (fs ++ c.args.toList.map (ev tm) ++ l)
    | .y i => some (.call (.yld i) (c.args.toList.map (ev tm)))
    | .c (.func (.func g) first cap) => cond first.isEmpty (callOk P g (c.args.toList.map (ev tm) ++ cap.toList.map .c)) none
    | _ => none
  | _ => none
def orC (x y : Option Out) : Option Out := match x with
  | some r => some r
  | none => y
def evOp (P : Program) (G : Gl) (tm : T AV) (h : Hp) (n : Nat) (o : Oper) : Option Out :=
  match o.op with
  | .move x | .assign x => evMove h n (ev tm x)
  | .pick c x y => evPick h n (ev tm c) (ev tm x) (ev tm y)
  | .alloc t => evAlloc P h n t
  | .box t x => evBox h n t (ev tm x)
  | .build t ps => orC (evClosed P tm h n o) (evBuild P h n t (ps.toList.map fun p => (p.1, ev tm p.2)))
  | .buildSlice t len ps => evBuildSlice P h n t len (ps.toList.map fun p => (p.1, ev tm p.2))
  | .load t x => evLoad P G h n t (ev tm x)
  | .store t x y => evStore P h n t (ev tm x) (ev tm y)
  | .nilCheck x => orC (evNilCheck h n (ev tm x)) (evClosed P tm h n o)
  | .fieldAddr s x f => orC (evFieldAddr P h n s f (ev tm x)) (evClosed P tm h n o)
  | .field s x f => orC (evField P h n s f (ev tm x)) (evClosed P tm h n o)
  | .indexAddr t x y => orC (evIndexAddr P h n t (ev tm x) (ev tm y)) (evClosed P tm h n o)
  | .index t x y => orC (evIndex P h n t (ev tm x) (ev tm y)) (evClosed P tm h n o)
  | .extract x i => orC (evExtract h n (ev tm x) i) (evClosed P tm h n o)
  | .slice t x lo hi mx => orC (evSlice P h n t (ev tm x) (lo.map (ev tm)) (hi.map (ev tm)) (mx.map (ev tm))) (evClosed P tm h n o)
  | .makeFunc fn first cap => orC (evClosed P tm h n o) (evMakeFunc h n fn first (first.toList.map (ev tm)) (cap.toList.map (ev tm)))
  | .call c => orC (evCallOp P tm h n c) (evClosed P tm h n o)
  | .defer _ => none
  | .makeMap t rs => evMakeMap P h n t (rs.map (ev tm))
  | .mapUpdate t m k x | .insert t m k x => evMapUpdate P h n t (ev tm m) (ev tm k) (ev tm x)
  | .mapEntry t m k => evMapEntry P h n t (ev tm m) (ev tm k)
  | .entryStore _ m s x => evEntryStore h n (ev tm m) (ev tm s) (ev tm x)
  | .lookup t x y ok => orC (evLookup P h n t (ev tm x) (ev tm y) ok) (evClosed P tm h n o)
  | .makeSlice t x y => evMakeSlice P h n t (ev tm x) (ev tm y)
  | .range t x => orC (evRange P h n t (ev tm x)) (evRangeM P h n t (ev tm x))
  | .next x isS => orC (evNext h n (ev tm x) isS) (evNextM h n (ev tm x) isS)
  | .entry x => evEntry h n (ev tm x)
  | .convert src dst x => orC (evConvert P h n src dst (ev tm x)) (evClosed P tm h n o)
  | .binOp op t x y _ => orC (evClosed P tm h n o) (evEqNil P h n op t (ev tm x) (ev tm y))
  | _ => evClosed P tm h n o
section ops
variable {P : Program} {G : Gl} {tm : T AV} {h : Hp} {n B : Nat} {o : Oper} {σ : Sg} {a : Act} {w : World}
theorem closed_val {v : AV} {h' : Hp} {n' : Nat} {u : List Nat} (e : evClosed P tm h n o = some (.val v h' n' u)) (ht : TRE σ tm a) (r : Rel σ h B w) : Yields P (execOp a.eval o) σ h n B w v h' n' ∧ KeptE h n n' h' u := by
  rcases closed_run e ht w with ⟨v', h1, h2⟩ | ⟨f, args, h1, h2⟩
  · cases h1; exact ⟨Yields.same r h2 (.c _), KeptE.refl _ _ _ _⟩
  · cases h1
/-- what a call comes to -/
def CallR (P : Program) (s : Sem Next) (σ : Sg) (w : World) (args : List AV) : Tgt → Prop
  | .fn f => ∃ args', s.run P w = .ok (.enter f args') w ∧ VRs σ args args'.toList
  | .yld i => ∃ args' b k, σ i = some (b, k) ∧ s.run P w = (Instr.yield b args').run P w ∧ VRs σ args args'.toList
theorem closed_call {f : Tgt} {args : List AV} (e : evClosed P tm h n o = some (.call f args)) (ht : TRE σ tm a) (w : World) : CallR P (execOp a.eval o) σ w args f := by
  rcases closed_run e ht w with ⟨v', h1, h2⟩ | ⟨f', args', h1, h2⟩
  · cases h1
  · cases h1; exact ⟨args', h2, VRs.cs _⟩
theorem orC_some {x y : Option Out} {z : Out} (e : orC x y = some z) : x = some z ∨ y = some z := by
  unfold orC at e
  split at e
  · exact .inl e
  · exact .inr e
theorem callOk_ok (hP : NoNum P) {g : FuncId} {g' : Tgt} {args args2 : List AV} (e : callOk P g args = some (.call g' args2)) (w : World) (args' : Array Value) : g' = .fn g ∧ args2 = args ∧ (callFunc g args').run P w = .ok (.enter g args') w := by
  unfold callOk at e
  split at e
  · rename_i fn hfn
    split at e
    · rename_i c hc
      cases e
      refine ⟨rfl, rfl, ?_⟩
      have := hP g fn hfn
      simp only [callFunc, Sem.run_bind, run_program, Result.andThen_ok, hfn, this, hc, Bool.false_eq_true, if_false, Option.isNone_some, Sem.run_pure]
    · cases e
  · cases e
theorem callOk_val {g : FuncId} {args : List AV} {v : AV} {h' : Hp} {n' : Nat} {u : List Nat} : callOk P g args ≠ some (.val v h' n' u) := by
  unfold callOk
  split
  · split <;> simp
  · simp
theorem evOp_val {v : AV} {h' : Hp} {n' : Nat} {u : List Nat} (e : evOp P G tm h n o = some (.val v h' n' u)) (ht : TRE σ tm a) (r : Rel σ h B w) (hG : GR G B w) (hB : B ≤ w.heap.size) (hf : ∀ i, n ≤ i → i < n' → σ i = none) : Yields P (execOp a.eval o) σ h n B w v h' n' ∧ KeptE h n n' h' u := by
  unfold evOp at e
  split at e
  · rename_i x ho; exact evMove_ok (.inl ho) e ht r
  · rename_i x ho; exact evMove_ok (.inr ho) e ht r
  · rename_i c x y ho; exact evPick_ok ho e ht r
  · rename_i t ho; exact evAlloc_ok ho e ht r hB hf
  · rename_i t x ho; exact evBox_ok ho e ht r hB hf
  · rename_i t ps ho
    rcases orC_some e with e | e
    · exact closed_val e ht r
    · exact evBuild_ok ho e ht r
  · rename_i t len ps ho; exact evBuildSlice_ok ho e ht r hB hf
  · rename_i t x ho; exact evLoad_ok ho e ht r hG
  · rename_i t x y ho; exact evStore_ok ho e ht r
  · rename_i x ho
    rcases orC_some e with e | e
    · exact evNilCheck_ok ho e ht r
    · exact closed_val e ht r
  · rename_i s x f ho
    rcases orC_some e with e | e
    · exact evFieldAddr_ok ho e ht r
    · exact closed_val e ht r
  · rename_i s x f ho
    rcases orC_some e with e | e
    · exact evField_ok ho e ht r
    · exact closed_val e ht r
  · rename_i t x y ho
    rcases orC_some e with e | e
    · exact evIndexAddr_ok ho e ht r
    · exact closed_val e ht r
  · rename_i t x y ho
    rcases orC_some e with e | e
    · exact evIndex_ok ho e ht r
    · exact closed_val e ht r
  · rename_i x i ho
    rcases orC_some e with e | e
    · exact evExtract_ok ho e ht r
    · exact closed_val e ht r
  · rename_i t x lo hi mx ho
    rcases orC_some e with e | e
    · exact evSlice_ok ho e ht r
    · exact closed_val e ht r
  · rename_i fn first cap ho
    rcases orC_some e with e | e
    · exact closed_val e ht r
    · exact evMakeFunc_ok ho e ht r
  · rename_i c ho
    rcases orC_some e with e | e
    · unfold evCallOp at e
      split at e
      · rename_i hc; exact evAppend_ok ho hc e ht r hB hf
      · rename_i hc; exact evLen_ok ho hc e ht r
      · split at e
        · exact absurd e callOk_val
        · exact absurd e callOk_val
        · cases e
        · rename_i g first cap _
          cases hfe : first.isEmpty <;> rw [hfe] at e
          · cases e
          · exact absurd e callOk_val
        · cases e
      · cases e
    · exact closed_val e ht r
  · cases e
  · rename_i t rs ho; exact evMakeMap_ok ho e ht r hB hf
  · rename_i t m k x ho; exact evMapUpdate_ok (.inl ho) e ht r
  · rename_i t m k x ho; exact evMapUpdate_ok (.inr ho) e ht r
  · rename_i t m k ho; exact evMapEntry_ok ho e ht r
  · rename_i t m s x ho; exact evEntryStore_ok ho e ht r
  · rename_i t x y ok ho
    rcases orC_some e with e | e
    · exact evLookup_ok ho e ht r
    · exact closed_val e ht r
  · rename_i t x y ho; exact evMakeSlice_ok ho e ht r hB hf
  · rename_i t x ho
    rcases orC_some e with e | e
    · exact evRange_ok ho e ht r hB hf
    · exact evRangeM_ok ho e ht r hB hf
  · rename_i x isS ho
    rcases orC_some e with e | e
    · exact evNext_ok ho e ht r
    · exact evNextM_ok ho e ht r
  · rename_i x ho; exact evEntry_ok ho e ht r
  · rename_i src dst x ho
    rcases orC_some e with e | e
    · exact evConvert_ok ho e ht r hB hf
    · exact closed_val e ht r
  · rename_i op t x y yt ho
    rcases orC_some e with e | e
    · exact closed_val e ht r
    · exact evEqNil_ok ho e ht r
  · exact closed_val e ht r
theorem cond_some {b : Bool} {x : Option Out} {y : Out} (e : cond b x none = some y) : x = some y := by cases b <;> first | exact e | cases e
theorem noC_makeMap {t : TypeId} {rs : Option AV} {f : Tgt} {args : List AV} : evMakeMap P h n t rs ≠ some (.call f args) := by
  intro e; unfold evMakeMap at e; (repeat' split at e) <;> cases e
theorem noC_mapUpdate {t : TypeId} {m k x : AV} {f : Tgt} {args : List AV} : evMapUpdate P h n t m k x ≠ some (.call f args) := by
  intro e; unfold evMapUpdate at e
  split at e
  · split at e
    · have e := cond_some e
      split at e
      · split at e
        · have e := cond_some e; cases e
        · cases e
      · cases e
      · cases e
    · cases e
  · cases e
theorem noC_lookup {t : TypeId} {x y : AV} {ok : Bool} {f : Tgt} {args : List AV} : evLookup P h n t x y ok ≠ some (.call f args) := by
  intro e; unfold evLookup at e
  split at e
  · split at e
    · have e := cond_some e
      (repeat' split at e) <;> cases e
    · cases e
  · cases e
theorem noC_makeSlice {t : TypeId} {x y : AV} {f : Tgt} {args : List AV} : evMakeSlice P h n t x y ≠ some (.call f args) := by
  intro e; unfold evMakeSlice at e
  split at e
  · split at e
    · split at e
      · have e := cond_some e; cases e
      · cases e
    · cases e
  · cases e
theorem noC_convert {s d : TypeId} {x : AV} {f : Tgt} {args : List AV} : evConvert P h n s d x ≠ some (.call f args) := by
  intro e; unfold evConvert at e; (repeat' split at e) <;> cases e
theorem noC_eqNil {op : BinOp} {t : TypeId} {x y : AV} {f : Tgt} {args : List AV} : evEqNil P h n op t x y ≠ some (.call f args) := by
  intro e; unfold evEqNil at e; split at e <;> cases e
theorem args_ok (ht : TRE σ tm a) (c : Call) : VRs σ (c.args.toList.map (ev tm)) (c.args.map a.eval).toList := by
  have := evs_ok ht c.args.toList
  simpa using this
theorem noCall {x : Option Out} {f : Tgt} {args : List AV} (hx : ∀ f args, x ≠ some (.call f args)) (y : Option Out) (e : orC x y = some (.call f args)) : y = some (.call f args) := (orC_some e).resolve_left (hx _ _)
theorem evOp_call (hP : NoNum P) {f : Tgt} {args : List AV} (e : evOp P G tm h n o = some (.call f args)) (ht : TRE σ tm a) (w : World) : CallR P (execOp a.eval o) σ w args f := by
  unfold evOp at e
  split at e
  · cases e
  · cases e
  · unfold evPick at e; split at e <;> cases e
  · unfold evAlloc at e; split at e
    · split at e <;> cases e
    · cases e
  · unfold evBox at e; rename_i t x _; cases hq : (ev tm x).isQ <;> rw [hq] at e <;> cases e
  · rcases orC_some e with e | e
    · exact closed_call e ht w
    · unfold evBuild at e
      split at e
      · split at e
        · simp at e
        · cases e
      · cases e
  · unfold evBuildSlice at e
    split at e
    · split at e
      · split at e
        · rename_i t len ps _ _ el _ _ i _ _ z _
          cases hc : (Nat.ble (len * i.size) 16777216 && !Nat.beq (len * i.size) 0) <;> rw [hc] at e <;> simp only [cond] at e
          · cases h0 : Nat.beq (len * i.size) 0 <;> rw [h0] at e <;> try simp only at e
            · cases e
            · split at e <;> cases e
          · simp at e
        · cases e
      · cases e
    · cases e
  · unfold evLoad at e; split at e
    · simp at e
    · cases e
  · unfold evStore at e
    split at e
    · split at e
      · rename_i t x y _ _ i off _ _ _ l e' g k _ _
        cases hc : (Nat.beq (ev tm y).cells.length k.size && Nat.ble (off + k.size) l.length && (ev tm y).cells.all AV.one && !(ev tm y).isQ) <;> rw [hc] at e <;> cases e
      · cases e
    · cases e
  · rcases orC_some e with e | e
    · unfold evNilCheck at e; split at e <;> cases e
    · exact closed_call e ht w
  · rcases orC_some e with e | e
    · unfold evFieldAddr at e
      split at e
      · split at e
        · split at e
          · rename_i k _; cases hz : Nat.beq k.size 0 <;> rw [hz] at e <;> cases e
          · cases e
        · cases e
      · cases e
    · exact closed_call e ht w
  · rcases orC_some e with e | e
    · unfold evField at e
      split at e
      · split at e
        · simp at e
        · cases e
      · cases e
    · exact closed_call e ht w
  · rcases orC_some e with e | e
    · unfold evIndexAddr at e
      split at e
      · split at e
        · split at e
          · rename_i z _ _ _ i off len cp el _ _ _ k _; cases hz : inLen z len <;> rw [hz] at e <;> cases e
          · cases e
        · split at e
          · rename_i z _ _ _ i off len el _ _ _ k _; cases hz : inLen z len <;> rw [hz] at e <;> cases e
          · cases e
        · cases e
      · cases e
    · exact closed_call e ht w
  · rcases orC_some e with e | e
    · unfold evIndex at e
      split at e
      · split at e
        · split at e
          · rename_i z _ _ _ l len el _ _ _ k _
            cases hz : inLen z len <;> rw [hz] at e <;> simp only [cond] at e
            · cases e
            · simp at e
          · cases e
        · cases e
      · cases e
    · exact closed_call e ht w
  · rcases orC_some e with e | e
    · unfold evExtract at e
      split at e
      · simp at e
      · cases e
    · exact closed_call e ht w
  · rcases orC_some e with e | e
    · unfold evSlice at e
      split at e
      · split at e
        · split at e
          · rename_i l hh _ _ _ _
            rename_i len _ _ _ _ _ _ _ _ _
            revert e
            generalize (Nat.ble _ _ && Nat.ble _ _ : Bool) = q
            intro e; cases q <;> cases e
          · split at e
            · revert e
              generalize (Nat.ble _ _ && Nat.ble _ _ && Nat.ble _ _ && Option.isSome _ : Bool) = q
              intro e; cases q <;> cases e
            · cases e
        · cases e
      · split at e
        · revert e
          generalize (Nat.ble _ _ && Nat.ble _ _ && Nat.blt _ _ : Bool) = q
          intro e; cases q <;> cases e
        · cases e
      · cases e
    · exact closed_call e ht w
  · rcases orC_some e with e | e
    · exact closed_call e ht w
    · unfold evMakeFunc at e
      revert e
      generalize (Array.isEmpty _ : Bool) = q
      intro e; cases q <;> cases e
  · rename_i c ho
    rcases orC_some e with e | e
    · unfold evCallOp at e
      split at e
      · exfalso
        unfold evAppend at e
        split at e
        · split at e
          · split at e
            · cases e
            · split at e
              · split at e
                · revert e
                  generalize (zerosOk _ _ && Nat.beq _ _ && Nat.ble _ _ && Nat.ble _ _ : Bool) = q
                  intro e
                  cases q
                  · cases e
                  · simp only [cond] at e
                    revert e
                    generalize (Nat.beq _ 0 : Bool) = q
                    intro e
                    cases q
                    · try simp only at e
                      unfold evAppendTo at e
                      split at e
                      · cases e
                      · split at e
                        · revert e
                          generalize (Nat.ble _ _ && Nat.ble _ _ : Bool) = q
                          intro e
                          cases q
                          · cases e
                          · try simp only at e
                            split at e
                            · revert e
                              generalize (Nat.ble _ _ : Bool) = q
                              intro e
                              cases q
                              · cases e
                              · try simp only at e
                                revert e
                                generalize (Nat.ble _ _ && List.all _ _ : Bool) = q
                                intro e
                                cases q <;> cases e
                            · split at e
                              · revert e
                                generalize (Nat.beq _ _ && Nat.beq _ _ && Nat.beq _ _ && List.all _ _ : Bool) = q
                                intro e
                                cases q <;> cases e
                              · cases e
                            · cases e
                        · cases e
                      · cases e
                    · cases e
                · cases e
              · cases e
          · cases e
        · cases e
      · exfalso
        unfold evLen at e
        split at e
        · split at e
          · cases e
          · cases e
          · split at e <;> cases e
          · cases e
        · cases e
      · rename_i fo hc
        have hfo := ev_ok ht fo
        have ha := args_ok ht c
        split at e
        · rename_i g l hf
          rw [hf] at hfo
          generalize hfe : a.eval fo = fv at hfo
          cases hfo with
          | f hl =>
            rename_i l'
            obtain ⟨rfl, rfl, h3⟩ := callOk_ok hP e w (c.args.map a.eval ++ l'.toArray)
            refine ⟨c.args.map a.eval ++ l'.toArray, ?_, by simpa using ha.append hl⟩
            simp only [execOp, ho, resolve, hc, hfe, Deferred.ofValue, Sem.run_bind, Sem.run_pure, Result.andThen_ok, invoke, Array.empty_append, h3]
        · rename_i g fs l hf
          rw [hf] at hfo
          generalize hfe : a.eval fo = fv at hfo
          cases hfo with
          | g hfs hl =>
            rename_i fs' l'
            obtain ⟨rfl, rfl, h3⟩ := callOk_ok hP e w (fs'.toArray ++ c.args.map a.eval ++ l'.toArray)
            refine ⟨fs'.toArray ++ c.args.map a.eval ++ l'.toArray, ?_, by simpa using (hfs.append ha).append hl⟩
            simp only [execOp, ho, resolve, hc, hfe, Deferred.ofValue, Sem.run_bind, Sem.run_pure, Result.andThen_ok, invoke, h3]
        · rename_i i hf
          cases e
          rw [hf] at hfo
          generalize hfe : a.eval fo = fv at hfo
          cases hfo with
          | y hb =>
            refine ⟨c.args.map a.eval, _, _, hb, ?_, ha⟩
            simp only [execOp, ho, resolve, hc, hfe, Deferred.ofValue, Sem.run_bind, Sem.run_pure, Result.andThen_ok, invoke, Array.empty_append]
        · rename_i g first cap hf
          cases hfe0 : first.isEmpty <;> rw [hfe0] at e
          · cases e
          have hfe1 : first = #[] := by simpa using hfe0
          subst hfe1
          simp only [cond] at e
          rw [hf] at hfo
          generalize hfe : a.eval fo = fv at hfo
          cases hfo with
          | c =>
            obtain ⟨rfl, rfl, h3⟩ := callOk_ok hP e w (c.args.map a.eval ++ cap)
            refine ⟨c.args.map a.eval ++ cap, ?_, by simpa using ha.append (VRs.cs _)⟩
            simp only [execOp, ho, resolve, hc, hfe, Deferred.ofValue, Sem.run_bind, Sem.run_pure, Result.andThen_ok, invoke, Array.empty_append, h3]
        · cases e
      · cases e
    · exact closed_call e ht w
  · cases e
  · exact absurd e noC_makeMap
  · exact absurd e noC_mapUpdate
  · exact absurd e noC_mapUpdate
  · exact absurd e noC_mapEntry
  · exact absurd e noC_entryStore
  · rcases orC_some e with e | e
    · exact absurd e noC_lookup
    · exact closed_call e ht w
  · exact absurd e noC_makeSlice
  · rcases orC_some e with e | e
    · unfold evRange at e; split at e <;> cases e
    · exact absurd e noC_rangeM
  · rcases orC_some e with e | e
    · unfold evNext at e
      split at e
      · split at e
        · rename_i s pos _
          cases hq : Nat.blt pos s.size <;> rw [hq] at e <;> cases e
        · cases e
      · split at e <;> cases e
      · cases e
    · exact absurd e noC_nextM
  · exact absurd e noC_entry
  · rcases orC_some e with e | e
    · exact absurd e noC_convert
    · exact closed_call e ht w
  · rcases orC_some e with e | e
    · exact closed_call e ht w
    · exact absurd e noC_eqNil
  · exact closed_call e ht w
theorem noDefer {x : Out} (e : evOp P G tm h n o = some x) (c : Call) : o.op ≠ .defer c := by
  intro hc
  unfold evOp at e
  rw [hc] at e
  cases e
end ops
end Go.Proofs.Ytcpifmhcebfglaa
