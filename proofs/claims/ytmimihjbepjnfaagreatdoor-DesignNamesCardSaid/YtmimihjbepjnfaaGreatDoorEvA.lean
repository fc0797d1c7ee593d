/- Running a closed program text by its own rules: trees of things by numbers, values whose addresses have names, and what it means that a memory is as described. No condition. -/
import Derived.Orders
import Derived.Below
import Derived.Laws.Cells
import Derived.Laws.CopyRow
namespace Go.Proofs.YtmimihjbepjnfaaGreatDoor
open Go Go.RowKit
set_option linter.unusedVariables false
/-- a tree of things by numbers -/
inductive T (α : Type) where
  | nil
  | node (l : T α) (v : Option α) (r : T α)
namespace T
variable {α : Type}
def getF (f : Nat) : T α → Nat → Option α := Nat.rec (motive := fun _ => T α → Nat → Option α) (fun _ _ => none) (fun _ ih t n => T.casesOn t none (fun l v r => Bool.casesOn (Nat.beq n 1) (Bool.casesOn (Nat.beq (Nat.mod n 2) 1) (ih l (Nat.div n 2)) (ih r (Nat.div n 2))) v)) f
def stp (x : Option α) (ih : T α → Nat → T α) (n : Nat) (l : T α) (v : Option α) (r : T α) : T α := Bool.casesOn (Nat.beq n 1) (Bool.casesOn (Nat.beq (Nat.mod n 2) 1) (.node (ih l (Nat.div n 2)) v r) (.node l v (ih r (Nat.div n 2)))) (.node l x r)
def putF (x : Option α) (f : Nat) : T α → Nat → T α := Nat.rec (motive := fun _ => T α → Nat → T α) (fun t _ => t) (fun _ ih t n => T.casesOn t (stp x ih n .nil none .nil) (fun l v r => stp x ih n l v r)) f
theorem beq_no {n m : Nat} (h : n ≠ m) : Nat.beq n m = false := by
  cases hb : Nat.beq n m with
  | false => rfl
  | true => exact absurd (Nat.eq_of_beq_eq_true hb) h
theorem getF_nil (n : Nat) : ∀ f, getF f (T.nil : T α) n = none
  | 0 => rfl
  | _ + 1 => rfl
theorem getF_node (f : Nat) (l : T α) (v : Option α) (r : T α) (n : Nat) : getF (f + 1) (.node l v r) n = if n = 1 then v else if n % 2 = 1 then getF f r (n / 2) else getF f l (n / 2) := by
  by_cases h : n = 1
  · subst h; rfl
  · rw [if_neg h]
    have h1 : Nat.beq n 1 = false := beq_no h
    by_cases h2 : n % 2 = 1
    · rw [if_pos h2]
      have h3 : Nat.beq (Nat.mod n 2) 1 = true := by show Nat.beq (n % 2) 1 = true; rw [h2]; rfl
      dsimp only [getF]; rw [h1]; dsimp only; rw [h3]; rfl
    · rw [if_neg h2]
      have h3 : Nat.beq (Nat.mod n 2) 1 = false := beq_no h2
      dsimp only [getF]; rw [h1]; dsimp only; rw [h3]; rfl
theorem stp_eq (x : Option α) (ih : T α → Nat → T α) (n : Nat) (l : T α) (v : Option α) (r : T α) : stp x ih n l v r = if n = 1 then .node l x r else if n % 2 = 1 then .node l v (ih r (n / 2)) else .node (ih l (n / 2)) v r := by
  by_cases h : n = 1
  · subst h; rfl
  · rw [if_neg h]
    have h1 : Nat.beq n 1 = false := beq_no h
    by_cases h2 : n % 2 = 1
    · rw [if_pos h2]
      have h3 : Nat.beq (Nat.mod n 2) 1 = true := by show Nat.beq (n % 2) 1 = true; rw [h2]; rfl
      unfold stp; rw [h1]; dsimp only; rw [h3]; rfl
    · rw [if_neg h2]
      have h3 : Nat.beq (Nat.mod n 2) 1 = false := beq_no h2
      unfold stp; rw [h1]; dsimp only; rw [h3]; rfl
theorem putF_nil (x : Option α) (f n : Nat) : putF x (f + 1) .nil n = stp x (putF x f) n .nil none .nil := rfl
theorem putF_node (x : Option α) (f n : Nat) (l : T α) (v : Option α) (r : T α) : putF x (f + 1) (.node l v r) n = stp x (putF x f) n l v r := rfl
/-- enough fuel reads the same -/
theorem getF_more : ∀ (f g : Nat) (t : T α) (n : Nat), n < f → n < g → 0 < n → getF f t n = getF g t n
  | 0, _, _, _, h, _, _ => by omega
  | _, 0, _, _, _, h, _ => by omega
  | f + 1, g + 1, .nil, n, _, _, _ => rfl
  | f + 1, g + 1, .node l v r, n, h1, h2, h3 => by
    rw [getF_node, getF_node]
    by_cases hn : n = 1
    · rw [if_pos hn, if_pos hn]
    · rw [if_neg hn, if_neg hn, getF_more f g r (n / 2) (by omega) (by omega) (by omega), getF_more f g l (n / 2) (by omega) (by omega) (by omega)]
theorem getF_putF (x : Option α) : ∀ (f g : Nat) (t : T α) (n m : Nat), 0 < n → 0 < m → n < f → m < g → getF g (putF x f t n) m = if m = n then x else getF g t m
  | 0, _, _, _, _, _, _, h, _ => by omega
  | f + 1, 0, _, _, _, _, _, _, h => by omega
  | f + 1, g + 1, t, n, m, hn, hm, hf, hg => by
    have key : ∀ (l : T α) (v : Option α) (r : T α), getF (g + 1) (stp x (putF x f) n l v r) m = if m = n then x else getF (g + 1) (.node l v r) m := by
      intro l v r
      rw [stp_eq]
      by_cases h1 : n = 1
      · rw [if_pos h1, getF_node, getF_node]
        by_cases h2 : m = 1
        · rw [if_pos h2, if_pos (by omega)]
        · rw [if_neg h2, if_neg (show ¬ m = n by omega), if_neg h2]
      · rw [if_neg h1]
        by_cases h3 : n % 2 = 1
        · rw [if_pos h3, getF_node, getF_node]
          by_cases h2 : m = 1
          · rw [if_pos h2, if_neg (by omega), if_pos h2]
          · rw [if_neg h2, if_neg h2]
            by_cases h4 : m % 2 = 1
            · rw [if_pos h4, if_pos h4, getF_putF x f g r (n / 2) (m / 2) (by omega) (by omega) (by omega) (by omega)]
              by_cases h5 : m = n
              · rw [if_pos h5, if_pos (by omega)]
              · rw [if_neg h5, if_neg (by omega)]
            · rw [if_neg h4, if_neg h4, if_neg (by omega)]
        · rw [if_neg h3, getF_node, getF_node]
          by_cases h2 : m = 1
          · rw [if_pos h2, if_neg (by omega), if_pos h2]
          · rw [if_neg h2, if_neg h2]
            by_cases h4 : m % 2 = 1
            · rw [if_pos h4, if_pos h4, if_neg (by omega)]
            · rw [if_neg h4, if_neg h4, getF_putF x f g l (n / 2) (m / 2) (by omega) (by omega) (by omega) (by omega)]
              by_cases h5 : m = n
              · rw [if_pos h5, if_pos (by omega)]
              · rw [if_neg h5, if_neg (by omega)]
    cases t with
    | nil =>
      rw [putF_nil, key]
      by_cases h : m = n
      · rw [if_pos h, if_pos h]
      · rw [if_neg h, if_neg h, getF_node, getF_nil, getF_nil]
        repeat (split <;> try rfl)
        all_goals rfl
    | node l v r => rw [putF_node, key]
def get (t : T α) (n : Nat) : Option α := getF (Nat.add n 2) t (Nat.add n 1)
def set (t : T α) (n : Nat) (x : Option α) : T α := putF x (Nat.add n 2) t (Nat.add n 1)
theorem get_nil (n : Nat) : (T.nil : T α).get n = none := rfl
theorem get_set (t : T α) (n m : Nat) (x : Option α) : (t.set n x).get m = if m = n then x else t.get m := by
  unfold set get
  rw [getF_putF x _ _ t _ _ (Nat.succ_pos n) (Nat.succ_pos m) (Nat.lt_succ_self _) (Nat.lt_succ_self _)]
  by_cases h : m = n
  · rw [if_pos h, if_pos (by rw [h])]
  · rw [if_neg h, if_neg (fun e => h (Nat.succ.inj e))]
end T
/-- what is known of a slice's capacity: nothing; its number; that it is the block's -/
inductive Cap where
  | unk
  | num (c : Nat)
  | all
/-- a value whose addresses have names; z: an empty slice, not nil, of whatever place; q: a value of which nothing is known -/
inductive AV where
  | c (v : Value)
  | p (id off : Nat)
  | s (id off len : Nat) (cap : Cap)
  | z
  | q
  | y (id : Nat)
  | m (id : Nat)
  | f (fn : Fn) (l : List AV)
  | g (fn : Fn) (fs l : List AV)
  | a (l : List AV)
  | t (l : List AV)
  deriving Inhabited
/-- what the names stand for: a block, and how many elements it has room for -/
abbrev Sg := Nat → Option (Nat × Nat)
def CapR (off k cp : Nat) : Cap → Prop
  | .unk => True
  | .num c => cp = c
  | .all => off = 0 ∧ cp = k
mutual
inductive VR (σ : Sg) : AV → Value → Prop
  | c (v : Value) : VR σ (.c v) v
  | p {id off b k : Nat} (h : σ id = some (b, k)) : VR σ (.p id off) (.pointer (some ⟨b, off, none⟩))
  | s {id off len b k cp : Nat} {cap : Cap} (h : σ id = some (b, k)) (hl : len ≤ cp) (hc : CapR off k cp cap) : VR σ (.s id off len cap) (.slice (some ⟨b, off, none⟩) len cp)
  | z {ad : Addr} {cp : Nat} : VR σ .z (.slice (some ad) 0 cp)
  | q {v : Value} : VR σ .q v
  | y {id b k : Nat} (h : σ id = some (b, k)) : VR σ (.y id) (.func (.yield b) #[] #[])
  | m {id b k : Nat} (h : σ id = some (b, k)) : VR σ (.m id) (.map (some b))
  | f {fn : Fn} {l : List AV} {l' : List Value} (h : VRs σ l l') : VR σ (.f fn l) (.func fn #[] l'.toArray)
  | g {fn : Fn} {fs l : List AV} {fs' l' : List Value} (hf : VRs σ fs fs') (h : VRs σ l l') : VR σ (.g fn fs l) (.func fn fs'.toArray l'.toArray)
  | a {l : List AV} {l' : List Value} (h : VRs σ l l') : VR σ (.a l) (.agg l'.toArray)
  | t {l : List AV} {l' : List Value} (h : VRs σ l l') : VR σ (.t l) (.tuple l'.toArray)
inductive VRs (σ : Sg) : List AV → List Value → Prop
  | nil : VRs σ [] []
  | cons {x : AV} {v : Value} {l : List AV} {l' : List Value} (h : VR σ x v) (hs : VRs σ l l') : VRs σ (x :: l) (v :: l')
end
def Sub (σ τ : Sg) : Prop := ∀ i b, σ i = some b → τ i = some b
theorem Sub.refl (σ : Sg) : Sub σ σ := fun _ _ h => h
theorem Sub.trans {σ τ υ : Sg} (h : Sub σ τ) (k : Sub τ υ) : Sub σ υ := fun i b e => k i b (h i b e)
mutual
theorem VR.sub {σ τ : Sg} (h : Sub σ τ) : ∀ {x : AV} {v : Value}, VR σ x v → VR τ x v
  | _, _, .c v => .c v
  | _, _, .p e => .p (h _ _ e)
  | _, _, .s e hl hc => .s (h _ _ e) hl hc
  | _, _, .z => .z
  | _, _, .q => .q
  | _, _, .y e => .y (h _ _ e)
  | _, _, .m e => .m (h _ _ e)
  | _, _, .f e => .f (VRs.sub h e)
  | _, _, .g d e => .g (VRs.sub h d) (VRs.sub h e)
  | _, _, .a e => .a (VRs.sub h e)
  | _, _, .t e => .t (VRs.sub h e)
theorem VRs.sub {σ τ : Sg} (h : Sub σ τ) : ∀ {x : List AV} {v : List Value}, VRs σ x v → VRs τ x v
  | _, _, .nil => .nil
  | _, _, .cons a b => .cons (VR.sub h a) (VRs.sub h b)
end
theorem VRs.length {σ : Sg} : ∀ {l : List AV} {l' : List Value}, VRs σ l l' → l.length = l'.length
  | _, _, .nil => rfl
  | _, _, .cons _ h => by simp [VRs.length h]
theorem VRs.append {σ : Sg} : ∀ {l : List AV} {l' : List Value} {k : List AV} {k' : List Value}, VRs σ l l' → VRs σ k k' → VRs σ (l ++ k) (l' ++ k')
  | _, _, _, _, .nil, h => h
  | _, _, _, _, .cons a b, h => .cons a (VRs.append b h)
theorem VRs.take {σ : Sg} : ∀ {l : List AV} {l' : List Value} (n : Nat), VRs σ l l' → VRs σ (l.take n) (l'.take n)
  | _, _, 0, _ => by simp; exact .nil
  | _, _, n + 1, .nil => by simp; exact .nil
  | _, _, n + 1, .cons a b => by simp only [List.take_succ_cons]; exact .cons a (VRs.take n b)
theorem VRs.drop {σ : Sg} : ∀ {l : List AV} {l' : List Value} (n : Nat), VRs σ l l' → VRs σ (l.drop n) (l'.drop n)
  | _, _, 0, h => by simpa using h
  | _, _, n + 1, .nil => by simp; exact .nil
  | _, _, n + 1, .cons a b => by simp only [List.drop_succ_cons]; exact VRs.drop n b
theorem VRs.get {σ : Sg} : ∀ {l : List AV} {l' : List Value} {n : Nat} {x : AV}, VRs σ l l' → l[n]? = some x → ∃ v, l'[n]? = some v ∧ VR σ x v
  | _, _, n, x, .nil, h => by simp at h
  | _, _, 0, x, .cons a b, h => by simp at h; subst h; exact ⟨_, by simp, a⟩
  | _, _, n + 1, x, .cons a b, h => by simp at h; obtain ⟨v, h1, h2⟩ := VRs.get b h; exact ⟨v, by simpa using h1, h2⟩
theorem VRs.cs {σ : Sg} : ∀ (l : List Value), VRs σ (l.map .c) l
  | [] => .nil
  | v :: l => .cons (.c v) (VRs.cs l)
/-- values that bear no names -/
def AV.val? : AV → Option Value
  | .c v => some v
  | _ => none
def vals? : List AV → Option (List Value)
  | [] => some []
  | .c v :: l => (vals? l).map (v :: ·)
  | _ :: _ => none
theorem VR.val {σ : Sg} {x : AV} {v u : Value} (h : VR σ x v) (e : x.val? = some u) : v = u := by
  cases h <;> simp [AV.val?] at e; exact e
theorem VRs.vals {σ : Sg} : ∀ {l : List AV} {l' k : List Value}, VRs σ l l' → vals? l = some k → l' = k
  | _, _, k, .nil, e => by simp [vals?] at e; exact e.symm ▸ rfl
  | _, _, k, .cons (x := x) a b, e => by
    cases a with
    | c v =>
      simp only [vals?, Option.map_eq_some_iff] at e
      obtain ⟨k', e1, rfl⟩ := e
      rw [VRs.vals b e1]
    | _ => simp [vals?] at e
/-- a value made of cells -/
def mkA (l : List AV) : AV := match vals? l with
  | some k => .c (.agg k.toArray)
  | none => .a l
theorem mkA_ok {σ : Sg} {l : List AV} {l' : List Value} (h : VRs σ l l') : VR σ (mkA l) (.agg l'.toArray) := by
  unfold mkA
  split
  · rename_i k e; rw [VRs.vals h e]; exact .c _
  · exact .a h
def mkT (l : List AV) : AV := match vals? l with
  | some k => .c (.tuple k.toArray)
  | none => .t l
theorem mkT_ok {σ : Sg} {l : List AV} {l' : List Value} (h : VRs σ l l') : VR σ (mkT l) (.tuple l'.toArray) := by
  unfold mkT
  split
  · rename_i k e; rw [VRs.vals h e]; exact .c _
  · exact .t h
def AV.cells : AV → List AV
  | .c v => v.cells.toList.map .c
  | .a l => l
  | x => [x]
def AV.isQ : AV → Bool
  | .q => true
  | _ => false
theorem cells_ok {σ : Sg} {x : AV} {v : Value} (h : VR σ x v) (hq : x.isQ = false) : VRs σ x.cells v.cells.toList := by
  cases h with
  | c v => exact VRs.cs _
  | a h => simpa [AV.cells, Value.cells] using h
  | p h => exact .cons (.p h) .nil
  | s h hl hc => exact .cons (.s h hl hc) .nil
  | m h => exact .cons (.m h) .nil
  | z => exact .cons .z .nil
  | q => cases hq
  | y h => exact .cons (.y h) .nil
  | f h => exact .cons (.f h) .nil
  | g d h => exact .cons (.g d h) .nil
  | t h => exact .cons (.t h) .nil
def AV.one : AV → Bool
  | .c v => v.oneCell'
  | .a _ | .t _ | .q => false
  | _ => true
theorem one_ok {σ : Sg} {x : AV} {v : Value} (h : VR σ x v) (e : x.one = true) : v.oneCell' = true := by
  cases h <;> first | exact e | rfl | simp [AV.one] at e
theorem ones_ok {σ : Sg} : ∀ {l : List AV} {l' : List Value}, VRs σ l l' → l.all AV.one = true → ∀ v ∈ l', v.oneCell' = true
  | _, _, .nil, _, v, hv => by simp at hv
  | _, _, .cons a b, e, v, hv => by
    simp only [List.all_cons, Bool.and_eq_true] at e
    rcases List.mem_cons.1 hv with rfl | hv
    · exact one_ok a e.1
    · exact ones_ok b e.2 v hv
/-- an object of the described memory; some k: the block has room for more elements of k cells -/
inductive AO where
  | cells (l : List AV) (t : TypeId) (grow : Option Nat)
  | ro (l : List AV) (t : TypeId)
  | map (es : List (AV × AV × Nat)) (clock : Nat)
  | iter (s : ByteArray) (pos : Nat)
  | loop (st : LoopState) (pe : Option Code) (fn : FuncId) (tm : T AV) (sz : Nat) (ps : Array Tmp) (as bd : Code) (df : Nat)
  | dfr (b : Bool)
  | mit0
  | mit (m since : Nat) (seen : List Nat) (last : Nat)
inductive ER (σ : Sg) : List (AV × AV × Nat) → List MapEntry → Prop
  | nil : ER σ [] []
  | cons {k v : AV} {n : Nat} {k' v' : Value} {l : List (AV × AV × Nat)} {l' : List MapEntry} (hk : VR σ k k') (hv : VR σ v v') (hs : ER σ l l') : ER σ ((k, v, n) :: l) (⟨k', v', n⟩ :: l')
theorem ER.sub {σ τ : Sg} (h : Sub σ τ) : ∀ {l : List (AV × AV × Nat)} {l' : List MapEntry}, ER σ l l' → ER τ l l'
  | _, _, .nil => .nil
  | _, _, .cons a b c => .cons (a.sub h) (b.sub h) (ER.sub h c)
def GrowR (n len kap : Nat) : Option Nat → Prop
  | none => n = len
  | some k => n = kap * k
def OR (σ : Sg) (kap : Nat) (o : Option Obj) : AO → Prop
  | .cells l t g => ∃ arr, o = some (.cells arr t (0, 0)) ∧ VRs σ l (arr.toList.take l.length) ∧ l.length ≤ arr.size ∧ GrowR arr.size l.length kap g
  | .ro l t => ∃ arr fr, o = some (.cells arr t fr) ∧ VRs σ l (arr.toList.take l.length) ∧ l.length ≤ arr.size
  | .map es ck => ∃ es', o = some (.map es' ck) ∧ ER σ es es'.toList
  | .iter s pos => o = some (.stringIter s pos)
  | .loop st pe fn tm sz ps as bd df => ∃ tmps db kd, o = some (.loop { state := st, pending := pe, fn := fn, tmps := tmps, params := ps, assign := as, body := bd, defers := db }) ∧ σ df = some (db, kd) ∧ tmps.size = sz ∧ ∀ t, VR σ ((tm.get t).getD .q) (tmps.getD t undef)
  | .dfr b => o = some (.deferred (cond b (some []) none))
  | .mit0 => o = some (.mapIter none 0 #[] 0)
  | .mit m since seen last => ∃ b k, σ m = some (b, k) ∧ o = some (.mapIter (some b) since seen.toArray last)
theorem OR.sub {σ τ : Sg} (h : Sub σ τ) {kap : Nat} {o : Option Obj} {x : AO} (k : OR σ kap o x) : OR τ kap o x := by
  cases x with
  | cells l t g => obtain ⟨arr, h1, h2, h3, h4⟩ := k; exact ⟨arr, h1, h2.sub h, h3, h4⟩
  | ro l t => obtain ⟨arr, fr, h1, h2, h3⟩ := k; exact ⟨arr, fr, h1, h2.sub h, h3⟩
  | map es ck => obtain ⟨es', h1, h2⟩ := k; exact ⟨es', h1, h2.sub h⟩
  | iter s pos => exact k
  | loop st pe fn tm sz ps as bd df => obtain ⟨tmps, db, kd, h1, h2, h3, h4⟩ := k; exact ⟨tmps, db, kd, h1, h _ _ h2, h3, fun t => (h4 t).sub h⟩
  | dfr b => exact k
  | mit0 => exact k
  | mit m since seen last => obtain ⟨b, kd, h1, h2⟩ := k; exact ⟨b, kd, h _ _ h1, h2⟩
abbrev Hp := T AO
/-- the memory from block B on is as described -/
structure RelF (σ : Sg) (h : Nat → Option AO) (B : Nat) (w : World) : Prop where
  obj : ∀ i o, h i = some o → ∃ b k, σ i = some (b, k) ∧ B ≤ b ∧ b < w.heap.size ∧ OR σ k w.heap[b]? o
  inj : ∀ i j b k k', (h i).isSome → (h j).isSome → σ i = some (b, k) → σ j = some (b, k') → i = j
/-- what an act leaves as it was: all but the blocks that are described -/
structure Fr (σ : Sg) (h : Nat → Option AO) (w w' : World) : Prop where
  os : w'.os = w.os
  tape : w'.tape = w.tape
  output : w'.output = w.output
  size : w.heap.size ≤ w'.heap.size
  block : ∀ k, k < w.heap.size → (∀ i c, (h i).isSome → σ i ≠ some (k, c)) → w'.heap[k]? = w.heap[k]?
/-- what an act may do: σ, h, w before; τ, h', w' behind; the names from n up to n' are new -/
structure ActF (σ : Sg) (h : Nat → Option AO) (n : Nat) (B : Nat) (w : World) (τ : Sg) (h' : Nat → Option AO) (n' : Nat) (w' : World) : Prop where
  le : n ≤ n'
  sub : Sub σ τ
  dom : ∀ i, (τ i).isSome → (σ i).isSome ∨ (n ≤ i ∧ i < n')
  rel : RelF τ h' B w'
  fr : Fr σ h w w'
  src : ∀ i b k, (h' i).isSome → τ i = some (b, k) → w.heap.size ≤ b ∨ ∃ j k', (h j).isSome ∧ σ j = some (b, k')
theorem Fr.refl (σ : Sg) (h : Nat → Option AO) (w : World) : Fr σ h w w := ⟨rfl, rfl, rfl, Nat.le_refl _, fun _ _ _ => rfl⟩
theorem ActF.refl {σ : Sg} {h : Nat → Option AO} {n B : Nat} {w : World} (r : RelF σ h B w) : ActF σ h n B w σ h n w :=
  ⟨Nat.le_refl _, Sub.refl _, fun i hi => .inl hi, r, Fr.refl _ _ _, fun i b k hi hb => .inr ⟨i, k, hi, hb⟩⟩
theorem ActF.trans {σ τ υ : Sg} {h h' h'' : Nat → Option AO} {n n' n'' B : Nat} {w w' w'' : World} (x : ActF σ h n B w τ h' n' w') (y : ActF τ h' n' B w' υ h'' n'' w'') : ActF σ h n B w υ h'' n'' w'' where
  le := Nat.le_trans x.le y.le
  sub := x.sub.trans y.sub
  dom := fun i hi => by
    rcases y.dom i hi with h1 | h1
    · rcases x.dom i h1 with h2 | h2
      · exact .inl h2
      · exact .inr ⟨h2.1, Nat.lt_of_lt_of_le h2.2 y.le⟩
    · exact .inr ⟨Nat.le_trans x.le h1.1, h1.2⟩
  rel := y.rel
  fr := {
    os := y.fr.os.trans x.fr.os
    tape := y.fr.tape.trans x.fr.tape
    output := y.fr.output.trans x.fr.output
    size := Nat.le_trans x.fr.size y.fr.size
    block := fun k hk hn => by
      rw [y.fr.block k (Nat.lt_of_lt_of_le hk x.fr.size) ?_, x.fr.block k hk hn]
      intro i c hi he
      rcases x.src i k c hi he with h1 | ⟨j, k', h1, h2⟩
      · omega
      · exact hn j k' h1 h2 }
  src := fun i b k hi hb => by
    rcases y.src i b k hi hb with h1 | ⟨j, k', h1, h2⟩
    · exact .inl (Nat.le_trans x.fr.size h1)
    · exact x.src j b k' h1 h2
theorem ActF.below {σ τ : Sg} {h h' : Nat → Option AO} {n n' B : Nat} {w w' : World} (x : ActF σ h n B w τ h' n' w') (r : RelF σ h B w) (hB : B ≤ w.heap.size) : Below B w w' :=
  ⟨x.fr.os, x.fr.tape, x.fr.output, x.fr.size, fun k hk => x.fr.block k (Nat.lt_of_lt_of_le hk hB) fun i c hi he => by
    obtain ⟨o, ho⟩ := Option.isSome_iff_exists.1 hi
    obtain ⟨b, k, h1, h2, _⟩ := r.obj i o ho
    rw [h1] at he; cases he; omega⟩
abbrev Rel (σ : Sg) (h : Hp) (B : Nat) (w : World) : Prop := RelF σ h.get B w
abbrev Act1 (σ : Sg) (h : Hp) (n : Nat) (B : Nat) (w : World) (τ : Sg) (h' : Hp) (n' : Nat) (w' : World) : Prop := ActF σ h.get n B w τ h'.get n' w'
/-- one name more -/
def ext (σ : Sg) (n : Nat) (b : Nat × Nat) : Sg := fun i => if i = n then some b else σ i
theorem ext_sub {σ : Sg} {n : Nat} {b : Nat × Nat} (h : σ n = none) : Sub σ (ext σ n b) := fun i c e => by
  unfold ext; split
  · rename_i hi; subst hi; rw [h] at e; cases e
  · exact e
theorem ext_dom {σ : Sg} {n : Nat} {b : Nat × Nat} (i : Nat) (h : (ext σ n b i).isSome) : (σ i).isSome ∨ (n ≤ i ∧ i < n + 1) := by
  unfold ext at h; split at h
  · right; omega
  · exact .inl h
/-- a new block -/
theorem act_new {σ : Sg} {h : Hp} {n B : Nat} {w : World} (r : Rel σ h B w) (hB : B ≤ w.heap.size) (hn : σ n = none) {x : AO} {o : Obj} {kap : Nat} (ho : OR σ kap (some o) x) :
    Act1 σ h n B w (ext σ n (w.heap.size, kap)) (h.set n (some x)) (n + 1) (w.alloc o) where
  le := by omega
  sub := ext_sub hn
  dom := ext_dom
  rel := {
    obj := fun i y hy => by
      rw [T.get_set] at hy
      split at hy
      · rename_i hi; cases hy
        refine ⟨w.heap.size, kap, by simp [ext, hi], hB, by simp, ?_⟩
        have e : (w.alloc o).heap[w.heap.size]? = some o := by show (w.heap.push o)[w.heap.size]? = _; simp
        rw [e]; exact ho.sub (ext_sub hn)
      · obtain ⟨b, k, h1, h2, h3, h4⟩ := r.obj i y hy
        refine ⟨b, k, ext_sub hn _ _ h1, h2, by simp; omega, ?_⟩
        rw [Below.heap_alloc w o b h3]; exact h4.sub (ext_sub hn)
    inj := fun i j b c d hi hj e1 e2 => by
      rw [T.get_set] at hi hj
      have old : ∀ k, (h.get k).isSome → ∀ b c, ext σ n (w.heap.size, kap) k = some (b, c) → b < w.heap.size ∧ σ k = some (b, c) := by
        intro k hk b c e
        obtain ⟨y, hy⟩ := Option.isSome_iff_exists.1 hk
        obtain ⟨b2, c2, h1, h2, h3, _⟩ := r.obj k y hy
        have := ext_sub (b := (w.heap.size, kap)) hn _ _ h1
        rw [this] at e; cases e; exact ⟨h3, h1⟩
      split at hi
      · rename_i hin
        split at hj
        · rename_i hjn; rw [hin, hjn]
        · have := old j hj b d e2
          rw [hin] at e1; simp [ext] at e1; omega
      · split at hj
        · rename_i hjn
          have := old i hi b c e1
          rw [hjn] at e2; simp [ext] at e2; omega
        · exact r.inj i j b c d hi hj (old i hi b c e1).2 (old j hj b d e2).2 }
  fr := ⟨rfl, rfl, rfl, by simp, fun k hk _ => Below.heap_alloc w o k hk⟩
  src := fun i b c hi e => by
    rw [T.get_set] at hi
    split at hi
    · rename_i hin; rw [hin] at e; simp [ext] at e; left; omega
    · obtain ⟨y, hy⟩ := Option.isSome_iff_exists.1 hi
      obtain ⟨b2, c2, h1, h2, h3, _⟩ := r.obj i y hy
      have := ext_sub (b := (w.heap.size, kap)) hn _ _ h1
      rw [this] at e; cases e
      exact .inr ⟨i, _, hi, h1⟩
/-- an object turns -/
theorem act_put {σ : Sg} {h : Hp} {n B : Nat} {w w' : World} (r : Rel σ h B w) {i b c : Nat} {x y : AO} (hx : h.get i = some x) (hb : σ i = some (b, c))
    (hos : w'.os = w.os) (htp : w'.tape = w.tape) (hou : w'.output = w.output) (hsz : w'.heap.size = w.heap.size) (hot : ∀ k, k ≠ b → w'.heap[k]? = w.heap[k]?) (hy : OR σ c w'.heap[b]? y) :
    Act1 σ h n B w σ (h.set i (some y)) n w' where
  le := Nat.le_refl _
  sub := Sub.refl _
  dom := fun i hi => .inl hi
  rel := {
    obj := fun j z hz => by
      rw [T.get_set] at hz
      split at hz
      · rename_i hj; cases hz
        obtain ⟨b2, c2, h1, h2, h3, _⟩ := r.obj i x hx
        rw [hb] at h1; cases h1
        exact ⟨b, c, by rw [hj]; exact hb, h2, by omega, hy⟩
      · rename_i hj
        obtain ⟨b2, c2, h1, h2, h3, h4⟩ := r.obj j z hz
        refine ⟨b2, c2, h1, h2, by omega, ?_⟩
        rw [hot b2 (fun e => hj (r.inj j i b2 c2 c (by simp [hz]) (by simp [hx]) h1 (by rw [e]; exact hb)))]; exact h4
    inj := fun j k b c d hj hk e1 e2 => by
      rw [T.get_set] at hj hk
      refine r.inj j k b c d ?_ ?_ e1 e2
      · split at hj
        · rename_i e; rw [e, hx]; rfl
        · exact hj
      · split at hk
        · rename_i e; rw [e, hx]; rfl
        · exact hk }
  fr := ⟨hos, htp, hou, by omega, fun k _ hn => hot k fun e => hn i c (by simp [hx]) (by rw [e]; exact hb)⟩
  src := fun j b2 c2 hj e => by
    rw [T.get_set] at hj
    right
    split at hj
    · rename_i hji; exact ⟨j, c2, by rw [hji, hx]; rfl, e⟩
    · exact ⟨j, c2, hj, e⟩
/-- an object turns, under a new name: the old one is gone -/
theorem act_move {σ : Sg} {h : Hp} {n B : Nat} {w w' : World} (r : Rel σ h B w) {i b c c' : Nat} {x y : AO} (hx : h.get i = some x) (hb : σ i = some (b, c)) (hn : σ n = none)
    (hos : w'.os = w.os) (htp : w'.tape = w.tape) (hou : w'.output = w.output) (hsz : w'.heap.size = w.heap.size) (hot : ∀ k, k ≠ b → w'.heap[k]? = w.heap[k]?) (hy : OR σ c' w'.heap[b]? y) :
    Act1 σ h n B w (ext σ n (b, c')) ((h.set i none).set n (some y)) (n + 1) w' where
  le := by omega
  sub := ext_sub hn
  dom := ext_dom
  rel := {
    obj := fun j z hz => by
      rw [T.get_set] at hz
      split at hz
      · rename_i hj; cases hz
        obtain ⟨b2, c2, h1, h2, h3, _⟩ := r.obj i x hx
        rw [hb] at h1; cases h1
        exact ⟨b, c', by simp [ext, hj], h2, by omega, hy.sub (ext_sub hn)⟩
      · rename_i hj
        rw [T.get_set] at hz
        split at hz
        · cases hz
        · rename_i hji
          obtain ⟨b2, c2, h1, h2, h3, h4⟩ := r.obj j z hz
          refine ⟨b2, c2, ext_sub hn _ _ h1, h2, by omega, ?_⟩
          rw [hot b2 (fun e => hji (r.inj j i b2 c2 c (by simp [hz]) (by simp [hx]) h1 (by rw [e]; exact hb)))]; exact h4.sub (ext_sub hn)
    inj := fun j k b2 c2 d2 hj hk e1 e2 => by
      have old : ∀ j, j ≠ n → (((h.set i none).set n (some y)).get j).isSome → ∀ b2 c2, ext σ n (b, c') j = some (b2, c2) → j ≠ i ∧ (h.get j).isSome ∧ σ j = some (b2, c2) := by
        intro j hj hs b2 c2 e
        rw [T.get_set, if_neg hj, T.get_set] at hs
        split at hs
        · cases hs
        · rename_i hji
          exact ⟨hji, hs, by simpa [ext, hj] using e⟩
      have cl : ∀ j, j ≠ n → (((h.set i none).set n (some y)).get j).isSome → ∀ c2, ext σ n (b, c') j ≠ some (b, c2) := by
        intro j hj hs c2 e
        obtain ⟨h1, h2, h3⟩ := old j hj hs b c2 e
        exact h1 (r.inj j i b c2 c h2 (by simp [hx]) h3 hb)
      by_cases hjn : j = n
      · by_cases hkn : k = n
        · rw [hjn, hkn]
        · subst hjn
          simp [ext] at e1
          exact absurd e2 (by rw [← e1.1]; exact cl k hkn hk d2)
      · by_cases hkn : k = n
        · subst hkn
          simp [ext] at e2
          exact absurd e1 (by rw [← e2.1]; exact cl j hjn hj c2)
        · obtain ⟨_, h2, h3⟩ := old j hjn hj b2 c2 e1
          obtain ⟨_, k2, k3⟩ := old k hkn hk b2 d2 e2
          exact r.inj j k b2 c2 d2 h2 k2 h3 k3 }
  fr := ⟨hos, htp, hou, by omega, fun k _ hn => hot k fun e => hn i c (by simp [hx]) (by rw [e]; exact hb)⟩
  src := fun j b2 c2 hj e => by
    right
    by_cases hjn : j = n
    · subst hjn; simp [ext] at e; exact ⟨i, c, by simp [hx], by rw [← e.1]; exact hb⟩
    · rw [T.get_set, if_neg hjn, T.get_set] at hj
      split at hj
      · cases hj
      · exact ⟨j, c2, hj, by simpa [ext, hjn] using e⟩
end Go.Proofs.YtmimihjbepjnfaaGreatDoor
