/- Running a closed program text by its own rules: what was computed of a region that draws its order holds of every order. No condition. -/
import Derived.Test.YtmimihjbepjnfaaGreatDoorEvN
namespace Go.Proofs.YtmimihjbepjnfaaGreatDoor
open Go Go.RowKit
set_option linter.unusedVariables false
instance : Inhabited Rc := ⟨⟨.nil, none, .q, .nil, .nil, 0, 0, [], some []⟩⟩
def getR (l : List Rc) (k : Nat) : Rc := (l[k]?).getD default
theorem getR_old {l : List Rc} {r : Rc} {k : Nat} (h : k < l.length) : getR (l ++ [r]) k = getR l k := by
  unfold getR; rw [List.getElem?_append_left h]
theorem getR_new {l : List Rc} {r : Rc} : getR (l ++ [r]) l.length = r := by
  unfold getR; simp
theorem getR_some {l : List Rc} {k : Nat} (h : k < l.length) : l[k]? = some (getR l k) := by
  unfold getR; rw [List.getElem?_eq_getElem h]; rfl
theorem HS_congrR {R R' : Nat → Rc} {L : Nat → Bool} {g : Nat → Option AO} {i : Nat} : ∀ {m : Nat}, (∀ k, k < m → R k = R' k) → HS R L g m i = HS R' L g m i
  | 0, _ => rfl
  | m + 1, h => by
    simp only [HS]
    rw [HS_congrR (m := m) fun k hk => h k (by omega), h m (by omega)]
theorem VS_congrR {R R' : Nat → Rc} {L : Nat → Bool} {tm : T AV} {t : Tmp} : ∀ {m : Nat}, (∀ k, k < m → R k = R' k) → VS R L tm m t = VS R' L tm m t
  | 0, _ => rfl
  | m + 1, h => by
    simp only [VS]
    rw [VS_congrR (m := m) fun k hk => h k (by omega), h m (by omega)]
abbrev Al : Nat → Bool := fun _ => true
def RunR (P : Program) (G : Gl) (K : KT) (ops : Array Oper) (r : Rc) (o : Oper) : Prop :=
  (wA ops r.tj o = some false ∧ r.v = .c undef ∧ r.u = [] ∧ r.n' = r.n ∧ r.ho = r.hi) ∨
    (wA ops r.tj o = some true ∧ (evOp P G r.tj r.hi r.n o = some (.val r.v r.ho r.n' r.u) ∨
      ∃ f args, evOp P G r.tj r.hi r.n o = some (.call f args) ∧ K f args r.hi r.n = some (r.v, r.ho, r.n', r.u)))
def FtR (r : Rc) : Prop := match r.ft with
  | some ids => ∀ i o, r.hi.get i = some o → i ∈ ids
  | none => True
structure DInv (P : Program) (G : Gl) (K : KT) (ops : Array Oper) (sz : Nat) (an : List Nat) (tm : T AV) (h : Hp) (n : Nat) (R : Nat → Rc) (s : S1) (al : List (Nat × Nat)) (j : Nat) : Prop where
  hs : ∀ i, s.h.get i = HS R Al h.get j i
  vs : ∀ t, (s.tm.get t).getD .q = VS R Al tm j t
  sn : (j = 0 ∧ s.n = n) ∨ (0 < j ∧ s.n = (R (j - 1)).n')
  dst : ∀ (k : Nat) (o : Oper), k < j → ops[k]? = some o → (R k).dst = o.dst
  lt : ∀ (k : Nat) (o : Oper) (t : Tmp), k < j → ops[k]? = some o → o.dst = some t → t < sz
  n0 : 0 < j → (R 0).n = n
  nn : ∀ k, k + 1 < j → (R (k + 1)).n = (R k).n'
  nle : ∀ k, k < j → (R k).n ≤ (R k).n'
  ult : ∀ k i, k < j → (R k).u.contains i = true → i < (R k).n
  tmj : ∀ (k t : Nat) (x : AV), k < j → (R k).tj.get t = some x → x = VS R Al tm k t ∧ wrOk an k t ops.toList 0 = true
  ft : ∀ k, k < j → FtR (R k)
  hij1 : ∀ (k i : Nat) (o : AO), k < j → (R k).hi.get i = some o → HS R Al h.get k i = some o
  hij2 : ∀ (k k' i : Nat) (o : AO), k < j → k' < k → (R k).hi.get i = some o → inU (R k') i = true → Aof an k k' = true
  inc : ∀ k k', k' < k → k < j → Aof an k k' = true ∨ IncR (R k).u (R k') ∨ altOf al k' = some k
  alt_ : ∀ k' k, altOf al k' = some k → k' < k ∧ k < j ∧ AltR P G ops (R k) (R k') k'
  run : ∀ (k : Nat) (o : Oper), k < j → ops[k]? = some o → RunR P G K ops (R k) o
section
variable {P : Program} {G : Gl} {B : Nat} {K : KT} {ops : Array Oper} {sz : Nat} {an : List Nat} {tm : T AV} {h : Hp} {n n0 : Nat}
theorem stepD_ok {j : Nat} {o : Oper} {recs : List Rc} {s : S1} {r : Rc} (e : stepD P G K ops an j o recs s = some r) : r.dst = o.dst ∧ r.n = s.n ∧ RunR P G K ops r o ∧ FtR r ∧
    (∀ t x, r.tj.get t = some x → s.tm.get t = some x ∧ wrOk an j t ops.toList 0 = true) ∧ (∀ i x, r.hi.get i = some x → s.h.get i = some x ∧ ∀ k r', recs[k]? = some r' → inU r' i = true → Aof an j k = true) := by
  unfold stepD at e
  have htj : ∀ t x, (tjOf an ops j s.tm (o.looksAt ops) .nil).get t = some x → s.tm.get t = some x ∧ wrOk an j t ops.toList 0 = true := by
    intro t x hx
    rcases tjOf_spec hx with ⟨h1, h2⟩ | h1
    · exact ⟨h2, h1⟩
    · cases h1
  generalize tjOf an ops j s.tm (o.looksAt ops) .nil = tj at e htj
  simp only at e
  split at e
  · cases e
  · rename_i hw
    cases e
    refine ⟨rfl, rfl, .inl ⟨hw, rfl, rfl, rfl, rfl⟩, ?_, htj, fun i x h => ?_⟩
    · unfold FtR; intro i o h; simp [T.get_nil] at h
    · simp [T.get_nil] at h
  · rename_i hw
    have hhi : ∀ i x, (restr s.h ((o.op.operands.toList.flatMap fun x => avIds (ev tj x)).filter fun i => !touched an j recs 0 i) .nil).get i = some x → i ∈ ((o.op.operands.toList.flatMap fun x => avIds (ev tj x)).filter fun i => !touched an j recs 0 i) ∧ s.h.get i = some x := by
      intro i x hx
      rcases restr_spec hx with h1 | h1
      · exact h1
      · cases h1
    have hto : ∀ i, i ∈ ((o.op.operands.toList.flatMap fun x => avIds (ev tj x)).filter fun i => !touched an j recs 0 i) → touched an j recs 0 i = false := by
      intro i hi
      have := (List.mem_filter.1 hi).2
      simpa using this
    generalize ((o.op.operands.toList.flatMap fun x => avIds (ev tj x)).filter fun i => !touched an j recs 0 i) = ids at e hhi hto
    generalize restr s.h ids .nil = hi at e hhi
    split at e
    · rename_i v ho n' u he
      cases e
      refine ⟨rfl, rfl, .inr ⟨hw, .inl he⟩, fun i o h => (hhi i o h).1, htj, fun i x h => ⟨(hhi i x h).2, fun k r' hr hu => ?_⟩⟩
      have := touched_spec (hto i (hhi i x h).1) k r' hr hu
      rwa [Nat.zero_add] at this
    · split at e
      · rename_i f args he2
        split at e
        · rename_i v ho n' u hk
          cases e
          refine ⟨rfl, rfl, .inr ⟨hw, .inr ⟨f, args, he2, hk⟩⟩, trivial, htj, fun i x h => ?_⟩
          obtain ⟨h1, h2⟩ := erAll_spec h
          exact ⟨h1, fun k r' hr hu => by have := h2 k r' hr hu; rwa [Nat.zero_add] at this⟩
        · cases e
      · cases e
    · cases e
theorem goD_ok : ∀ {l : List Oper} {j : Nat} {recs recs' : List Rc} {al : List (Nat × Nat)} {s s' : S1}, goD P G K ops an sz n0 l j recs al s = some (recs', s') → recs.length = j → (∀ k, l[k]? = ops[j + k]?) → DInv P G K ops sz an tm h n (getR recs) s al j → ∃ al', DInv P G K ops sz an tm h n (getR recs') s' al' (j + l.length) ∧ recs'.length = j + l.length
  | [], j, recs, recs', al, s, s', e, hl, ho, I => by cases e; exact ⟨_, I, hl⟩
  | o :: l, j, recs, recs', al, s, s', e, hl, ho, I => by
    simp only [goD] at e
    split at e
    · rename_i r hr
      cases hc : (Nat.ble r.n r.n' && (r.u.all fun i => Nat.blt i r.n)) with
      | false => rw [hc] at e; cases e
      | true =>
        rw [hc] at e
        simp only [cond] at e
        split at e
        rotate_left
        · cases e
        rename_i al2 hcf
        obtain ⟨f1, f2, f3⟩ := conf_spec hcf (fun k => by simp)
        split at e
        · rename_i tm2 hp
          simp only [Bool.and_eq_true] at hc
          obtain ⟨c1, c2⟩ := hc
          have c1 := Nat.le_of_ble_eq_true c1
          obtain ⟨q1, q2, q3, q4, q5, q6⟩ := stepD_ok hr
          have hoj : ops[j]? = some o := by have := ho 0; simpa using this.symm
          have hold : ∀ k, k < j → getR (recs ++ [r]) k = getR recs k := fun k hk => getR_old (by omega)
          have hnew : getR (recs ++ [r]) j = r := by rw [← hl]; exact getR_new
          have hH : ∀ m, m ≤ j → ∀ i, HS (getR (recs ++ [r])) Al h.get m i = HS (getR recs) Al h.get m i := fun m hm i => HS_congrR fun k hk => hold k (by omega)
          have hV : ∀ m, m ≤ j → ∀ t, VS (getR (recs ++ [r])) Al tm m t = VS (getR recs) Al tm m t := fun m hm t => VS_congrR fun k hk => hold k (by omega)
          have key : DInv P G K ops sz an tm h n (getR (recs ++ [r])) ⟨tm2, copyIds r.ho (newIds r) (copyIds r.ho r.u s.h), r.n', mrg n0 r.n' s.u r.u⟩ al2 (j + 1) := by
            have hdl : ∀ t, o.dst = some t → t < sz := by
              intro t hd
              unfold putD at hp
              rw [hd] at hp
              simp only at hp
              cases hb : Nat.blt t sz with
              | false => rw [hb] at hp; cases hp
              | true => exact Nat.le_of_ble_eq_true hb
            refine ⟨?_, ?_, .inr ⟨by omega, by rw [show j + 1 - 1 = j by omega, hnew]⟩, ?_, ?_, ?_, ?_, ?_, ?_, ?_, ?_, ?_, ?_, ?_, ?_, ?_⟩
            · intro i
              simp only [HS, hnew, true_and]
              rw [copyIds_spec, copyIds_spec, hH j (Nat.le_refl _), ← I.hs i]
              by_cases hu : inU r i = true
              · rw [if_pos hu]
                rcases (inU_iff r i).1 hu with h1 | h1
                · split <;> first | rfl | rw [if_pos h1]
                · rw [if_pos h1]
              · rw [if_neg hu, if_neg (fun h1 => hu ((inU_iff r i).2 (.inr h1))), if_neg (fun h1 => hu ((inU_iff r i).2 (.inl h1)))]
            · intro t
              simp only [VS, hnew, true_and]
              rw [hV j (Nat.le_refl _), ← I.vs t]
              unfold putD at hp
              rw [q1]
              cases hd : o.dst with
              | none => rw [hd] at hp; cases hp; simp
              | some d =>
                rw [hd] at hp
                simp only at hp
                cases hb : Nat.blt d sz with
                | false => rw [hb] at hp; cases hp
                | true =>
                  rw [hb] at hp; cases hp
                  rw [T.get_set]
                  by_cases htd : t = d
                  · subst htd; simp
                  · rw [if_neg htd, if_neg (fun h2 => htd (Option.some.inj h2).symm)]
            · intro k o2 hk hok
              by_cases hkj : k = j
              · subst hkj; rw [hnew, q1]; rw [hoj] at hok; cases hok; rfl
              · rw [hold k (by omega)]; exact I.dst k o2 (by omega) hok
            · intro k o2 t hk hok hd
              by_cases hkj : k = j
              · subst hkj; rw [hoj] at hok; cases hok; exact hdl t hd
              · exact I.lt k o2 t (by omega) hok hd
            · intro _
              rcases I.sn with ⟨h1, h2⟩ | ⟨h1, h2⟩
              · subst h1; rw [hnew, q2, h2]
              · rw [hold 0 h1]; exact I.n0 h1
            · intro k hk
              by_cases hkj : k + 1 = j
              · rw [hkj, hnew, hold k (by omega), q2]
                rcases I.sn with ⟨h1, h2⟩ | ⟨h1, h2⟩
                · omega
                · rw [h2, show j - 1 = k by omega]
              · rw [hold (k + 1) (by omega), hold k (by omega)]; exact I.nn k (by omega)
            · intro k hk
              by_cases hkj : k = j
              · subst hkj; rw [hnew]; exact c1
              · rw [hold k (by omega)]; exact I.nle k (by omega)
            · intro k i hk hu
              by_cases hkj : k = j
              · subst hkj; rw [hnew] at hu ⊢
                have := List.all_eq_true.1 c2 i (List.contains_iff_mem.1 hu)
                exact Nat.le_of_ble_eq_true this
              · rw [hold k (by omega)] at hu ⊢; exact I.ult k i (by omega) hu
            · intro k t x hk hx
              by_cases hkj : k = j
              · subst hkj; rw [hnew] at hx
                obtain ⟨h1, h2⟩ := q5 t x hx
                rw [hV k (Nat.le_refl _), ← I.vs t, h1]
                exact ⟨rfl, h2⟩
              · rw [hold k (by omega)] at hx
                rw [hV k (by omega)]; exact I.tmj k t x (by omega) hx
            · intro k hk
              by_cases hkj : k = j
              · subst hkj; rw [hnew]; exact q4
              · rw [hold k (by omega)]; exact I.ft k (by omega)
            · intro k i x hk hx
              by_cases hkj : k = j
              · subst hkj; rw [hnew] at hx
                rw [hH k (Nat.le_refl _), ← I.hs i]; exact (q6 i x hx).1
              · rw [hold k (by omega)] at hx
                rw [hH k (by omega)]; exact I.hij1 k i x (by omega) hx
            · intro k k' i x hk hk' hx hu
              rw [hold k' (by omega)] at hu
              by_cases hkj : k = j
              · subst hkj; rw [hnew] at hx
                exact (q6 i x hx).2 k' _ (getR_some (by omega)) hu
              · rw [hold k (by omega)] at hx
                exact I.hij2 k k' i x (by omega) hk' hx hu
            · intro k k' hk' hk
              rw [hold k' (by omega)]
              by_cases hkj : k = j
              · subst hkj; rw [hnew]
                have := f1 k' _ (getR_some (by omega))
                rwa [Nat.zero_add] at this
              · rw [hold k (by omega)]
                rcases I.inc k k' hk' (by omega) with g1 | g1 | g1
                · exact .inl g1
                · exact .inr (.inl g1)
                · exact .inr (.inr (f3 _ _ g1))
            · intro k' m hk
              rcases f2 k' m hk with g1 | ⟨rfl, k, r', g2, g3, g4⟩
              · obtain ⟨g2, g3, g4⟩ := I.alt_ k' m g1
                rw [hold m g3, hold k' (by omega)]
                exact ⟨g2, by omega, g4⟩
              · rw [Nat.zero_add] at g2
                subst g2
                have hlt : k' < recs.length := (List.getElem?_eq_some_iff.1 g3).1
                have hg : getR recs k' = r' := by unfold getR; rw [g3]; rfl
                rw [hnew, hold k' (by omega), hg]
                exact ⟨by omega, by omega, g4⟩
            · intro k o2 hk hok
              by_cases hkj : k = j
              · subst hkj; rw [hnew]; rw [hoj] at hok; cases hok; exact q3
              · rw [hold k (by omega)]; exact I.run k o2 (by omega) hok
          have := goD_ok e (by simp [hl]) (fun k => by have := ho (k + 1); simp at this; rw [this, show j + (k + 1) = j + 1 + k by omega]) key
          simp only [List.length_cons]
          rw [show j + (l.length + 1) = j + 1 + l.length by omega]
          exact this
        · cases e
    · cases e
theorem goD_kept : ∀ {l : List Oper} {j : Nat} {recs recs' : List Rc} {al : List (Nat × Nat)} {s s' : S1}, goD P G K ops an sz n0 l j recs al s = some (recs', s') → s.n ≤ s'.n ∧ (n0 ≤ s.n → ∀ h00, Kept h00 n0 s.n s.h s.u → Kept h00 n0 s'.n s'.h s'.u)
  | [], j, recs, recs', al, s, s', e => by cases e; exact ⟨Nat.le_refl _, fun _ _ k => k⟩
  | o :: l, j, recs, recs', al, s, s', e => by
    simp only [goD] at e
    split at e
    · rename_i r hr
      cases hc : (Nat.ble r.n r.n' && (r.u.all fun i => Nat.blt i r.n)) with
      | false => rw [hc] at e; cases e
      | true =>
        rw [hc] at e
        simp only [cond] at e
        split at e
        rotate_left
        · cases e
        split at e
        · rename_i tm2 hp
          simp only [Bool.and_eq_true] at hc
          have c1 := Nat.le_of_ble_eq_true hc.1
          obtain ⟨q1, q2, q3, q4, q5, q6⟩ := stepD_ok hr
          obtain ⟨k1, k2⟩ := goD_kept e
          simp only at k1 k2
          refine ⟨by omega, fun hn h00 k => k2 (by omega) h00 ?_⟩
          refine k.step ?_ hn (by omega)
          intro i hi hu
          rw [copyIds_spec, copyIds_spec, if_neg (fun h1 => by have := (newIds_spec r i).1 h1; omega), if_neg (by rw [hu]; simp)]
        · cases e
    · cases e
theorem DInv.mono {R : Nat → Rc} {s : S1} {al : List (Nat × Nat)} {j : Nat} (I : DInv P G K ops sz an tm h n R s al j) : ∀ k k', k' ≤ k → k < j → (R k').n ≤ (R k).n
  | 0, k', hk', hk => by rw [show k' = 0 by omega]; exact Nat.le_refl _
  | k + 1, k', hk', hk => by
    by_cases e : k' = k + 1
    · rw [e]; exact Nat.le_refl _
    · have h1 := I.mono k k' (by omega) (by omega)
      have h2 := I.nle k (by omega)
      have h3 := I.nn k hk
      omega
theorem DInv.mono' {R : Nat → Rc} {s : S1} {al : List (Nat × Nat)} {j : Nat} (I : DInv P G K ops sz an tm h n R s al j) {k k' : Nat} (hk' : k' < k) (hk : k < j) : (R k').n' ≤ (R k).n := by
  have h1 := I.nn k' (by omega)
  have h2 := I.mono k (k' + 1) (by omega) hk
  omega
theorem DInv.good {R : Nat → Rc} {s : S1} {al : List (Nat × Nat)} (hc : ancOk an ops.toList 0 = true) (hO : onceOk ops.toList = true) (I : DInv P G K ops sz an tm h n R s al ops.size) : Good P G B K ops sz R (Aof an) (altOf al) tm h n where
  alt_ := fun j k _ h => by
    obtain ⟨h1, h2, h3⟩ := I.alt_ j k h
    exact ⟨h1, h2, h3⟩
  dst := fun j o ho => I.dst j o (Array.getElem?_eq_some_iff.1 ho).1 ho
  lt := fun j o t ho hd => I.lt j o t (Array.getElem?_eq_some_iff.1 ho).1 ho hd
  once := fun j k t hj hk h1 h2 => by
    have oj : ops[j]? = some ops[j] := Array.getElem?_eq_getElem hj
    have ok : ops[k]? = some ops[k] := Array.getElem?_eq_getElem hk
    rw [I.dst j _ hj oj] at h1
    rw [I.dst k _ hk ok] at h2
    exact onceOk_spec hO j k _ _ t (by rw [Array.getElem?_toList]; exact oj) (by rw [Array.getElem?_toList]; exact ok) h1 h2
  back := fun j o ho e he hb => by
    have := (ancOk_spec hc j o (by rw [Array.getElem?_toList]; exact ho)).1 e he hb
    rwa [Nat.zero_add] at this
  anc := fun j k hj hA => Aof_spec hc j k hj hA
  n0 := fun h => I.n0 (by omega)
  nn := fun j hj => I.nn j hj
  nle := fun j hj => I.nle j hj
  ult := fun j i hj hu => I.ult j i hj hu
  tmj := fun j t x hj hx => by
    obtain ⟨h1, h2⟩ := I.tmj j t x hj hx
    refine ⟨h1, fun k hk hkj hd => ?_⟩
    have ok : ops[k]? = some ops[k] := Array.getElem?_eq_getElem hk
    rw [I.dst k _ hk ok] at hd
    rcases wrOk_spec h2 k _ (by rw [Array.getElem?_toList]; exact ok) hd with h3 | h3
    · rw [Nat.zero_add] at h3; exact absurd h3 hkj
    · rw [Nat.zero_add] at h3; exact h3
  hij := fun j i x hj hx => by
    refine ⟨I.hij1 j i x hj hx, fun k hk hkj hu => ?_⟩
    rcases Nat.lt_trichotomy k j with h1 | h1 | h1
    · exact .inl (I.hij2 j k i x hj h1 hx hu)
    · exact absurd h1 hkj
    · right
      rcases I.inc k j h1 hk with h2 | ⟨h2, h3⟩ | h2
      rotate_left 2
      · exact .inr (.inr h2)
      · exact .inl h2
      · right; left
        rcases (inU_iff _ i).1 hu with h4 | h4
        · exfalso
          have hf := I.ft j hj
          unfold FtR at hf
          split at h3
          · rename_i ids hft
            rw [hft] at hf
            have := h3 i (hf i x hx)
            rw [this] at h4; cases h4
          · rw [h3] at h4; simp at h4
        · exact ⟨h1, (newIds_spec _ i).1 h4⟩
  uu := fun j k i hj hk hkj h1 h2 => by
    have key : ∀ a b, a < b → b < ops.size → inU (R a) i = true → inU (R b) i = true → Aof an b a = true := by
      intro a b hab hb ha hbu
      rcases I.inc b a hab hb with h3 | ⟨h3, _⟩ | h3
      rotate_left 2
      · exfalso
        obtain ⟨_, _, h4, h5, _⟩ := I.alt_ a b h3
        simp only [inU, h4, h5, Bool.or_eq_true, Bool.and_eq_true, Nat.ble_eq, Nat.blt_eq, List.contains_nil, Bool.false_eq_true, false_or] at ha
        omega
      · exact h3
      · exfalso
        rcases (inU_iff _ i).1 hbu with h4 | h4
        · rw [h3 i h4] at ha; cases ha
        · have h5 := (newIds_spec _ i).1 h4
          have m := I.mono' hab hb
          have m2 := I.nle a (by omega)
          rcases (inU_iff _ i).1 ha with h6 | h6
          · have := I.ult a i (by omega) h6; omega
          · have := (newIds_spec _ i).1 h6; omega
    rcases Nat.lt_trichotomy k j with h3 | h3 | h3
    · exact .inl (key k j h3 hj h2 h1)
    · exact absurd h3 hkj
    · exact .inr (key j k h3 hk h1 h2)
  run := fun j o ho => I.run j o (Array.getElem?_eq_some_iff.1 ho).1 ho
theorem runDraw_ok (hP : NoNum P) (hK : KOK P G B K) (hm : P.follows .mixedOrders = true) {s s' : S1} (e : runDraw P G K ops sz n0 s = some s') {σ : Sg} {a : Act} {w : World} (hGl : GR G B w) (hB : B ≤ w.heap.size) (hfree : ∀ i, s.n ≤ i → i < s'.n → σ i = none) (r : Rel σ s.h B w) (ht : TR σ s.tm a) (hs : a.tmps.size = sz)
    (F : Act → World → Prop) (hQ : ∀ a' w' τ, TR τ s'.tm a' → Act1 σ s.h s.n B w τ s'.h s'.n w' → a'.tmps.size = sz → a'.defers = a.defers → F a' w') : (∀ t, opsX P ops F (Region.schedule (P.follows .mixedOrders) ops t) a { w with drawn := w.drawn + 1 }) ∧ s.n ≤ s'.n ∧ (n0 ≤ s.n → ∀ h0, Kept h0 n0 s.n s.h s.u → Kept h0 n0 s'.n s'.h s'.u) := by
  unfold runDraw at e
  generalize ancAll ops.toList [] = an at e
  simp only at e
  cases hc : (ancOk an ops.toList 0 && onceOk ops.toList) with
  | false => rw [hc] at e; cases e
  | true =>
    rw [hc] at e
    simp only [cond, Option.map_eq_some_iff] at e
    obtain ⟨⟨recs, s2⟩, he, rfl⟩ := e
    simp only [Bool.and_eq_true] at hc
    have I0 : DInv P G K ops sz an s.tm s.h s.n (getR []) s [] 0 := by
      refine ⟨fun i => rfl, fun t => rfl, .inl ⟨rfl, rfl⟩, ?_, ?_, ?_, ?_, ?_, ?_, ?_, ?_, ?_, ?_, ?_, (fun k' k h => by cases h), ?_⟩
      all_goals intros; omega
    obtain ⟨al, I, hl⟩ := goD_ok he rfl (fun k => by simp) I0
    simp only [Nat.zero_add, Array.length_toList] at I hl
    obtain ⟨k1, k2⟩ := goD_kept he
    refine ⟨?_, k1, k2⟩
    have hG := I.good (B := B) hc.1 hc.2
    have hend : ∀ j, j < ops.size → (getR recs j).n' ≤ s2.n := by
      intro j hj
      rcases I.sn with ⟨h1, h2⟩ | ⟨h1, h2⟩
      · omega
      · by_cases hjl : j = ops.size - 1
        · subst hjl; rw [h2]; exact Nat.le_refl _
        · have := I.mono' (k := ops.size - 1) (k' := j) (by omega) (by omega)
          have := I.nle (ops.size - 1) (by omega)
          omega
    refine draw_ok hP hK hm hG hGl hB k1 hend hfree r ht hs F fun a' w' τ act tr h1 h2 => hQ a' w' τ ?_ ?_ h1 h2
    · intro t
      rw [I.vs t]; exact tr t
    · have e1 : HS (getR recs) Al s.h.get ops.size = s2.h.get := by funext i; exact (I.hs i).symm
      have e2 : HS (getR recs) (fun _ => true) s.h.get ops.size = s2.h.get := e1
      rw [e2] at act; exact act
end
end Go.Proofs.YtmimihjbepjnfaaGreatDoor
