/- Running a closed program text by its own rules: what the rules say of a call, the program does. No condition. -/
import Derived.Test.YtmimihjbepjnfaaGreatDoorEvP
namespace Go.Proofs.YtmimihjbepjnfaaGreatDoor
open Go Go.RowKit
set_option linter.unusedVariables false
inductive DfR (σ : Sg) : List Nat → List Deferred → Prop
  | nil : DfR σ [] []
  | cons {d b k : Nat} {l : List Nat} {ds : List Deferred} (h : σ d = some (b, k)) (hs : DfR σ l ds) : DfR σ (d :: l) ({ target := .collected b, args := #[] } :: ds)
theorem DfR.sub {σ τ : Sg} (h : Sub σ τ) : ∀ {l : List Nat} {ds : List Deferred}, DfR σ l ds → DfR τ l ds
  | _, _, .nil => .nil
  | _, _, .cons e hs => .cons (h _ _ e) (DfR.sub h hs)
section
variable {P : Program} {G : Gl} {B : Nat}
theorem step_take {fr : Frame} {cs : List Frame} {w w' : World} {b : Nat} {ds : List Deferred} (hd : fr.defers = { target := .collected b, args := #[] } :: ds) (hm : fr.mode = .returning) (hr : (Instr.takeDeferred b).run P w = .ok [] w') :
    step P (lone fr cs w) = .next (lone { fr with defers := ds } cs w') :=
  step_lone_go (by simp [stepG, hm, unwind, hd, Sem.runT_eq, hr, GStep.bare_after])
/-- an object that is no row turns -/
theorem act_obj {σ : Sg} {h : Hp} {n B : Nat} {w : World} (r : Rel σ h B w) {i b c : Nat} {x y : AO} {ob : Obj} (hx : h.get i = some x) (hb : σ i = some (b, c)) (hy : OR σ c (some ob) y) :
    Act1 σ h n B w σ (h.set i (some y)) n { w with heap := w.heap.setIfInBounds b ob } := by
  obtain ⟨b2, c2, h1, h2, h3, _⟩ := r.obj i x hx
  rw [hb] at h1; cases h1
  refine act_put r hx hb rfl rfl rfl (by simp) (fun k hk => ?_) ?_
  · show (w.heap.setIfInBounds b _)[k]? = _
    rw [Array.getElem?_setIfInBounds_ne (Ne.symm hk)]
  · show OR σ c (w.heap.setIfInBounds b _)[b]? y
    rw [Array.getElem?_setIfInBounds_self_of_lt h3]; exact hy
theorem kept_one {h : Hp} {n m i : Nat} {y : Option AO} : Kept h n m (h.set i y) [i] := by
  intro j _ hu
  rw [T.get_set, if_neg]
  intro e; subst e; simp at hu
theorem takeAll_ok {σ : Sg} {n : Nat} : ∀ {df : List Nat} {ds : List Deferred} {h h1 : Hp} {w : World}, takeAll df h = some h1 → DfR σ df ds → Rel σ h B w → ∀ (fr : Frame), fr.mode = .returning → fr.defers = ds → ∃ w1, (∀ cs, Steps P (lone fr cs w) (lone { fr with defers := [] } cs w1)) ∧ Act1 σ h n B w σ h1 n w1 ∧ Kept h n n h1 df
  | [], _, h, h1, w, e, .nil, r, fr, hm, hd => by
    cases e
    refine ⟨w, fun cs => ?_, ActF.refl r, Kept.refl _ _ _ _⟩
    have : ({ fr with defers := [] } : Frame) = fr := by cases fr; simp at hd; subst hd; rfl
    rw [this]; exact Steps.refl _ _
  | d :: l, _, h, h1, w, e, .cons (b := b) (k := k) (ds := ds) hb hs, r, fr, hm, hd => by
    simp only [takeAll] at e
    split at e
    · rename_i hg
      obtain ⟨b2, k2, q1, q2, q3, q4⟩ := r.obj d _ hg
      rw [hb] at q1; cases q1
      have q4 : w.heap[b]? = some (.deferred (some [])) := q4
      have hrun : (Instr.takeDeferred b).run P w = .ok [] { w with heap := w.heap.setIfInBounds b (.deferred none) } := by
        simp [Instr.takeDeferred, getObj, setObj, Sem.run, q4]
      have a1 := act_obj (n := n) (y := .dfr false) (ob := .deferred none) r hg hb rfl
      obtain ⟨w1, s1, s2, s3⟩ := takeAll_ok (n := n) e hs a1.rel { fr with defers := ds } hm rfl
      refine ⟨w1, fun cs => .head (step_take hd hm hrun) (s1 cs), a1.trans s2, ?_⟩
      intro i hi hu
      simp only [List.contains_cons, Bool.or_eq_false_iff] at hu
      rw [s3 i hi hu.2, T.get_set, if_neg]
      intro e2; subst e2; simp at hu
    · cases e
theorem evEnd_ok {σ : Sg} {n0 l n : Nat} {jump : Option Code} {h : Hp} {u : List Nat} {v : AV} {h' : Hp} {n' : Nat} {u' : List Nat} {w : World} (e : evEnd n0 l jump h n u = some (v, h', n', u')) (r : Rel σ h B w) {b k : Nat} (hb : σ l = some (b, k)) :
    n' = n ∧ u' = mrg n0 n u [l] ∧ v = .c (.bool jump.isNone) ∧ ∃ w1, (Instr.endRound b jump).run P w = .ok (.bool jump.isNone) w1 ∧ Act1 σ h n B w σ h' n w1 ∧ Kept h n n h' [l] := by
  unfold evEnd at e
  split at e
  · rename_i st pe fn tm sz ps as bd df hg
    cases e
    obtain ⟨b2, k2, q1, q2, q3, tmps, db, kd, q4, q5, q6, q7⟩ := r.obj l _ hg
    rw [hb] at q1; cases q1
    refine ⟨rfl, rfl, rfl, _, ?_, act_obj (ob := .loop { state := if jump.isNone then .ready else .done, pending := jump, fn := fn, tmps := tmps, params := ps, assign := as, body := bd, defers := db }) r hg hb ⟨tmps, db, kd, rfl, q5, q6, q7⟩, kept_one⟩
    simp [Instr.endRound, Instr.getLoop, getObj, setObj, Sem.run, q4]
  · cases e
def EndR (P : Program) (rd : Option Nat) (fid : FuncId) (fr0 : Frame) (σ : Sg) (h : Hp) (n B : Nat) (w : World) (v : AV) (h' : Hp) (n' : Nat) : Prop :=
  match rd with
  | none => ∀ cs, ∃ fr τ w' v', Steps P (lone fr0 cs w) (lone fr cs w') ∧ fr.fn = fid ∧ fr.leaving P w' (.returned v') ∧ VR τ v v' ∧ Act1 σ h n B w τ h' n' w'
  | some _ => ∀ c cs, ∃ τ w' v', Steps P (lone fr0 (c :: cs) w) (lone (c.finish v') cs w') ∧ VR τ v v' ∧ Act1 σ h n B w τ h' n' w'
theorem EndR.via {rd : Option Nat} {fid : FuncId} {fr0 : Frame} {σ : Sg} {h : Hp} {n : Nat} {w : World} {v : AV} {h' : Hp} {n' : Nat}
    (k : ∀ cs, ∃ fr1 τ1 h1 n1 w1, Steps P (lone fr0 cs w) (lone fr1 cs w1) ∧ Act1 σ h n B w τ1 h1 n1 w1 ∧ EndR P rd fid fr1 τ1 h1 n1 B w1 v h' n') : EndR P rd fid fr0 σ h n B w v h' n' := by
  cases rd with
  | none =>
    intro cs
    obtain ⟨fr1, τ1, h1, n1, w1, s1, s2, s3⟩ := k cs
    obtain ⟨fr, τ, w', v', q1, q2, q3, q4, q5⟩ := s3 cs
    exact ⟨fr, τ, w', v', Steps.trans s1 q1, q2, q3, q4, s2.trans q5⟩
  | some l =>
    intro c cs
    obtain ⟨fr1, τ1, h1, n1, w1, s1, s2, s3⟩ := k (c :: cs)
    obtain ⟨τ, w', v', q1, q4, q5⟩ := s3 c cs
    exact ⟨τ, w', v', Steps.trans s1 q1, q4, s2.trans q5⟩
/-- the frame's place in a loop -/
def RdR (σ : Sg) (rd : Option Nat) (b : Frame) : Prop := match rd with
  | none => b.roundOf = none
  | some l => ∃ b0 k0, σ l = some (b0, k0) ∧ b.roundOf = some b0
theorem RdR.sub {σ τ : Sg} (h : Sub σ τ) {rd : Option Nat} {b : Frame} (k : RdR σ rd b) : RdR τ rd b := by
  cases rd with
  | none => exact k
  | some l => obtain ⟨b0, k0, h1, h2⟩ := k; exact ⟨b0, k0, h _ _ h1, h2⟩
theorem runDraw_le {K : KT} {ops : Array Oper} {sz n0 : Nat} {s s' : S1} (e : runDraw P G K ops sz n0 s = some s') : s.n ≤ s'.n := by
  unfold runDraw at e
  generalize ancAll ops.toList [] = an at e
  simp only at e
  cases hc : (ancOk an ops.toList 0 && onceOk ops.toList) with
  | false => rw [hc] at e; cases e
  | true =>
    rw [hc] at e
    simp only [cond, Option.map_eq_some_iff] at e
    obtain ⟨⟨recs, s2⟩, he, rfl⟩ := e
    exact (goD_kept he).1
theorem leaveF_le {fd : Func} {n0 : Nat} {rd : Option Nat} {df : List Nat} {tm : T AV} {h : Hp} {n : Nat} {u : List Nat} {jump : Option Code} {v : AV} {h' : Hp} {n' : Nat} {u' : List Nat} (e : leaveF P fd n0 rd df tm h n u jump = some (v, h', n', u')) : n' = n := by
  cases rd with
  | none =>
    simp only [leaveF, evFin] at e
    split at e
    · split at e
      · cases e; rfl
      · cases e
    · cases e
  | some l =>
    simp only [leaveF, evEnd] at e
    split at e
    · cases e; rfl
    · cases e
theorem evEnd_n {n0 l n : Nat} {jump : Option Code} {h : Hp} {u : List Nat} {v : AV} {h' : Hp} {n' : Nat} {u' : List Nat} (e : evEnd n0 l jump h n u = some (v, h', n', u')) : n' = n := by
  unfold evEnd at e
  split at e
  · cases e; rfl
  · cases e
theorem enterF_le {rd : Option Nat} {df : List Nat} {fid : FuncId} {tm : T AV} {sz : Nat} {ps : Array Tmp} {as bd : Code} {h : Hp} {n l : Nat} {df1 : List Nat} {h1 : Hp} {n1 : Nat} (e : enterF rd df fid tm sz ps as bd h n = some (l, df1, h1, n1)) : n ≤ n1 := by
  cases rd with
  | none => simp only [enterF] at e; cases e; omega
  | some l0 =>
    simp only [enterF] at e
    split at e
    · cases e; omega
    · cases e
theorem evF_le : ∀ (f : Nat) {fid : FuncId} {fd : Func} {sz n0 : Nat} {rd : Option Nat} {df : List Nat} {tm : T AV} {td : List Item} {h : Hp} {n : Nat} {u : List Nat} {v : AV} {h' : Hp} {n' : Nat} {u' : List Nat}, evF P G f fid fd sz n0 rd df tm td h n u = some (v, h', n', u') → n ≤ n' := by
  intro f
  induction f with
  | zero => intro fid fd sz n0 rd df tm td h n u v h' n' u' e; cases e
  | succ f ih =>
    intro fid fd sz n0 rd df tm td h n u v h' n' u' e
    simp only [evF] at e
    split at e
    · rw [leaveF_le e]; exact Nat.le_refl _
    · exact ih e
    · exact ih e
    · exact ih e
    · split at e
      · split at e
        · exact ih e
        · cases e
      · cases e
    · split at e
      · rw [leaveF_le e]; exact Nat.le_refl _
      · exact ih e
      · exact ih e
      · exact ih e
      · split at e
        · exact ih e
        · cases e
      · exact ih e
      · exact ih e
      · split at e
        · exact ih e
        · split at e
          · rw [evEnd_n e]; exact Nat.le_refl _
          · cases e
      · split at e
        · exact ih e
        · split at e
          · rw [evEnd_n e]; exact Nat.le_refl _
          · cases e
      · rename_i ops draw
        split at e
        · rename_i s hs
          have h1 := ih e
          cases draw with
          | true => have := runDraw_le hs; simp only at this; omega
          | false => have := runOps_le hs; simp only at this; omega
        · cases e
      · split at e
        · rename_i l df1 h1 n1 gf caps he hc
          split at e
          · rename_i v2 h2 n2 u2 hk
            split at e
            · rename_i st pe fn tm' sz' ps' as' bd' d0 hg
              cases hcc : (Nat.ble n1 n2 && !(decide (st = .busy))) with
              | false => rw [hcc] at e; cases e
              | true =>
                rw [hcc] at e
                simp only [Bool.and_eq_true] at hcc
                have := Nat.le_of_ble_eq_true hcc.1
                have := enterF_le he
                have := ih e
                omega
            · cases e
          · cases e
        · cases e
      · cases e
    · cases e
theorem zipT_ok {σ : Sg} {sz : Nat} : ∀ {ps : List Tmp} {xs : List AV} {vs : List Value} {tm tm' : T AV} {tmps : Array Value}, zipT sz ps xs tm = some tm' → VRs σ xs vs → TR σ tm { tmps := tmps, defers := [] } → tmps.size = sz → ps.length = vs.length ∧ TR σ tm' { tmps := (ps.zip vs).foldl (fun tmps (t, a) => tmps.setIfInBounds t a) tmps, defers := [] } ∧ ((ps.zip vs).foldl (fun tmps (t, a) => tmps.setIfInBounds t a) tmps).size = sz
  | [], [], [], tm, tm', tmps, e, .nil, ht, hs => by cases e; exact ⟨rfl, ht, hs⟩
  | [], _ :: _, _ :: _, tm, tm', tmps, e, .cons _ _, ht, hs => by simp [zipT] at e
  | _ :: _, [], [], tm, tm', tmps, e, .nil, ht, hs => by simp [zipT] at e
  | d :: ps, x :: xs, v :: vs, tm, tm', tmps, e, .cons hv hvs, ht, hs => by
    simp only [zipT] at e
    cases hc : Nat.blt d sz with
    | false => rw [hc] at e; cases e
    | true =>
      rw [hc] at e
      have hd : d < sz := Nat.le_of_ble_eq_true hc
      have ht2 := ht.put (d := d) (by rw [hs]; exact hd) hv
      obtain ⟨q1, q2, q3⟩ := zipT_ok (tmps := tmps.setIfInBounds d v) e hvs ht2 (by simp [hs])
      exact ⟨by simp [q1], q2, q3⟩
end
end Go.Proofs.YtmimihjbepjnfaaGreatDoor
