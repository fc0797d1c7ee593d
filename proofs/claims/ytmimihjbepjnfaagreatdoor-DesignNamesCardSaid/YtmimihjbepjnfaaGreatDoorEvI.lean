/- Running a closed program text by its own rules: an operation, whatever it is; a region in the order of its text. No condition. -/
import Derived.Test.YtmimihjbepjnfaaGreatDoorEvH3
import Derived.Tactics
namespace Go.Proofs.YtmimihjbepjnfaaGreatDoor
open Go Go.RowKit
set_option linter.unusedVariables false
/-- no function of the text is one of the runtime's that are asked for the goroutines -/
def NoNum (P : Program) : Prop := ∀ (g : FuncId) (fn : Func), P.funcs[g]? = some fn → (fn.name == "runtime.NumGoroutine") = false
def callOk (P : Program) (g : FuncId) (args : List AV) : Option Out :=
  match P.funcs[g]? with
  | some fn => match fn.body with
    | some _ => some (.call (.fn g) args)
    | none => none
  | none => none
def evCallOp (P : Program) (tm : T AV) (h : Hp) (n : Nat) (c : Call) : Option Out :=
  match c.callee with
  | .builtin .append => evAppend P h n c.argTypes (c.args.toList.map (ev tm))
  | .builtin .len => evLen P h n c.argTypes (c.args.toList.map (ev tm))
  | .value f => match ev tm f with
    | .f (.func g) l => callOk P g (c.args.toList.map (ev tm) ++ l)
    | .g (.func g) fs l => callOk P g (fs ++ c.args.toList.map (ev tm) ++ l)
    | .y i => some (.call (.yld i) (c.args.toList.map (ev tm)))
    | .c (.func (.func g) first cap) => cond first.isEmpty (callOk P g (c.args.toList.map (ev tm) ++ cap.toList.map .c)) none
    | _ => none
  | _ => none
def orC (x y : Option Out) : Option Out := match x with
  | some r => some r
  | none => y
def evOp (P : Program) (G : Gl) (tm : T AV) (h : Hp) (n : Nat) (o : Oper) : Option Out :=
  match o.op with
  | .move x | .assign x => evMove h n (ev tm x)
  | .pick c x y => evPick h n (ev tm c) (ev tm x) (ev tm y)
  | .alloc t => evAlloc P h n t
  | .box t x => evBox h n t (ev tm x)
  | .build t ps => orC (evClosed P tm h n o) (evBuild P h n t (ps.toList.map fun p => (p.1, ev tm p.2)))
  | .buildSlice t len ps => evBuildSlice P h n t len (ps.toList.map fun p => (p.1, ev tm p.2))
  | .load t x => evLoad P G h n t (ev tm x)
  | .store t x y => evStore P h n t (ev tm x) (ev tm y)
  | .nilCheck x => orC (evNilCheck h n (ev tm x)) (evClosed P tm h n o)
  | .fieldAddr s x f => orC (evFieldAddr P h n s f (ev tm x)) (evClosed P tm h n o)
  | .field s x f => orC (evField P h n s f (ev tm x)) (evClosed P tm h n o)
  | .indexAddr t x y => orC (evIndexAddr P h n t (ev tm x) (ev tm y)) (evClosed P tm h n o)
  | .index t x y => orC (evIndex P h n t (ev tm x) (ev tm y)) (evClosed P tm h n o)
  | .extract x i => orC (evExtract h n (ev tm x) i) (evClosed P tm h n o)
  | .slice t x lo hi mx => orC (evSlice P h n t (ev tm x) (lo.map (ev tm)) (hi.map (ev tm)) (mx.map (ev tm))) (evClosed P tm h n o)
  | .makeFunc fn first cap => orC (evClosed P tm h n o) (evMakeFunc h n fn first (first.toList.map (ev tm)) (cap.toList.map (ev tm)))
  | .call c => orC (evCallOp P tm h n c) (evClosed P tm h n o)
  | .defer _ => none
  | .makeMap t rs => evMakeMap P h n t (rs.map (ev tm))
  | .mapUpdate t m k x | .insert t m k x => evMapUpdate P h n t (ev tm m) (ev tm k) (ev tm x)
  | .mapEntry t m k => evMapEntry P h n t (ev tm m) (ev tm k)
  | .entryStore _ m s x => evEntryStore h n (ev tm m) (ev tm s) (ev tm x)
  | .lookup t x y ok => orC (evLookup P h n t (ev tm x) (ev tm y) ok) (evClosed P tm h n o)
  | .makeSlice t x y => evMakeSlice P h n t (ev tm x) (ev tm y)
  | .range t x => orC (evRange P h n t (ev tm x)) (evRangeM P h n t (ev tm x))
  | .next x isS => orC (evNext h n (ev tm x) isS) (evNextM h n (ev tm x) isS)
  | .entry x => evEntry h n (ev tm x)
  | .convert src dst x => orC (evConvert P h n src dst (ev tm x)) (evClosed P tm h n o)
  | .binOp op t x y _ => orC (evClosed P tm h n o) (evEqNil P h n op t (ev tm x) (ev tm y))
  | _ => evClosed P tm h n o
section ops
variable {P : Program} {G : Gl} {tm : T AV} {h : Hp} {n B : Nat} {o : Oper} {σ : Sg} {a : Act} {w : World}
theorem closed_val {v : AV} {h' : Hp} {n' : Nat} {u : List Nat} (e : evClosed P tm h n o = some (.val v h' n' u)) (ht : TR σ tm a) (r : Rel σ h B w) : Yields P (execOp a.eval o) σ h n B w v h' n' ∧ Kept h n n' h' u := by
  rcases closed_run e ht w with ⟨v', h1, h2⟩ | ⟨f, args, h1, h2⟩
  · cases h1; exact ⟨Yields.same r h2 (.c _), Kept.refl _ _ _ _⟩
  · cases h1
/-- what a call comes to -/
def CallR (P : Program) (s : Sem Next) (σ : Sg) (w : World) (args : List AV) : Tgt → Prop
  | .fn f => ∃ args', s.run P w = .ok (.enter f args') w ∧ VRs σ args args'.toList
  | .yld i => ∃ args' b k, σ i = some (b, k) ∧ s.run P w = (Instr.yield b args').run P w ∧ VRs σ args args'.toList
theorem closed_call {f : Tgt} {args : List AV} (e : evClosed P tm h n o = some (.call f args)) (ht : TR σ tm a) (w : World) : CallR P (execOp a.eval o) σ w args f := by
  rcases closed_run e ht w with ⟨v', h1, h2⟩ | ⟨f', args', h1, h2⟩
  · cases h1
  · cases h1; exact ⟨args', h2, VRs.cs _⟩
theorem orC_some {x y : Option Out} {z : Out} (e : orC x y = some z) : x = some z ∨ y = some z := by
  unfold orC at e
  split at e
  · exact .inl e
  · exact .inr e
theorem callOk_ok (hP : NoNum P) {g : FuncId} {g' : Tgt} {args args2 : List AV} (e : callOk P g args = some (.call g' args2)) (w : World) (args' : Array Value) : g' = .fn g ∧ args2 = args ∧ (callFunc g args').run P w = .ok (.enter g args') w := by
  unfold callOk at e
  split at e
  · rename_i fn hfn
    split at e
    · rename_i c hc
      cases e
      refine ⟨rfl, rfl, ?_⟩
      have := hP g fn hfn
      simp only [callFunc, Sem.run_bind, run_program, Result.andThen_ok, hfn, this, hc, Bool.false_eq_true, if_false, Option.isNone_some, Sem.run_pure]
    · cases e
  · cases e
theorem callOk_val {g : FuncId} {args : List AV} {v : AV} {h' : Hp} {n' : Nat} {u : List Nat} : callOk P g args ≠ some (.val v h' n' u) := by
  unfold callOk
  split
  · split <;> simp
  · simp
theorem evOp_val {v : AV} {h' : Hp} {n' : Nat} {u : List Nat} (e : evOp P G tm h n o = some (.val v h' n' u)) (ht : TR σ tm a) (r : Rel σ h B w) (hG : GR G B w) (hB : B ≤ w.heap.size) (hf : ∀ i, n ≤ i → i < n' → σ i = none) : Yields P (execOp a.eval o) σ h n B w v h' n' ∧ Kept h n n' h' u := by
  unfold evOp at e
  split at e
  · rename_i x ho; exact evMove_ok (.inl ho) e ht r
  · rename_i x ho; exact evMove_ok (.inr ho) e ht r
  · rename_i c x y ho; exact evPick_ok ho e ht r
  · rename_i t ho; exact evAlloc_ok ho e ht r hB hf
  · rename_i t x ho; exact evBox_ok ho e ht r hB hf
  · rename_i t ps ho
    rcases orC_some e with e | e
    · exact closed_val e ht r
    · exact evBuild_ok ho e ht r
  · rename_i t len ps ho; exact evBuildSlice_ok ho e ht r hB hf
  · rename_i t x ho; exact evLoad_ok ho e ht r hG
  · rename_i t x y ho; exact evStore_ok ho e ht r
  · rename_i x ho
    rcases orC_some e with e | e
    · exact evNilCheck_ok ho e ht r
    · exact closed_val e ht r
  · rename_i s x f ho
    rcases orC_some e with e | e
    · exact evFieldAddr_ok ho e ht r
    · exact closed_val e ht r
  · rename_i s x f ho
    rcases orC_some e with e | e
    · exact evField_ok ho e ht r
    · exact closed_val e ht r
  · rename_i t x y ho
    rcases orC_some e with e | e
    · exact evIndexAddr_ok ho e ht r
    · exact closed_val e ht r
  · rename_i t x y ho
    rcases orC_some e with e | e
    · exact evIndex_ok ho e ht r
    · exact closed_val e ht r
  · rename_i x i ho
    rcases orC_some e with e | e
    · exact evExtract_ok ho e ht r
    · exact closed_val e ht r
  · rename_i t x lo hi mx ho
    rcases orC_some e with e | e
    · exact evSlice_ok ho e ht r
    · exact closed_val e ht r
  · rename_i fn first cap ho
    rcases orC_some e with e | e
    · exact closed_val e ht r
    · exact evMakeFunc_ok ho e ht r
  · rename_i c ho
    rcases orC_some e with e | e
    · unfold evCallOp at e
      split at e
      · rename_i hc; exact evAppend_ok ho hc e ht r hB hf
      · rename_i hc; exact evLen_ok ho hc e ht r
      · split at e
        · exact absurd e callOk_val
        · exact absurd e callOk_val
        · cases e
        · rename_i g first cap _
          cases hfe : first.isEmpty <;> rw [hfe] at e
          · cases e
          · exact absurd e callOk_val
        · cases e
      · cases e
    · exact closed_val e ht r
  · cases e
  · rename_i t rs ho; exact evMakeMap_ok ho e ht r hB hf
  · rename_i t m k x ho; exact evMapUpdate_ok (.inl ho) e ht r
  · rename_i t m k x ho; exact evMapUpdate_ok (.inr ho) e ht r
  · rename_i t m k ho; exact evMapEntry_ok ho e ht r
  · rename_i t m s x ho; exact evEntryStore_ok ho e ht r
  · rename_i t x y ok ho
    rcases orC_some e with e | e
    · exact evLookup_ok ho e ht r
    · exact closed_val e ht r
  · rename_i t x y ho; exact evMakeSlice_ok ho e ht r hB hf
  · rename_i t x ho
    rcases orC_some e with e | e
    · exact evRange_ok ho e ht r hB hf
    · exact evRangeM_ok ho e ht r hB hf
  · rename_i x isS ho
    rcases orC_some e with e | e
    · exact evNext_ok ho e ht r
    · exact evNextM_ok ho e ht r
  · rename_i x ho; exact evEntry_ok ho e ht r
  · rename_i src dst x ho
    rcases orC_some e with e | e
    · exact evConvert_ok ho e ht r hB hf
    · exact closed_val e ht r
  · rename_i op t x y yt ho
    rcases orC_some e with e | e
    · exact closed_val e ht r
    · exact evEqNil_ok ho e ht r
  · exact closed_val e ht r
theorem cond_some {b : Bool} {x : Option Out} {y : Out} (e : cond b x none = some y) : x = some y := by cases b <;> first | exact e | cases e
theorem noC_makeMap {t : TypeId} {rs : Option AV} {f : Tgt} {args : List AV} : evMakeMap P h n t rs ≠ some (.call f args) := by
  intro e; unfold evMakeMap at e; (repeat' split at e) <;> cases e
theorem noC_mapUpdate {t : TypeId} {m k x : AV} {f : Tgt} {args : List AV} : evMapUpdate P h n t m k x ≠ some (.call f args) := by
  intro e; unfold evMapUpdate at e
  split at e
  · split at e
    · have e := cond_some e
      split at e
      · split at e
        · have e := cond_some e; cases e
        · cases e
      · cases e
      · cases e
    · cases e
  · cases e
theorem noC_lookup {t : TypeId} {x y : AV} {ok : Bool} {f : Tgt} {args : List AV} : evLookup P h n t x y ok ≠ some (.call f args) := by
  intro e; unfold evLookup at e
  split at e
  · split at e
    · have e := cond_some e
      (repeat' split at e) <;> cases e
    · cases e
  · cases e
theorem noC_makeSlice {t : TypeId} {x y : AV} {f : Tgt} {args : List AV} : evMakeSlice P h n t x y ≠ some (.call f args) := by
  intro e; unfold evMakeSlice at e
  split at e
  · split at e
    · split at e
      · have e := cond_some e; cases e
      · cases e
    · cases e
  · cases e
theorem noC_convert {s d : TypeId} {x : AV} {f : Tgt} {args : List AV} : evConvert P h n s d x ≠ some (.call f args) := by
  intro e; unfold evConvert at e; (repeat' split at e) <;> cases e
theorem noC_eqNil {op : BinOp} {t : TypeId} {x y : AV} {f : Tgt} {args : List AV} : evEqNil P h n op t x y ≠ some (.call f args) := by
  intro e; unfold evEqNil at e; split at e <;> cases e
theorem args_ok (ht : TR σ tm a) (c : Call) : VRs σ (c.args.toList.map (ev tm)) (c.args.map a.eval).toList := by
  have := evs_ok ht c.args.toList
  simpa using this
theorem noCall {x : Option Out} {f : Tgt} {args : List AV} (hx : ∀ f args, x ≠ some (.call f args)) (y : Option Out) (e : orC x y = some (.call f args)) : y = some (.call f args) := (orC_some e).resolve_left (hx _ _)
theorem evOp_call (hP : NoNum P) {f : Tgt} {args : List AV} (e : evOp P G tm h n o = some (.call f args)) (ht : TR σ tm a) (w : World) : CallR P (execOp a.eval o) σ w args f := by
  unfold evOp at e
  split at e
  · cases e
  · cases e
  · unfold evPick at e; split at e <;> cases e
  · unfold evAlloc at e; split at e
    · split at e <;> cases e
    · cases e
  · unfold evBox at e; rename_i t x _; cases hq : (ev tm x).isQ <;> rw [hq] at e <;> cases e
  · rcases orC_some e with e | e
    · exact closed_call e ht w
    · unfold evBuild at e
      split at e
      · split at e
        · simp at e
        · cases e
      · cases e
  · unfold evBuildSlice at e
    split at e
    · split at e
      · split at e
        · rename_i t len ps _ _ el _ _ i _ _ z _
          cases hc : (Nat.ble (len * i.size) 16777216 && !Nat.beq (len * i.size) 0) <;> rw [hc] at e <;> simp only [cond] at e
          · cases h0 : Nat.beq (len * i.size) 0 <;> rw [h0] at e <;> try simp only at e
            · cases e
            · split at e <;> cases e
          · simp at e
        · cases e
      · cases e
    · cases e
  · unfold evLoad at e; split at e
    · simp at e
    · cases e
  · unfold evStore at e
    split at e
    · split at e
      · rename_i t x y _ _ i off _ _ _ l e' g k _ _
        cases hc : (Nat.beq (ev tm y).cells.length k.size && Nat.ble (off + k.size) l.length && (ev tm y).cells.all AV.one && !(ev tm y).isQ) <;> rw [hc] at e <;> cases e
      · cases e
    · cases e
  · rcases orC_some e with e | e
    · unfold evNilCheck at e; split at e <;> cases e
    · exact closed_call e ht w
  · rcases orC_some e with e | e
    · unfold evFieldAddr at e
      split at e
      · split at e
        · split at e
          · rename_i k _; cases hz : Nat.beq k.size 0 <;> rw [hz] at e <;> cases e
          · cases e
        · cases e
      · cases e
    · exact closed_call e ht w
  · rcases orC_some e with e | e
    · unfold evField at e
      split at e
      · split at e
        · simp at e
        · cases e
      · cases e
    · exact closed_call e ht w
  · rcases orC_some e with e | e
    · unfold evIndexAddr at e
      split at e
      · split at e
        · split at e
          · rename_i z _ _ _ i off len cp el _ _ _ k _; cases hz : inLen z len <;> rw [hz] at e <;> cases e
          · cases e
        · split at e
          · rename_i z _ _ _ i off len el _ _ _ k _; cases hz : inLen z len <;> rw [hz] at e <;> cases e
          · cases e
        · cases e
      · cases e
    · exact closed_call e ht w
  · rcases orC_some e with e | e
    · unfold evIndex at e
      split at e
      · split at e
        · split at e
          · rename_i z _ _ _ l len el _ _ _ k _
            cases hz : inLen z len <;> rw [hz] at e <;> simp only [cond] at e
            · cases e
            · simp at e
          · cases e
        · cases e
      · cases e
    · exact closed_call e ht w
  · rcases orC_some e with e | e
    · unfold evExtract at e
      split at e
      · simp at e
      · cases e
    · exact closed_call e ht w
  · rcases orC_some e with e | e
    · unfold evSlice at e
      split at e
      · split at e
        · split at e
          · rename_i l hh _ _ _ _
            rename_i len _ _ _ _ _ _ _ _ _
            revert e
            generalize (Nat.ble _ _ && Nat.ble _ _ : Bool) = q
            intro e; cases q <;> cases e
          · split at e
            · revert e
              generalize (Nat.ble _ _ && Nat.ble _ _ && Nat.ble _ _ && Option.isSome _ : Bool) = q
              intro e; cases q <;> cases e
            · cases e
        · cases e
      · split at e
        · revert e
          generalize (Nat.ble _ _ && Nat.ble _ _ && Nat.blt _ _ : Bool) = q
          intro e; cases q <;> cases e
        · cases e
      · cases e
    · exact closed_call e ht w
  · rcases orC_some e with e | e
    · exact closed_call e ht w
    · unfold evMakeFunc at e
      revert e
      generalize (Array.isEmpty _ : Bool) = q
      intro e; cases q <;> cases e
  · rename_i c ho
    rcases orC_some e with e | e
    · unfold evCallOp at e
      split at e
      · exfalso
        unfold evAppend at e
        split at e
        · split at e
          · split at e
            · cases e
            · split at e
              · split at e
                · revert e
                  generalize (zerosOk _ _ && Nat.beq _ _ && Nat.ble _ _ && Nat.ble _ _ : Bool) = q
                  intro e
                  cases q
                  · cases e
                  · simp only [cond] at e
                    revert e
                    generalize (Nat.beq _ 0 : Bool) = q
                    intro e
                    cases q
                    · try simp only at e
                      unfold evAppendTo at e
                      split at e
                      · cases e
                      · split at e
                        · revert e
                          generalize (Nat.ble _ _ && Nat.ble _ _ : Bool) = q
                          intro e
                          cases q
                          · cases e
                          · try simp only at e
                            split at e
                            · revert e
                              generalize (Nat.ble _ _ : Bool) = q
                              intro e
                              cases q
                              · cases e
                              · try simp only at e
                                revert e
                                generalize (Nat.ble _ _ && List.all _ _ : Bool) = q
                                intro e
                                cases q <;> cases e
                            · split at e
                              · revert e
                                generalize (Nat.beq _ _ && Nat.beq _ _ && Nat.beq _ _ && List.all _ _ : Bool) = q
                                intro e
                                cases q <;> cases e
                              · cases e
                            · cases e
                        · cases e
                      · cases e
                    · cases e
                · cases e
              · cases e
          · cases e
        · cases e
      · exfalso
        unfold evLen at e
        split at e
        · split at e
          · cases e
          · cases e
          · split at e <;> cases e
          · cases e
        · cases e
      · rename_i fo hc
        have hfo := ev_ok ht fo
        have ha := args_ok ht c
        split at e
        · rename_i g l hf
          rw [hf] at hfo
          generalize hfe : a.eval fo = fv at hfo
          cases hfo with
          | f hl =>
            rename_i l'
            obtain ⟨rfl, rfl, h3⟩ := callOk_ok hP e w (c.args.map a.eval ++ l'.toArray)
            refine ⟨c.args.map a.eval ++ l'.toArray, ?_, by simpa using ha.append hl⟩
            simp only [execOp, ho, resolve, hc, hfe, Deferred.ofValue, Sem.run_bind, Sem.run_pure, Result.andThen_ok, invoke, Array.empty_append, h3]
        · rename_i g fs l hf
          rw [hf] at hfo
          generalize hfe : a.eval fo = fv at hfo
          cases hfo with
          | g hfs hl =>
            rename_i fs' l'
            obtain ⟨rfl, rfl, h3⟩ := callOk_ok hP e w (fs'.toArray ++ c.args.map a.eval ++ l'.toArray)
            refine ⟨fs'.toArray ++ c.args.map a.eval ++ l'.toArray, ?_, by simpa using (hfs.append ha).append hl⟩
            simp only [execOp, ho, resolve, hc, hfe, Deferred.ofValue, Sem.run_bind, Sem.run_pure, Result.andThen_ok, invoke, h3]
        · rename_i i hf
          cases e
          rw [hf] at hfo
          generalize hfe : a.eval fo = fv at hfo
          cases hfo with
          | y hb =>
            refine ⟨c.args.map a.eval, _, _, hb, ?_, ha⟩
            simp only [execOp, ho, resolve, hc, hfe, Deferred.ofValue, Sem.run_bind, Sem.run_pure, Result.andThen_ok, invoke, Array.empty_append]
        · rename_i g first cap hf
          cases hfe0 : first.isEmpty <;> rw [hfe0] at e
          · cases e
          have hfe1 : first = #[] := by simpa using hfe0
          subst hfe1
          simp only [cond] at e
          rw [hf] at hfo
          generalize hfe : a.eval fo = fv at hfo
          cases hfo with
          | c =>
            obtain ⟨rfl, rfl, h3⟩ := callOk_ok hP e w (c.args.map a.eval ++ cap)
            refine ⟨c.args.map a.eval ++ cap, ?_, by simpa using ha.append (VRs.cs _)⟩
            simp only [execOp, ho, resolve, hc, hfe, Deferred.ofValue, Sem.run_bind, Sem.run_pure, Result.andThen_ok, invoke, Array.empty_append, h3]
        · cases e
      · cases e
    · exact closed_call e ht w
  · cases e
  · exact absurd e noC_makeMap
  · exact absurd e noC_mapUpdate
  · exact absurd e noC_mapUpdate
  · exact absurd e noC_mapEntry
  · exact absurd e noC_entryStore
  · rcases orC_some e with e | e
    · exact absurd e noC_lookup
    · exact closed_call e ht w
  · exact absurd e noC_makeSlice
  · rcases orC_some e with e | e
    · unfold evRange at e; split at e <;> cases e
    · exact absurd e noC_rangeM
  · rcases orC_some e with e | e
    · unfold evNext at e
      split at e
      · split at e
        · rename_i s pos _
          cases hq : Nat.blt pos s.size <;> rw [hq] at e <;> cases e
        · cases e
      · split at e <;> cases e
      · cases e
    · exact absurd e noC_nextM
  · exact absurd e noC_entry
  · rcases orC_some e with e | e
    · exact absurd e noC_convert
    · exact closed_call e ht w
  · rcases orC_some e with e | e
    · exact closed_call e ht w
    · exact absurd e noC_eqNil
  · exact closed_call e ht w
theorem noDefer {x : Out} (e : evOp P G tm h n o = some x) (c : Call) : o.op ≠ .defer c := by
  intro hc
  unfold evOp at e
  rw [hc] at e
  cases e
end ops
end Go.Proofs.YtmimihjbepjnfaaGreatDoor
