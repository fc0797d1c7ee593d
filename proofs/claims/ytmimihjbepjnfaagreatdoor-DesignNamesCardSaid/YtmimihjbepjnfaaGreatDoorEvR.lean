/- Running a closed program text by its own rules: the theorem. No condition. -/
import Derived.Test.YtmimihjbepjnfaaGreatDoorEvQ
namespace Go.Proofs.YtmimihjbepjnfaaGreatDoor
open Go Go.RowKit
set_option linter.unusedVariables false
section
variable {P : Program} {G : Gl} {B : Nat}
theorem calleeOf_ok {σ : Sg} {x : AV} {v : Value} {g : FuncId} {caps : List AV} (e : calleeOf x = some (g, caps)) (hv : VR σ x v) : ∃ cap', v = .func (.func g) #[] cap' ∧ VRs σ caps cap'.toList := by
  unfold calleeOf at e
  split at e
  · cases e
    cases hv with
    | f h => exact ⟨_, rfl, by simpa using h⟩
  · rename_i g' first cap
    cases hf : first.isEmpty with
    | false => rw [hf] at e; cases e
    | true =>
      rw [hf] at e
      cases e
      cases hv
      have : first = #[] := by simpa using hf
      subst this
      exact ⟨cap, rfl, VRs.cs _⟩
  · cases e
/-- entering a range over a function -/
theorem enterF_ok {σ : Sg} {rd : Option Nat} {df : List Nat} {fid : FuncId} {tm : T AV} {sz : Nat} {ps : Array Tmp} {as bd : Code} {h : Hp} {n l : Nat} {df1 : List Nat} {h1 : Hp} {n1 : Nat} (e : enterF rd df fid tm sz ps as bd h n = some (l, df1, h1, n1))
    {a : Act} {w : World} {b : Frame} (ht : TR σ tm a) (hs : a.tmps.size = sz) (hd : DfR σ df a.defers) (r : Rel σ h B w) (hB : B ≤ w.heap.size) (hf : ∀ i, n ≤ i → i < n1 → σ i = none) (hfn : b.fn = fid) (hrd : RdR σ rd b) :
    ∃ τ lb kl mark w1, (Instr.enterLoop b.fn a.tmps ps as bd b.roundOf).run P w = .ok (lb, mark) w1 ∧ τ l = some (lb, kl) ∧ Act1 σ h n B w τ h1 n1 w1 ∧ DfR τ df1 (mark ++ a.defers) ∧ Kept h n n1 h1 [] := by
  cases rd with
  | none =>
    simp only [enterF] at e
    cases e
    have hro : b.roundOf = none := hrd
    have a1 := act_new (n := n) (kap := 0) (o := .deferred (some [])) (x := .dfr true) r hB (hf n (by omega) (by omega)) rfl
    have hn1 : ext σ n (w.heap.size, 0) (n + 1) = none := by simp [ext, hf (n + 1) (by omega) (by omega)]
    have a2 := act_new (n := n + 1) (kap := 0) (o := .loop { state := .ready, pending := none, fn := fid, tmps := a.tmps, params := ps, assign := as, body := bd, defers := w.heap.size }) (x := .loop .ready none fid tm sz ps as bd n) a1.rel (by simp; omega) hn1 ⟨a.tmps, w.heap.size, 0, rfl, by simp [ext], hs, fun t => (ht t).sub a1.sub⟩
    refine ⟨_, w.heap.size + 1, 0, [{ target := .collected w.heap.size, args := #[] }], _, ?_, ?_, a1.trans a2, ?_, ?_⟩
    · rw [hro, hfn]
      simp [Instr.enterLoop]
    · simp [ext]
    · refine .cons (k := 0) (a2.sub _ _ (by simp [ext])) ?_
      exact (hd.sub a1.sub).sub a2.sub
    · intro i hi _
      rw [T.get_set, if_neg (by omega), T.get_set, if_neg (by omega)]
  | some l0 =>
    simp only [enterF] at e
    split at e
    · rename_i st pe fn' tm' sz' ps' as' bd' d0 hg
      cases e
      obtain ⟨b0, k0, hl0, hro⟩ := hrd
      obtain ⟨b2, k2, q1, q2, q3, tmps, db, kd, q4, q5, q6, q7⟩ := r.obj l0 _ hg
      rw [hl0] at q1; cases q1
      have a1 := act_new (n := n) (kap := 0) (o := .loop { state := .ready, pending := none, fn := fid, tmps := a.tmps, params := ps, assign := as, body := bd, defers := db }) (x := .loop .ready none fid tm sz ps as bd d0) r hB (hf n (by omega) (by omega)) ⟨a.tmps, db, kd, rfl, q5, hs, ht⟩
      refine ⟨_, w.heap.size, 0, [], _, ?_, by simp [ext], a1, ?_, ?_⟩
      · rw [hro, hfn]
        simp [Instr.enterLoop, Instr.getLoop, getObj, Sem.run, q4]
      · exact hd.sub a1.sub
      · intro i hi _
        rw [T.get_set, if_neg (by omega)]
    · cases e
/-- ONE FRAME, and with it every call -/
theorem evF_ok (hP : NoNum P) (hm : P.follows .mixedOrders = true) : ∀ (f : Nat) {fid : FuncId} {fd : Func} {sz n0 : Nat} {rd : Option Nat} {df : List Nat} {tm : T AV} {td : List Item} {h : Hp} {n : Nat} {u : List Nat} {v : AV} {h' : Hp} {n' : Nat} {u' : List Nat}, evF P G f fid fd sz n0 rd df tm td h n u = some (v, h', n', u') → (rd = none → P.funcs[fid]? = some fd) → ∀ {σ : Sg} {a : Act} {w : World}, TR σ tm a → a.tmps.size = sz → DfR σ df a.defers → Rel σ h B w → GR G B w → B ≤ w.heap.size → (∀ i, n ≤ i → i < n' → σ i = none) → n0 ≤ n → ∀ (b : Frame), b.fn = fid → b.kind = .normal → RdR σ rd b →
    (∀ h00, Kept h00 n0 n h u → Kept h00 n0 n' h' u') ∧ EndR P rd fid (b.atR a td) σ h n B w v h' n' := by
  intro f
  induction f with
  | zero => intro fid fd sz n0 rd df tm td h n u v h' n' u' e; cases e
  | succ f ih =>
    intro fid fd sz n0 rd df tm td h n u v h' n' u' e hfid σ a w ht hs hd r hG hB hf hn b hbf hbk hbr
    have hK : KOK P G B (evK P G f) := by
      intro t args h n v h' n' u e σ w args' r hG hB hf ha
      cases t with
      | fn g =>
        simp only [evK] at e
        split at e
        · rename_i gd hg
          split at e
          · rename_i c hc
            have hlen : args.length = args'.size := by have := ha.length; simpa using this
            obtain ⟨k1, k2⟩ := ih e (fun _ => hg) (listT_ok ha (gd.ntmps - args'.size)) (by simp [hlen]) .nil r hG hB hf (Nat.le_refl _) { (default : Frame) with fn := g, kind := .normal } rfl rfl rfl
            refine ⟨k1 h (Kept.refl _ _ _ _), fun cs => ?_⟩
            obtain ⟨fr, τ, w', v', s1, s2, s3, s4, s5⟩ := k2 cs
            have henter : Frame.enter P g args' .normal = ({ (default : Frame) with fn := g, kind := .normal } : Frame).atR { tmps := args' ++ Array.replicate (gd.ntmps - args'.size) undef, defers := [] } [.code c] := by
              simp [Frame.enter, Frame.atR, hg, hc]
              rfl
            refine ⟨.returned v', w', fr, ⟨τ, v', rfl, s4, s5⟩, ?_, s2, s3⟩
            rw [henter]; exact s1
          · cases e
        · cases e
      | yld i =>
        simp only [evK] at e
        split at e
        · rename_i st pe fn tm sz ps as bd d0 hg
          split at e
          · rename_i tm' hz
            obtain ⟨b2, k2, q1, q2, q3, tmps, db, kd, q4, q5, q6, q7⟩ := r.obj i _ hg
            obtain ⟨z1, z2, z3⟩ := zipT_ok hz ha (tmps := tmps) q7 q6
            obtain ⟨k1, k3⟩ := ih e (fun h => by cases h) z2 z3 .nil r hG hB hf (Nat.le_refl _) { (default : Frame) with fn := fn, kind := .normal, roundOf := some b2 } rfl rfl ⟨b2, k2, q1, rfl⟩
            refine ⟨k1 h (Kept.refl _ _ _ _), fun b k hbk => ?_⟩
            rw [q1] at hbk; cases hbk
            refine ⟨fn, (ps.toList.zip args'.toList).foldl (fun tmps (t, a) => tmps.setIfInBounds t a) tmps, as, bd, ?_, ?_⟩
            · have hsz : args'.size = ps.size := by simp at z1; omega
              have hfold : (ps.zip args').foldl (fun tmps (t, a) => tmps.setIfInBounds t a) tmps = (ps.toList.zip args'.toList).foldl (fun tmps (t, a) => tmps.setIfInBounds t a) tmps := by
                rw [← Array.foldl_toList, Array.toList_zip]
              simp only [Instr.yield, Instr.getLoop, getObj, Sem.run_bind, Sem.run, q4, Result.andThen_ok, Sem.run_pure, hsz, ne_eq, not_true_eq_false, if_false, hfold]
            · intro c cs
              obtain ⟨τ, w', v', s1, s2, s3⟩ := k3 c cs
              exact ⟨v', w', ⟨τ, s2, s3⟩, s1⟩
          · cases e
        · cases e
    have one : ∀ {td' : List Item}, evF P G f fid fd sz n0 rd df tm td' h n u = some (v, h', n', u') → (∀ (cs : List Frame), step P (lone (b.atR a td) cs w) = .next (lone (b.atR a td') cs w)) →
        (∀ h00, Kept h00 n0 n h u → Kept h00 n0 n' h' u') ∧ EndR P rd fid (b.atR a td) σ h n B w v h' n' := by
      intro td' e' hst
      obtain ⟨k1, k2⟩ := ih e' hfid ht hs hd r hG hB hf hn b hbf hbk hbr
      exact ⟨k1, EndR.via fun cs => ⟨_, σ, h, n, w, .one (hst cs), ActF.refl r, k2⟩⟩
    have leave : ∀ {jump : Option Code}, leaveF P fd n0 rd df tm h n u jump = some (v, h', n', u') → (b.roundOf = none → ∀ (cs : List Frame), step P (lone (b.atR a td) cs w) = .next (lone { b.atR a td with mode := .returning } cs w)) →
        (∀ b0 v1 w1, b.roundOf = some b0 → (Instr.endRound b0 jump).run P w = .ok v1 w1 → ∀ (c : Frame) (cs : List Frame), step P (lone (b.atR a td) (c :: cs) w) = .next (lone (c.finish v1) cs w1)) →
        (∀ h00, Kept h00 n0 n h u → Kept h00 n0 n' h' u') ∧ EndR P rd fid (b.atR a td) σ h n B w v h' n' := by
      intro jump e' hret hend
      cases rd with
      | none =>
        simp only [leaveF, evFin] at e'
        split at e'
        · rename_i h1 hta
          split at e'
          · rename_i vs hv
            cases e'
            obtain ⟨w1, q1, q2, q3⟩ := takeAll_ok (P := P) (n := n) hta hd r { b.atR a td with mode := .returning } rfl rfl
            obtain ⟨v', q4, q5⟩ := results_ok (a := a) ht q2.rel hv
            refine ⟨fun h00 k => k.step q3 hn (Nat.le_refl _), fun cs => ?_⟩
            exact ⟨_, σ, w1, v', .head (hret hbr cs) (q1 cs), hbf, ⟨rfl, rfl, hbk, fd, by show P.funcs[b.fn]? = _; rw [hbf]; exact hfid rfl, q4⟩, q5, q2⟩
          · cases e'
        · cases e'
      | some l =>
        simp only [leaveF] at e'
        obtain ⟨b0, k0, q1, q2⟩ := hbr
        obtain ⟨rfl, rfl, rfl, w1, p1, p2, p3⟩ := evEnd_ok (P := P) e' r q1
        exact ⟨fun h00 k => k.step p3 hn (Nat.le_refl _), fun c cs => ⟨σ, w1, _, .one (hend b0 _ w1 q2 p1 c cs), .c _, p2⟩⟩
    simp only [evF] at e
    split at e
    · exact leave e (fun h cs => stepR_end h) (fun b0 v1 w1 h1 h2 c cs => stepR_round_end h1 hbk h2)
    · exact one e fun cs => stepR_inBlock
    · exact one e fun cs => step_lone_go (by simp [stepG, stepG.exec, Frame.atR])
    · exact one e fun cs => stepR_inLoop
    · rename_i k
      split at e
      · rename_i l
        split at e
        · rename_i pe fn tm' sz' ps as bd d0 hg
          obtain ⟨b0, k0, q1, q2⟩ := hbr
          obtain ⟨b2, k2, p1, p2, p3, tmps, db, kd, p4, p5, p6, p7⟩ := r.obj l _ hg
          rw [q1] at p1; cases p1
          have hrun : (Instr.beginRound b0).run P w = .ok () { w with heap := w.heap.setIfInBounds b0 (.loop { state := .busy, pending := pe, fn := fn, tmps := tmps, params := ps, assign := as, body := bd, defers := db }) } := by
            simp [Instr.beginRound, Instr.getLoop, getObj, setObj, Sem.run, p4]
          have a1 := act_obj (n := n) (y := .loop .busy pe fn tm' sz' ps as bd d0) (ob := .loop { state := .busy, pending := pe, fn := fn, tmps := tmps, params := ps, assign := as, body := bd, defers := db }) r hg q1 ⟨tmps, db, kd, rfl, p5, p6, p7⟩
          obtain ⟨k1, k3⟩ := ih e hfid ht hs hd a1.rel (hG.step (a1.below r hB)) (Nat.le_trans hB a1.fr.size) hf hn b hbf hbk ⟨b0, k0, q1, q2⟩
          exact ⟨fun h00 kk => k1 h00 (kk.step kept_one hn (Nat.le_refl _)), EndR.via fun cs => ⟨_, σ, _, n, _, .one (stepR_beginRound q2 hrun), a1, k3⟩⟩
        · cases e
      · cases e
    · split at e
      · exact leave e (fun h cs => stepR_ret h) (fun b0 v1 w1 h1 h2 c cs => stepR_round_ret h1 hbk h2)
      · exact one e fun cs => stepR_skip
      · exact one e fun cs => stepR_label
      · exact one e fun cs => stepR_seq
      · rename_i c x y
        split at e
        · rename_i t hc
          have hv := ev_ok ht c
          rw [hc] at hv
          generalize hce : a.eval c = cv at hv
          cases hv
          exact one e fun cs => stepR_cond hce
        · cases e
      · exact one e fun cs => stepR_block
      · exact one e fun cs => stepR_loop
      · rename_i k _ id
        split at e
        · rename_i k' hk'; exact one e fun cs => stepR_exit hk'
        · rename_i hk'
          split at e
          · rename_i l
            exact leave (jump := some (.exit id)) e (fun h => by obtain ⟨b0, k0, q1, q2⟩ := hbr; rw [q2] at h; cases h) (fun b0 v1 w1 h1 h2 c cs => stepR_round_exit h1 hbk hk' h2)
          · cases e
      · rename_i k _ q
        split at e
        · rename_i k' hk'; exact one e fun cs => stepR_goto hk'
        · rename_i hk'
          split at e
          · rename_i l
            exact leave (jump := some (.goto q)) e (fun h => by obtain ⟨b0, k0, q1, q2⟩ := hbr; rw [q2] at h; cases h) (fun b0 v1 w1 h1 h2 c cs => stepR_round_goto h1 hbk hk' h2)
          · cases e
      · rename_i k _ id ops draw
        split at e
        · rename_i s hs'
          have hle2 := evF_le f e
          have hreg : (∀ cs, ∃ a' w' τ, TR τ s.tm a' ∧ Act1 σ h n B w τ s.h s.n w' ∧ a'.tmps.size = sz ∧ a'.defers = a.defers ∧ Steps P (lone (b.atR a (.code (.region id ops draw) :: k)) cs w) (lone (b.atR a' k) cs w')) ∧ n ≤ s.n ∧ (n0 ≤ n → ∀ h0, Kept h0 n0 n h u → Kept h0 n0 s.n s.h s.u) := by
            cases draw with
            | true =>
              have hle := runDraw_le hs'
              obtain ⟨q1, q2, q3⟩ := runDraw_ok (s := ⟨tm, h, n, u⟩) hP hK hm hs' hG hB (fun i h1 h2 => hf i h1 (by omega)) r ht hs (fun a' w' => ∃ τ, TR τ s.tm a' ∧ Act1 σ h n B w τ s.h s.n w' ∧ a'.tmps.size = sz ∧ a'.defers = a.defers) (fun a' w' τ t1 t2 t3 t4 => ⟨τ, t1, t2, t3, t4⟩)
              refine ⟨fun cs => ?_, q2, q3⟩
              obtain ⟨a', w', ⟨τ, t1, t2, t3, t4⟩, st⟩ := opsX_sound _ (q1 (w.tape w.drawn (.order b.fn id))) b k cs
              exact ⟨a', w', τ, t1, t2, t3, t4, .head stepR_region_draw st⟩
            | false =>
              have hle := runOps_le hs'
              obtain ⟨q1, q2⟩ := runOps_ok (s := ⟨tm, h, n, u⟩) hP hK hs' ht hs r hG hB (fun i h1 h2 => hf i h1 (by omega)) (fun a' w' => ∃ τ, TR τ s.tm a' ∧ Act1 σ h n B w τ s.h s.n w' ∧ a'.tmps.size = sz ∧ a'.defers = a.defers) (fun a' w' τ t1 t2 t3 t4 => ⟨τ, t1, t2, t3, t4⟩)
              refine ⟨fun cs => ?_, hle, q2⟩
              have q3 : opsX P ops (fun a' w' => ∃ τ, TR τ s.tm a' ∧ Act1 σ h n B w τ s.h s.n w' ∧ a'.tmps.size = sz ∧ a'.defers = a.defers) (List.range ops.size) a w := by
                rw [List.range_eq_range', ← Array.length_toList, opsX_eq ops.toList 0 (by simp)]; exact q1
              obtain ⟨a', w', ⟨τ, t1, t2, t3, t4⟩, st⟩ := opsX_sound _ q3 b k cs
              exact ⟨a', w', τ, t1, t2, t3, t4, .head stepR_region st⟩
          obtain ⟨w1, w2, w3⟩ := hreg
          have go := fun (a' : Act) (w' : World) (τ : Sg) (t1 : TR τ s.tm a') (t2 : Act1 σ h n B w τ s.h s.n w') (t3 : a'.tmps.size = sz) (t4 : a'.defers = a.defers) =>
            ih e hfid t1 t3 (by rw [t4]; exact hd.sub t2.sub) t2.rel (hG.step (t2.below r hB)) (Nat.le_trans hB t2.fr.size) (fun i hi hi2 => by
              cases hx : τ i with
              | none => rfl
              | some q =>
                rcases t2.dom i (by simp [hx]) with h | h
                · rw [hf i (by omega) hi2] at h; cases h
                · omega) (by omega : n0 ≤ s.n) b hbf hbk (hbr.sub t2.sub)
          refine ⟨?_, EndR.via fun cs => ?_⟩
          · obtain ⟨a', w', τ, t1, t2, t3, t4, _⟩ := w1 []
            exact fun h00 kk => (go a' w' τ t1 t2 t3 t4).1 h00 (w3 hn h00 kk)
          · obtain ⟨a', w', τ, t1, t2, t3, t4, st⟩ := w1 cs
            exact ⟨_, τ, s.h, s.n, w', st, t2, (go a' w' τ t1 t2 t3 t4).2⟩
        · cases e
      · rename_i k _ g ps as bd
        split at e
        · rename_i l df1 h1 n1 gf caps he hc
          split at e
          · rename_i v2 h2 n2 u2 hk
            split at e
            · rename_i st pe fn tm' sz' ps' as' bd' d0 hg
              cases hcc : (Nat.ble n1 n2 && !(decide (st = .busy))) with
              | false => rw [hcc] at e; cases e
              | true =>
                rw [hcc] at e
                simp only [cond] at e
                simp only [Bool.and_eq_true] at hcc
                have hn12 := Nat.le_of_ble_eq_true hcc.1
                have hnb : ¬ (st = LoopState.busy) := by simpa using hcc.2
                have hle := enterF_le he
                have hle2 := evF_le f e
                obtain ⟨τ, lb, kl, mark, w1, e1, e2, e3, e4, e5⟩ := enterF_ok (P := P) he ht hs hd r hB (fun i q1 q2 => hf i q1 (by omega)) hbf hbr
                obtain ⟨cap', hge, hcaps⟩ := calleeOf_ok hc (ev_ok ht g)
                have freeAt : ∀ {τ' : Sg} {hh : Hp} {m : Nat} {ww : World}, Act1 σ h n B w τ' hh m ww → ∀ i, m ≤ i → i < n' → τ' i = none := by
                  intro τ' hh m ww ac i q1 q2
                  cases hx : τ' i with
                  | none => rfl
                  | some q =>
                    rcases ac.dom i (by simp [hx]) with h | h
                    · have := ac.le; rw [hf i (by omega) q2] at h; cases h
                    · omega
                have hkv : VRs τ (.y l :: caps) (#[Value.func (.yield lb) #[] #[]] ++ cap').toList := by
                  simp only [Array.toList_append, List.cons_append, List.nil_append]
                  exact .cons (.y e2) (hcaps.sub e3.sub)
                have hGr := hG.step (e3.below r hB)
                have hB1 := Nat.le_trans hB e3.fr.size
                obtain ⟨k1, k2⟩ := hK (.fn gf) _ _ _ _ _ _ _ hk τ w1 _ e3.rel hGr hB1 (fun i q1 q2 => freeAt e3 i q1 (by omega)) hkv
                have hfun : ∃ gd c, P.funcs[gf]? = some gd ∧ gd.body = some c := by
                  split at hk
                  · rename_i gd hg2
                    split at hk
                    · rename_i c hc2; exact ⟨gd, c, hg2, hc2⟩
                    · cases hk
                  · cases hk
                obtain ⟨gd, c, hg2, hc2⟩ := hfun
                have hres : (resolve a.eval (rangeCall g lb) 0).run P w1 = .ok { target := .fn (.func gf) cap', args := #[Value.func (.yield lb) #[] #[]] } w1 := by
                  have hcst : a.eval (.const (Value.func (.yield lb) #[] #[])) = .func (.yield lb) #[] #[] := rfl
                  simp [resolve, hge, hcst, Deferred.ofValue]
                have hinv : (invoke (.fn (.func gf) cap') #[Value.func (.yield lb) #[] #[]]).run P w1 = .ok (.enter gf (#[Value.func (.yield lb) #[] #[]] ++ cap')) w1 := by
                  have := hP gf gd hg2
                  simp only [invoke, callFunc, Sem.run_bind, run_program, Result.andThen_ok, hg2, this, hc2, Bool.false_eq_true, if_false, Option.isNone_some, Sem.run_pure]
                have henter := fun cs => stepR_rangeFunc (P := P) (b := b) (a := a) (k := k) (cs := cs) (w := w) e1 hres hinv
                have back : ∀ cs, ∃ υ w3, Steps P (lone (b.atR a (.code (.rangeFunc g ps as bd) :: k)) cs w) (lone (b.atR { a with defers := mark ++ a.defers } ((pe.map Item.code).toList ++ k)) cs w3) ∧ Act1 σ h n B w υ (h2.set l (some (.loop .exhausted pe fn tm' sz' ps' as' bd' d0))) n2 w3 ∧ Sub τ υ := by
                  intro cs
                  obtain ⟨e9, w2, fr, ⟨υ, v', rfl, q1, q2⟩, hsteps, _, hleave⟩ := k2 (b.atR { a with defers := mark ++ a.defers } (.inRangeFunc lb :: k) :: cs)
                  obtain ⟨b2, kk2, p1, p2, p3, tmps, db, kd, p4, p5, p6, p7⟩ := q2.rel.obj l _ hg
                  have hlb := q2.sub _ _ e2
                  rw [hlb] at p1; cases p1
                  have hendl : (Instr.endLoop lb).run P w2 = .ok pe { w2 with heap := w2.heap.setIfInBounds lb (.loop { state := .exhausted, pending := pe, fn := fn, tmps := tmps, params := ps', assign := as', body := bd', defers := db }) } := by
                    simp [Instr.endLoop, Instr.getLoop, getObj, setObj, Sem.run, p4, hnb]
                  have a3 := act_obj (n := n2) (y := .loop .exhausted pe fn tm' sz' ps' as' bd' d0) (ob := .loop { state := .exhausted, pending := pe, fn := fn, tmps := tmps, params := ps', assign := as', body := bd', defers := db }) q2.rel hg hlb ⟨tmps, db, kd, rfl, p5, p6, p7⟩
                  refine ⟨υ, _, .head (henter cs) (Steps.trans hsteps (.head ?_ (.one (stepR_endRangeFunc hendl)))), (e3.trans q2).trans a3, q2.sub⟩
                  rw [← finish_atR_inRangeFunc lb v']; exact step_leave_returned hleave
                have go := fun (υ : Sg) (w3 : World) (ac : Act1 σ h n B w υ (h2.set l (some (.loop .exhausted pe fn tm' sz' ps' as' bd' d0))) n2 w3) (sb : Sub τ υ) =>
                  ih (a := { a with defers := mark ++ a.defers }) e hfid (fun t => (ht t).sub ac.sub) hs (e4.sub sb) ac.rel (hG.step (ac.below r hB)) (Nat.le_trans hB ac.fr.size) (freeAt ac) (by omega : n0 ≤ n2) b hbf hbk (hbr.sub ac.sub)
                refine ⟨?_, EndR.via fun cs => ?_⟩
                · obtain ⟨υ, w3, _, ac, sb⟩ := back []
                  refine fun h00 kk => (go υ w3 ac sb).1 h00 ?_
                  have s1 := kk.step e5 hn hle
                  have s2 := s1.step k1 (by omega) hn12
                  exact s2.step kept_one (by omega) (Nat.le_refl _)
                · obtain ⟨υ, w3, st, ac, sb⟩ := back cs
                  exact ⟨_, υ, _, n2, w3, st, ac, (go υ w3 ac sb).2⟩
            · cases e
          · cases e
        · cases e
      · cases e
    · cases e
/-- A CLOSED CALL: what the rules say, the program does, in whatever memory -/
theorem run_closed (hP : NoNum P) (hm : P.follows .mixedOrders = true) (f : Nat) {g : FuncId} {args : List Value} {v : Value} {h' : Hp} {n' : Nat} {u' : List Nat} (e : evK P G f (.fn g) (args.map .c) .nil 0 = some (.c v, h', n', u')) (w : World) (hG : GR G w.heap.size w) :
    Calls P g args.toArray w fun e w' => e = .returned v ∧ Below w.heap.size w w' := by
  have hr : Rel (fun _ => none) .nil w.heap.size w := ⟨fun i o h => by simp [T.get_nil] at h, fun i j b c d h => by simp [T.get_nil] at h⟩
  simp only [evK] at e
  split at e
  · rename_i gd hg
    split at e
    · rename_i c hc
      have ha : VRs (fun _ => none) (args.map .c) args.toArray.toList := VRs.cs _
      have hlen : (args.map AV.c).length = args.toArray.size := by simp
      obtain ⟨k1, k2⟩ := evF_ok (B := w.heap.size) hP hm f e (fun _ => hg) (listT_ok ha (gd.ntmps - args.toArray.size)) (by simp [hlen]) .nil hr hG (Nat.le_refl _) (fun i _ _ => rfl) (Nat.le_refl _) { (default : Frame) with fn := g, kind := .normal } rfl rfl rfl
      intro cs
      obtain ⟨fr, τ, w', v', s1, s2, s3, s4, s5⟩ := k2 cs
      have henter : Frame.enter P g args.toArray .normal = ({ (default : Frame) with fn := g, kind := .normal } : Frame).atR { tmps := args.toArray ++ Array.replicate (gd.ntmps - args.toArray.size) undef, defers := [] } [.code c] := by
        simp [Frame.enter, Frame.atR, hg, hc]
        rfl
      cases s4
      refine ⟨.returned v, w', fr, ⟨rfl, s5.below hr (Nat.le_refl _)⟩, ?_, s2, s3⟩
      rw [henter]; exact s1
    · cases e
  · cases e
end
end Go.Proofs.YtmimihjbepjnfaaGreatDoor
