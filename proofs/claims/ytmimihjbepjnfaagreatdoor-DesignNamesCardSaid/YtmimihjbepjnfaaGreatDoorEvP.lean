/- Running a closed program text by its own rules: a whole call. No condition. -/
import Derived.Test.YtmimihjbepjnfaaGreatDoorEvO
import Derived.RangeFuncIn
namespace Go.Proofs.YtmimihjbepjnfaaGreatDoor
open Go Go.RowKit
set_option linter.unusedVariables false
def evRes (P : Program) (tm : T AV) (h : Hp) : List ResultVar → Option (List AV)
  | [] => some []
  | .tmp t :: l => match evRes P tm h l with
    | some vs => some ((tm.get t).getD .q :: vs)
    | none => none
  | .cell t ty :: l => match cellsAt (fun _ => none) h ((tm.get t).getD .q) with
    | some (lc, off) => match loadAs P ty lc off, evRes P tm h l with
      | some v, some vs => some (v :: vs)
      | _, _ => none
    | none => none
def resF (tmps : Array Value) : ResultVar → Sem Value
  | .tmp t => pure (tmps.getD t undef)
  | .cell c t => do loadVar t (← asAddr (tmps.getD c undef))
theorem evRes_ok {P : Program} {tm : T AV} {h : Hp} {σ : Sg} {a : Act} {w : World} {B : Nat} (ht : TR σ tm a) (r : Rel σ h B w) : ∀ {l : List ResultVar} {vs : List AV}, evRes P tm h l = some vs → ∃ us, (l.mapM (resF a.tmps)).run P w = .ok us w ∧ VRs σ vs us
  | [], vs, e => by cases e; exact ⟨[], by simp, .nil⟩
  | .tmp t :: l, vs, e => by
    simp only [evRes] at e
    split at e
    · rename_i vs' h1
      cases e
      obtain ⟨us, k1, k2⟩ := evRes_ok ht r h1
      exact ⟨_ :: us, by simp only [List.mapM_cons, resF, Sem.run_bind, Sem.run_pure, Result.andThen_ok, k1], .cons (ht t) k2⟩
    · cases e
  | .cell t ty :: l, vs, e => by
    simp only [evRes] at e
    split at e
    · rename_i lc off h1
      split at e
      · rename_i v vs' h2 h3
        cases e
        obtain ⟨us, k1, k2⟩ := evRes_ok ht r h3
        obtain ⟨b, hb, hc⟩ := cellsAt_ok (G := fun _ => none) r (fun g l h => by cases h) (ht t) h1
        obtain ⟨u', q1, q2⟩ := loadAs_ok (P := P) hc h2
        have hone : (resF a.tmps (.cell t ty)).run P w = .ok u' w := by
          simp only [resF, hb, asAddr, Sem.run_bind, Sem.run_pure, Result.andThen_ok, q1]
        exact ⟨u' :: us, by simp only [List.mapM_cons, hone, Sem.run_bind, Sem.run_pure, Result.andThen_ok, k1], .cons q2 k2⟩
      · cases e
    · cases e
def mkR : List AV → AV
  | [x] => x
  | l => mkT l
theorem results_ok {P : Program} {tm : T AV} {h : Hp} {σ : Sg} {a : Act} {w : World} {B : Nat} {fd : Func} (ht : TR σ tm a) (r : Rel σ h B w) {vs : List AV} (e : evRes P tm h fd.results.toList = some vs) : ∃ v', (results fd a.tmps).run P w = .ok v' w ∧ VR σ (mkR vs) v' := by
  obtain ⟨us, h1, h2⟩ := evRes_ok ht r e
  refine ⟨if h : us.toArray.size = 1 then us.toArray[0] else .tuple us.toArray, ?_, ?_⟩
  · show (do let vs ← fd.results.mapM (resF a.tmps); pure (if h : vs.size = 1 then vs[0] else .tuple vs) : Sem Value).run P w = _
    rw [Sem.run_bind, Array.mapM_eq_mapM_toList, Sem.run_map, h1]
    simp only [Result.andThen_ok, Sem.run_pure]
  · cases h2 with
    | nil => simp [mkR]; exact mkT_ok .nil
    | cons a1 b1 => cases b1 with
      | nil => simp [mkR]; exact a1
      | cons a2 b2 =>
        simp only [mkR]
        rw [dif_neg (by simp)]
        exact mkT_ok (.cons a1 (.cons a2 b2))
def listT : List AV → Nat → T AV → T AV
  | [], _, t => t
  | x :: l, k, t => listT l (k + 1) (t.set k (some x))
theorem listT_get : ∀ {l : List AV} {k : Nat} {t : T AV} {i : Nat} {x : AV}, (listT l k t).get i = some x → (k ≤ i ∧ l[i - k]? = some x) ∨ t.get i = some x
  | [], k, t, i, x, e => .inr e
  | y :: l, k, t, i, x, e => by
    simp only [listT] at e
    rcases listT_get e with ⟨h1, h2⟩ | h1
    · exact .inl ⟨by omega, by rw [show i - k = (i - (k + 1)) + 1 by omega]; simpa using h2⟩
    · rw [T.get_set] at h1
      split at h1
      · rename_i hi; subst hi; exact .inl ⟨Nat.le_refl _, by simpa using h1⟩
      · exact .inr h1
theorem listT_ok {σ : Sg} {l : List AV} {args : Array Value} (h : VRs σ l args.toList) (k : Nat) : TR σ (listT l 0 .nil) { tmps := args ++ Array.replicate k undef, defers := [] } := by
  intro t
  cases hx : (listT l 0 .nil).get t with
  | none => exact .q
  | some x =>
    rcases listT_get hx with ⟨_, h2⟩ | h2
    · rw [Nat.sub_zero] at h2
      obtain ⟨v, hv, hr⟩ := h.get h2
      have hlt : t < args.size := by
        rcases Nat.lt_or_ge t args.size with h | h
        · exact h
        · rw [List.getElem?_eq_none (by simpa using h)] at hv; cases hv
      simp only [Option.getD_some, Array.getD_eq_getD_getElem?]
      rw [Array.getElem?_append_left hlt]
      rw [Array.getElem?_toList] at hv
      rw [hv]; exact hr
    · cases h2
abbrev Res := Option (AV × Hp × Nat × List Nat)
/-- the blocks for deferred calls, taken at a frame's end -/
def takeAll : List Nat → Hp → Option Hp
  | [], h => some h
  | d :: l, h => match h.get d with
    | some (.dfr true) => takeAll l (h.set d (some (.dfr false)))
    | _ => none
def evFin (P : Program) (fd : Func) (n0 : Nat) (df : List Nat) (tm : T AV) (h : Hp) (n : Nat) (u : List Nat) : Res :=
  match takeAll df h with
  | some h1 => match evRes P tm h1 fd.results.toList with
    | some vs => some (mkR vs, h1, n, mrg n0 n u df)
    | none => none
  | none => none
def evEnd (n0 : Nat) (l : Nat) (jump : Option Code) (h : Hp) (n : Nat) (u : List Nat) : Res :=
  match h.get l with
  | some (.loop _ _ fn tm sz ps as bd df) => some (.c (.bool jump.isNone), h.set l (some (.loop (if jump.isNone then .ready else .done) jump fn tm sz ps as bd df)), n, mrg n0 n u [l])
  | _ => none
def leaveF (P : Program) (fd : Func) (n0 : Nat) (rd : Option Nat) (df : List Nat) (tm : T AV) (h : Hp) (n : Nat) (u : List Nat) (jump : Option Code) : Res :=
  match rd with
  | none => evFin P fd n0 df tm h n u
  | some l => evEnd n0 l jump h n u
def zipT (sz : Nat) : List Tmp → List AV → T AV → Option (T AV)
  | [], [], t => some t
  | d :: l, x :: l', t => cond (Nat.blt d sz) (zipT sz l l' (t.set d (some x))) none
  | _, _, _ => none
/-- a range over a function, entered: the loop's name, the block's name -/
def enterF (rd : Option Nat) (df : List Nat) (fid : FuncId) (tm : T AV) (sz : Nat) (ps : Array Tmp) (as bd : Code) (h : Hp) (n : Nat) : Option (Nat × List Nat × Hp × Nat) :=
  match rd with
  | none => some (n + 1, n :: df, (h.set n (some (.dfr true))).set (n + 1) (some (.loop .ready none fid tm sz ps as bd n)), n + 2)
  | some l0 => match h.get l0 with
    | some (.loop _ _ _ _ _ _ _ _ d0) => some (n, df, h.set n (some (.loop .ready none fid tm sz ps as bd d0)), n + 1)
    | _ => none
def calleeOf : AV → Option (FuncId × List AV)
  | .f (.func g) l => some (g, l)
  | .c (.func (.func g) first cap) => cond first.isEmpty (some (g, cap.toList.map .c)) none
  | _ => none
def evF (P : Program) (G : Gl) : Nat → FuncId → Func → Nat → Nat → Option Nat → List Nat → T AV → List Item → Hp → Nat → List Nat → Res
  | 0, _, _, _, _, _, _, _, _, _, _, _ => none
  | f + 1, fid, fd, sz, n0, rd, df, tm, td, h, n, u =>
    (fun (K : KT) => match td with
    | [] => leaveF P fd n0 rd df tm h n u none
    | .inBlock _ :: k => evF P G f fid fd sz n0 rd df tm k h n u
    | .inScope _ :: k => evF P G f fid fd sz n0 rd df tm k h n u
    | .inLoop c :: k => evF P G f fid fd sz n0 rd df tm (.code c :: .inLoop c :: k) h n u
    | .beginRound :: k => match rd with
      | some l => match h.get l with
        | some (.loop .ready pe fn tm' sz' ps as bd d0) => evF P G f fid fd sz n0 rd df tm k (h.set l (some (.loop .busy pe fn tm' sz' ps as bd d0))) n (mrg n0 n u [l])
        | _ => none
      | none => none
    | .code c :: k => match c with
      | .ret => leaveF P fd n0 rd df tm h n u (some .ret)
      | .skip => evF P G f fid fd sz n0 rd df tm k h n u
      | .label _ => evF P G f fid fd sz n0 rd df tm k h n u
      | .seq x y => evF P G f fid fd sz n0 rd df tm (.code x :: .code y :: k) h n u
      | .cond c x y => match ev tm c with
        | .c (.bool t) => evF P G f fid fd sz n0 rd df tm (.code (if t then x else y) :: k) h n u
        | _ => none
      | .block id c => evF P G f fid fd sz n0 rd df tm (.code c :: .inBlock id :: k) h n u
      | .loop c => evF P G f fid fd sz n0 rd df tm (.code c :: .inLoop c :: k) h n u
      | .exit id => match exitTo id k with
        | some k' => evF P G f fid fd sz n0 rd df tm k' h n u
        | none => match rd with
          | some l => evEnd n0 l (some (.exit id)) h n u
          | none => none
      | .goto q => match gotoIn q k with
        | some k' => evF P G f fid fd sz n0 rd df tm k' h n u
        | none => match rd with
          | some l => evEnd n0 l (some (.goto q)) h n u
          | none => none
      | .region _ ops draw => match (cond draw (runDraw P G K ops sz n0 ⟨tm, h, n, u⟩) (runOps P G K ops sz n0 ops.toList ⟨tm, h, n, u⟩)) with
        | some s => evF P G f fid fd sz n0 rd df s.tm k s.h s.n s.u
        | none => none
      | .rangeFunc g ps as bd => match enterF rd df fid tm sz ps as bd h n, calleeOf (ev tm g) with
        | some (l, df1, h1, n1), some (gf, caps) => match K (.fn gf) (.y l :: caps) h1 n1 with
          | some (_, h2, n2, u2) => match h2.get l with
            | some (.loop st pe fn tm' sz' ps' as' bd' d0) => cond (Nat.ble n1 n2 && !(decide (st = .busy)))
              (evF P G f fid fd sz n0 rd df1 tm ((pe.map Item.code).toList ++ k) (h2.set l (some (.loop .exhausted pe fn tm' sz' ps' as' bd' d0))) n2 (mrg n0 n2 (mrg n0 n2 u u2) [l])) none
            | _ => none
          | none => none
        | _, _ => none
      | _ => none
    | _ => none) (fun t args h n => match t with
      | .fn g => match P.funcs[g]? with
        | some fd => match fd.body with
          | some c => evF P G f g fd (args.length + (fd.ntmps - args.length)) n none [] (listT args 0 .nil) [.code c] h n []
          | none => none
        | none => none
      | .yld i => match h.get i with
        | some (.loop _ _ fn tm sz ps as bd _) => match zipT sz ps.toList args tm with
          | some tm' => evF P G f fn default sz n (some i) [] tm' [.code as, .beginRound, .code bd] h n []
          | none => none
        | _ => none)
def evK (P : Program) (G : Gl) (f : Nat) : KT := fun t args h n => match t with
      | .fn g => match P.funcs[g]? with
        | some fd => match fd.body with
          | some c => evF P G f g fd (args.length + (fd.ntmps - args.length)) n none [] (listT args 0 .nil) [.code c] h n []
          | none => none
        | none => none
      | .yld i => match h.get i with
        | some (.loop _ _ fn tm sz ps as bd _) => match zipT sz ps.toList args tm with
          | some tm' => evF P G f fn default sz n (some i) [] tm' [.code as, .beginRound, .code bd] h n []
          | none => none
        | _ => none
end Go.Proofs.YtmimihjbepjnfaaGreatDoor
