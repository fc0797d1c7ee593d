/- Running a closed program text by its own rules: the same rules, written so that they are computed in small steps. No condition. -/
import Derived.Test.YtmimihjbepjnfaaGreatDoorEvR
namespace Go.Proofs.YtmimihjbepjnfaaGreatDoor
open Go Go.RowKit
set_option linter.unusedVariables false
structure Cx where
  fid : FuncId
  fd : Func
  sz : Nat
  n0 : Nat
  rd : Option Nat
abbrev ZT := Cx → List Nat → T AV → List Item → Hp → Nat → List Nat → Res
abbrev ZI := Program → Gl → ZT → ZT
abbrev ZO := Oper → Program → Gl → T AV → Hp → Nat → Option Out
/-- single operations -/
def zClosed : ZO := fun o P _ tm h n => evClosed P tm h n o
def zMove (x : Operand) : ZO := fun _ _ _ tm h n => evMove h n (ev tm x)
def zPick (c x y : Operand) : ZO := fun _ _ _ tm h n => evPick h n (ev tm c) (ev tm x) (ev tm y)
def zAlloc (t : TypeId) : ZO := fun _ P _ tm h n => evAlloc P h n t
def zBox (t : TypeId) (x : Operand) : ZO := fun _ _ _ tm h n => evBox h n t (ev tm x)
def zBuild (t : TypeId) (ps : Array (Nat × Operand)) : ZO := fun o P _ tm h n => orC (evClosed P tm h n o) (evBuild P h n t (ps.toList.map fun p => (p.1, ev tm p.2)))
def zBuildSlice (t : TypeId) (len : Nat) (ps : Array (Nat × Operand)) : ZO := fun o P _ tm h n => evBuildSlice P h n t len (ps.toList.map fun p => (p.1, ev tm p.2))
def zLoad (t : TypeId) (x : Operand) : ZO := fun _ P G tm h n => evLoad P G h n t (ev tm x)
def zStore (t : TypeId) (x y : Operand) : ZO := fun _ P _ tm h n => evStore P h n t (ev tm x) (ev tm y)
def zNilCheck (x : Operand) : ZO := fun o P _ tm h n => orC (evNilCheck h n (ev tm x)) (evClosed P tm h n o)
def zFieldAddr (s : TypeId) (x : Operand) (f : Nat) : ZO := fun o P _ tm h n => orC (evFieldAddr P h n s f (ev tm x)) (evClosed P tm h n o)
def zField (s : TypeId) (x : Operand) (f : Nat) : ZO := fun o P _ tm h n => orC (evField P h n s f (ev tm x)) (evClosed P tm h n o)
def zIndexAddr (t : TypeId) (x y : Operand) : ZO := fun o P _ tm h n => orC (evIndexAddr P h n t (ev tm x) (ev tm y)) (evClosed P tm h n o)
def zIndex (t : TypeId) (x y : Operand) : ZO := fun o P _ tm h n => orC (evIndex P h n t (ev tm x) (ev tm y)) (evClosed P tm h n o)
def zExtract (x : Operand) (i : Nat) : ZO := fun o P _ tm h n => orC (evExtract h n (ev tm x) i) (evClosed P tm h n o)
def zCall (c : Call) : ZO := fun o P _ tm h n => orC (evCallOp P tm h n c) (evClosed P tm h n o)
def zElse : ZO := fun o P G tm h n => evOp P G tm h n o
def zOpOf : Op → ZO
  | .move x => zMove x
  | .assign x => zMove x
  | .pick c x y => zPick c x y
  | .alloc t => zAlloc t
  | .box t x => zBox t x
  | .build t ps => zBuild t ps
  | .buildSlice t len ps => zBuildSlice t len ps
  | .load t x => zLoad t x
  | .store t x y => zStore t x y
  | .nilCheck x => zNilCheck x
  | .fieldAddr s x f => zFieldAddr s x f
  | .field s x f => zField s x f
  | .indexAddr t x y => zIndexAddr t x y
  | .index t x y => zIndex t x y
  | .extract x i => zExtract x i
  | .call c => zCall c
  | _ => zElse
def zOp : ZO := fun o P G tm h n => zOpOf o.op o P G tm h n
theorem zOp_eq (o : Oper) (P : Program) (G : Gl) (tm : T AV) (h : Hp) (n : Nat) : zOp o P G tm h n = evOp P G tm h n o := by
  unfold zOp zOpOf
  cases ho : o.op <;> first | rfl | (unfold evOp; rw [ho]; rfl)
/-- a region in the order of the text -/
def zPut (sz n0 : Nat) (o : Oper) (n : Nat) (u : List Nat) (tm : T AV) (v : AV) (h' : Hp) (n' : Nat) (u' : List Nat) : Option S1 :=
  cond (Nat.ble n n') ((putD sz o.dst v tm).map fun tm => ⟨tm, h', n', mrg n0 n' u u'⟩) none
def zRes (sz n0 : Nat) (o : Oper) (n : Nat) (u : List Nat) (tm : T AV) : Res → Option S1
  | some (v, h', n', u') => zPut sz n0 o n u tm v h' n' u'
  | none => none
def zOut (K : KT) (sz n0 : Nat) (o : Oper) (tm : T AV) (h : Hp) (n : Nat) (u : List Nat) : Option Out → Option S1
  | some (.val v h' n' u') => zPut sz n0 o n u tm v h' n' u'
  | some (.call f args) => zRes sz n0 o n u tm (K f args h n)
  | none => none
def zW (P : Program) (G : Gl) (K : KT) (sz n0 : Nat) (o : Oper) (tm : T AV) (h : Hp) (n : Nat) (u : List Nat) : Option Bool → Option S1
  | some true => zOut K sz n0 o tm h n u (zOp o P G tm h n)
  | some false => (putD sz o.dst (.c undef) tm).map fun tm => ⟨tm, h, n, u⟩
  | none => none
def zStep (P : Program) (G : Gl) (K : KT) (ops : Array Oper) (sz n0 : Nat) (o : Oper) (s : S1) : Option S1 :=
  S1.casesOn s fun tm h n u => zW P G K sz n0 o tm h n u (wA ops tm o)
theorem zStep_eq (P : Program) (G : Gl) (K : KT) (ops : Array Oper) (sz n0 : Nat) (o : Oper) (s : S1) : zStep P G K ops sz n0 o s = step1 P G K ops sz n0 o s := by
  cases s with
  | mk tm h n u =>
  show zW P G K sz n0 o tm h n u (wA ops tm o) = _
  unfold step1
  simp only
  cases wA ops tm o with
  | none => rfl
  | some b => cases b with
    | false => rfl
    | true =>
      simp only [zW, zOp_eq]
      cases evOp P G tm h n o with
      | none => rfl
      | some x => cases x with
        | val v h' n' u' => rfl
        | call f args =>
          simp only [zOut]
          cases K f args h n with
          | none => rfl
          | some y => rfl
def zGo (zRun : S1 → Option S1) : Option S1 → Option S1
  | some s => zRun s
  | none => none
def zRunOps (P : Program) (G : Gl) (K : KT) (ops : Array Oper) (sz n0 : Nat) : List Oper → S1 → Option S1
  | [] => some
  | o :: l => fun s => zGo (zRunOps P G K ops sz n0 l) (zStep P G K ops sz n0 o s)
theorem zRunOps_eq (P : Program) (G : Gl) (K : KT) (ops : Array Oper) (sz n0 : Nat) : ∀ (l : List Oper) (s : S1), zRunOps P G K ops sz n0 l s = runOps P G K ops sz n0 l s
  | [], s => rfl
  | o :: l, s => by
    show zGo _ (zStep P G K ops sz n0 o s) = _
    rw [zStep_eq]
    simp only [runOps]
    cases step1 P G K ops sz n0 o s with
    | none => rfl
    | some s' => exact zRunOps_eq P G K ops sz n0 l s'
/-- a region that draws its order -/
def zD5 (tj : T AV) (dst : Option Tmp) (h2 : Hp) (n : Nat) : Res → Option Rc
  | some (v, ho, n', u) => some ⟨tj, dst, v, h2, ho, n, n', u, none⟩
  | none => none
def zD4 (K : KT) (tj : T AV) (dst : Option Tmp) (h2 : Hp) (n : Nat) : Option Out → Option Rc
  | some (.call f args) => zD5 tj dst h2 n (K f args h2 n)
  | _ => none
def zD3 (P : Program) (G : Gl) (K : KT) (an : List Nat) (j : Nat) (o : Oper) (recs : List Rc) (h : Hp) (n : Nat) (tj : T AV) (ids : List Nat) (hi : Hp) : Option Out → Option Rc
  | some (.val v ho n' u) => some ⟨tj, o.dst, v, hi, ho, n, n', u, some ids⟩
  | some (.call _ _) => (fun h2 => zD4 K tj o.dst h2 n (zOp o P G tj h2 n)) (erAll an j recs 0 h)
  | none => none
def zD2 (P : Program) (G : Gl) (K : KT) (an : List Nat) (j : Nat) (o : Oper) (recs : List Rc) (h : Hp) (n : Nat) (tj : T AV) (ids : List Nat) (hi : Hp) : Option Rc :=
  zD3 P G K an j o recs h n tj ids hi (zOp o P G tj hi n)
def zD1 (P : Program) (G : Gl) (K : KT) (an : List Nat) (j : Nat) (o : Oper) (recs : List Rc) (h : Hp) (n : Nat) (tj : T AV) (ids : List Nat) : Option Rc :=
  zD2 P G K an j o recs h n tj ids (restr h ids .nil)
def zD0 (P : Program) (G : Gl) (K : KT) (an : List Nat) (j : Nat) (o : Oper) (recs : List Rc) (h : Hp) (n : Nat) (tj : T AV) : Option Bool → Option Rc
  | some true => zD1 P G K an j o recs h n tj ((o.op.operands.toList.flatMap fun x => avIds (ev tj x)).filter fun i => !touched an j recs 0 i)
  | some false => some ⟨tj, o.dst, .c undef, .nil, .nil, n, n, [], some []⟩
  | none => none
def zStepD (P : Program) (G : Gl) (K : KT) (ops : Array Oper) (an : List Nat) (j : Nat) (o : Oper) (recs : List Rc) (tm : T AV) (h : Hp) (n : Nat) : Option Rc :=
  (fun tj => zD0 P G K an j o recs h n tj (wA ops tj o)) (tjOf an ops j tm (o.looksAt ops) .nil)
theorem zStepD_eq (P : Program) (G : Gl) (K : KT) (ops : Array Oper) (an : List Nat) (j : Nat) (o : Oper) (recs : List Rc) (s : S1) : zStepD P G K ops an j o recs s.tm s.h s.n = stepD P G K ops an j o recs s := by
  unfold zStepD stepD
  simp only
  generalize tjOf an ops j s.tm (o.looksAt ops) .nil = tj
  cases wA ops tj o with
  | none => rfl
  | some b => cases b with
    | false => rfl
    | true =>
      simp only [zD0, zD1, zD2, zOp_eq]
      generalize ((o.op.operands.toList.flatMap fun x => avIds (ev tj x)).filter fun i => !touched an j recs 0 i) = ids
      generalize restr s.h ids .nil = hi
      cases evOp P G tj hi s.n o with
      | none => rfl
      | some x => cases x with
        | val v h' n' u' => rfl
        | call f args =>
          simp only [zD3, zOp_eq]
          cases evOp P G tj (erAll an j recs 0 s.h) s.n o with
          | none => rfl
          | some y => cases y with
            | val v h' n' u' => rfl
            | call f args =>
              simp only [zD4]
              cases K f args (erAll an j recs 0 s.h) s.n with
              | none => rfl
              | some z => rfl
abbrev ZG := List Rc → List (Nat × Nat) → T AV → Hp → Nat → List Nat → Option (List Rc × S1)
def zG3 (go : ZG) (n0 : Nat) (recs : List Rc) (al : List (Nat × Nat)) (h : Hp) (u : List Nat) (r : Rc) (ho : Hp) (n' : Nat) (u' : List Nat) (ids : List Nat) : Option (T AV) → Option (List Rc × S1)
  | some tm => go (recs ++ [r]) al tm (copyIds ho ids (copyIds ho u' h)) n' (mrg n0 n' u u')
  | none => none
def zG2b (go : ZG) (sz n0 : Nat) (dst : Option Tmp) (recs : List Rc) (tm : T AV) (h : Hp) (u : List Nat) (r : Rc) (v : AV) (ho : Hp) (rn rn' : Nat) (ru : List Nat) : Option (List (Nat × Nat)) → Option (List Rc × S1)
  | some al => zG3 go n0 recs al h u r ho rn' ru (List.range' rn (rn' - rn)) (putD sz dst v tm)
  | none => none
def zG2 (go : ZG) (P : Program) (G : Gl) (ops : Array Oper) (an : List Nat) (sz n0 j : Nat) (dst : Option Tmp) (recs : List Rc) (al : List (Nat × Nat)) (tm : T AV) (h : Hp) (u : List Nat) (r : Rc) : Option (List Rc × S1) :=
  Rc.casesOn r fun _ _ v _ ho rn rn' ru _ => cond (Nat.ble rn rn' && (ru.all fun i => Nat.blt i rn))
    (zG2b go sz n0 dst recs tm h u r v ho rn rn' ru (conf P G ops an j r recs ops.toList 0 al)) none
def zG1 (go : ZG) (P : Program) (G : Gl) (ops : Array Oper) (an : List Nat) (sz n0 j : Nat) (dst : Option Tmp) (recs : List Rc) (al : List (Nat × Nat)) (tm : T AV) (h : Hp) (u : List Nat) : Option Rc → Option (List Rc × S1)
  | some r => zG2 go P G ops an sz n0 j dst recs al tm h u r
  | none => none
def zGoD (P : Program) (G : Gl) (K : KT) (ops : Array Oper) (an : List Nat) (sz n0 : Nat) : List Oper → Nat → ZG
  | [], _ => fun recs al tm h n u => some (recs, ⟨tm, h, n, u⟩)
  | o :: l, j => fun recs al tm h n u => zG1 (zGoD P G K ops an sz n0 l (Nat.add j 1)) P G ops an sz n0 j o.dst recs al tm h u (zStepD P G K ops an j o recs tm h n)
theorem zGoD_eq (P : Program) (G : Gl) (K : KT) (ops : Array Oper) (an : List Nat) (sz n0 : Nat) : ∀ (l : List Oper) (j : Nat) (recs : List Rc) (al : List (Nat × Nat)) (s : S1), zGoD P G K ops an sz n0 l j recs al s.tm s.h s.n s.u = goD P G K ops an sz n0 l j recs al s
  | [], j, recs, al, s => rfl
  | o :: l, j, recs, al, s => by
    show zG1 _ P G ops an sz n0 j o.dst recs al s.tm s.h s.u (zStepD P G K ops an j o recs s.tm s.h s.n) = _
    rw [zStepD_eq]
    simp only [goD]
    cases stepD P G K ops an j o recs s with
    | none => rfl
    | some r =>
      simp only [zG1]
      cases hr : r with
      | mk tj dst v hi ho rn rn' ru ft =>
      simp only [zG2, newIds]
      cases (Nat.ble rn rn' && (ru.all fun i => Nat.blt i rn)) with
      | false => rfl
      | true =>
        simp only [cond]
        cases conf P G ops an j ⟨tj, dst, v, hi, ho, rn, rn', ru, ft⟩ recs ops.toList 0 al with
        | none => rfl
        | some al2 =>
          simp only [zG2b]
          cases putD sz o.dst v s.tm with
          | none => rfl
          | some tm => exact zGoD_eq P G K ops an sz n0 l (j + 1) (recs ++ [_]) al2 ⟨tm, _, _, _⟩
def zDraw (P : Program) (G : Gl) (K : KT) (ops : Array Oper) (an : List Nat) (sz n0 : Nat) (s : S1) : Option S1 :=
  cond (ancOk an ops.toList 0 && onceOk ops.toList) ((zGoD P G K ops an sz n0 ops.toList 0 [] [] s.tm s.h s.n s.u).map (·.2)) none
theorem zDraw_eq (P : Program) (G : Gl) (K : KT) (ops : Array Oper) (sz n0 : Nat) (s : S1) : zDraw P G K ops (ancAll ops.toList []) sz n0 s = runDraw P G K ops sz n0 s := by
  unfold zDraw runDraw
  simp only [zGoD_eq]
/-- a frame -/
def zK (P : Program) (ih : ZT) : KT := fun t args h n => match t with
  | .fn g => match P.funcs[g]? with
    | some fd => match fd.body with
      | some c => ih ⟨g, fd, args.length + (fd.ntmps - args.length), n, none⟩ [] (listT args 0 .nil) [.code c] h n []
      | none => none
    | none => none
  | .yld i => match h.get i with
    | some (.loop _ _ fn tm sz ps as bd _) => match zipT sz ps.toList args tm with
      | some tm' => ih ⟨fn, default, sz, n, some i⟩ [] tm' [.code as, .beginRound, .code bd] h n []
      | none => none
    | _ => none
def zSkip : ZI := fun _ _ ih C df tm k h n u => ih C df tm k h n u
def zInLoop (c : Code) : ZI := fun _ _ ih C df tm k h n u => ih C df tm (.code c :: .inLoop c :: k) h n u
def zBegin : ZI := fun _ _ ih C df tm k h n u => match C.rd with
  | some l => match h.get l with
    | some (.loop .ready pe fn tm' sz' ps as bd d0) => ih C df tm k (h.set l (some (.loop .busy pe fn tm' sz' ps as bd d0))) n (mrg C.n0 n u [l])
    | _ => none
  | none => none
def zRet : ZI := fun P _ _ C df tm _ h n u => leaveF P C.fd C.n0 C.rd df tm h n u (some .ret)
def zSeq (x y : Code) : ZI := fun _ _ ih C df tm k h n u => ih C df tm (.code x :: .code y :: k) h n u
def zIf (x y : Code) (ih : Code → Res) : AV → Res
  | .c (.bool t) => Bool.casesOn t (ih y) (ih x)
  | _ => none
def zCond (c : Operand) (x y : Code) : ZI := fun _ _ ih C df tm k h n u => zIf x y (fun z => ih C df tm (.code z :: k) h n u) (ev tm c)
def zBlock (id : Nat) (c : Code) : ZI := fun _ _ ih C df tm k h n u => ih C df tm (.code c :: .inBlock id :: k) h n u
def zExit (id : Nat) : ZI := fun _ _ ih C df tm k h n u => match exitTo id k with
  | some k' => ih C df tm k' h n u
  | none => match C.rd with
    | some l => evEnd C.n0 l (some (.exit id)) h n u
    | none => none
def zGoto (q : Nat) : ZI := fun _ _ ih C df tm k h n u => match gotoIn q k with
  | some k' => ih C df tm k' h n u
  | none => match C.rd with
    | some l => evEnd C.n0 l (some (.goto q)) h n u
    | none => none
def zThen (ih : ZT) (C : Cx) (df : List Nat) (k : List Item) : Option S1 → Res
  | some s => S1.casesOn s fun tm h n u => ih C df tm k h n u
  | none => none
def zText (ops : Array Oper) : ZI := fun P G ih C df tm k h n u => zThen ih C df k (zRunOps P G (zK P ih) ops C.sz C.n0 ops.toList ⟨tm, h, n, u⟩)
def zDrawn (ops : Array Oper) : ZI := fun P G ih C df tm k h n u => zThen ih C df k (zDraw P G (zK P ih) ops (ancAll ops.toList []) C.sz C.n0 ⟨tm, h, n, u⟩)
def zRange (g : Operand) (ps : Array Tmp) (as bd : Code) : ZI := fun P G ih C df tm k h n u => match enterF C.rd df C.fid tm C.sz ps as bd h n, calleeOf (ev tm g) with
  | some (l, df1, h1, n1), some (gf, caps) => match zK P ih (.fn gf) (.y l :: caps) h1 n1 with
    | some (_, h2, n2, u2) => match h2.get l with
      | some (.loop st pe fn tm' sz' ps' as' bd' d0) => cond (Nat.ble n1 n2 && !(decide (st = .busy)))
        (ih C df1 tm ((pe.map Item.code).toList ++ k) (h2.set l (some (.loop .exhausted pe fn tm' sz' ps' as' bd' d0))) n2 (mrg C.n0 n2 (mrg C.n0 n2 u u2) [l])) none
      | _ => none
    | none => none
  | _, _ => none
def zNo : ZI := fun _ _ _ _ _ _ _ _ _ _ => none
def zCode : Code → ZI
  | .ret => zRet
  | .skip => zSkip
  | .label _ => zSkip
  | .seq x y => zSeq x y
  | .cond c x y => zCond c x y
  | .block id c => zBlock id c
  | .loop c => zInLoop c
  | .exit id => zExit id
  | .goto q => zGoto q
  | .region _ ops draw => Bool.casesOn draw (zText ops) (zDrawn ops)
  | .rangeFunc g ps as bd => zRange g ps as bd
  | _ => zNo
def zItem : Item → ZI
  | .code c => zCode c
  | .inBlock _ => zSkip
  | .inScope _ => zSkip
  | .inLoop c => zInLoop c
  | .beginRound => zBegin
  | _ => zNo
def zDo (P : Program) (G : Gl) (ih : ZT) : ZT := fun C df tm td h n u => match td with
  | i :: k => zItem i P G ih C df tm k h n u
  | [] => leaveF P C.fd C.n0 C.rd df tm h n u none
def zF (P : Program) (G : Gl) (f : Nat) : ZT := Nat.rec (motive := fun _ => ZT) (fun _ _ _ _ _ _ _ => none) (fun _ ih => zDo P G ih) f
def zzK (P : Program) (G : Gl) (f : Nat) : KT := zK P (zF P G f)
theorem zK_evK {P : Program} {G : Gl} {f : Nat} (e : ∀ (C : Cx) (df : List Nat) (tm : T AV) (td : List Item) (h : Hp) (n : Nat) (u : List Nat), zF P G f C df tm td h n u = evF P G f C.fid C.fd C.sz C.n0 C.rd df tm td h n u) : zK P (zF P G f) = evK P G f := by
  funext t args h n
  unfold zK evK
  simp only [e]
  rfl
theorem zF_eq (P : Program) (G : Gl) : ∀ (f : Nat) (C : Cx) (df : List Nat) (tm : T AV) (td : List Item) (h : Hp) (n : Nat) (u : List Nat), zF P G f C df tm td h n u = evF P G f C.fid C.fd C.sz C.n0 C.rd df tm td h n u
  | 0, C, df, tm, td, h, n, u => rfl
  | f + 1, C, df, tm, td, h, n, u => by
    have ih := zF_eq P G f
    have hK := zK_evK ih
    show zDo P G (zF P G f) C df tm td h n u = _
    simp only [evF, zDo]
    cases td with
    | nil => rfl
    | cons i k =>
      cases i with
      | code c =>
        cases c with
        | cond c x y =>
          simp only [zItem, zCode, zCond, ih]
          cases ev tm c with
          | c v => cases v with
            | bool t => cases t <;> rfl
            | _ => rfl
          | _ => rfl
        | region id ops draw =>
          cases draw with
          | false =>
            simp only [zItem, zCode, zText, cond, zRunOps_eq, hK]
            show zThen _ C df k (runOps P G (evK P G f) ops C.sz C.n0 ops.toList ⟨tm, h, n, u⟩) = match runOps P G (evK P G f) ops C.sz C.n0 ops.toList ⟨tm, h, n, u⟩ with | some s => _ | none => _
            cases runOps P G (evK P G f) ops C.sz C.n0 ops.toList ⟨tm, h, n, u⟩ with
            | none => rfl
            | some s => exact ih C df s.tm k s.h s.n s.u
          | true =>
            simp only [zItem, zCode, zDrawn, cond, zDraw_eq, hK]
            show zThen _ C df k (runDraw P G (evK P G f) ops C.sz C.n0 ⟨tm, h, n, u⟩) = match runDraw P G (evK P G f) ops C.sz C.n0 ⟨tm, h, n, u⟩ with | some s => _ | none => _
            cases runDraw P G (evK P G f) ops C.sz C.n0 ⟨tm, h, n, u⟩ with
            | none => rfl
            | some s => exact ih C df s.tm k s.h s.n s.u
        | rangeFunc g ps as bd =>
          simp only [zItem, zCode, zRange, hK, ih]
          rfl
        | _ => simp only [zItem, zCode, zSkip, zRet, zSeq, zBlock, zInLoop, zExit, zGoto, zNo, ih] <;> rfl
      | beginRound =>
        simp only [zItem, zBegin, ih] <;> rfl
      | _ => simp only [zItem, zSkip, zInLoop, zNo, ih] <;> rfl
theorem zzK_eq (P : Program) (G : Gl) (f : Nat) : zzK P G f = evK P G f := zK_evK (zF_eq P G f)
/-- a closed call, by the small steps -/
theorem run_closed2 {P : Program} {G : Gl} (hP : NoNum P) (hm : P.follows .mixedOrders = true) (f : Nat) {g : FuncId} {args : List Value} {v : Value} {h' : Hp} {n' : Nat} {u' : List Nat} (e : zzK P G f (.fn g) (args.map .c) .nil 0 = some (.c v, h', n', u')) (w : World) (hG : GR G w.heap.size w) :
    Calls P g args.toArray w fun e w' => e = .returned v ∧ Below w.heap.size w w' := run_closed hP hm f (by rw [← zzK_eq]; exact e) w hG
end Go.Proofs.YtmimihjbepjnfaaGreatDoor
