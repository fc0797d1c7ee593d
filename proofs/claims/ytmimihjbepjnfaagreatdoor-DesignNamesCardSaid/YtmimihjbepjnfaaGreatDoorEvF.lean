/- Running a closed program text by its own rules: append, second half. No condition. -/
import Derived.Test.YtmimihjbepjnfaaGreatDoorEvE
namespace Go.Proofs.YtmimihjbepjnfaaGreatDoor
open Go Go.RowKit
set_option linter.unusedVariables false
section ops
variable {P : Program} {tm : T AV} {h : Hp} {n B : Nat} {o : Oper} {σ : Sg} {a : Act} {w : World}
theorem append_ts {ts : Array TypeId} {t0 t1 ty : TypeId} {args : Array Value} (h0 : ts[0]? = some t0) (h1 : ts[1]? = some t1) : Builtin.append_ ts ty args = Builtin.append_ #[t0, t1] ty args := by
  simp only [Builtin.append_, h0, h1, List.getElem?_toArray, List.getElem?_cons_zero, List.getElem?_cons_succ]
theorem RelF.world {σ : Sg} {g : Nat → Option AO} {B : Nat} {w w' : World} (r : RelF σ g B w) (e : w'.heap = w.heap) : RelF σ g B w' :=
  ⟨fun i o ho => by rw [e]; exact r.obj i o ho, r.inj⟩
theorem act_drew (r : Rel σ h B w) (d : Nat) : Act1 σ h n B w σ h n { w with drawn := d } :=
  ⟨Nat.le_refl _, Sub.refl _, fun i hi => .inl hi, r.world rfl, ⟨rfl, rfl, rfl, Nat.le_refl _, fun _ _ _ => rfl⟩, fun i b k hi hb => .inr ⟨i, k, hi, hb⟩⟩
theorem act_drop (r : Rel σ h B w) (i : Nat) : Act1 σ h n B w σ (h.set i none) n w where
  le := Nat.le_refl _
  sub := Sub.refl _
  dom := fun i hi => .inl hi
  rel := ⟨fun j o ho => by
      rw [T.get_set] at ho
      split at ho
      · cases ho
      · exact r.obj j o ho, fun j k b c d hj hk e1 e2 => by
      rw [T.get_set] at hj hk
      split at hj
      · cases hj
      · split at hk
        · cases hk
        · exact r.inj j k b c d hj hk e1 e2⟩
  fr := Fr.refl _ _ _
  src := fun j b k hj hb => by
    rw [T.get_set] at hj
    split at hj
    · cases hj
    · exact .inr ⟨j, k, hj, hb⟩
theorem splice_ok {l ys : List AV} {arr : List Value} {us : List Value} {off : Nat} (h5 : VRs σ l (arr.take l.length)) (hy : VRs σ ys us) (h1 : off + ys.length ≤ l.length) (h6 : l.length ≤ arr.length) :
    VRs σ (l.take off ++ ys ++ l.drop (off + ys.length)) ((arr.take off ++ us ++ arr.drop (off + us.length)).take (l.take off ++ ys ++ l.drop (off + ys.length)).length) := by
  have hlen := hy.length
  have hl2 : (l.take off ++ ys ++ l.drop (off + ys.length)).length = l.length := by simp; omega
  rw [hl2]
  have e1 : (List.take off arr ++ us ++ List.drop (off + us.length) arr).take l.length = (arr.take l.length).take off ++ us ++ (arr.take l.length).drop (off + us.length) := by
    apply List.ext_getElem?
    intro j
    simp only [List.getElem?_take, List.getElem?_append, List.length_append, List.length_take, List.getElem?_drop]
    have m1 : min off arr.length = off := by omega
    have m2 : min off (min l.length arr.length) = off := by omega
    simp only [m1, m2]
    by_cases q1 : j < l.length
    · simp only [q1, if_true]
      by_cases q2 : j < off + us.length
      · simp only [q2, if_true]
      · simp only [q2, if_false]
        rw [if_pos (by omega)]
    · simp only [q1, if_false]
      rw [if_neg (by omega)]
      symm
      rw [if_neg (by omega)]
  rw [e1, ← hlen]
  exact ((h5.take off).append hy).append (h5.drop (off + ys.length))
/-- grown elsewhere -/
theorem far_out (r : Rel σ h B w) (hB : B ≤ w.heap.size) (hn : σ n = none) {xs ys : List AV} {olds news rest : List Value} (hx : VRs σ xs olds) (hy : VRs σ ys news) {el : TypeId} {k kap need : Nat} (hk : need ≤ kap) (hl : (olds ++ news ++ rest).length = kap * k) (d : Nat) :
    VR (ext σ n (w.heap.size, kap)) (.s n 0 need .all) (.slice (some ⟨w.heap.size, 0, none⟩) need kap) ∧
    Act1 σ h n B w (ext σ n (w.heap.size, kap)) (h.set n (some (.cells (xs ++ ys) el (some k)))) (n + 1) (({ w with drawn := d } : World).alloc (.cells (olds ++ news ++ rest).toArray el)) := by
  have a1 := act_drew (n := n) r d
  have a2 := act_new (n := n) (kap := kap) (o := .cells (olds ++ news ++ rest).toArray el) (x := .cells (xs ++ ys) el (some k)) a1.rel hB hn ⟨_, rfl, ?_, ?_, ?_⟩
  · refine ⟨.s (k := kap) (by simp [ext]) hk ⟨rfl, rfl⟩, a1.trans a2⟩
  · have h1 := (hx.append hy)
    have h2 := h1.length
    rw [h2]
    have e : List.take (olds ++ news).length (olds ++ news ++ rest).toArray.toList = olds ++ news := by simp only; exact List.take_left' rfl
    rw [e]; exact h1
  · have h2 := (hx.append hy).length
    simp at h2 ⊢; omega
  · simp only [GrowR, List.size_toArray]; exact hl
theorem evAppend_ok {c : Call} (ho : o.op = .call c) (hc : c.callee = .builtin .append) {v : AV} {h' : Hp} {n' : Nat} {u : List Nat} (e : evAppend P h n c.argTypes (c.args.toList.map (ev tm)) = some (.val v h' n' u)) (ht : TR σ tm a) (r : Rel σ h B w) (hB : B ≤ w.heap.size) (hf : ∀ i, n ≤ i → i < n' → σ i = none) :
    Yields P (execOp a.eval o) σ h n B w v h' n' ∧ Kept h n n' h' u := by
  obtain ⟨consts, hb⟩ := builtin_run (a := a) ho hc
  unfold evAppend at e
  split at e
  · rename_i t0 t1 x y e0 e1 e2
    have hargs : ∃ x' y', c.args.toList = [x', y'] ∧ ev tm x' = x ∧ ev tm y' = y := by
      cases hl : c.args.toList with
      | nil => rw [hl] at e2; cases e2
      | cons p q => cases q with
        | nil => rw [hl] at e2; cases e2
        | cons p2 q2 => cases q2 with
          | cons _ _ => rw [hl] at e2; cases e2
          | nil => rw [hl] at e2; simp only [List.map_cons, List.map_nil, List.cons.injEq, and_true] at e2; exact ⟨p, p2, rfl, e2.1, e2.2⟩
    obtain ⟨x', y', hl, hx', hy'⟩ := hargs
    have hca : c.args.map a.eval = #[a.eval x', a.eval y'] := by apply Array.ext'; simp [hl]
    have hxv := ev_ok ht x'
    have hyv := ev_ok ht y'
    rw [hx'] at hxv
    rw [hy'] at hyv
    rw [hca] at hb
    generalize a.eval x' = xv at hxv hb
    generalize a.eval y' = yv at hyv hb
    have hbb : ∀ (v' : Value) (w' : World), (Builtin.append_ #[t0, t1] o.type #[xv, yv]).run P w = .ok v' w' → (execOp a.eval o).run P w = .ok (.value v') w' := by
      intro v' w' hr
      rw [hb]
      simp only [builtin, Sem.run_bind, append_ts e0 e1, hr, Result.andThen_ok, Sem.run_pure]
    split at e
    · rename_i el d1 hu0 hu1
      split at e
      · cases e
      · rename_i hd
        split at e
        · rename_i i hi
          split at e
          · rename_i z ys m hz hs
            cases hcc : (zerosOk i z && Nat.beq ys.length (m * i.size) && Nat.ble m 16777216 && Nat.ble i.bytes 4096) with
            | false => rw [hcc] at e; simp [cond] at e
            | true =>
              rw [hcc] at e
              simp only [cond] at e
              simp only [Bool.and_eq_true] at hcc
              obtain ⟨⟨⟨c1, c2⟩, c3⟩, c4⟩ := hcc
              have c2 := Nat.eq_of_beq_eq_true c2
              have c3 := Nat.le_of_ble_eq_true c3
              have c4 := Nat.le_of_ble_eq_true c4
              cases hm : Nat.beq m 0 with
              | true => rw [hm] at e; cases e
              | false =>
                rw [hm] at e
                have hm0 := Nat.ne_of_beq_eq_false hm
                simp only at e
                obtain ⟨news, q1, q2, q3⟩ := srcOf_ok (P := P) r hyv hs
                have hnl : news.length = m * i.size := by rw [← q3.length]; exact c2
                have far := fun (base : Option Addr) (len cp : Nat) (olds : List Value) (hfar : ¬ len + m ≤ cp) (hlen : len + m ≤ 33554432) => append_far (P := P) (w := w) (ty := o.type) hu0 hu1 (fun k hk => hd k hk) hi hz c1 (base := base) (len := len) (cp := cp) (m := m) (y := yv) (olds := olds) (news := news) hfar hlen c4 q1 q2
                unfold evAppendTo at e
                split at e
                · cases hxv
                  cases e
                  obtain ⟨kap, rest, f1, f2, f3⟩ := far none 0 0 [] (by omega) (by omega) (fun w' _ => rfl) (by simp) hnl
                  have := far_out (el := el) (k := i.size) r hB (hf n (by omega) (by omega)) (.nil : VRs σ [] []) q3 (need := m) (by omega) f2 (w.drawn + 1)
                  exact ⟨⟨_, _, _, .inl (hbb _ _ (by simpa using f3)), this.1, by simpa using this.2⟩, kept_set⟩
                · rename_i i1 off len cp
                  cases hxv with
                  | s hb1 hl1 hcp =>
                    rename_i b kap0 cq
                    split at e
                    · rename_i l t g hg
                      cases hle : (Nat.ble (off + len * i.size) l.length && Nat.ble len 16777216) with
                      | false => rw [hle] at e; simp [cond] at e
                      | true =>
                        rw [hle] at e
                        simp only [Bool.and_eq_true] at hle
                        have hlen16 := Nat.le_of_ble_eq_true hle.2
                        have hle := Nat.le_of_ble_eq_true hle.1
                        obtain ⟨b2, kq, h1, h2, h3, arr, h4, h5, h6, h7⟩ := r.obj i1 _ hg
                        rw [hb1] at h1; cases h1
                        have olds := fun (w' : World) (hw' : w'.heap = w.heap) => cells_read (P := P) (w := w') (fun j y hy => cell_at (r.world hw') hg hb1 hy) (len * i.size) off hle
                        obtain ⟨os, o1, o2, o3⟩ := olds w rfl
                        have o4 : ∀ w' : World, w'.heap = w.heap → (Builtin.firstCells i.size len (.slice (some ⟨b, off, none⟩) len cq)).run P w' = .ok os.toArray w' := by
                          intro w' hw'
                          obtain ⟨os', p1, p2, p3⟩ := olds w' hw'
                          have hsrc := srcOf_ok (P := P) (k := i.size) (x := .s i1 off len .unk) (v := .slice (some ⟨b, off, none⟩) len cq) (m := len) (xs := (l.drop off).take (len * i.size)) r (.s hb1 hl1 trivial) (by
                            simp only [srcOf, objCells, hg, take?]
                            have : Nat.ble (off + len * i.size) l.length = true := by rw [Nat.ble_eq]; exact hle
                            rw [this]; rfl)
                          obtain ⟨nw, s1, s2, s3⟩ := hsrc
                          have e3 := s2 w rfl
                          have e4 : (Builtin.firstCells i.size len (.slice (some ⟨b, off, none⟩) len cq)).run P w = .ok os.toArray w := o3
                          rw [e3] at e4
                          have := s2 w' hw'
                          rw [this]
                          injection e4 with e5
                          rw [e5]
                        have put := fun (hroom : len + m ≤ cq) (at_ : off + len * i.size + m * i.size ≤ arr.size) (h1s : ys.all AV.one = true) => show (Builtin.append_ #[t0, t1] o.type #[.slice (some ⟨b, off, none⟩) len cq, yv]).run P w = .ok (.slice (some ⟨b, off, none⟩) (len + m) cq) (w.setRow b (arr.toList.take (off + len * i.size) ++ news ++ arr.toList.drop (off + len * i.size + news.length)).toArray) from by
                          have hst := run_storeCells_at (P := P) b (off + len * i.size) t news 0 arr w h4 (by omega) (ones_ok q3 h1s)
                          simp only [Nat.add_zero] at hst
                          have hs0 : ∀ w', (sizeOf el).run P w' = .ok i.size w' := fun w' => sizeOf_run hi
                          simp only [Builtin.append_, List.getElem?_toArray, List.getElem?_cons_zero, List.getElem?_cons_succ, Sem.run_bind, und_run hu0, und_run hu1, Result.andThen_ok, hs0, Sem.run_pure, Bool.false_eq_true, if_false, q1, hroom, if_true, add_at]
                          have hmt : ∀ (α : Type) (p q : α), (match d1 with | .int _ => p | _ => q) = q := by
                            intro α p q; cases d1 <;> first | rfl | exact absurd rfl (hd _)
                          simp [hst, q2 w rfl]
                        have hos := o2.length
                        have hlen' := q3.length
                        split at e
                        · rename_i c
                          have hcp : cq = c := hcp
                          cases hroom : Nat.ble (len + m) c with
                          | true =>
                            rw [hroom] at e
                            have hroom := Nat.le_of_ble_eq_true hroom
                            cases hin : (Nat.ble (off + (len + m) * i.size) l.length && ys.all AV.one) with
                            | false => rw [hin] at e; simp [cond] at e
                            | true =>
                              rw [hin] at e
                              simp only [cond, Option.some.injEq, Out.val.injEq] at e
                              obtain ⟨rfl, rfl, rfl, rfl⟩ := e
                              simp only [Bool.and_eq_true] at hin
                              have i1' := Nat.le_of_ble_eq_true hin.1
                              rw [Nat.add_mul] at i1'
                              have pr := put (by omega) (by omega) hin.2
                              refine ⟨⟨σ, _, _, .inl (hbb _ _ pr), .s hb1 (by omega) hcp, ?_⟩, ?_⟩
                              · refine act_put r hg hb1 rfl rfl rfl (by simp [World.setRow]) (fun k hk => setRow_other _ _ _ _ hk) ⟨_, setRow_heap w b arr _ t _ h4, ?_, ?_, ?_⟩
                                · have := splice_ok (off := off + len * i.size) h5 q3 (by omega) (by simpa using h6)
                                  rw [c2] at this
                                  simpa [List.append_assoc] using this
                                · simp; omega
                                · cases g with
                                  | none => simp only [GrowR] at h7 ⊢; simp; omega
                                  | some kk => simp only [GrowR] at h7 ⊢; simp; omega
                              · intro j hj hu
                                rw [T.get_set, if_neg]
                                intro e; subst e; simp at hu
                          | false =>
                            rw [hroom] at e
                            simp only [cond, Option.some.injEq, Out.val.injEq] at e
                            obtain ⟨rfl, rfl, rfl, rfl⟩ := e
                            have hno : ¬ len + m ≤ c := fun hh => by rw [← Nat.ble_eq, hroom] at hh; cases hh
                            obtain ⟨kap, rest, f1, f2, f3⟩ := far (some ⟨b, off, none⟩) len cq os (by omega) (by omega) o4 (by omega) hnl
                            have := far_out (el := el) (k := i.size) r hB (hf n (by omega) (by omega)) o2 q3 (need := len + m) (by omega) f2 (w.drawn + 1)
                            exact ⟨⟨_, _, _, .inl (hbb _ _ f3), this.1, this.2⟩, kept_set⟩
                        · split at e
                          · rename_i k'
                            cases hin : (Nat.beq k' i.size && Nat.beq t el && Nat.beq off 0 && ys.all AV.one) with
                            | false => rw [hin] at e; simp [cond] at e
                            | true =>
                              rw [hin] at e
                              simp only [cond, Option.some.injEq, Out.val.injEq] at e
                              obtain ⟨rfl, rfl, rfl, rfl⟩ := e
                              simp only [Bool.and_eq_true] at hin
                              obtain ⟨⟨⟨g1, g2⟩, g3⟩, g4⟩ := hin
                              have g1 := Nat.eq_of_beq_eq_true g1
                              have g2 := Nat.eq_of_beq_eq_true g2
                              have g3 := Nat.eq_of_beq_eq_true g3
                              subst g1 g2 g3
                              have hn := hf n (by omega) (by omega)
                              have hcap : cq = kap0 := hcp.2
                              have harr : arr.size = kap0 * i.size := h7
                              have hkp : Kept h n (n + 1) (((h.set i1 none).set n (some (.cells (l.take (len * i.size) ++ ys) t (some i.size))))) [i1] := by
                                intro j hj hu
                                rw [T.get_set, if_neg (by omega), T.get_set, if_neg]
                                intro e; subst e; simp at hu
                              by_cases hroom : len + m ≤ cq
                              · have hmul : len * i.size + m * i.size ≤ kap0 * i.size := by rw [← Nat.add_mul]; exact Nat.mul_le_mul_right _ (by omega)
                                have pr := put hroom (by omega) g4
                                refine ⟨⟨ext σ n (b, cq), _, _, .inl (hbb _ _ pr), .s (k := cq) (by simp [ext]) hroom ⟨rfl, rfl⟩, ?_⟩, hkp⟩
                                refine act_move r hg hb1 hn rfl rfl rfl (by simp [World.setRow]) (fun k hk => setRow_other _ _ _ _ hk) ⟨_, setRow_heap w b arr _ t _ h4, ?_, ?_, ?_⟩
                                · have e5 : (l.take (len * i.size) ++ ys).length = len * i.size + news.length := by simp; omega
                                  rw [e5]
                                  have e6 : List.take (len * i.size + news.length) (List.take (0 + len * i.size) arr.toList ++ news ++ List.drop (0 + len * i.size + news.length) arr.toList).toArray.toList = (arr.toList.take l.length).take (len * i.size) ++ news := by
                                    have q : (List.take (0 + len * i.size) arr.toList ++ news).length = len * i.size + news.length := by simp; omega
                                    rw [List.toList_toArray, ← q, List.take_left' rfl, List.take_take]
                                    congr 2
                                    omega
                                  rw [e6]
                                  exact (h5.take _).append q3
                                · simp; omega
                                · simp only [GrowR]; rw [hcap]; simp; omega
                              · obtain ⟨kap, rest, f1, f2, f3⟩ := far (some ⟨b, 0, none⟩) len cq os hroom (by omega) o4 (by omega) hnl
                                have d1 := act_drop (n := n) r i1
                                have := far_out (n := n) (el := t) (k := i.size) d1.rel hB hn o2 q3 (need := len + m) (by omega) f2 (w.drawn + 1)
                                refine ⟨⟨_, _, _, .inl (hbb _ _ f3), this.1, ?_⟩, hkp⟩
                                have := d1.trans this.2
                                simpa using this
                          · cases e
                        · cases e
                    · cases e
                · cases e
          · cases e
        · cases e
    · cases e
  · cases e
end ops
end Go.Proofs.YtmimihjbepjnfaaGreatDoor
