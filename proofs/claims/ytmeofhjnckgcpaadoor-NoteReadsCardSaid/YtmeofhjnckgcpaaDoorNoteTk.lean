/- Package note: takeApart and Read of the text of a valid message. -/
import Derived.Test.YtmeofhjnckgcpaaDoorNoteRd
namespace Go.Proofs.YtmeofhjnckgcpaaDoor
open Go Go.RowKit
set_option linter.unusedVariables false
theorem ba_eta (b : ByteArray) : (⟨b.data⟩ : ByteArray) = b := rfl
/-- a message in block g -/
structure MsgAt (w : World) (g : Nat) (f : ByteArray) (l c e : Int) (t : ByteArray) : Prop where
  c0 : w.cell? ⟨g, 0, none⟩ = some (.string f)
  c1 : w.cell? ⟨g, 1, none⟩ = some (.int .i64 l)
  c2 : w.cell? ⟨g, 2, none⟩ = some (.int .i64 c)
  c3 : w.cell? ⟨g, 3, none⟩ = some (.int .i64 e)
  c4 : w.cell? ⟨g, 4, none⟩ = some (.string t)
  fz : ∀ o, w.frozen? ⟨g, o, none⟩ = false
set_option maxRecDepth 100000 in
set_option maxHeartbeats 1000000 in
theorem takeApart_ok (s s1 s2 s3 s4 f l c wd t : ByteArray) (b4 : Bool) (ln cn en : Int) (hs : s.size ≤ 1000000) (hs1 : s1.size ≤ 1000000) (hs2 : s2.size ≤ 1000000) (hs4 : s4.size ≤ 1000000)
    (hc1 : Hid (Lib.cut s.data.toList (⟨#[58]⟩ : ByteArray).data.toList = (f.data.toList, s1.data.toList, true)))
    (hc2 : Hid (Lib.cut s1.data.toList (⟨#[58]⟩ : ByteArray).data.toList = (l.data.toList, s2.data.toList, true)))
    (hc3 : Hid (Lib.cut s2.data.toList (⟨#[58]⟩ : ByteArray).data.toList = (c.data.toList, s3.data.toList, true)))
    (hp1 : Hid (Lib.trimPrefix s3.data.toList (⟨#[32]⟩ : ByteArray).data.toList = s4.data.toList)) (hp2 : Hid (Lib.hasPrefix s3.data.toList (⟨#[32]⟩ : ByteArray).data.toList = true))
    (hc4 : Hid (Lib.cut s4.data.toList (⟨#[32]⟩ : ByteArray).data.toList = (wd.data.toList, t.data.toList, b4)))
    (hn1 : Hid (∀ w, Calls Tryd.prog 59 #[.string l] w fun e w' => e = .returned (.int .i64 ln) ∧ w = w'))
    (hn2 : Hid (∀ w, Calls Tryd.prog 59 #[.string c] w fun e w' => e = .returned (.int .i64 cn) ∧ w = w'))
    (he : Hid (((codeF wd.data.toList : Nat) : Int) = en)) (l0 : 0 ≤ ln) (c0 : 0 ≤ cn) (e1 : 1 ≤ en) (ht : (¬ t.toList = [] ∧ t.toList.isEmpty = false) ∨ (t.toList = [] ∧ t.toList.isEmpty = true ∧ b4 = false))
    {B : Nat} (w : World) (hG : NGlob B w) (hM : ∃ m : Int, w.cell? ⟨1, 0, none⟩ = some (.int .i64 m)) :
    Calls Tryd.prog 40 #[.string s] w fun e w' => e = .returned (.tuple #[.agg #[.string f, .int .i64 ln, .int .i64 cn, .int .i64 en, .string t], .bool true]) ∧ Below w.heap.size w w' := by
  obtain ⟨m, hm⟩ := hM
  have hml : 1 < w.heap.size := World.block_lt_of_cell? w _ hm
  have HG := Lib.hid hG
  clear hG
  go_enter Tryd.func40, Tryd.ntmps40
  go_wp2_with fail
  refine (Tryd.strings_Cut _ _ m _ (by omega) (by go_simp)).mono ?_
  rintro e w' ⟨rfl, n1, rfl⟩
  rw [hc1.out]
  simp only [Array.toArray_toList, ba_eta]
  have X : MsgAt ((w.alloc (Obj.cells #[Value.string ⟨#[]⟩, Value.int IntKind.i64 0, Value.int IntKind.i64 0, Value.int IntKind.i64 0, Value.string ⟨#[]⟩] 24)).drewN n1) w.heap.size ⟨#[]⟩ 0 0 0 ⟨#[]⟩ := ⟨by go_simp, by go_simp, by go_simp, by go_simp, by go_simp, fun o => by go_simp⟩
  have xb : Below w.heap.size w ((w.alloc (Obj.cells #[Value.string ⟨#[]⟩, Value.int IntKind.i64 0, Value.int IntKind.i64 0, Value.int IntKind.i64 0, Value.string ⟨#[]⟩] 24)).drewN n1) := below_drewN ((Below.refl _ _).alloc (Nat.le_refl _) _) _
  have xz : w.heap.size < ((w.alloc (Obj.cells #[Value.string ⟨#[]⟩, Value.int IntKind.i64 0, Value.int IntKind.i64 0, Value.int IntKind.i64 0, Value.string ⟨#[]⟩] 24)).drewN n1).heap.size := by go_simp
  have xm : ((w.alloc (Obj.cells #[Value.string ⟨#[]⟩, Value.int IntKind.i64 0, Value.int IntKind.i64 0, Value.int IntKind.i64 0, Value.string ⟨#[]⟩] 24)).drewN n1).cell? ⟨1, 0, none⟩ = some (.int .i64 m) := by go_simp
  generalize ((w.alloc (Obj.cells #[Value.string ⟨#[]⟩, Value.int IntKind.i64 0, Value.int IntKind.i64 0, Value.int IntKind.i64 0, Value.string ⟨#[]⟩] 24)).drewN n1) = wx at X xb xz xm ⊢
  have G := HG.out.here xb
  have HGx := Lib.hid G
  clear G HG hm hml
  go_wp2_with fail
  refine (Tryd.strings_Cut _ _ m _ (by omega) xm).mono ?_
  rintro e w' ⟨rfl, n2, rfl⟩
  rw [hc2.out]
  simp only [Array.toArray_toList, ba_eta]
  go_wp2_with fail
  refine (Tryd.strings_Cut _ _ m _ (by omega) (by go_simp)).mono ?_
  rintro e w' ⟨rfl, n3, rfl⟩
  rw [hc3.out]
  simp only [Array.toArray_toList, ba_eta]
  go_wp2_with fail
  refine (Tryd.strings_CutPrefix _ _ _).mono ?_
  rintro e w' ⟨rfl, rfl⟩
  rw [hp1.out, hp2.out]
  simp only [Array.toArray_toList, ba_eta]
  go_wp2_with fail
  refine (Tryd.strings_Cut _ _ m _ (by omega) (by go_simp)).mono ?_
  rintro e w' ⟨rfl, n4, rfl⟩
  rw [hc4.out]
  simp only [Array.toArray_toList, ba_eta]
  obtain ⟨y0, y1, y2, y3, y4, yf⟩ := X
  have X : MsgAt ((wx.drewN (n2 + n3)).drewN n4) w.heap.size ⟨#[]⟩ 0 0 0 ⟨#[]⟩ := ⟨by go_simp, by go_simp, by go_simp, by go_simp, by go_simp, fun o => by go_simp⟩
  have yb : Below w.heap.size w ((wx.drewN (n2 + n3)).drewN n4) := below_drewN (below_drewN xb _) _
  have yz : w.heap.size < ((wx.drewN (n2 + n3)).drewN n4).heap.size := by go_simp
  have G : NGlob B ((wx.drewN (n2 + n3)).drewN n4) := HGx.out.here (below_drewN (below_drewN (Below.refl _ _) _) _)
  generalize ((wx.drewN (n2 + n3)).drewN n4) = wy at X yb yz G ⊢
  have HG := Lib.hid G
  clear y0 y1 y2 y3 y4 yf xb xz xm HGx G hc1 hc2 hc3 hp1 hp2 hc4
  obtain ⟨y0, y1, y2, y3, y4, yf⟩ := X
  go_wp2_with fail
  refine (hn1.out _).mono ?_
  rintro e w' ⟨rfl, rfl⟩
  go_wp2_with fail
  refine (hn2.out _).mono ?_
  rintro e w' ⟨rfl, rfl⟩
  go_wp2_with fail
  refine (code_any wd _ HG.out).mono ?_
  rintro e w' ⟨rfl, rfl⟩
  rw [he.out]
  have e2 : (en != 0) = true := by simp; omega
  rcases ht with ⟨t0, t1⟩ | ⟨t0, t1, t2⟩
  · go_wp2_with fail
    exact bodyPost_ret (v := .tuple #[.agg #[.string f, .int .i64 ln, .int .i64 cn, .int .i64 en, .string t], .bool true]) (by simp [results, Tryd.results40, go_sem, y0, y1, y2, y3, y4, yz]) rfl ⟨rfl, by (repeat (first | (with_reducible exact yb) | (with_reducible exact Nat.le_refl _) | (with_reducible refine Below.setCell ?_ ?_ _) | (with_reducible refine Below.alloc ?_ ?_ _) | (with_reducible refine below_drewN ?_ _) | (with_reducible refine Below.drew ?_))) <;> (first | omega | (simp <;> omega))⟩
  · subst t2
    go_wp2_with fail
    exact bodyPost_ret (v := .tuple #[.agg #[.string f, .int .i64 ln, .int .i64 cn, .int .i64 en, .string t], .bool true]) (by simp [results, Tryd.results40, go_sem, y0, y1, y2, y3, y4, yz]) rfl ⟨rfl, by (repeat (first | (with_reducible exact yb) | (with_reducible exact Nat.le_refl _) | (with_reducible refine Below.setCell ?_ ?_ _) | (with_reducible refine Below.alloc ?_ ?_ _) | (with_reducible refine below_drewN ?_ _) | (with_reducible refine Below.drew ?_))) <;> (first | omega | (simp <;> omega))⟩
end Go.Proofs.YtmeofhjnckgcpaaDoor
