/- The library's replacer, built for the four texts of a string's token.
   The parts of sync.Once's slow road, each a contract of its own.
   The library's replacer, built once and used.
   The library's replacer: once, and then its use. -/
import Derived.Test.YtogmipbdnffegaaGreatDoorMgQt
import Derived.Deep.WholeRow
import Derived.Lib.JoinLaws
import Derived.Lib.ConvBytes
import Derived.Test.YtogmipbdnffegaaGreatDoorBase
import Derived.Tactics
import Derived.Tactics2
import Derived.Defers
import Derived.Laws.Pointers
import Derived.Laws.LoneSync
import Derived.RegionTactic
import Derived.RegionCalls
import Derived.ChangeAlike
namespace Go.Proofs.YtogmipbdnffegaaGreatDoor
open Go Go.RowKit Go.Sort
set_option linter.unusedVariables false
theorem qinfoS : (Tryz.prog.info? 9).map (fun i => (i.zero, i.size, i.bytes)) = some (some (.string ⟨#[]⟩), 1, 16) := by kernel_rfl
/-- the four texts in memory -/
structure ON (w : World) (o : Nat) : Prop where
  s0 : w.cell? ⟨o, 0, none⟩ = some (.string ⟨#[92]⟩)
  s1 : w.cell? ⟨o, 1, none⟩ = some (.string ⟨#[92, 92]⟩)
  s2 : w.cell? ⟨o, 2, none⟩ = some (.string ⟨#[34]⟩)
  s3 : w.cell? ⟨o, 3, none⟩ = some (.string ⟨#[92, 34]⟩)
theorem ON.below {w w' : World} {o : Nat} (h : ON w o) (hb : Below w.heap.size w w') : ON w' o := by
  have K : ∀ {g i : Nat} {v : Value}, w.cell? ⟨g, i, none⟩ = some v → w'.cell? ⟨g, i, none⟩ = some v := fun {g i v} hc => (hb.cell (p := ⟨g, i, none⟩) (World.block_lt_of_cell? w _ hc)).trans hc
  exact ⟨K h.s0, K h.s1, K h.s2, K h.s3⟩
/-- the cells of the replacer: all nil but three -/
def brA (x y z : Value) : Array Value := (((Array.replicate 257 (Value.slice none 0 0)).setIfInBounds 34 x).setIfInBounds 92 y).setIfInBounds 256 z
theorem brA_size (x y z : Value) : (brA x y z).size = 257 := by simp [brA]
theorem brA_34 (x y z : Value) : (brA x y z)[34]? = some x := by simp [brA, Array.getElem?_setIfInBounds]
theorem brA_92 (x y z : Value) : (brA x y z)[92]? = some y := by simp [brA, Array.getElem?_setIfInBounds]
theorem brA_256 (x y z : Value) : (brA x y z)[256]? = some z := by simp [brA, Array.getElem?_setIfInBounds]
theorem brA_no (x y z : Value) (i : Nat) (h : i < 256) (h1 : i ≠ 92) (h2 : i ≠ 34) : (brA x y z)[i]? = some (.slice none 0 0) := by
  simp only [brA, Array.getElem?_setIfInBounds, Array.size_setIfInBounds, Array.size_replicate, Array.getElem?_replicate]
  rw [if_neg (by omega), if_neg (by omega), if_neg (by omega), if_pos (by omega)]
theorem brA_built (r c : Nat) : Tryz.prog.built 104 [(1, .slice (some ⟨r, 0, none⟩) 0 c)] = some (brA (.slice none 0 0) (.slice none 0 0) (.slice (some ⟨r, 0, none⟩) 0 c)) := by kernel_rfl
theorem brA_zero : (Tryz.prog.info? 104).map (fun i => (i.zero, i.size)) = some (some (.agg (brA (.slice none 0 0) (.slice none 0 0) (.slice none 0 0))), 257) := by kernel_rfl
theorem brA_one (r c : Nat) : (brA (.slice none 0 0) (.slice none 0 0) (.slice (some ⟨r, 0, none⟩) 0 c)).all (·.oneCell') = true := by kernel_rfl
/-- the replacer on its way -/
structure BS (w : World) (b : Nat) (x y z : Value) : Prop where
  no : ∀ i, i < 256 → i ≠ 92 → i ≠ 34 → w.cell? ⟨b, i, none⟩ = some (.slice none 0 0)
  c34 : w.cell? ⟨b, 34, none⟩ = some x
  c92 : w.cell? ⟨b, 92, none⟩ = some y
  c256 : w.cell? ⟨b, 256, none⟩ = some z
  fz : ∀ i, w.frozen? ⟨b, i, none⟩ = false
theorem BS.below {w w' : World} {b : Nat} {x y z : Value} (h : BS w b x y z) (hb : Below w.heap.size w w') : BS w' b x y z := by
  have K : ∀ {g i : Nat} {v : Value}, w.cell? ⟨g, i, none⟩ = some v → w'.cell? ⟨g, i, none⟩ = some v := fun {g i v} hc => (hb.cell (p := ⟨g, i, none⟩) (World.block_lt_of_cell? w _ hc)).trans hc
  have hl := World.block_lt_of_cell? w _ h.c34
  exact ⟨fun i h1 h2 h3 => K (h.no i h1 h2 h3), K h.c34, K h.c92, K h.c256, fun i => (hb.frozen (p := ⟨b, i, none⟩) hl).trans (h.fz i)⟩
theorem qne_off {b i j : Nat} (h : i ≠ j) : (⟨b, i, none⟩ : Addr) ≠ ⟨b, j, none⟩ := fun e => h (by injection e)
theorem qne_blk {a b i j : Nat} (h : a ≠ b) : (⟨a, i, none⟩ : Addr) ≠ ⟨b, j, none⟩ := fun e => h (by injection e)
theorem BS.put34 {w : World} {b : Nat} {x y z : Value} (h : BS w b x y z) (v : Value) : BS (w.setCell ⟨b, 34, none⟩ v) b v y z :=
  ⟨fun i h1 h2 h3 => (World.cell?_setCell_other _ _ _ _ (qne_off (Ne.symm h3))).trans (h.no i h1 h2 h3), World.cell?_setCell_same _ _ _ h.c34, (World.cell?_setCell_other _ _ _ _ (qne_off (by decide))).trans h.c92, (World.cell?_setCell_other _ _ _ _ (qne_off (by decide))).trans h.c256, fun i => by rw [World.frozen?_setCell]; exact h.fz i⟩
theorem BS.put92 {w : World} {b : Nat} {x y z : Value} (h : BS w b x y z) (v : Value) : BS (w.setCell ⟨b, 92, none⟩ v) b x v z :=
  ⟨fun i h1 h2 h3 => (World.cell?_setCell_other _ _ _ _ (qne_off (Ne.symm h2))).trans (h.no i h1 h2 h3), (World.cell?_setCell_other _ _ _ _ (qne_off (by decide))).trans h.c34, World.cell?_setCell_same _ _ _ h.c92, (World.cell?_setCell_other _ _ _ _ (qne_off (by decide))).trans h.c256, fun i => by rw [World.frozen?_setCell]; exact h.fz i⟩
theorem BS.put256 {w : World} {b : Nat} {x y z : Value} (h : BS w b x y z) (v : Value) : BS (w.setCell ⟨b, 256, none⟩ v) b x y v :=
  ⟨fun i h1 h2 h3 => (World.cell?_setCell_other _ _ _ _ (qne_off (by omega))).trans (h.no i h1 h2 h3), (World.cell?_setCell_other _ _ _ _ (qne_off (by decide))).trans h.c34, (World.cell?_setCell_other _ _ _ _ (qne_off (by decide))).trans h.c92, World.cell?_setCell_same _ _ _ h.c256, fun i => by rw [World.frozen?_setCell]; exact h.fz i⟩
/-- the row of bytes that are replaced -/
structure TR (w : World) (r : Nat) (a b : Value) : Prop where
  t0 : w.cell? ⟨r, 0, none⟩ = some a
  t1 : w.cell? ⟨r, 1, none⟩ = some b
  fz : ∀ i, w.frozen? ⟨r, i, none⟩ = false
theorem TR.below {w w' : World} {r : Nat} {a b : Value} (h : TR w r a b) (hb : Below w.heap.size w w') : TR w' r a b := by
  have K : ∀ {g i : Nat} {v : Value}, w.cell? ⟨g, i, none⟩ = some v → w'.cell? ⟨g, i, none⟩ = some v := fun {g i v} hc => (hb.cell (p := ⟨g, i, none⟩) (World.block_lt_of_cell? w _ hc)).trans hc
  have hl := World.block_lt_of_cell? w _ h.t0
  exact ⟨K h.t0, K h.t1, fun i => (hb.frozen (p := ⟨r, i, none⟩) hl).trans (h.fz i)⟩
/-- a byte's text, and a text's bytes -/
theorem text_of (w : World) (a : Addr) (c : UInt8) (h : w.cell? (a.add 0) = some (.int .u8 (c.toNat : Int))) : (convert 63 9 (.slice (some a) 1 1)).run Tryz.prog w = .ok (.string ⟨#[c]⟩) w :=
  run_convert_bytes_back (P := Tryz.prog) w 63 9 5 a 1 [c] Tryz.underlying63 Tryz.underlying5 Tryz.underlying9 fun j hj => by
    have : j = 0 := by simp at hj; omega
    subst this
    exact h
theorem bytes_of (w : World) (s : ByteArray) : (convert 9 63 (.string s)).run Tryz.prog w = .ok (.slice (some ⟨w.heap.size, 0, none⟩) s.size (grownCap w s.size 0 5)) (Lib.bytesWorld w 5 s) :=
  Lib.run_convert_string_bytes (P := Tryz.prog) w 9 63 5 s Tryz.underlying9 Tryz.underlying63 Tryz.underlying5
theorem ON.other {w : World} {o : Nat} (h : ON w o) (r k : Nat) (v : Value) (n : r ≠ o) : ON (w.setCell ⟨r, k, none⟩ v) o :=
  ⟨(World.cell?_setCell_other _ _ _ _ (qne_blk n)).trans h.s0, (World.cell?_setCell_other _ _ _ _ (qne_blk n)).trans h.s1, (World.cell?_setCell_other _ _ _ _ (qne_blk n)).trans h.s2, (World.cell?_setCell_other _ _ _ _ (qne_blk n)).trans h.s3⟩
theorem BS.other {w : World} {b : Nat} {x y z : Value} (h : BS w b x y z) (r k : Nat) (v : Value) (n : r ≠ b) : BS (w.setCell ⟨r, k, none⟩ v) b x y z :=
  ⟨fun i h1 h2 h3 => (World.cell?_setCell_other _ _ _ _ (qne_blk n)).trans (h.no i h1 h2 h3), (World.cell?_setCell_other _ _ _ _ (qne_blk n)).trans h.c34, (World.cell?_setCell_other _ _ _ _ (qne_blk n)).trans h.c92, (World.cell?_setCell_other _ _ _ _ (qne_blk n)).trans h.c256, fun i => by rw [World.frozen?_setCell]; exact h.fz i⟩
theorem TR.other {w : World} {r : Nat} {a b : Value} (h : TR w r a b) (g k : Nat) (v : Value) (n : g ≠ r) : TR (w.setCell ⟨g, k, none⟩ v) r a b :=
  ⟨(World.cell?_setCell_other _ _ _ _ (qne_blk n)).trans h.t0, (World.cell?_setCell_other _ _ _ _ (qne_blk n)).trans h.t1, fun i => by rw [World.frozen?_setCell]; exact h.fz i⟩
theorem TR.put0 {w : World} {r : Nat} {a b : Value} (h : TR w r a b) (v : Value) : TR (w.setCell ⟨r, 0, none⟩ v) r v b :=
  ⟨World.cell?_setCell_same _ _ _ h.t0, (World.cell?_setCell_other _ _ _ _ (qne_off (by decide))).trans h.t1, fun i => by rw [World.frozen?_setCell]; exact h.fz i⟩
theorem TR.put1 {w : World} {r : Nat} {a b : Value} (h : TR w r a b) (v : Value) : TR (w.setCell ⟨r, 1, none⟩ v) r a v :=
  ⟨(World.cell?_setCell_other _ _ _ _ (qne_off (by decide))).trans h.t0, World.cell?_setCell_same _ _ _ h.t1, fun i => by rw [World.frozen?_setCell]; exact h.fz i⟩
theorem bytes2 (w : World) (c d : UInt8) : ∃ cap W, 2 ≤ cap ∧ (convert 9 63 (.string ⟨#[c, d]⟩)).run Tryz.prog w = .ok (.slice (some ⟨w.heap.size, 0, none⟩) 2 cap) W ∧ Below w.heap.size w W ∧ W.cell? ⟨w.heap.size, 0, none⟩ = some (.int .u8 c.toNat) ∧ W.cell? ⟨w.heap.size, 1, none⟩ = some (.int .u8 d.toNat) ∧ w.heap.size < W.heap.size := by
  have h0 := Lib.bytesWorld_cell w 5 ⟨#[c, d]⟩ 0 (show 0 < 2 by decide)
  have h1 := Lib.bytesWorld_cell w 5 ⟨#[c, d]⟩ 1 (show 1 < 2 by decide)
  exact ⟨grownCap w 2 0 5, Lib.bytesWorld w 5 ⟨#[c, d]⟩, grownCap_ge _ _ _ _, bytes_of w ⟨#[c, d]⟩, Lib.bytesWorld_below w 5 _, h0, h1, World.block_lt_of_cell? _ _ h0⟩
theorem wpList_app1 (w : World) {ops : Array Oper} {rest : List Oper} {o : Oper} {a : Act} {Q : Exit → Act → World → Prop} (hg : o.guard = none) (s x : Operand) (hop : o.op = Op.call { callee := Callee.builtin Builtin.append, args := #[s, x], argTypes := #[24, 24] }) (r k c g : Nat) (v : Value) (hs : a.eval s = .slice (some ⟨r, 0, none⟩) k c) (hx : a.eval x = .slice (some ⟨g, 0, none⟩) 1 1) (hv : v.oneCell' = true) (hgv : w.cell? ⟨g, 0, none⟩ = some v) (hroom : k + 1 ≤ c) (hc : (w.cell? ⟨r, k, none⟩).isSome = true) (hf : w.frozen? ⟨r, k, none⟩ = false)
    (hK : ∀ w', Hid (w' = w.setCell ⟨r, k, none⟩ v) → wpList Tryz.prog ops Q rest (a.put o.dst (.slice (some ⟨r, 0, none⟩) (k + 1) c)) w') : wpList Tryz.prog ops Q (o :: rest) a w := by
  refine wpList_append_room1 w hg s x 24 24 hop 9 _ 16 Tryz.underlying24 qinfoS r 0 k c hs _ hx 1 [v] (Src.ofSlice _ Tryz.underlying24 ⟨g, 0, none⟩ 1 1 [v] rfl (fun j u hj => ?_) (fun u hu => ?_)) hroom (fun j hj => ?_) (fun j hj => ?_) ?_
  · match j, hj with
    | 0, hj => injection hj with hj; subst hj; rw [Addr.add_lit]; exact hgv
  · rw [List.mem_singleton] at hu
    subst hu
    exact hv
  · have : j = 0 := by simp at hj; omega
    subst this
    rw [Nat.zero_add, Nat.add_zero]
    exact hc
  · have : j = 0 := by simp at hj; omega
    subst this
    rw [Nat.zero_add, Nat.add_zero]
    exact hf
  · rw [Nat.zero_add]
    exact hK _ (Lib.hid rfl)
structure TW (w : World) (q : Nat) (a b : Int) : Prop where
  q0 : w.cell? ⟨q, 0, none⟩ = some (.int .u8 a)
  q1 : w.cell? ⟨q, 1, none⟩ = some (.int .u8 b)
theorem TW.below {w w' : World} {q : Nat} {a b : Int} (h : TW w q a b) (hb : Below w.heap.size w w') : TW w' q a b := by
  have K : ∀ {g i : Nat} {v : Value}, w.cell? ⟨g, i, none⟩ = some v → w'.cell? ⟨g, i, none⟩ = some v := fun {g i v} hc => (hb.cell (p := ⟨g, i, none⟩) (World.block_lt_of_cell? w _ hc)).trans hc
  exact ⟨K h.q0, K h.q1⟩
theorem TW.other {w : World} {q : Nat} {a b : Int} (h : TW w q a b) (g k : Nat) (v : Value) (n : g ≠ q) : TW (w.setCell ⟨g, k, none⟩ v) q a b :=
  ⟨(World.cell?_setCell_other _ _ _ _ (qne_blk n)).trans h.q0, (World.cell?_setCell_other _ _ _ _ (qne_blk n)).trans h.q1⟩
theorem two_rows (X : World) (A B : Array Value) (s t : TypeId) : Below X.heap.size X ((X.alloc (.cells A s)).alloc (.cells B t)) := ((Below.refl _ _).alloc (Nat.le_refl _) _).alloc (by simp) _
/-- the loop over the four texts -/
inductive Bon (w wr : World) (o b r : Nat) (i : Value) : Prop where
  | a (hi : i = .int .i64 2) (hlo : Below w.heap.size w wr) (hON : ON wr o) (hBs : BS wr b (.slice none 0 0) (.slice none 0 0) (.slice (some ⟨r, 0, none⟩) 0 2)) (hTr : TR wr r (.string ⟨#[]⟩) (.string ⟨#[]⟩))
  | b (hi : i = .int .i64 0) (q cq : Nat) (hq : 2 ≤ cq) (hlo : Below w.heap.size w wr) (hON : ON wr o) (hBs : BS wr b (.slice (some ⟨q, 0, none⟩) 2 cq) (.slice none 0 0) (.slice (some ⟨r, 0, none⟩) 1 2)) (hTr : TR wr r (.string ⟨#[34]⟩) (.string ⟨#[]⟩)) (hQ : TW wr q 92 34) (hge : b < q)
  | c (hi : i = .int .i64 (-2)) (p q cp cq : Nat) (hp : 2 ≤ cp) (hq : 2 ≤ cq) (hlo : Below w.heap.size w wr) (hON : ON wr o) (hBs : BS wr b (.slice (some ⟨q, 0, none⟩) 2 cq) (.slice (some ⟨p, 0, none⟩) 2 cp) (.slice (some ⟨r, 0, none⟩) 2 2)) (hTr : TR wr r (.string ⟨#[34]⟩) (.string ⟨#[92]⟩)) (hQ : TW wr q 92 34) (hP : TW wr p 92 92) (hge : b < q ∧ b < p)
set_option maxRecDepth 100000 in
set_option maxHeartbeats 4000000 in
theorem build_any (rb o cp : Nat) (hcp : 4 ≤ cp) (w : World) (h4 : w.cell? ⟨rb, 4, none⟩ = some (.slice (some ⟨o, 0, none⟩) 4 cp)) (hO : ON w o) : Calls Tryz.prog 59 #[.pointer (some ⟨rb, 0, none⟩)] w fun e w' => ∃ (b p q r cp cq cr : Nat), e = .returned (.iface 105 (.pointer (some ⟨b, 0, none⟩))) ∧ BR w' b p q r cp cq cr ∧ Below w.heap.size w w' ∧ w.heap.size ≤ b ∧ w.heap.size ≤ p ∧ w.heap.size ≤ q ∧ w.heap.size ≤ r := by
  obtain ⟨s0, s1, s2, s3⟩ := id hO
  go_enter Tryz.func59, Tryz.ntmps59
  go_wp2_with fail
  go_loopw [4, 5] (fun x i wr => w = wr ∧ ((i = .int .i64 0 ∧ x = .bool true) ∨ (i = .int .i64 2 ∧ x = .bool false) ∨ (i = .int .i64 4 ∧ x = .bool false))) (fun _ i _ => 4 - (intOf i).toNat)
  case atStart => exact ⟨rfl, .inl ⟨rfl, rfl⟩⟩
  case round =>
    obtain ⟨rfl, h⟩ := hrel
    rcases h with ⟨rfl, rfl⟩ | ⟨rfl, rfl⟩ | ⟨rfl, rfl⟩
    · go_wp2_with fail
      go_roundw
      case rel => exact ⟨by first | rfl | trivial, .inr (.inl ⟨by first | rfl | go_num, by first | rfl | trivial⟩)⟩
      case measure => simp [intOf] <;> omega
    · go_wp2_with fail
      go_roundw
      case rel => exact ⟨by first | rfl | trivial, .inr (.inr ⟨by first | rfl | go_num, by first | rfl | trivial⟩)⟩
      case measure => simp [intOf] <;> omega
    · go_upto_region 26 with fail
      obtain ⟨W1, hW1⟩ : ∃ W, W = w.alloc (.cells #[.string ⟨#[]⟩, .string ⟨#[]⟩] 9) := ⟨_, rfl⟩
      have hmk : (Instr.makeSlice 24 (.int .i64 0) (.int .i64 2)).run Tryz.prog w = .ok (.slice (some ⟨w.heap.size, 0, none⟩) 0 2) W1 := by
        have := run_make_room (P := Tryz.prog) 24 9 (.string ⟨#[]⟩) 16 Tryz.underlying24 qinfoS (by kernel_rfl) .i64 .i64 2 (by omega) (by omega) w
        rw [show madeCells #[Value.string ⟨#[]⟩] 2 = #[.string ⟨#[]⟩, .string ⟨#[]⟩] from by kernel_rfl] at this
        rw [hW1]
        exact this
      have hbd : ∀ W, (Instr.build 104 #[(1, .slice (some ⟨w.heap.size, 0, none⟩) 0 2)]).run Tryz.prog W = .ok (.agg (brA (.slice none 0 0) (.slice none 0 0) (.slice (some ⟨w.heap.size, 0, none⟩) 0 2))) W := fun W => run_build W _ _ _ (brA_built _ _)
      obtain ⟨hzv, hzi⟩ := zero_of_info brA_zero
      have hst := run_storeCells_new (P := Tryz.prog) W1 104 (brA (.slice none 0 0) (.slice none 0 0) (.slice none 0 0)) (brA (.slice none 0 0) (.slice none 0 0) (.slice (some ⟨w.heap.size, 0, none⟩) 0 2)) (by rw [hzi, brA_size]) (by rw [brA_size, brA_size]) (brA_one _ _)
      have hls : (brA (.slice none 0 0) (.slice none 0 0) (.slice none 0 0)).toList.set 256 (Value.slice (some ⟨w.heap.size, 0, none⟩) 0 2) = (brA (.slice none 0 0) (.slice none 0 0) (.slice (some ⟨w.heap.size, 0, none⟩) 0 2)).toList := by simp [brA]
      rw [← hls] at hst
      have hT : TR W1 w.heap.size (.string ⟨#[]⟩) (.string ⟨#[]⟩) := by rw [hW1]; exact ⟨by go_simp, by go_simp, fun i => by go_simp⟩
      have hb1 : Below w.heap.size w W1 := by rw [hW1]; exact (Below.refl _ _).alloc (Nat.le_refl _) _
      have hz1 : W1.heap.size = w.heap.size + 1 := by rw [hW1]; simp
      clear hW1
      have H1 := Lib.hid hz1
      clear hz1 hls
      go_upto_region 27 with fail
      clear hst hmk hbd hzv hzi
      have hB : BS (W1.alloc (.cells (brA (.slice none 0 0) (.slice none 0 0) (.slice (some ⟨w.heap.size, 0, none⟩) 0 2)) 104)) W1.heap.size (.slice none 0 0) (.slice none 0 0) (.slice (some ⟨w.heap.size, 0, none⟩) 0 2) :=
        ⟨fun i h1 h2 h3 => by go_simp; exact brA_no _ _ _ i h1 h2 h3, by go_simp; exact brA_34 _ _ _, by go_simp; exact brA_92 _ _ _, by go_simp; exact brA_256 _ _ _, fun i => by go_simp⟩
      have hT2 := hT.below (w' := W1.alloc (.cells (brA (.slice none 0 0) (.slice none 0 0) (.slice (some ⟨w.heap.size, 0, none⟩) 0 2)) 104)) ((Below.refl _ _).alloc (Nat.le_refl _) _)
      have hb2 : Below w.heap.size w (W1.alloc (.cells (brA (.slice none 0 0) (.slice none 0 0) (.slice (some ⟨w.heap.size, 0, none⟩) 0 2)) 104)) := hb1.alloc hb1.size _
      have hO2 := (hO.below hb1).below (w' := W1.alloc (.cells (brA (.slice none 0 0) (.slice none 0 0) (.slice (some ⟨w.heap.size, 0, none⟩) 0 2)) 104)) ((Below.refl _ _).alloc (Nat.le_refl _) _)
      have hO0 := hO
      clear hO hT hb1 s0 s1 s2 s3 h4
      generalize W1.alloc (.cells (brA (.slice none 0 0) (.slice none 0 0) (.slice (some ⟨w.heap.size, 0, none⟩) 0 2)) 104) = W2 at *
      generalize W1.heap.size = b at *
      obtain ⟨r, hr⟩ : ∃ r, w.heap.size = r := ⟨_, rfl⟩
      have HR := Lib.hid hr
      have ho : o < r := by rw [← hr]; exact World.block_lt_of_cell? w _ hO0.s0
      rw [hr] at hB hT2 H1 ⊢
      have hbr : r < b := by have := H1.out; omega
      have hle : w.heap.size ≤ r := Nat.le_of_eq hr
      clear hr
      obtain ⟨s0, s1, s2, s3⟩ := id hO2
      have e34 : ((⟨#[34]⟩ : ByteArray)[0]'(by decide)).toNat = 34 := rfl
      have e92 : ((⟨#[92]⟩ : ByteArray)[0]'(by decide)).toNat = 92 := rfl
      have hby := bytes_of
      have HBY := Lib.hid hby
      clear hby
      go_wp2_with fail
      go_loopw [12] (fun i wr => Bon w wr o b r i) (fun i _ => (intOf i + 2).toNat)
      case atStart => exact .a rfl hb2 hO2 hB hT2
      case round =>
        rename World => WR
        cases hrel with
        | a hi hlo hON hBs hTr =>
          subst hi
          clear s0 s1 s2 s3 hB hT2 hb2 hO2
          obtain ⟨s0, s1, s2, s3⟩ := id hON
          have c34 := hBs.c34
          have c256 := hBs.c256
          have f34 := hBs.fz 34
          have f256 := hBs.fz 256
          have hnil : ∀ W : World, (binOp .eql 63 (.slice none 0 0) (.slice none 0 0)).run Tryz.prog W = .ok (.bool true) W := fun W => Lib.run_eql_slice_nil W 63 5 none 0 0 0 0 Tryz.underlying63
          go_upto_region 33 with fail
          have hx := text_of (WR.alloc (.cells #[.int .u8 34] 5)) ⟨WR.heap.size, 0, none⟩ 34 (by rw [Addr.add_lit]; go_simp)
          have hr0 : (WR.cell? ⟨r, 0, none⟩).isSome = true := by rw [hTr.t0]; rfl
          have hrf := hTr.fz 0
          have hrl := World.block_lt_of_cell? WR _ hTr.t0
          have b4 : Below WR.heap.size WR ((WR.alloc (.cells #[.int .u8 34] 5)).alloc (.cells #[.string ⟨#[34]⟩] 9)) := ((Below.refl _ _).alloc (Nat.le_refl _) _).alloc (by simp) _
          go_upto_region 34 with (at_builtin; refine wpList_app1 _ rfl _ _ rfl r 0 2 _ (.string ⟨#[34]⟩) rfl rfl rfl ?c1 (by omega) ?c2 ?c3 ?_)
          try case c1 => go_simp
          try case c2 => rw [b4.cell (p := ⟨r, 0, none⟩) hrl]; exact hr0
          try case c3 => rw [b4.frozen (p := ⟨r, 0, none⟩) hrl]; exact hrf
          intro w5 hw5
          replace hw5 := hw5.out
          have b4' := two_rows (WR.setCell ⟨r, 0, none⟩ (.string ⟨#[34]⟩)) #[.int .u8 34] #[.string ⟨#[34]⟩] 5 9
          have hB5 := (hBs.other r 0 (.string ⟨#[34]⟩) (by omega)).below b4'
          have hT5 := (hTr.put0 (.string ⟨#[34]⟩)).below b4'
          have hO5 := (hON.other r 0 (.string ⟨#[34]⟩) (by omega)).below b4'
          have hl5' := hlo.setCell (p := ⟨r, 0, none⟩) hle (.string ⟨#[34]⟩)
          have hl5 := hl5'.trans (b4'.mono hl5'.size)
          rw [← hw5] at hB5 hT5 hO5 hl5
          clear hw5 b4 b4' hl5' hrl hBs hTr hON hlo s0 s1 s2 s3 c34 c256 f34 f256 hr0 hrf hx hnil
          have c256 := hB5.c256
          have f256 := hB5.fz 256
          go_upto_region 34 with fail
          replace hB5 := hB5.put256 (.slice (some ⟨r, 0, none⟩) 1 2)
          replace hT5 := hT5.other b 256 (.slice (some ⟨r, 0, none⟩) 1 2) (by omega)
          replace hO5 := hO5.other b 256 (.slice (some ⟨r, 0, none⟩) 1 2) (by omega)
          replace hl5 := hl5.setCell (p := ⟨b, 256, none⟩) (show w.heap.size ≤ b by omega) (.slice (some ⟨r, 0, none⟩) 1 2)
          clear c256 f256
          generalize w5.setCell ⟨b, 256, none⟩ (.slice (some ⟨r, 0, none⟩) 1 2) = w6 at *
          obtain ⟨cap, W7, hcap, hcv, hb7, q0, q1, hz7⟩ := bytes2 w6 92 34
          have hB6 := hB5
          replace hB5 := hB5.below hb7
          replace hT5 := hT5.below hb7
          replace hO5 := hO5.below hb7
          replace hl5 := hl5.trans (hb7.mono hl5.size)
          have hq := World.block_lt_of_cell? w6 _ hB6.c34
          have hQ7 : TW W7 w6.heap.size 92 34 := ⟨q0, q1⟩
          clear q0 q1
          generalize w6.heap.size = q at *
          have c34 := hB5.c34
          have f34 := hB5.fz 34
          go_wp2_with fail
          have hqb : b < q := hq
          exact ⟨.b rfl q cap hcap (hl5.setCell (p := ⟨b, 34, none⟩) (show w.heap.size ≤ b by omega) _) (hO5.other b 34 _ (by omega)) (hB5.put34 _) (hT5.other b 34 _ (by omega)) (hQ7.other b 34 _ (by omega)) hqb, by decide⟩
        | b hi qa cq hqc hlo hON hBs hTr hQ hge =>
          subst hi
          clear s0 s1 s2 s3 hB hT2 hb2 hO2
          obtain ⟨s0, s1, s2, s3⟩ := id hON
          have cX := hBs.c92
          have c256 := hBs.c256
          have fX := hBs.fz 92
          have f256 := hBs.fz 256
          have hnil : ∀ W : World, (binOp .eql 63 (.slice none 0 0) (.slice none 0 0)).run Tryz.prog W = .ok (.bool true) W := fun W => Lib.run_eql_slice_nil W 63 5 none 0 0 0 0 Tryz.underlying63
          go_upto_region 33 with fail
          have hx := text_of (WR.alloc (.cells #[.int .u8 92] 5)) ⟨WR.heap.size, 0, none⟩ 92 (by rw [Addr.add_lit]; go_simp)
          have hr0 : (WR.cell? ⟨r, 1, none⟩).isSome = true := by rw [hTr.t1]; rfl
          have hrf := hTr.fz 1
          have hrl := World.block_lt_of_cell? WR _ hTr.t1
          have b4 : Below WR.heap.size WR ((WR.alloc (.cells #[.int .u8 92] 5)).alloc (.cells #[.string ⟨#[92]⟩] 9)) := ((Below.refl _ _).alloc (Nat.le_refl _) _).alloc (by simp) _
          go_upto_region 34 with (at_builtin; refine wpList_app1 _ rfl _ _ rfl r 1 2 _ (.string ⟨#[92]⟩) rfl rfl rfl ?d1 (by omega) ?d2 ?d3 ?_)
          try case d1 => go_simp
          try case d2 => rw [b4.cell (p := ⟨r, 1, none⟩) hrl]; exact hr0
          try case d3 => rw [b4.frozen (p := ⟨r, 1, none⟩) hrl]; exact hrf
          intro w5 hw5
          replace hw5 := hw5.out
          have b4' := two_rows (WR.setCell ⟨r, 1, none⟩ (.string ⟨#[92]⟩)) #[.int .u8 92] #[.string ⟨#[92]⟩] 5 9
          have hB5 := (hBs.other r 1 (.string ⟨#[92]⟩) (by omega)).below b4'
          have hT5 := (hTr.put1 (.string ⟨#[92]⟩)).below b4'
          have hO5 := (hON.other r 1 (.string ⟨#[92]⟩) (by omega)).below b4'
          have hl5' := hlo.setCell (p := ⟨r, 1, none⟩) hle (.string ⟨#[92]⟩)
          have hl5 := hl5'.trans (b4'.mono hl5'.size)
          have hQ5 := (hQ.other r 1 (.string ⟨#[92]⟩) (by omega)).below b4'
          rw [← hw5] at hB5 hT5 hO5 hl5 hQ5
          clear hw5 hQ b4 b4' hl5' hrl hBs hTr hON hlo s0 s1 s2 s3 cX c256 fX f256 hr0 hrf hx hnil
          have c256 := hB5.c256
          have f256 := hB5.fz 256
          go_upto_region 34 with fail
          replace hB5 := hB5.put256 (.slice (some ⟨r, 0, none⟩) 2 2)
          replace hT5 := hT5.other b 256 (.slice (some ⟨r, 0, none⟩) 2 2) (by omega)
          replace hQ5 := hQ5.other b 256 (.slice (some ⟨r, 0, none⟩) 2 2) (by omega)
          replace hO5 := hO5.other b 256 (.slice (some ⟨r, 0, none⟩) 2 2) (by omega)
          replace hl5 := hl5.setCell (p := ⟨b, 256, none⟩) (show w.heap.size ≤ b by omega) (.slice (some ⟨r, 0, none⟩) 2 2)
          clear c256 f256
          generalize w5.setCell ⟨b, 256, none⟩ (.slice (some ⟨r, 0, none⟩) 2 2) = w6 at *
          obtain ⟨cap, W7, hcap, hcv, hb7, q0, q1, hz7⟩ := bytes2 w6 92 92
          have hB6 := hB5
          replace hB5 := hB5.below hb7
          replace hT5 := hT5.below hb7
          replace hO5 := hO5.below hb7
          replace hQ5 := hQ5.below hb7
          replace hl5 := hl5.trans (hb7.mono hl5.size)
          have hq := World.block_lt_of_cell? w6 _ hB6.c92
          have hQ7 : TW W7 w6.heap.size 92 92 := ⟨q0, q1⟩
          clear q0 q1
          generalize w6.heap.size = q at *
          have cX := hB5.c92
          have fX := hB5.fz 92
          go_wp2_with fail
          have hqb : b < q := hq
          exact ⟨.c rfl q qa cap cq hcap hqc (hl5.setCell (p := ⟨b, 92, none⟩) (show w.heap.size ≤ b by omega) _) (hO5.other b 92 _ (by omega)) (hB5.put92 _) (hT5.other b 92 _ (by omega)) (hQ5.other b 92 _ (by omega)) (hQ7.other b 92 _ (by omega)) ⟨hge, hqb⟩, by decide⟩
        | c hi p q cpp cqq hp hq hlo hON hBs hTr hQ hP hge =>
          subst hi
          clear s0 s1 s2 s3 hB hT2 hb2 hO2
          go_wp2_with fail
          go_ret
          exact ⟨b, p, q, r, cpp, cqq, 2, rfl, ⟨hBs.no, hBs.c92, hBs.c34, hBs.c256, hP.q0, hP.q1, hQ.q0, hQ.q1, hTr.t0, hTr.t1, hp, hq, by omega⟩, hlo, by omega, by omega, by omega, hle⟩
end Go.Proofs.YtogmipbdnffegaaGreatDoor
namespace Go.Proofs.YtogmipbdnffegaaGreatDoor
open Go
theorem disable (w : World) : (callFunc 99 #[]).run Tryz.prog w = .ok (.value (.tuple #[])) w := run_call_mark0 Tryz.func99 (by kernel_rfl) (by kernel_rfl) (by kernel_rfl) .disable (by kernel_rfl) w
theorem enable (w : World) : (callFunc 101 #[]).run Tryz.prog w = .ok (.value (.tuple #[])) w := run_call_mark0 Tryz.func101 (by kernel_rfl) (by kernel_rfl) (by kernel_rfl) .enable (by kernel_rfl) w
theorem acquire (a : Addr) (w : World) : (callFunc 102 #[.pointer (some a)]).run Tryz.prog w = .ok (.value (.tuple #[])) w := run_call_marked Tryz.func102 (by kernel_rfl) (by kernel_rfl) (by kernel_rfl) .acquire (by kernel_rfl) a w
theorem releaseMerge (a : Addr) (w : World) : (callFunc 104 #[.pointer (some a)]).run Tryz.prog w = .ok (.value (.tuple #[])) w := run_call_marked Tryz.func104 (by kernel_rfl) (by kernel_rfl) (by kernel_rfl) .releaseMerge (by kernel_rfl) a w

set_option maxRecDepth 100000 in
set_option maxHeartbeats 1600000 in
/-- a deferred store of true -/
theorem store_deferred (a : Addr) (x : Value) (u : FrameMode) (w : World) (hc : w.cell? a = some x) (hz : w.frozen? a = false) :
    CallsD Tryz.prog 74 #[.pointer (some a), .bool true] u w fun e u' w' => u' = u ∧ (e = .returned (.tuple #[]) ∧ w' = w.drew.setCell a (.int .u32 1)) := by
  have hc' : w.drew.cell? a = some x := by go_simp
  have hz' : w.drew.frozen? a = false := by go_simp
  have hst := run_call_store (P := Tryz.prog) Tryz.func87 (by kernel_rfl) (by kernel_rfl) (by kernel_rfl) (by kernel_rfl) (k := .u32) (y := 1) hc' hz'
  go_enter_d Tryz.func74, Tryz.ntmps74
  go_wp2
  go_region_calls
  all_goals (go_end0; exact ⟨rfl, rfl⟩)

set_option maxRecDepth 100000 in
set_option maxHeartbeats 1600000 in
/-- a deferred release of the lock -/
theorem unlock_deferred (a : Addr) (u : FrameMode) (w : World) (hc : w.cell? a = some (.int .i32 1)) (hz : w.frozen? a = false) :
    CallsD Tryz.prog 73 #[.pointer (some a)] u w fun e u' w' => u' = u ∧ (e = .returned (.tuple #[]) ∧ w' = w.setCell a (.int .i32 0)) := by
  have hd := disable
  have he := enable
  have hr := releaseMerge
  have hadd := run_call_add (P := Tryz.prog) Tryz.func105 (by kernel_rfl) (by kernel_rfl) (by kernel_rfl) .i32 (by kernel_rfl) (y := -1) (s := 0) hc hz (by simp [go_sem]; rfl)
  have hcv := run_convert_to_unsafe (P := Tryz.prog) (src := 139) (dst := 143) Tryz.underlying139 Tryz.underlying143 (by kernel_rfl) hc
  go_enter_d Tryz.func73, Tryz.ntmps73
  go_wp2
  go_end0
  go_wp2
  go_end0
  exact ⟨rfl, rfl⟩

set_option maxRecDepth 100000 in
set_option maxHeartbeats 1600000 in
/-- the free lock is taken -/
theorem lock_free (a : Addr) (w : World) (hc : w.cell? a = some (.int .i32 0)) (hz : w.frozen? a = false) :
    Calls Tryz.prog 72 #[.pointer (some a)] w fun e w' => e = .returned (.tuple #[]) ∧ w' = w.setCell a (.int .i32 1) := by
  have hd := disable
  have he := enable
  have ha := acquire
  have hcas := run_call_cas_hit (P := Tryz.prog) Tryz.func100 (by kernel_rfl) (by kernel_rfl) (by kernel_rfl) .i32 (by kernel_rfl) (y := 1) hc hz
  have hc' : (w.setCell a (.int .i32 1)).cell? a = some (.int .i32 1) := World.cell?_setCell_same w a _ hc
  have hcv := run_convert_to_unsafe (P := Tryz.prog) (src := 139) (dst := 143) Tryz.underlying139 Tryz.underlying143 (by kernel_rfl) hc'
  go_enter Tryz.func72, Tryz.ntmps72
  go_wp2
  first | go_end0 | (simp only [Exit.inBlock, Exit.then]; refine bodyPost_ret (results_none rfl _ _ _) rfl ?_) | refine bodyPost_ret (results_none rfl _ _ _) rfl ?_
  go_wp2
  go_end0
  exact ⟨rfl, rfl⟩
end Go.Proofs.YtogmipbdnffegaaGreatDoor
namespace Go.Proofs.YtogmipbdnffegaaGreatDoor
open Go Go.RowKit Go.Sort
set_option linter.unusedVariables false
/-- a Replacer in memory -/
structure RP (w : World) (rb : Nat) (d m : Int) (x3 x4 : Value) : Prop where
  c0 : w.cell? ⟨rb, 0, none⟩ = some (.int .u32 d)
  c1 : w.cell? ⟨rb, 1, none⟩ = some (.int .i32 m)
  c3 : w.cell? ⟨rb, 3, none⟩ = some x3
  c4 : w.cell? ⟨rb, 4, none⟩ = some x4
  fz : ∀ i, w.frozen? ⟨rb, i, none⟩ = false
theorem RP.lt {w : World} {rb : Nat} {d m : Int} {x3 x4 : Value} (h : RP w rb d m x3 x4) : rb < w.heap.size := World.block_lt_of_cell? w _ h.c0
theorem RP.below {w w' : World} {rb : Nat} {d m : Int} {x3 x4 : Value} (h : RP w rb d m x3 x4) (hb : Below w.heap.size w w') : RP w' rb d m x3 x4 := by
  have K : ∀ {g i : Nat} {v : Value}, w.cell? ⟨g, i, none⟩ = some v → w'.cell? ⟨g, i, none⟩ = some v := fun {g i v} hc => (hb.cell (p := ⟨g, i, none⟩) (World.block_lt_of_cell? w _ hc)).trans hc
  exact ⟨K h.c0, K h.c1, K h.c3, K h.c4, fun i => (hb.frozen (p := ⟨rb, i, none⟩) h.lt).trans (h.fz i)⟩
theorem RP.put0 {w : World} {rb : Nat} {d m : Int} {x3 x4 : Value} (h : RP w rb d m x3 x4) (v : Int) : RP (w.setCell ⟨rb, 0, none⟩ (.int .u32 v)) rb v m x3 x4 :=
  ⟨World.cell?_setCell_same _ _ _ h.c0, (World.cell?_setCell_other _ _ _ _ (qne_off (by decide))).trans h.c1, (World.cell?_setCell_other _ _ _ _ (qne_off (by decide))).trans h.c3, (World.cell?_setCell_other _ _ _ _ (qne_off (by decide))).trans h.c4, fun i => by rw [World.frozen?_setCell]; exact h.fz i⟩
theorem RP.put1 {w : World} {rb : Nat} {d m : Int} {x3 x4 : Value} (h : RP w rb d m x3 x4) (v : Int) : RP (w.setCell ⟨rb, 1, none⟩ (.int .i32 v)) rb d v x3 x4 :=
  ⟨(World.cell?_setCell_other _ _ _ _ (qne_off (by decide))).trans h.c0, World.cell?_setCell_same _ _ _ h.c1, (World.cell?_setCell_other _ _ _ _ (qne_off (by decide))).trans h.c3, (World.cell?_setCell_other _ _ _ _ (qne_off (by decide))).trans h.c4, fun i => by rw [World.frozen?_setCell]; exact h.fz i⟩
theorem RP.put3 {w : World} {rb : Nat} {d m : Int} {x3 x4 : Value} (h : RP w rb d m x3 x4) (v : Value) : RP (w.setCell ⟨rb, 3, none⟩ v) rb d m v x4 :=
  ⟨(World.cell?_setCell_other _ _ _ _ (qne_off (by decide))).trans h.c0, (World.cell?_setCell_other _ _ _ _ (qne_off (by decide))).trans h.c1, World.cell?_setCell_same _ _ _ h.c3, (World.cell?_setCell_other _ _ _ _ (qne_off (by decide))).trans h.c4, fun i => by rw [World.frozen?_setCell]; exact h.fz i⟩
theorem RP.put4 {w : World} {rb : Nat} {d m : Int} {x3 x4 : Value} (h : RP w rb d m x3 x4) (v : Value) : RP (w.setCell ⟨rb, 4, none⟩ v) rb d m x3 v :=
  ⟨(World.cell?_setCell_other _ _ _ _ (qne_off (by decide))).trans h.c0, (World.cell?_setCell_other _ _ _ _ (qne_off (by decide))).trans h.c1, (World.cell?_setCell_other _ _ _ _ (qne_off (by decide))).trans h.c3, World.cell?_setCell_same _ _ _ h.c4, fun i => by rw [World.frozen?_setCell]; exact h.fz i⟩
theorem BR.put {w : World} {b p q r cp cq cr : Nat} (h : BR w b p q r cp cq cr) (rb k : Nat) (v : Value) (n1 : rb < b) (n2 : rb < p) (n3 : rb < q) (n4 : rb < r) : BR (w.setCell ⟨rb, k, none⟩ v) b p q r cp cq cr := by
  have K : ∀ {g i : Nat} {x : Value}, rb < g → w.cell? ⟨g, i, none⟩ = some x → (w.setCell ⟨rb, k, none⟩ v).cell? ⟨g, i, none⟩ = some x := fun {g i x} hg hc => (World.cell?_setCell_other _ _ _ _ (qne_blk (by omega))).trans hc
  exact ⟨fun i h1 h2 h3 => K n1 (h.no i h1 h2 h3), K n1 h.r92, K n1 h.r34, K n1 h.rr, K n2 h.p0, K n2 h.p1, K n3 h.q0, K n3 h.q1, K n4 h.t0, K n4 h.t1, h.hp, h.hq, h.hr⟩
theorem BR.drew {w : World} {b p q r cp cq cr : Nat} (h : BR w b p q r cp cq cr) : BR w.drew b p q r cp cq cr := h.below (Below.refl _ _).drew
theorem RP.drew {w : World} {rb : Nat} {d m : Int} {x3 x4 : Value} (h : RP w rb d m x3 x4) : RP w.drew rb d m x3 x4 := h.below (Below.refl _ _).drew
/-- what is built -/
structure Blt (H : Nat) (w w' : World) (rb : Nat) (d m : Int) : Prop where
  ex : ∃ b p q r cp cq cr, RP w' rb d m (.iface 105 (.pointer (some ⟨b, 0, none⟩))) (.slice none 0 0) ∧ BR w' b p q r cp cq cr ∧ rb < b ∧ rb < p ∧ rb < q ∧ rb < r
  bel : Below H w w'
theorem Blt.put0 {H : Nat} {w w' : World} {rb : Nat} {d m : Int} (h : Blt H w w' rb d m) (hH : H ≤ rb) (v : Int) : Blt H w (w'.setCell ⟨rb, 0, none⟩ (.int .u32 v)) rb v m := by
  obtain ⟨b, p, q, r, cp, cq, cr, h1, h2, n1, n2, n3, n4⟩ := h.ex
  exact ⟨⟨b, p, q, r, cp, cq, cr, h1.put0 v, h2.put rb 0 _ n1 n2 n3 n4, n1, n2, n3, n4⟩, h.bel.setCell (p := ⟨rb, 0, none⟩) hH _⟩
theorem Blt.put1 {H : Nat} {w w' : World} {rb : Nat} {d m : Int} (h : Blt H w w' rb d m) (hH : H ≤ rb) (v : Int) : Blt H w (w'.setCell ⟨rb, 1, none⟩ (.int .i32 v)) rb d v := by
  obtain ⟨b, p, q, r, cp, cq, cr, h1, h2, n1, n2, n3, n4⟩ := h.ex
  exact ⟨⟨b, p, q, r, cp, cq, cr, h1.put1 v, h2.put rb 1 _ n1 n2 n3 n4, n1, n2, n3, n4⟩, h.bel.setCell (p := ⟨rb, 1, none⟩) hH _⟩
theorem Blt.drew {H : Nat} {w w' : World} {rb : Nat} {d m : Int} (h : Blt H w w' rb d m) : Blt H w w'.drew rb d m := by
  obtain ⟨b, p, q, r, cp, cq, cr, h1, h2, n1, n2, n3, n4⟩ := h.ex
  exact ⟨⟨b, p, q, r, cp, cq, cr, h1.drew, h2.drew, n1, n2, n3, n4⟩, h.bel.drew⟩
theorem Blt.rp {H : Nat} {w w' : World} {rb : Nat} {d m : Int} (h : Blt H w w' rb d m) : ∃ x3, RP w' rb d m x3 (.slice none 0 0) := by
  obtain ⟨b, p, q, r, cp, cq, cr, h1, -⟩ := h.ex
  exact ⟨_, h1⟩
set_option maxRecDepth 100000 in
set_option maxHeartbeats 4000000 in
theorem buildOnce_any (H rb o cp : Nat) (hcp : 4 ≤ cp) (d m : Int) (x3 : Value) (w : World) (hH : H ≤ rb) (hR : RP w rb d m x3 (.slice (some ⟨o, 0, none⟩) 4 cp)) (hO : ON w o) : Calls Tryz.prog 47 #[.pointer (some ⟨rb, 0, none⟩)] w fun e w' => e = .returned (.tuple #[]) ∧ Blt H w w' rb d m := by
  have hlt := hR.lt
  go_enter Tryz.func47, Tryz.ntmps47
  go_upto_region 1 with (with_reducible refine (build_any rb o cp hcp _ hR.c4 hO).mono ?_; rintro e w1 ⟨b, p, q, r, cp2, cq, cr, rfl, hB, hb, n1, n2, n3, n4⟩; have R1 := hR.below hb; clear hR hO; obtain ⟨c0, c1, c3, c4, fz⟩ := id R1; have f3 := fz 3; have f4 := fz 4; clear fz)
  go_wp2_with fail
  go_end0
  have r2 := (R1.put3 (.iface 105 (.pointer (some ⟨b, 0, none⟩)))).put4 (.slice none 0 0)
  have hb2 := (hB.put rb 3 (.iface 105 (.pointer (some ⟨b, 0, none⟩))) (by omega) (by omega) (by omega) (by omega)).put rb 4 (.slice none 0 0) (by omega) (by omega) (by omega) (by omega)
  have hl2 := ((hb.mono (show H ≤ w.heap.size by omega)).setCell (p := ⟨rb, 3, none⟩) hH (.iface 105 (.pointer (some ⟨b, 0, none⟩)))).setCell (p := ⟨rb, 4, none⟩) hH (.slice none 0 0)
  refine ⟨rfl, ?_⟩
  with_reducible exact Blt.mk ⟨b, p, q, r, cp2, cq, cr, r2, hb2, by omega, by omega, by omega, by omega⟩ hl2
end Go.Proofs.YtogmipbdnffegaaGreatDoor
namespace Go.Proofs.YtogmipbdnffegaaGreatDoor
open Go Go.RowKit Go.Sort
set_option linter.unusedVariables false
set_option maxRecDepth 100000 in
set_option maxHeartbeats 1600000 in
theorem load_done (a : Addr) (w : World) (h0 : w.cell? a = some (.int .u32 0)) : Calls Tryz.prog 57 #[.pointer (some a)] w fun e w' => e = .returned (.bool false) ∧ w = w' := by
  have hl := run_call_load (P := Tryz.prog) Tryz.func71 (by kernel_rfl) (by kernel_rfl) (by kernel_rfl) .u32 (by kernel_rfl) h0
  go_enter Tryz.func57, Tryz.ntmps57
  go_wp2
  go_ret
  exact ⟨rfl, rfl⟩
set_option maxRecDepth 100000 in
set_option maxHeartbeats 1600000 in
theorem slow_any (H rb o cp : Nat) (hcp : 4 ≤ cp) (x3 : Value) (w : World) (hH : H ≤ rb) (hR : RP w rb 0 0 x3 (.slice (some ⟨o, 0, none⟩) 4 cp)) (hO : ON w o) (hne : rb ≠ o) : Calls Tryz.prog 58 #[.pointer (some ⟨rb, 0, none⟩), .func (.func 47) #[.pointer (some ⟨rb, 0, none⟩)] #[]] w fun e w' => e = .returned (.tuple #[]) ∧ Blt H w w' rb 1 0 := by
  have hnot : ∀ (x : Bool) (w : World), (Op.unary .not (.bool x)).run Tryz.prog w = .ok (.bool (!x)) w := fun _ _ => rfl
  have R1 := hR.put1 1
  have O1 := hO.other rb 1 (.int .i32 1) hne
  have hb1 := (Below.refl H w).setCell (p := ⟨rb, 1, none⟩) hH (.int .i32 1)
  obtain ⟨c0, c1, c3, c4, fz⟩ := id hR
  have f1 := fz 1
  clear fz hR hO c3 c4
  have c0' := R1.c0
  go_enter_defers Tryz.func58, Tryz.ntmps58
  go_wp2_with (first
    | (with_reducible refine (lock_free ⟨rb, 1, none⟩ _ c1 f1).mono ?_; rintro e w' ⟨rfl, rfl⟩)
    | (with_reducible refine (load_done ⟨rb, 0, none⟩ _ c0').mono ?_; rintro e w' ⟨rfl, rfl⟩)
    | (with_reducible refine (buildOnce_any H rb o cp hcp 0 1 x3 _ hH R1 O1).mono ?_; rintro e w2 ⟨rfl, hB⟩))
  obtain ⟨x, R2⟩ := hB.rp
  have h0 := R2.c0
  have f0 := R2.fz 0
  have hB3 := hB.drew.put0 hH 1
  have hB4 := hB3.put1 hH 0
  obtain ⟨x', R3⟩ := hB3.rp
  have h1 := R3.c1
  have f1' := R3.fz 1
  refine leaves_cons (f := 74) (args := #[.pointer (some ⟨rb, 0, none⟩), .bool true]) (by simp) (by simp [go_sem]) ?_
  refine (store_deferred ⟨rb, 0, none⟩ (.int .u32 0) .returning _ h0 f0).mono ?_
  rintro e u' w'' ⟨rfl, rfl, rfl⟩
  refine leaves_cons (f := 73) (args := #[.pointer (some ⟨rb, 1, none⟩)]) (by simp [settle]) (by simp [go_sem]) ?_
  refine (unlock_deferred ⟨rb, 1, none⟩ _ _ h1 f1').mono ?_
  rintro e u' w'' ⟨rfl, rfl, rfl⟩
  have hfin : Blt H w _ rb 1 0 := ⟨hB4.ex, hb1.trans hB4.bel⟩
  simp [Leaves, settle, results, Tryz.results58]
  exact hfin
set_option maxRecDepth 100000 in
set_option maxHeartbeats 1600000 in
theorem do_any (H rb o cp : Nat) (hcp : 4 ≤ cp) (x3 : Value) (w : World) (hH : H ≤ rb) (hR : RP w rb 0 0 x3 (.slice (some ⟨o, 0, none⟩) 4 cp)) (hO : ON w o) (hne : rb ≠ o) : Calls Tryz.prog 46 #[.pointer (some ⟨rb, 0, none⟩), .func (.func 47) #[.pointer (some ⟨rb, 0, none⟩)] #[]] w fun e w' => e = .returned (.tuple #[]) ∧ Blt H w w' rb 1 0 := by
  have hnot : ∀ (x : Bool) (w : World), (Op.unary .not (.bool x)).run Tryz.prog w = .ok (.bool (!x)) w := fun _ _ => rfl
  have c0 := hR.c0
  go_enter Tryz.func46, Tryz.ntmps46
  go_wp2_with (first
    | (with_reducible refine (load_done ⟨rb, 0, none⟩ _ c0).mono ?_; rintro e w' ⟨rfl, rfl⟩)
    | (with_reducible refine (slow_any H rb o cp hcp x3 _ hH hR hO hne).mono ?_; rintro e w2 ⟨rfl, hB⟩))
  go_end0
  exact ⟨rfl, hB⟩
set_option maxRecDepth 100000 in
set_option maxHeartbeats 1600000 in
theorem replace_any (s : ByteArray) (hs : s.size ≤ 1000) (H rb o cp : Nat) (hcp : 4 ≤ cp) (x3 : Value) (w : World) (hH : H ≤ rb) (hR : RP w rb 0 0 x3 (.slice (some ⟨o, 0, none⟩) 4 cp)) (hO : ON w o) (hne : rb ≠ o) : Calls Tryz.prog 35 #[.pointer (some ⟨rb, 0, none⟩), .string s] w fun e w' => e = .returned (.string (qbs (escL s.data.toList))) ∧ Below H w w' := by
  have hmf : ∀ (fn : Fn) (first cap : Array Value) (w : World), (Instr.makeFunc fn first cap).run Tryz.prog w = .ok (.func fn first cap) w := fun _ _ _ _ => rfl
  have hlt := hR.lt
  have hm : ∀ (k : Nat) (w : World) (v : Option Addr), (method (k + 1) 105 (.pointer v) "Replace").run Tryz.prog w = .ok (185, .pointer v) w := fun k w v => by kernel_rfl
  go_enter Tryz.func35, Tryz.ntmps35
  go_upto_region 2 with (with_reducible refine (do_any H rb o cp hcp x3 _ hH hR hO hne).mono ?_; rintro e w2 ⟨rfl, hB⟩; obtain ⟨b, p, q, r, cp2, cq, cr, R2, BB2, n1, n2, n3, n4⟩ := hB.ex; have c3 := R2.c3; have hl2 := R2.lt; have bb := hB.bel)
  go_wp2_with (with_reducible refine (bsr_any s hs b p q r cp2 cq cr _ BB2).mono ?_; rintro e w4 ⟨rfl, hb4⟩)
  go_ret
  exact ⟨rfl, bb.trans (hb4.mono (by omega))⟩
end Go.Proofs.YtogmipbdnffegaaGreatDoor
