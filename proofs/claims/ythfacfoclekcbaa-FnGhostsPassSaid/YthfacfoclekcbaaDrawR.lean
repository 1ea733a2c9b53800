/- Drawn rods: whatever they are, the cursor alone is turned. -/
import Derived.Test.YthfacfoclekcbaaCurR
import Derived.Test.YthfacfoclekcbaaPutR
import Derived.Test.YthfacfoclekcbaaGood
import Derived.Deep.RegionHeld3
namespace Go.Proofs.Ythfacfoclekcbaa
open Go.RowKit

theorem alloc_sz (w : World) (o : Obj) : (w.alloc o).heap.size = w.heap.size + 1 := by simp
theorem new0 (w : World) (x y : Value) (t : TypeId) : (w.alloc (Obj.cells #[x, y] t)).cell? ⟨w.heap.size, 0, none⟩ = some x := by simp
theorem new1 (w : World) (x y : Value) (t : TypeId) : (w.alloc (Obj.cells #[x, y] t)).cell? ⟨w.heap.size, 1, none⟩ = some y := by simp
theorem new_fz (w : World) (x y : Value) (t : TypeId) (o : Nat) : (w.alloc (Obj.cells #[x, y] t)).frozen? ⟨w.heap.size, o, none⟩ = false := by simp [go_sem]
theorem drew_alloc_size (w : World) (o : Obj) : (w.alloc o).drew.heap.size = w.heap.size + 1 := alloc_sz w o
theorem drew_new0 (w : World) (x y : Value) (t : TypeId) : (w.alloc (Obj.cells #[x, y] t)).drew.cell? ⟨w.heap.size, 0, none⟩ = some x := new0 w x y t
theorem drew_new1 (w : World) (x y : Value) (t : TypeId) : (w.alloc (Obj.cells #[x, y] t)).drew.cell? ⟨w.heap.size, 1, none⟩ = some y := new1 w x y t
theorem drew_new_fz (w : World) (x y : Value) (t : TypeId) (o : Nat) : (w.alloc (Obj.cells #[x, y] t)).drew.frozen? ⟨w.heap.size, o, none⟩ = false := new_fz w x y t o

/-- what stands while a rod is drawn: the cursor, the result's cells, the rod so far and its ants -/
structure RodIn (w W : World) (g nb cb : Nat) (B : Option Addr) (bs : List Int) (m : Int) (rb : Nat) (L : Int) (A : Option Addr) (c : Nat) (l : List (Int × Int)) : Prop where
  cur : ∃ a s, CurAt W g B nb cb bs a s ∧ a ≤ m
  turn : Turn w.heap.size g w W
  o0 : W.cell? ⟨rb, 0, none⟩ = some (.int .i64 L)
  o1 : W.cell? ⟨rb, 1, none⟩ = some (.slice A l.length c)
  q0 : W.frozen? ⟨rb, 0, none⟩ = false
  q1 : W.frozen? ⟨rb, 1, none⟩ = false
  r0 : W.cell? ⟨w.heap.size, 0, none⟩ = some (.int .i64 0)
  r1 : W.cell? ⟨w.heap.size, 1, none⟩ = some (.slice none 0 0)
  f0 : W.frozen? ⟨w.heap.size, 0, none⟩ = false
  f1 : W.frozen? ⟨w.heap.size, 1, none⟩ = false
  own : SlOwn pairS W (rb + 1) 42 (.slice A l.length c) l
  lt0 : g < w.heap.size
  lt1 : w.heap.size < rb
  lt2 : rb < W.heap.size
  lst : bs = [] ∨ ∃ b off, B = some ⟨b, off, none⟩ ∧ b < w.heap.size
section
variable {w W W' : World} {g nb cb rb c : Nat} {B A : Option Addr} {bs : List Int} {m L : Int} {l : List (Int × Int)}

theorem frozen_of_block {b : Nat} (h : W'.heap[b]? = W.heap[b]?) (o : Nat) : W'.frozen? ⟨b, o, none⟩ = W.frozen? ⟨b, o, none⟩ := by
  unfold World.frozen?
  rw [h]
theorem cell_of_block {b : Nat} (h : W'.heap[b]? = W.heap[b]?) (o : Nat) : W'.cell? ⟨b, o, none⟩ = W.cell? ⟨b, o, none⟩ := by
  unfold World.cell?
  rw [h]

theorem RodIn.below (h : RodIn w W g nb cb B bs m rb L A c l) (hb : Below W.heap.size W W') : RodIn w W' g nb cb B bs m rb L A c l := by
  have l0 := h.lt0
  have l1 := h.lt1
  have l2 := h.lt2
  obtain ⟨a, s, hc, ha⟩ := h.cur
  exact ⟨⟨a, s, hc.kept hb, ha⟩, h.turn.trans (Turn.of_below (hb.mono (by omega))), Below.cell_some hb h.o0, Below.cell_some hb h.o1,
    (hb.frozen (p := ⟨rb, 0, none⟩) l2).trans h.q0, (hb.frozen (p := ⟨rb, 1, none⟩) l2).trans h.q1, Below.cell_some hb h.r0, Below.cell_some hb h.r1,
    (hb.frozen (p := ⟨w.heap.size, 0, none⟩) (by show w.heap.size < _; omega)).trans h.f0, (hb.frozen (p := ⟨w.heap.size, 1, none⟩) (by show w.heap.size < _; omega)).trans h.f1,
    h.own.below hb, l0, l1, Nat.lt_of_lt_of_le l2 hb.size, h.lst⟩
theorem RodIn.more {m' : Int} (h : RodIn w W g nb cb B bs m rb L A c l) (hm : m ≤ m') : RodIn w W g nb cb B bs m' rb L A c l := by
  obtain ⟨a, s, hc, ha⟩ := h.cur
  exact ⟨⟨a, s, hc, by omega⟩, h.turn, h.o0, h.o1, h.q0, h.q1, h.r0, h.r1, h.f0, h.f1, h.own, h.lt0, h.lt1, h.lt2, h.lst⟩
theorem RodIn.took (h : RodIn w W g nb cb B bs m rb L A c l) {a : Int} (ha : a ≤ m) (ht : Took W W' g nb cb B bs a 2) : RodIn w W' g nb cb B bs (m + 2) rb L A c l := by
  have l0 := h.lt0
  have l1 := h.lt1
  have l2 := h.lt2
  obtain ⟨⟨a', s', hc, ha'⟩, hg⟩ := ht
  have hz := hg.size
  have h1 : W'.heap[rb]? = W.heap[rb]? := hg.block rb (by omega) (fun e => by injection e with e; omega)
  have h2 : W'.heap[w.heap.size]? = W.heap[w.heap.size]? := hg.block _ (by omega) (fun e => by injection e with e; omega)
  exact ⟨⟨a', s', hc, by omega⟩, h.turn.trans (Turn.of_grown hg (by omega)), (cell_of_block h1 0).trans h.o0, (cell_of_block h1 1).trans h.o1, (frozen_of_block h1 0).trans h.q0, (frozen_of_block h1 1).trans h.q1,
    (cell_of_block h2 0).trans h.r0, (cell_of_block h2 1).trans h.r1, (frozen_of_block h2 0).trans h.f0, (frozen_of_block h2 1).trans h.f1, SlOwn.turned h.own hg (by omega), l0, l1, by omega, h.lst⟩
theorem RodIn.store (h : RodIn w W g nb cb B bs m rb L A c l) {A' : Option Addr} {c' : Nat} {l' : List (Int × Int)} (ho : SlOwn pairS W (rb + 1) 42 (.slice A' l'.length c') l') :
    RodIn w ((W.setCell ⟨rb, 0, none⟩ (.int .i64 L)).setCell ⟨rb, 1, none⟩ (.slice A' l'.length c')) g nb cb B bs m rb L A' c' l' := by
  have l0 := h.lt0
  have l1 := h.lt1
  have l2 := h.lt2
  obtain ⟨a, s, hc, ha⟩ := h.cur
  have hb : Below rb W ((W.setCell ⟨rb, 0, none⟩ (.int .i64 L)).setCell ⟨rb, 1, none⟩ (.slice A' l'.length c')) := ((Below.refl rb W).setCell (Nat.le_refl _) _).setCell (Nat.le_refl _) _
  refine ⟨⟨a, s, hc.keptB hb (by omega) (h.lst.imp id (fun ⟨b, off, e, hl⟩ => ⟨b, off, e, by omega⟩)), ha⟩, h.turn.trans (Turn.of_below (hb.mono (by omega))), ?_, ?_, ?_, ?_,
    (hb.cell (p := ⟨w.heap.size, 0, none⟩) l1).trans h.r0, (hb.cell (p := ⟨w.heap.size, 1, none⟩) l1).trans h.r1, (hb.frozen (p := ⟨w.heap.size, 0, none⟩) l1).trans h.f0, (hb.frozen (p := ⟨w.heap.size, 1, none⟩) l1).trans h.f1,
    ownsRow_setCell_below (ownsRow_setCell_below ho (Nat.lt_succ_self _) _) (Nat.lt_succ_self _) _, l0, l1, by simpa using l2, h.lst⟩
  · simp [go_sem, h.o0]
  · simp [go_sem, h.o1]
  · simp [go_sem, h.q0]
  · simp [go_sem, h.q1]

/-- the next rod lies ready at block b8 -/
structure NextIn (w W : World) (g nb cb : Nat) (B : Option Addr) (bs : List Int) (m : Int) (rb : Nat) (L : Int) (A : Option Addr) (c : Nat) (l : List (Int × Int)) (b8 : Nat) (A6 : Option Addr) (c6 : Nat) (l2 : List (Int × Int)) : Prop where
  rod : RodIn w W g nb cb B bs m rb L A c l
  own : SlOwn pairS W (rb + 1) 42 (.slice A6 l2.length c6) l2
  p0 : W.cell? ⟨b8, 0, none⟩ = some (.int .i64 L)
  p1 : W.cell? ⟨b8, 1, none⟩ = some (.slice A6 l2.length c6)
variable {b8 c6 : Nat} {A6 : Option Addr} {l2 : List (Int × Int)}
theorem NextIn.below (h : NextIn w W g nb cb B bs m rb L A c l b8 A6 c6 l2) (hb : Below W.heap.size W W') : NextIn w W' g nb cb B bs m rb L A c l b8 A6 c6 l2 :=
  ⟨h.rod.below hb, SlOwn.below h.own hb, Below.cell_some hb h.p0, Below.cell_some hb h.p1⟩
theorem NextIn.fresh (h : RodIn w W g nb cb B bs m rb L A c l) (ho : SlOwn pairS W (rb + 1) 42 (.slice A6 l2.length c6) l2) :
    NextIn w (W.alloc (Obj.cells #[Value.int IntKind.i64 L, Value.slice A6 l2.length c6] 26)) g nb cb B bs m rb L A c l W.heap.size A6 c6 l2 :=
  ⟨h.below ((Below.refl _ _).alloc (Nat.le_refl _) _), SlOwn.below ho ((Below.refl _ _).alloc (Nat.le_refl _) _), by simp, by simp⟩
theorem NextIn.stored (h : RodIn w W g nb cb B bs m rb L A c l) (ho : SlOwn pairS W (rb + 1) 42 (.slice A6 l2.length c6) l2) (hb8 : rb < b8)
    (n1 : ∀ k, (Value.slice A l.length c).ownBlock = some k → k < b8) (n2 : ∀ k, (Value.slice A6 l2.length c6).ownBlock = some k → b8 < k) {v0 v1 : Value} (e0 : W.cell? ⟨b8, 0, none⟩ = some v0) (e1 : W.cell? ⟨b8, 1, none⟩ = some v1) :
    NextIn w ((W.setCell ⟨b8, 0, none⟩ (.int .i64 L)).setCell ⟨b8, 1, none⟩ (.slice A6 l2.length c6)) g nb cb B bs m rb L A c l b8 A6 c6 l2 := by
  have l0 := h.lt0
  have l1 := h.lt1
  have l2' := h.lt2
  obtain ⟨a, s, hc, ha⟩ := h.cur
  have hb : Below b8 W ((W.setCell ⟨b8, 0, none⟩ (.int .i64 L)).setCell ⟨b8, 1, none⟩ (.slice A6 l2.length c6)) := ((Below.refl b8 W).setCell (Nat.le_refl _) _).setCell (Nat.le_refl _) _
  have hg : W.grownBy ((W.setCell ⟨b8, 0, none⟩ (.int .i64 L)).setCell ⟨b8, 1, none⟩ (.slice A6 l2.length c6)) (some b8) := (grown_set _ _ _ _).trans (grown_set _ _ _ _)
  have k1 : SlOwn pairS ((W.setCell ⟨b8, 0, none⟩ (.int .i64 L)).setCell ⟨b8, 1, none⟩ (.slice A6 l2.length c6)) (rb + 1) 42 (.slice A l.length c) l := by
    refine SlOwn.kept h.own hg ?_
    cases hx : (Value.slice A l.length c).ownBlock with
    | none => exact .inl rfl
    | some k => exact .inr (fun e => by have := n1 k hx; injection e with e; omega)
  have k2 : SlOwn pairS ((W.setCell ⟨b8, 0, none⟩ (.int .i64 L)).setCell ⟨b8, 1, none⟩ (.slice A6 l2.length c6)) (rb + 1) 42 (.slice A6 l2.length c6) l2 := by
    refine SlOwn.kept ho hg ?_
    cases hx : (Value.slice A6 l2.length c6).ownBlock with
    | none => exact .inl rfl
    | some k => exact .inr (fun e => by have := n2 k hx; injection e with e; omega)
  refine ⟨⟨⟨a, s, hc.keptB hb (by omega) (h.lst.imp id (fun ⟨b, off, e, hl⟩ => ⟨b, off, e, by omega⟩)), ha⟩, h.turn.trans (Turn.of_below (hb.mono (by omega))), (hb.cell (p := ⟨rb, 0, none⟩) hb8).trans h.o0, (hb.cell (p := ⟨rb, 1, none⟩) hb8).trans h.o1, (hb.frozen (p := ⟨rb, 0, none⟩) hb8).trans h.q0, (hb.frozen (p := ⟨rb, 1, none⟩) hb8).trans h.q1,
    (hb.cell (p := ⟨w.heap.size, 0, none⟩) (Nat.lt_trans l1 hb8)).trans h.r0, (hb.cell (p := ⟨w.heap.size, 1, none⟩) (Nat.lt_trans l1 hb8)).trans h.r1, (hb.frozen (p := ⟨w.heap.size, 0, none⟩) (Nat.lt_trans l1 hb8)).trans h.f0, (hb.frozen (p := ⟨w.heap.size, 1, none⟩) (Nat.lt_trans l1 hb8)).trans h.f1,
    k1, l0, l1, by simpa using l2', h.lst⟩, k2, ?_, ?_⟩
  · simp [go_sem, e0]
  · simp [go_sem, e1]
end

set_option maxRecDepth 100000 in
set_option maxHeartbeats 4000000 in
theorem sureRod_any (g nb cb : Nat) (B : Option Addr) (bs : List Int) (a s : Int) (w : World) (h : CurAt w g B nb cb bs a s) (ha : a ≤ 1099511620000) :
    Calls Try.prog 43 #[.pointer (some ⟨g, 0, none⟩), .int .i64 8] w fun e w' => ∃ L A n c, e = .returned (.agg #[.int .i64 L, .slice A n c]) ∧ (4 ≤ L ∧ L ≤ 42) ∧ Took w w' g nb cb B bs a 200 ∧ ∃ l, l.length ≤ 8 ∧ n = l.length ∧ SlOwn pairS w' w.heap.size 42 (.slice A n c) l := by
  have HP : Hid (∀ (a s n : Int) (w : World), CurAt w g B nb cb bs a s → a ≤ 1099511627000 → -1000000 ≤ n → n ≤ 1000000 → Calls Try.prog 40 #[.pointer (some ⟨g, 0, none⟩), .int .i64 n] w fun e w' => ∃ v, e = .returned (.int .i64 v) ∧ 0 ≤ v ∧ (v = 0 ∨ v < n) ∧ Took w w' g nb cb B bs a 2) := fun a s n w h ha hn0 hn => pick_any g nb cb B bs a s n w h ha hn0 hn
  have HPR : Hid (∀ (m n : Int) (W : World) (rb : Nat) (L : Int) (A : Option Addr) (c : Nat) (l : List (Int × Int)), RodIn w W g nb cb B bs m rb L A c l → m ≤ 1099511627000 → -1000000 ≤ n → n ≤ 1000000 → Calls Try.prog 40 #[.pointer (some ⟨g, 0, none⟩), .int .i64 n] W fun e w' => ∃ v, e = .returned (.int .i64 v) ∧ 0 ≤ v ∧ (v = 0 ∨ v < n) ∧ RodIn w w' g nb cb B bs (m + 2) rb L A c l ∧ W.grownBy w' (some g)) := fun m n W rb L A c l h hm hn0 hn => by
    obtain ⟨a, s, hc, ha⟩ := h.cur
    refine (pick_any g nb cb B bs a s n W hc (by omega) hn0 hn).mono ?_
    rintro e w' ⟨v, rfl, v0, v1, ht⟩
    exact ⟨v, rfl, v0, v1, h.took ha ht, ht.grown⟩
  have HPUT : Hid (∀ (m : Int) (W : World) (rb : Nat) (L : Int) (A : Option Addr) (c : Nat) (l : List (Int × Int)) (x y : Int), RodIn w W g nb cb B bs m rb L A c l → l.length ≤ 8 → Calls Try.prog 61 #[.slice A l.length c, .agg #[.int .i64 x, .int .i64 y]] W fun e w' => ∃ A' c', e = .returned (.slice A' (putA l (x, y)).length c') ∧ RodIn w w' g nb cb B bs m rb L A c l ∧ SlOwn pairS w' (rb + 1) 42 (.slice A' (putA l (x, y)).length c') (putA l (x, y)) ∧ Below W.heap.size W w' ∧ ∀ k, (Value.slice A' (putA l (x, y)).length c').ownBlock = some k → W.heap.size ≤ k) := fun m W rb L A c l x y h hl => by
    refine (roPut_any A c l x y W (by omega) (own_cap h.own) (slAt_ants h.own.sl)).mono ?_
    rintro e w' ⟨A', n', c', rfl, rfl, ho, hb⟩
    exact ⟨A', c', rfl, h.below hb, ownsRow_base ho (by have := h.lt2; omega), hb, fun k hk => (World.ownsRow.lt ho k hk).1⟩
  have HGOOD : Hid (∀ (m : Int) (W : World) (rb : Nat) (L : Int) (A : Option Addr) (c : Nat) (l : List (Int × Int)) (b8 : Nat) (A6 : Option Addr) (c6 : Nat) (l2 : List (Int × Int)), NextIn w W g nb cb B bs m rb L A c l b8 A6 c6 l2 → Calls Try.prog 27 #[.agg #[.int .i64 L, .slice A6 l2.length c6]] W fun e w' => e = .returned (.bool (goodB L l2)) ∧ NextIn w w' g nb cb B bs m rb L A c l b8 A6 c6 l2) := fun m W rb L A c l b8 A6 c6 l2 h => by
    refine (roGood_any L A6 c6 l2 W (slAt_ants h.own.sl)).mono ?_
    rintro e w' ⟨rfl, hb⟩
    exact ⟨rfl, h.below hb⟩
  have HC := Lib.hid h
  have HL := Lib.hid h.place
  have hg := h.lt
  clear h
  go_enter Try.func43, Try.ntmps43
  go_wp2_with fail
  refine (HP.out _ _ _ _ (HC.out.kept ((Below.refl _ _).alloc (Nat.le_refl _) _)) (by omega) (by omega) (by omega)).mono ?_
  rintro e w1 ⟨v0, rfl, v00, v01, ⟨a1, s1, hc1, ha1⟩, hg1⟩
  have hz1 : w.heap.size + 1 ≤ w1.heap.size := by have := hg1.size; simpa using this
  have hR : RodIn w (w1.alloc (Obj.cells #[Value.int IntKind.i64 (2 * (2 + v0)), Value.slice none 0 0] 26)) g nb cb B bs (a + 2) w1.heap.size (2 * (2 + v0)) none 0 [] := by
    have h2 : w1.heap[w.heap.size]? = (w.alloc (Obj.cells #[Value.int IntKind.i64 0, Value.slice none 0 0] 26)).heap[w.heap.size]? := hg1.block _ (by simp) (fun e => by injection e with e; omega)
    have hb : Below w1.heap.size w1 (w1.alloc (Obj.cells #[Value.int IntKind.i64 (2 * (2 + v0)), Value.slice none 0 0] 26)) := (Below.refl _ _).alloc (Nat.le_refl _) _
    have r0 : w1.cell? ⟨w.heap.size, 0, none⟩ = some (.int .i64 0) := (cell_of_block h2 0).trans (by simp [go_sem])
    have r1 : w1.cell? ⟨w.heap.size, 1, none⟩ = some (.slice none 0 0) := (cell_of_block h2 1).trans (by simp [go_sem])
    have f0 : w1.frozen? ⟨w.heap.size, 0, none⟩ = false := (frozen_of_block h2 0).trans (by simp [go_sem])
    have f1 : w1.frozen? ⟨w.heap.size, 1, none⟩ = false := (frozen_of_block h2 1).trans (by simp [go_sem])
    exact ⟨⟨a1, s1, hc1.kept hb, by omega⟩, ((Turn.of_below ((Below.refl _ _).alloc (Nat.le_refl _) _)).trans (Turn.of_grown hg1 (by simp))).trans (Turn.of_below (hb.mono (by omega))), by simp, by simp [go_sem], by simp [go_sem], by simp [go_sem],
      Below.cell_some hb r0, Below.cell_some hb r1, (hb.frozen (p := ⟨w.heap.size, 0, none⟩) (by show w.heap.size < _; omega)).trans f0, (hb.frozen (p := ⟨w.heap.size, 1, none⟩) (by show w.heap.size < _; omega)).trans f1,
      SlOwn.nil pairS _ _ _, hg, by omega, by simp, HL.out⟩
  have HR := Lib.hid hR
  have hL : 4 ≤ 2 * (2 + v0) ∧ 2 * (2 + v0) ≤ 42 := by omega
  have hw1 : wrap64 (2 + v0) = 2 + v0 := IntWalk.wrap64_in _ (by omega)
  have hw2 : wrap64 (2 * (2 + v0)) = 2 * (2 + v0) := IntWalk.wrap64_in _ (by omega)
  clear hc1 hR
  go_wp2_with fail
  generalize 2 * (2 + v0) = L at *
  refine (HPR.out _ _ _ _ _ _ _ _ HR.out (by omega) (by omega) (by omega)).mono ?_
  rintro e w2 ⟨k0, rfl, k00, k01, hR2, _⟩
  have HR2 := Lib.hid hR2
  have hz2 := hR2.lt2
  clear hR2 HR hg1 hw1 hw2 v01 v00
  generalize w1.heap.size = rb at *
  go_wp2
  go_loopw [6] (fun q wr => ∃ (k : Nat) (A3 : Option Addr) (c3 : Nat) (l : List (Int × Int)), k ≤ 8 ∧ q = .int .i64 k ∧ l.length + k ≤ 8 ∧ RodIn w wr g nb cb B bs (a + 4 + 8 * l.length + 8 * (8 - k)) rb L A3 c3 l)
    (fun q _ => (intOf q).toNat)
  case atStart => exact ⟨k0.toNat, none, 0, [], by omega, by rw [Int.toNat_of_nonneg k00], by simp; omega, HR2.out.more (by simp; omega)⟩
  case round =>
    obtain ⟨k, A3, c3, l, hk, rfl, hlk, hR3⟩ := hrel
    have HR3 := Lib.hid hR3
    obtain ⟨_, _, o0, o1, q0, q1, r0, r1, f0, f1, _, _, lt1, lt2, _⟩ := id hR3
    clear hR3
    by_cases hk0 : 0 < k
    · have hk0' : (0 : Int) < (k : Int) := by omega
      have hd : L.tdiv 2 = L / 2 := Int.tdiv_eq_ediv_of_nonneg (by omega)
      go_wp2_with fail
      refine (HPR.out _ _ _ _ _ _ _ _ HR3.out (by omega) (by omega) (by omega)).mono ?_
      rintro e w4 ⟨u, rfl, u0, u1, hR4, _⟩
      have HR4a := Lib.hid hR4
      have HR4 := Lib.hid (hR4.below (Below.refl _ _).drew)
      obtain ⟨_, _, o0, o1, q0, q1, r0, r1, f0, f1, _, _, lt1, lt2, _⟩ := id hR4
      clear hR4
      have hz4 : rb < w4.heap.size := lt2
      have n1 : ∀ k, (Value.slice A3 l.length c3).ownBlock = some k → k < w4.heap.size := fun k hk => (World.ownsRow.lt HR4.out.own k hk).2
      have N1 := Lib.hid n1
      clear n1
      have hgw : g < w4.heap.size := by omega
      have HPA : Hid (Calls Try.prog 40 #[.pointer (some ⟨g, 0, none⟩), .int .i64 2] ((w4.alloc (Obj.cells #[Value.int IntKind.i64 0, Value.slice none 0 0] 26)).drew) fun e w5 => ∃ y, e = .returned (.int .i64 y) ∧ 0 ≤ y ∧ (y = 0 ∨ y < 2) ∧ RodIn w w5 g nb cb B bs (a + 4 + 8 * l.length + 8 * (8 - k) + 2 + 2) rb L A3 c3 l ∧ w4.heap.size + 1 ≤ w5.heap.size ∧ w5.cell? ⟨w4.heap.size, 0, none⟩ = some (.int .i64 0) ∧ w5.cell? ⟨w4.heap.size, 1, none⟩ = some (.slice none 0 0) ∧ w5.frozen? ⟨w4.heap.size, 0, none⟩ = false ∧ w5.frozen? ⟨w4.heap.size, 1, none⟩ = false) := by
        refine (HPR.out _ _ _ _ _ _ _ _ ((HR4a.out.below ((Below.refl _ _).alloc (Nat.le_refl _) _)).below (Below.refl _ _).drew) (by omega) (by omega) (by omega)).mono ?_
        rintro e w5 ⟨y, rfl, y0, y1, hR5, hg5⟩
        have hbk := hg5.block w4.heap.size (by rw [drew_alloc_size]; omega) (fun e => by injection e with e; omega)
        exact ⟨y, rfl, y0, y1, hR5, by have := hg5.size; rw [drew_alloc_size] at this; exact this, (cell_of_block hbk 0).trans (drew_new0 _ _ _ _), (cell_of_block hbk 1).trans (drew_new1 _ _ _ _), (frozen_of_block hbk 0).trans (drew_new_fz _ _ _ _ _), (frozen_of_block hbk 1).trans (drew_new_fz _ _ _ _ _)⟩
      go_wp2
      go_region_held3 (fun W => W.cell? ⟨rb, 0, none⟩ = some (.int .i64 L) ∧ W.cell? ⟨rb, 1, none⟩ = some (.slice A3 l.length c3))
        (first
          | go_keep
          | exact ⟨i0, i1⟩
          | exact ⟨j0, j1⟩
          | exact ⟨alloc_some j0 _, alloc_some j1 _⟩
          | exact ⟨alloc_some i0 _, alloc_some i1 _⟩
          | exact ⟨(cur_other (.inl (by omega))).trans ((cur_other (.inl (by omega))).trans j0), (cur_other (.inl (by omega))).trans ((cur_other (.inl (by omega))).trans j1)⟩)
        (first
          | (go_at_call 40; (with_reducible refine (HPR.out _ _ _ _ _ _ _ _ HR4.out (by omega) (by omega) (by omega)).mono ?_); rintro e w5 ⟨y, rfl, y0, y1, hR5, hg5⟩; have i0 := hR5.o0; have i1 := hR5.o1; have hz5 : w4.heap.size ≤ w5.heap.size := hg5.size; have hw3 : IntKind.i64.wrap (2 * y) = 2 * y := (by simp [IntKind.wrap, IntKind.bits, IntKind.signed]; omega); have hw4 : IntKind.i64.wrap (2 * y - 1) = 2 * y - 1 := (by simp [IntKind.wrap, IntKind.bits, IntKind.signed]; omega); have HR5 := Lib.hid hR5; clear hR5 hg5)
          | (go_at_call 40; (with_reducible refine HPA.out.mono ?_); rintro e w5 ⟨y, rfl, y0, y1, hR5, hz5, e0, e1, e2, e3⟩; have i0 := hR5.o0; have i1 := hR5.o1; have hw3 : IntKind.i64.wrap (2 * y) = 2 * y := (by simp [IntKind.wrap, IntKind.bits, IntKind.signed]; omega); have hw4 : IntKind.i64.wrap (2 * y - 1) = 2 * y - 1 := (by simp [IntKind.wrap, IntKind.bits, IntKind.signed]; omega); have HR5 := Lib.hid hR5; clear hR5)
          | (go_at_call 61; (with_reducible refine (HPUT.out _ _ _ _ _ _ _ _ _ HR5.out (by omega)).mono ?_); rintro e w6 ⟨A6, c6, rfl, hR6, ho6, hb6, hn6⟩; have j0 := hR6.o0; have j1 := hR6.o1; have e0 := Below.cell_some hb6 e0; have e1 := Below.cell_some hb6 e1; have e2 := (hb6.frozen (p := ⟨w4.heap.size, 0, none⟩) hz5).trans e2; have e3 := (hb6.frozen (p := ⟨w4.heap.size, 1, none⟩) hz5).trans e3; have HR6 := Lib.hid hR6; have HO6 := Lib.hid ho6; have HN6 := Lib.hid hn6; clear hR6 ho6 hb6 hn6)
          | (go_at_call 61; (with_reducible refine (HPUT.out _ _ _ _ _ _ _ _ _ HR5.out (by omega)).mono ?_); rintro e w6 ⟨A6, c6, rfl, hR6, ho6, hb6, hn6⟩; have j0 := hR6.o0; have j1 := hR6.o1; have HR6 := Lib.hid hR6; have HO6 := Lib.hid ho6; have HN6 := Lib.hid hn6; clear hR6 ho6 hb6 hn6)
          | (go_at_call 61; (with_reducible refine (HPUT.out _ _ _ _ _ _ _ _ _ (HR5.out.below ((Below.refl _ _).alloc (Nat.le_refl _) _)) (by omega)).mono ?_); rintro e w6 ⟨A6, c6, rfl, hR6, ho6, hb6, hn6⟩; have j0 := hR6.o0; have j1 := hR6.o1; have e0 : w6.cell? ⟨w5.heap.size, 0, none⟩ = some (.int .i64 0) := (hb6.cell (p := ⟨w5.heap.size, 0, none⟩) (by simp)).trans (by simp [go_sem]); have e1 : w6.cell? ⟨w5.heap.size, 1, none⟩ = some (.slice none 0 0) := (hb6.cell (p := ⟨w5.heap.size, 1, none⟩) (by simp)).trans (by simp [go_sem]); have e2 : w6.frozen? ⟨w5.heap.size, 0, none⟩ = false := (hb6.frozen (p := ⟨w5.heap.size, 0, none⟩) (by simp)).trans (by simp [go_sem]); have e3 : w6.frozen? ⟨w5.heap.size, 1, none⟩ = false := (hb6.frozen (p := ⟨w5.heap.size, 1, none⟩) (by simp)).trans (by simp [go_sem]); have HR6 := Lib.hid hR6; have HO6 := Lib.hid ho6; have HN6 := Lib.hid hn6; clear hR6 ho6 hb6 hn6))
      all_goals (
        have HLEN := Lib.hid (putA_len l (2 * u, 2 * y - 1))
        generalize hl2 : putA l (2 * u, 2 * y - 1) = l2 at *
        clear hl2
        go_wp2_with fail
        first
          | with_reducible refine (HGOOD.out _ _ _ _ _ _ _ _ _ _ _ (NextIn.stored HR6.out HO6.out (by omega) (fun k hk => by have := N1.out k hk; omega) (fun k hk => by have := HN6.out k hk; first | omega | (simp at this; omega)) e0 e1)).mono ?_
          | with_reducible refine (HGOOD.out _ _ _ _ _ _ _ _ _ _ _ (NextIn.fresh HR6.out HO6.out)).mono ?_
        rintro e w8 ⟨rfl, hN8⟩
        have p0 := hN8.p0
        have p1 := hN8.p1
        have s0 := hN8.rod.o0
        have s1' := hN8.rod.o1
        have t0 := hN8.rod.q0
        have t1 := hN8.rod.q1
        have HN8 := Lib.hid hN8
        clear hN8
        cases hgd : goodB L l2 with
        | false =>
          go_wp2
          go_roundw
          case rel => exact ⟨k - 1, A3, c3, l, by omega, by congr 1; omega, by omega, HN8.out.rod.more (by omega)⟩
          case measure => simp [intOf]; omega
        | true =>
          go_wp2
          go_roundw
          case rel => exact ⟨k - 1, A6, c6, l2, by omega, by congr 1; omega, by have := HLEN.out; omega, (HN8.out.rod.more (by have := HLEN.out; omega)).store HN8.out.own⟩
          case measure => simp [intOf]; omega)
    · obtain rfl : k = 0 := by omega
      have hb9 : Below w.heap.size wr ((wr.setCell ⟨w.heap.size, 0, none⟩ (.int .i64 L)).setCell ⟨w.heap.size, 1, none⟩ (.slice A3 l.length c3)) := ((Below.refl w.heap.size wr).setCell (by simp) _).setCell (by simp) _
      have HB9 := Lib.hid hb9
      clear hb9
      go_wp2
      refine bodyPost_ret (v := .agg #[.int .i64 L, .slice A3 l.length c3]) (by simp [results, Try.results43, go_sem, r0, r1]) rfl ⟨L, A3, l.length, c3, rfl, hL, ⟨?_, ?_⟩, l, by omega, rfl, ?_⟩
      · obtain ⟨a', s', hc, ha'⟩ := HR3.out.cur
        exact ⟨a', s', hc.keptB HB9.out HR3.out.lt0 HR3.out.lst, by omega⟩
      · exact (HR3.out.turn.trans (Turn.of_below HB9.out)).grown
      · exact ownsRow_base (ownsRow_setCell_below (ownsRow_setCell_below HR3.out.own (Nat.lt_succ_of_lt lt1) _) (Nat.lt_succ_of_lt lt1) _) (by omega)
end Go.Proofs.Ythfacfoclekcbaa
