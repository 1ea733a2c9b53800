/- Lemmas of my own on worlds, slices of structs and regions that draw their order; no dump is read here. -/
import Derived.WalkKit
import Derived.WalkSpells
import Derived.WalkLawsBesides
import Derived.KernelRfl
import Derived.BigQuiet
import Derived.Lib.Hide
namespace Go.Proofs.YtenpmjinbjlpbaaDoor
open Go.RowKit

theorem and_t {a b : Bool} (ha : a = true) (hb : b = true) : (a && b) = true := by rw [ha, hb]; rfl
theorem ret_bool {a b : Bool} (h : a = b) : Ending.returned (.bool a) = .returned (.bool b) := by rw [h]
theorem ret_int {a b : Int} (h : a = b) : Ending.returned (.int .i64 a) = .returned (.int .i64 b) := by rw [h]

theorem bcell {W w1 : World} (hb : Below W.heap.size W w1) : (∀ b o, b < W.heap.size → w1.cell? ⟨b, o, none⟩ = W.cell? ⟨b, o, none⟩) ∧ (∀ b o, b < W.heap.size → w1.frozen? ⟨b, o, none⟩ = W.frozen? ⟨b, o, none⟩) :=
  ⟨fun b o h => hb.cell (p := ⟨b, o, none⟩) h, fun b o h => hb.frozen (p := ⟨b, o, none⟩) h⟩

theorem Below.cell_some {W w1 : World} {p : Addr} {v : Value} (hb : Below W.heap.size W w1) (hc : W.cell? p = some v) : w1.cell? p = some v :=
  (hb.cell (World.block_lt_of_cell? _ _ hc)).trans hc

theorem alloc_some {W : World} {p : Addr} {v : Value} (hc : W.cell? p = some v) (o : Obj) : (W.alloc o).cell? p = some v :=
  (World.cell?_alloc_lt _ _ _ (World.block_lt_of_cell? _ _ hc)).trans hc

theorem below_drew {w w' : World} (h : Below w.drew.heap.size w.drew w') : Below w.heap.size w w' := ⟨h.os, h.tape, h.output, h.size, h.block⟩

/-- a world that holds all that W holds -/
structure Ext (W : World) where
  w : World
  h : Below W.heap.size W w
instance (W : World) : Nonempty (Ext W) := ⟨⟨W, Below.refl _ _⟩⟩
theorem Ext.cell {W : World} {p : Addr} {v : Value} (hc : W.cell? p = some v) (x : Ext W) : x.w.cell? p = some v := Below.cell_some x.h hc
theorem Ext.old {W : World} {p : Addr} {v : Value} {o : Obj} (hc : W.cell? p = some v) (x : Ext (W.alloc o)) : x.w.cell? p = some v :=
  Ext.cell ((World.cell?_alloc_lt _ _ _ (World.block_lt_of_cell? _ _ hc)).trans hc) x
theorem Ext.size {W : World} (x : Ext W) : W.heap.size ≤ x.w.heap.size := x.h.size
theorem Ext.call {P : Program} {f : FuncId} {args : Array Value} {W : World} {x : Ext W} {v : Value}
    (h : Calls P f args x.w fun e w' => e = .returned v ∧ Below x.w.heap.size x.w w') : Calls P f args x.w fun e w'' => e = .returned v ∧ ∃ y : Ext W, w'' = y.w :=
  h.mono fun _ w' ⟨he, hb⟩ => ⟨he, ⟨w', x.h.trans (hb.mono x.h.size)⟩, rfl⟩

/-- A region that draws its order, whose operations read and whose callees make memory of their own alone: one walk in the order of the text. -/
theorem wp_region_ext {P : Program} {id : Nat} {Q : Exit → Act → World → Prop} {a : Act} {w : World} {l : List Oper} (hm : P.follows .mixedOrders = true) (hB : Region.lexB .any l.toArray = true)
    (h : wpQuiet P l.toArray (fun w' => ∃ x : Ext w, w' = x.w) (fun a' => ∀ w', (∃ x : Ext w, w' = x.w) → Q .normal a' w') l a) : (Code.region id l.toArray true).wp P Q a w :=
  wp_region_quiet (C := fun w' => ∃ x : Ext w, w' = x.w) hm hB ⟨⟨w.drew, (Below.refl _ _).drew⟩, rfl⟩ (by simpa using h)

theorem all_no {n k : Nat} {f : Nat → Bool} (hk : k < n) (h : f k = false) : (List.range n).all f = false := by
  rw [List.all_eq_false]; exact ⟨k, List.mem_range.2 hk, by simp [h]⟩
theorem all_yes {n : Nat} {f : Nat → Bool} (h : ∀ j, j < n → f j = true) : (List.range n).all f = true := by
  rw [List.all_eq_true]; exact fun j hj => h j (List.mem_range.1 hj)

theorem below_succ {k : Nat} {f : Nat → Bool} (h : ∀ j, j < k → f j = true) (hk : f k = true) : ∀ j, j < k + 1 → f j = true := fun j hj => by
  by_cases hjk : j < k
  · exact h j hjk
  · obtain rfl : j = k := by omega
    exact hk

/-- The pairs of a slice of structs of two integers. -/
def AntsAt (w : World) (A : Option Addr) (l : List (Int × Int)) : Prop :=
  l = [] ∨ ∃ b off, A = some ⟨b, off, none⟩ ∧ ∀ k, k < l.length → w.cell? ⟨b, off + k * 2, none⟩ = some (.int .i64 (l.getD k (0, 0)).1) ∧ w.cell? ⟨b, off + k * 2 + 1, none⟩ = some (.int .i64 (l.getD k (0, 0)).2)
theorem AntsAt.below {w w' : World} {A : Option Addr} {l : List (Int × Int)} (h : AntsAt w A l) (hb : Below w.heap.size w w') : AntsAt w' A l := by
  rcases h with h | ⟨b, off, hA, h⟩
  · exact .inl h
  · refine .inr ⟨b, off, hA, fun k hk => ?_⟩
    obtain ⟨h0, h1⟩ := h k hk
    exact ⟨Below.cell_some hb h0, Below.cell_some hb h1⟩
theorem AntsAt.alloc {w : World} {A : Option Addr} {l : List (Int × Int)} (h : AntsAt w A l) (o : Obj) : AntsAt (w.alloc o) A l :=
  h.below ((Below.refl _ _).alloc (Nat.le_refl _) _)
theorem AntsAt.at_ {w : World} {A : Option Addr} {l : List (Int × Int)} (h : AntsAt w A l) {k : Nat} (hk : k < l.length) :
    ∃ b off, A = some ⟨b, off, none⟩ ∧ b < w.heap.size ∧ ∀ j, j < l.length → w.cell? ⟨b, off + j * 2, none⟩ = some (.int .i64 (l.getD j (0, 0)).1) ∧ w.cell? ⟨b, off + j * 2 + 1, none⟩ = some (.int .i64 (l.getD j (0, 0)).2) := by
  rcases h with rfl | ⟨b, off, rfl, h⟩
  · simp at hk
  · exact ⟨b, off, rfl, World.block_lt_of_cell? _ _ (h k hk).1, h⟩

/-- the cells of such a slice -/
def antCells (l : List (Int × Int)) : List Value := l.flatMap fun p => [.int .i64 p.1, .int .i64 p.2]
theorem antCells_cons (p : Int × Int) (l : List (Int × Int)) : antCells (p :: l) = .int .i64 p.1 :: .int .i64 p.2 :: antCells l := rfl
theorem antCells_append (l m : List (Int × Int)) : antCells (l ++ m) = antCells l ++ antCells m := by simp [antCells]
theorem antCells_length (l : List (Int × Int)) : (antCells l).length = l.length * 2 := by
  induction l with
  | nil => rfl
  | cons p l ih => rw [antCells_cons]; simp [ih]; omega
theorem antCells_at (l : List (Int × Int)) : ∀ k, k < l.length → (antCells l)[k * 2]? = some (.int .i64 (l.getD k (0, 0)).1) ∧ (antCells l)[k * 2 + 1]? = some (.int .i64 (l.getD k (0, 0)).2) := by
  induction l with
  | nil => intro k hk; simp at hk
  | cons p l ih =>
    intro k hk
    cases k with
    | zero => simp [antCells_cons]
    | succ k =>
      have := ih k (by simpa using hk)
      simp only [List.getD_cons_succ]
      rw [antCells_cons, show (k + 1) * 2 = k * 2 + 1 + 1 by omega, show k * 2 + 1 + 1 + 1 = (k * 2 + 1) + 1 + 1 by omega]
      simpa using this
theorem antCells_set (l : List (Int × Int)) (a b : Int) : ∀ k, ((antCells l).set (k * 2) (.int .i64 a)).set (k * 2 + 1) (.int .i64 b) = antCells (l.set k (a, b)) := by
  induction l with
  | nil => intro k; simp [antCells]
  | cons p l ih =>
    intro k
    cases k with
    | zero => simp [antCells_cons]
    | succ k =>
      rw [antCells_cons, show (k + 1) * 2 = k * 2 + 1 + 1 by omega, show k * 2 + 1 + 1 + 1 = (k * 2 + 1) + 1 + 1 by omega]
      simp only [List.set_cons_succ, antCells_cons, ih k]
theorem antCells_one (l : List (Int × Int)) : ∀ u ∈ antCells l, u.oneCell' = true := by
  intro u hu
  simp only [antCells, List.mem_flatMap] at hu
  obtain ⟨p, _, hp⟩ := hu
  simp at hp
  rcases hp with rfl | rfl <;> rfl
theorem antCells_made (n : Nat) : (madeCells #[.int .i64 0, .int .i64 0] (n * 2)).toList = antCells (List.replicate n (0, 0)) := by
  apply List.ext_getElem?
  intro j
  by_cases hj : j < n * 2
  · obtain ⟨k, rfl | rfl⟩ : ∃ k, j = k * 2 ∨ j = k * 2 + 1 := ⟨j / 2, by omega⟩
    · rw [(antCells_at (List.replicate n (0, 0)) k (by simp; omega)).1]
      simp [madeCells, hj, List.getD, show k < n by omega]
    · rw [(antCells_at (List.replicate n (0, 0)) k (by simp; omega)).2]
      simp [madeCells, hj, List.getD, show k < n by omega]
  · rw [List.getElem?_eq_none (by simp [madeCells]; omega), List.getElem?_eq_none (by rw [antCells_length]; simp; omega)]

/-- A slice of such structs in memory of the call's own: from block B on, not frozen. -/
def AntsOwn (w : World) (B : Nat) (e : TypeId) (v : Value) (l : List (Int × Int)) : Prop := w.ownsRow B e 2 v l.length (antCells l)
theorem AntsOwn.form {w : World} {B : Nat} {e : TypeId} {v : Value} {l : List (Int × Int)} (h : AntsOwn w B e v l) :
    ∃ A c, v = .slice A l.length c ∧ AntsAt w A l ∧ (∀ a, A = some a → B ≤ a.block ∧ a.block < w.heap.size) := by
  have hl := World.ownsRow.lt h
  rcases h.2 with ⟨rfl, h0⟩ | ⟨g, cap, cur, rfl, hB, hg, _⟩
  · have : l = [] := List.eq_nil_of_length_eq_zero h0
    subst this
    exact ⟨none, 0, rfl, .inl rfl, fun _ h => by cases h⟩
  · refine ⟨some ⟨g, 0, none⟩, cap, rfl, .inr ⟨g, 0, rfl, fun k hk => ?_⟩, fun a ha => ?_⟩
    · have hc := World.ownsRow.cellAt h
      obtain ⟨h0, h1⟩ := antCells_at l k hk
      rw [Nat.zero_add, hc (k * 2) (by omega), hc (k * 2 + 1) (by omega)]
      exact ⟨h0, h1⟩
    · injection ha with ha
      subst ha
      exact hl g rfl
theorem ownsRow_below {w w' : World} {B : Nat} {e : TypeId} {size n : Nat} {v : Value} {xs : List Value} (h : w.ownsRow B e size v n xs) (hb : Below w.heap.size w w') : w'.ownsRow B e size v n xs := by
  refine ⟨h.1, ?_⟩
  rcases h.2 with h2 | ⟨g, cap, cur, hv, hB, hg, h3⟩
  · exact .inl h2
  · exact .inr ⟨g, cap, cur, hv, hB, by rw [hb.block g (Array.getElem?_eq_some_iff.1 hg).1]; exact hg, h3⟩
theorem ownsRow_base {w : World} {B B' : Nat} {e : TypeId} {size n : Nat} {v : Value} {xs : List Value} (h : w.ownsRow B e size v n xs) (hB : B' ≤ B) : w.ownsRow B' e size v n xs := by
  refine ⟨h.1, ?_⟩
  rcases h.2 with h2 | ⟨g, cap, cur, hv, hb, h3⟩
  · exact .inl h2
  · exact .inr ⟨g, cap, cur, hv, Nat.le_trans hB hb, h3⟩
theorem AntsOwn.below {w w' : World} {B : Nat} {e : TypeId} {v : Value} {l : List (Int × Int)} (h : AntsOwn w B e v l) (hb : Below w.heap.size w w') : AntsOwn w' B e v l := ownsRow_below h hb
theorem AntsOwn.base {w : World} {B B' : Nat} {e : TypeId} {v : Value} {l : List (Int × Int)} (h : AntsOwn w B e v l) (hB : B' ≤ B) : AntsOwn w B' e v l := ownsRow_base h hB

theorem AntsOwn.ants {w : World} {B : Nat} {e : TypeId} {A : Option Addr} {n c : Nat} {l : List (Int × Int)} (h : AntsOwn w B e (.slice A n c) l) : AntsAt w A l := by
  obtain ⟨_, _, he, ha, _⟩ := h.form
  injection he with e1 _ _
  subst e1
  exact ha

/-- one struct stored into its place -/
theorem AntsOwn.store {w : World} {B g c : Nat} {e : TypeId} {n : Nat} {l : List (Int × Int)} (h : AntsOwn w B e (.slice (some ⟨g, 0, none⟩) n c) l) {k : Nat} (hk : k < l.length) (x y : Int) :
    ∃ v0 v1, w.cell? ⟨g, k * 2, none⟩ = some v0 ∧ w.cell? ⟨g, k * 2 + 1, none⟩ = some v1 ∧ w.frozen? ⟨g, k * 2, none⟩ = false ∧ w.frozen? ⟨g, k * 2 + 1, none⟩ = false ∧
      AntsOwn ((w.setCell ⟨g, k * 2, none⟩ (.int .i64 x)).setCell ⟨g, k * 2 + 1, none⟩ (.int .i64 y)) B e (.slice (some ⟨g, 0, none⟩) n c) (l.set k (x, y)) ∧
      w.grownBy ((w.setCell ⟨g, k * 2, none⟩ (.int .i64 x)).setCell ⟨g, k * 2 + 1, none⟩ (.int .i64 y)) (some g) := by
  have hn : n = l.length := by
    rcases h.2 with ⟨h', _⟩ | ⟨g', cap', cur, h', _⟩
    · simp at h'
    · simp only [Value.slice.injEq] at h'
      exact h'.2.1
  subst hn
  obtain ⟨h0, h1⟩ := antCells_at l k hk
  have s0 := World.ownsRow.stored h (k * 2) (.int .i64 x)
  have s1 := World.ownsRow.stored s0.1 (k * 2 + 1) (.int .i64 y)
  refine ⟨_, _, (World.ownsRow.cellAt h _ (by omega)).trans h0, (World.ownsRow.cellAt h _ (by omega)).trans h1, World.ownsRow.frozenAt h _, World.ownsRow.frozenAt h _, ?_, ?_⟩
  · have := s1.1
    rw [antCells_set] at this
    show World.ownsRow _ _ _ _ _ _ _
    rw [List.length_set]
    exact this
  · exact ⟨s1.2.os.trans s0.2.os, s1.2.tape.trans s0.2.tape, s1.2.output.trans s0.2.output, Nat.le_trans s0.2.size s1.2.size,
      fun i hi hne => (s1.2.block i (Nat.lt_of_lt_of_le hi s0.2.size) hne).trans (s0.2.block i hi hne)⟩

end Go.Proofs.YtenpmjinbjlpbaaDoor
