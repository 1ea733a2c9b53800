/- slices.Sort at a row of integers that the call owns. -/
import Derived.Test.YtenpmjinbjlpbaaSl
import Derived.Test.YtenpmjinbjlpbaaShelfI
namespace Go.Proofs.Ytenpmjinbjlpbaa
open Go.RowKit Go.Shelf Go.Lib Go.Sort

theorem rowI_at (d : List Int) (t : Nat) : (intS.row d)[t]? = d[t]?.map (Value.int .i64) := by
  induction d generalizing t with
  | nil => simp [Shape.row]
  | cons x d ih =>
    rw [Shape.row_cons]
    cases t with
    | zero => rfl
    | succ t => show (intS.row d)[t]? = _; rw [ih t]; rfl
theorem own_holdsI {w : World} {B g n c : Nat} {e : TypeId} {l : List Int} (h : SlOwn intS w B e (.slice (some ⟨g, 0, none⟩) n c) l) :
    Holds (Value.int .i64) w g 0 l.toArray ∧ g < w.heap.size ∧ B ≤ g ∧ n = l.length := by
  have hl := World.ownsRow.lt h g rfl
  obtain ⟨_, _, hv, _, _⟩ := h.form
  injection hv with _ hn _
  subst hn
  refine ⟨fun j hj => ?_, hl.2, hl.1, rfl⟩
  have hj' : j < l.length := by simpa using hj
  refine ⟨?_, ?_⟩
  · rw [Nat.zero_add, World.ownsRow.cellAt h j (by show j < l.length * 1; omega), rowI_at, List.getElem?_eq_getElem hj']
    simp [hj']
  · rw [Nat.zero_add]
    exact World.ownsRow.frozenAt h j

theorem sorted_heapI (w : World) (g m : Nat) (d : Array Int) (os : Array Obj) (k : Nat) (hk : k < w.heap.size) :
    (grow (putRow (Value.int .i64) (Sort.ahead w m) g 0 d) os).heap[k]? = if g = k then w.heap[k]?.map (onCells (putCells (Value.int .i64) 0 d)) else w.heap[k]? := by
  have hk' : k < (w.heap.modify g (onCells (putCells (Value.int .i64) 0 d))).size := by simpa using hk
  show ((w.heap.modify g (onCells (putCells (Value.int .i64) 0 d))) ++ os)[k]? = _
  rw [Array.getElem?_append_left hk', Array.getElem?_modify]

theorem putCells_takeI (d : Array Int) (cur : Array Value) (h : d.size ≤ cur.size) : (putCells (Value.int .i64) 0 d cur).toList.take d.size = intS.row d.toList := by
  apply List.ext_getElem?
  intro t
  rw [rowI_at]
  by_cases ht : t < d.size
  · rw [List.getElem?_take_of_lt ht, Array.getElem?_toList, Array.getElem?_toList]
    unfold putCells
    rw [Array.getElem?_mapIdx, Array.getElem?_eq_getElem (show t < cur.size by omega), Array.getElem?_eq_getElem ht]
    simp [ht]
  · rw [List.getElem?_eq_none (by rw [List.length_take]; omega), List.getElem?_eq_none (by simpa using ht)]
    rfl

theorem sorted_ownI {w : World} {B g n c : Nat} {e : TypeId} {l : List Int} (h : SlOwn intS w B e (.slice (some ⟨g, 0, none⟩) n c) l) (d : Array Int) (hd : d.size = l.length) (m : Nat) (os : Array Obj) :
    SlOwn intS (grow (putRow (Value.int .i64) (Sort.ahead w m) g 0 d) os) B e (.slice (some ⟨g, 0, none⟩) n c) d.toList ∧ RowKit.Below B w (grow (putRow (Value.int .i64) (Sort.ahead w m) g 0 d) os) := by
  have hl := World.ownsRow.lt h g rfl
  have hdl : d.toList.length = l.length := by simpa using hd
  refine ⟨⟨by rw [intS.row_length], ?_⟩, ⟨rfl, rfl, rfl, ?_, ?_⟩⟩
  · rcases h.2 with ⟨hv, _⟩ | ⟨g', cap, cur, hv, hB, hg, hnc, hm, hs, ht⟩
    · simp at hv
    · simp only [Value.slice.injEq, Option.some.injEq, Addr.mk.injEq, and_true] at hv
      obtain ⟨rfl, rfl, rfl⟩ := hv
      refine .inr ⟨g, c, putCells (Value.int .i64) 0 d cur, by rw [hdl], hB, ?_, by rw [hdl]; exact hnc, hm, ?_, ?_⟩
      · rw [sorted_heapI _ _ _ _ _ _ hl.2, if_pos rfl, hg]
        rfl
      · unfold putCells
        rw [Array.size_mapIdx]
        exact hs
      · have e1 : d.toList.length * intS.size = d.size := by rw [hdl, hd]; exact Nat.mul_one _
        rw [e1, putCells_takeI d cur (by rw [hs, hd]; show l.length ≤ c * 1; omega)]
  · show w.heap.size ≤ ((w.heap.modify g _) ++ os).size
    simp
  · intro k hk
    rw [sorted_heapI _ _ _ _ _ _ (by omega), if_neg (by omega)]

theorem sortI_any {w : World} {B n c : Nat} {A : Option Addr} {e : TypeId} {l : List Int} (hll : l.length ≤ 65536) (h : SlOwn intS w B e (.slice A n c) l) :
    Calls Try.prog 94 #[.slice A n c] w fun e' w' => e' = .returned (.tuple #[]) ∧ SlOwn intS w' B e (.slice A n c) (l.mergeSort fun x y => decide (x ≤ y)) ∧ RowKit.Below B w w' := by
  obtain ⟨A', c', hv, _, _⟩ := h.form
  injection hv with e1 e2 e3
  subst e1; subst e2; subst e3
  rcases h.2 with ⟨hv, h0⟩ | ⟨g, cap, cur, hv, _, hg, _⟩
  · injection hv with e1 e2 e3
    have hl : l = [] := List.eq_nil_of_length_eq_zero h0
    subst e1; subst hl; subst e3
    refine (Any.slices_Sort_int_none sortInt none 0 w).mono ?_
    rintro e' w' ⟨rfl, rfl⟩
    exact ⟨rfl, by rw [List.mergeSort_nil]; exact h, Below.refl _ _⟩
  · injection hv with e1 e2 e3
    subst e1
    obtain ⟨hH, hg2, hB, _⟩ := own_holdsI h
    have hcon := Any.slices_Sort_int sortInt g 0 c l w hH hg2 (by omega)
    refine Calls.mono hcon ?_
    rintro e' w' ⟨rfl, m, os, rfl⟩
    have := sorted_ownI h (l.mergeSort fun x y => decide (x ≤ y)).toArray (by simp) m os
    exact ⟨rfl, by simpa using this.1, this.2⟩
end Go.Proofs.Ytenpmjinbjlpbaa
