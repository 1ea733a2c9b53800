/- From the rows of ants that a call owns to the rows of the library's sort, and back. No dump is read here. -/
import Derived.Test.YthfacfoclekcbaaSl
import Derived.Test.YthfacfoclekcbaaSrt
import Derived.Shelf.SlSortCmp.NoneTotal
namespace Go.Proofs.Ythfacfoclekcbaa
open Go.RowKit Go.Shelf Go.Lib Go.Sort

def encP (x : Int × Int) : List Value := [.int .i64 x.1, .int .i64 x.2]
theorem encP_len (x : Int × Int) : (encP x).length = 2 := rfl
theorem encP_one (x : Int × Int) : ∀ v ∈ encP x, v.oneCell' = true := fun v hv => by
  simp [encP] at hv
  rcases hv with rfl | rfl <;> rfl

theorem flat_at (d : List (Int × Int)) (t : Nat) (ht : t < d.length * 2) : (pairS.row d)[t]? = some (flatK encP 2 d.toArray)[t]! := by
  have hk : t / 2 < d.length := by omega
  have h2 := pairS.row_at d (t / 2) d[t / 2] (List.getElem?_eq_getElem hk) (t % 2) (Nat.mod_lt _ (by decide))
  have e : t / 2 * pairS.size + t % 2 = t := by show t / 2 * 2 + t % 2 = t; omega
  rw [e] at h2
  rw [h2, get_flatK _ _ _ _ (by simpa using ht)]
  have e2 : d.toArray[t / 2]! = d[t / 2] := by simp [hk]
  rw [e2]
  have hm : t % 2 = 0 ∨ t % 2 = 1 := by omega
  rcases hm with h | h <;> rw [h] <;> rfl

theorem own_holds {w : World} {B g n c : Nat} {e : TypeId} {l : List (Int × Int)} (h : SlOwn pairS w B e (.slice (some ⟨g, 0, none⟩) n c) l) :
    HoldsK encP 2 w g 0 l.toArray ∧ g < w.heap.size ∧ B ≤ g ∧ n = l.length := by
  have hl := World.ownsRow.lt h g rfl
  obtain ⟨_, _, hv, _, _⟩ := h.form
  injection hv with _ hn _
  subst hn
  refine ⟨fun j hj => ?_, hl.2, hl.1, rfl⟩
  have hj' : j < l.length * 2 := by simpa using hj
  refine ⟨?_, ?_⟩
  · rw [Nat.zero_add, World.ownsRow.cellAt h j hj', flat_at l j hj']
    rfl
  · rw [Nat.zero_add]
    exact World.ownsRow.frozenAt h j

theorem sorted_heap (w : World) (g m : Nat) (d : Array (Int × Int)) (os : Array Obj) (k : Nat) (hk : k < w.heap.size) :
    (sortWorldK encP 2 w g 0 m d os).heap[k]? = if g = k then w.heap[k]?.map (onCells (putCells id 0 (flatK encP 2 d))) else w.heap[k]? := by
  have hk' : k < (w.heap.modify g (onCells (putCells id 0 (flatK encP 2 d)))).size := by simpa using hk
  show ((w.heap.modify g (onCells (putCells id 0 (flatK encP 2 d)))) ++ os)[k]? = _
  rw [Array.getElem?_append_left hk', Array.getElem?_modify]

theorem putCells_take (F cur : Array Value) (h : F.size ≤ cur.size) : (putCells id 0 F cur).toList.take F.size = F.toList := by
  apply List.ext_getElem?
  intro t
  by_cases ht : t < F.size
  · rw [List.getElem?_take_of_lt ht, Array.getElem?_toList, Array.getElem?_toList]
    unfold putCells
    rw [Array.getElem?_mapIdx, Array.getElem?_eq_getElem (show t < cur.size by omega), Array.getElem?_eq_getElem ht]
    simp [ht]
  · rw [List.getElem?_eq_none (by rw [List.length_take]; omega), List.getElem?_eq_none (by simpa using ht)]

/-- behind the sort, or the reversal -/
theorem sorted_own {w : World} {B g n c : Nat} {e : TypeId} {l : List (Int × Int)} (h : SlOwn pairS w B e (.slice (some ⟨g, 0, none⟩) n c) l) (d : Array (Int × Int)) (hd : d.size = l.length) (m : Nat) (os : Array Obj) :
    SlOwn pairS (sortWorldK encP 2 w g 0 m d os) B e (.slice (some ⟨g, 0, none⟩) n c) d.toList ∧ Below B w (sortWorldK encP 2 w g 0 m d os) := by
  have hl := World.ownsRow.lt h g rfl
  have hdl : d.toList.length = l.length := by simpa using hd
  refine ⟨⟨by rw [pairS.row_length], ?_⟩, ⟨rfl, rfl, rfl, ?_, ?_⟩⟩
  · rcases h.2 with ⟨hv, _⟩ | ⟨g', cap, cur, hv, hB, hg, hnc, hm, hs, ht⟩
    · simp at hv
    · simp only [Value.slice.injEq, Option.some.injEq, Addr.mk.injEq, and_true] at hv
      obtain ⟨rfl, rfl, rfl⟩ := hv
      refine .inr ⟨g, c, putCells id 0 (flatK encP 2 d) cur, by rw [hdl], hB, ?_, by rw [hdl]; exact hnc, hm, ?_, ?_⟩
      · rw [sorted_heap _ _ _ _ _ _ hl.2, if_pos rfl, hg]
        rfl
      · unfold putCells
        rw [Array.size_mapIdx]
        exact hs
      · have hF : (flatK encP 2 d).size = d.toList.length * pairS.size := by simp [pairS]
        rw [← hF, putCells_take]
        · apply List.ext_getElem?
          intro t
          by_cases ht' : t < d.toList.length * 2
          · have := flat_at d.toList t ht'
            simp only [Array.toArray_toList] at this
            rw [this, Array.getElem?_toList, Array.getElem?_eq_getElem (by simpa using ht'), getElem!_pos _ t (by simpa using ht')]
          · rw [List.getElem?_eq_none (by simpa using ht'), List.getElem?_eq_none (by rw [pairS.row_length]; simpa [pairS] using ht')]
        · rw [hF, hdl, hs]
          exact Nat.mul_le_mul_right _ hnc
  · show w.heap.size ≤ ((w.heap.modify g _) ++ os).size
    simp
  · intro k hk
    rw [sorted_heap _ _ _ _ _ _ (by omega), if_neg (by omega)]

theorem putRow_sort (w : World) (g m : Nat) (d : Array (Int × Int)) : putRowK encP 2 (Sort.ahead w m) g 0 d = sortWorldK encP 2 w g 0 m d #[] := by
  show _ = grow _ #[]
  unfold grow
  rw [Array.append_empty]
end Go.Proofs.Ythfacfoclekcbaa
