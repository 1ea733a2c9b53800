/- From the rows that a call owns, whatever their elements, to the rows of the library's sort, and back. No dump is read here. -/
import Derived.Test.YtlepdphdflpoaaaSl
import Derived.Shelf.SlSortCmp.WholeK
namespace Go.Proofs.Ytlepdphdflpoaaa
open Go.RowKit Go.Shelf Go.Lib Go.Sort

section
variable {α : Type} [Inhabited α] (S : Shape α)
theorem flat_atS (d : List α) (t : Nat) (ht : t < d.length * S.size) : (S.row d)[t]? = some (flatK S.cells S.size d.toArray)[t]! := by
  have hk : t / S.size < d.length := Nat.div_lt_of_lt_mul (by rw [Nat.mul_comm]; exact ht)
  have hm : t % S.size < S.size := Nat.mod_lt _ S.pos
  have h2 := S.row_at d (t / S.size) d[t / S.size] (List.getElem?_eq_getElem hk) (t % S.size) hm
  have e : t / S.size * S.size + t % S.size = t := by rw [Nat.mul_comm]; exact Nat.div_add_mod t S.size
  rw [e] at h2
  rw [h2, get_flatK _ _ _ _ (by simpa using ht)]
  have e2 : d.toArray[t / S.size]! = d[t / S.size] := by simp [hk]
  rw [e2]
  have hl : t % S.size < (S.cells d[t / S.size]).length := by rw [S.len]; exact hm
  first
    | (rw [List.getElem?_eq_getElem hl, getElem!_pos _ _ hl])
    | (rw [List.getElem?_eq_getElem hl]; simp [hl])

variable {S}
theorem own_holdsS {w : World} {B g n c : Nat} {e : TypeId} {l : List α} (h : SlOwn S w B e (.slice (some ⟨g, 0, none⟩) n c) l) :
    HoldsK S.cells S.size w g 0 l.toArray ∧ g < w.heap.size ∧ B ≤ g ∧ n = l.length := by
  have hl := World.ownsRow.lt h g rfl
  obtain ⟨_, _, hv, _, _⟩ := h.form
  injection hv with _ hn _
  subst hn
  refine ⟨fun j hj => ?_, hl.2, hl.1, rfl⟩
  have hj' : j < l.length * S.size := by simpa using hj
  refine ⟨?_, ?_⟩
  · rw [Nat.zero_add, World.ownsRow.cellAt h j hj', flat_atS S l j hj']
    rfl
  · rw [Nat.zero_add]
    exact World.ownsRow.frozenAt h j

theorem sorted_heapS (enc : α → List Value) (k0 : Nat) (w : World) (g m : Nat) (d : Array α) (os : Array Obj) (k : Nat) (hk : k < w.heap.size) :
    (sortWorldK enc k0 w g 0 m d os).heap[k]? = if g = k then w.heap[k]?.map (onCells (putCells id 0 (flatK enc k0 d))) else w.heap[k]? := by
  have hk' : k < (w.heap.modify g (onCells (putCells id 0 (flatK enc k0 d)))).size := by simpa using hk
  show ((w.heap.modify g (onCells (putCells id 0 (flatK enc k0 d)))) ++ os)[k]? = _
  rw [Array.getElem?_append_left hk', Array.getElem?_modify]

theorem putCells_takeS (F cur : Array Value) (h : F.size ≤ cur.size) : (putCells id 0 F cur).toList.take F.size = F.toList := by
  apply List.ext_getElem?
  intro t
  by_cases ht : t < F.size
  · rw [List.getElem?_take_of_lt ht, Array.getElem?_toList, Array.getElem?_toList]
    unfold putCells
    rw [Array.getElem?_mapIdx, Array.getElem?_eq_getElem (show t < cur.size by omega), Array.getElem?_eq_getElem ht]
    simp [ht]
  · rw [List.getElem?_eq_none (by rw [List.length_take]; omega), List.getElem?_eq_none (by simpa using ht)]

/-- behind the sort -/
theorem sorted_ownS {w : World} {B g n c : Nat} {e : TypeId} {l : List α} (h : SlOwn S w B e (.slice (some ⟨g, 0, none⟩) n c) l) (d : Array α) (hd : d.size = l.length) (m : Nat) (os : Array Obj) :
    SlOwn S (sortWorldK S.cells S.size w g 0 m d os) B e (.slice (some ⟨g, 0, none⟩) n c) d.toList ∧ Below B w (sortWorldK S.cells S.size w g 0 m d os) := by
  have hl := World.ownsRow.lt h g rfl
  have hdl : d.toList.length = l.length := by simpa using hd
  refine ⟨⟨by rw [S.row_length], ?_⟩, ⟨rfl, rfl, rfl, ?_, ?_⟩⟩
  · rcases h.2 with ⟨hv, _⟩ | ⟨g', cap, cur, hv, hB, hg, hnc, hm, hs, ht⟩
    · simp at hv
    · simp only [Value.slice.injEq, Option.some.injEq, Addr.mk.injEq, and_true] at hv
      obtain ⟨rfl, rfl, rfl⟩ := hv
      refine .inr ⟨g, c, putCells id 0 (flatK S.cells S.size d) cur, by rw [hdl], hB, ?_, by rw [hdl]; exact hnc, hm, ?_, ?_⟩
      · rw [sorted_heapS _ _ _ _ _ _ _ _ hl.2, if_pos rfl, hg]
        rfl
      · unfold putCells
        rw [Array.size_mapIdx]
        exact hs
      · have hF : (flatK S.cells S.size d).size = d.toList.length * S.size := by simp
        rw [← hF, putCells_takeS]
        · apply List.ext_getElem?
          intro t
          by_cases ht' : t < d.toList.length * S.size
          · have := flat_atS S d.toList t ht'
            simp only [Array.toArray_toList] at this
            have ht2 : t < (flatK S.cells S.size d).size := by rw [hF]; exact ht'
            rw [this, Array.getElem?_toList, Array.getElem?_eq_getElem ht2, getElem!_pos _ t ht2]
          · rw [List.getElem?_eq_none (by rw [Array.length_toList, hF]; omega), List.getElem?_eq_none (by rw [S.row_length]; omega)]
        · rw [hF, hdl, hs]
          exact Nat.mul_le_mul_right _ hnc
  · show w.heap.size ≤ ((w.heap.modify g _) ++ os).size
    simp
  · intro k hk
    rw [sorted_heapS _ _ _ _ _ _ _ _ (by omega), if_neg (by omega)]
end
end Go.Proofs.Ytlepdphdflpoaaa
