/- slices.Reverse, slices.Min and slices.Index at a row of integers. -/
import Derived.Test.YtiodlclaempihaaGreatZaA
import Derived.Test.YtiodlclaempihaaGreatShelfB
namespace Go.Proofs.YtiodlclaempihaaGreat
open Go.RowKit Go.Shelf Go.Lib Go.Sort

theorem grow_none (X : World) : grow X #[] = X := by
  unfold grow
  simp
theorem cellsI {w : World} {b off : Nat} {l : List Int} (hc : ∀ j x, l[j]? = some x → w.cell? ⟨b, off + j, none⟩ = some (.int .i64 x)) : ∀ j, j < l.length → w.cell? ⟨b, off + j, none⟩ = some (.int .i64 (l.getD j 0)) := fun j hj => by
  rw [hc j _ (List.getElem?_eq_getElem hj), List.getD_eq_getElem?_getD, List.getElem?_eq_getElem hj]; rfl
theorem minI_any {w : World} {A : Option Addr} {c : Nat} {l : List Int} (h0 : 0 < l.length) (hll : l.length ≤ 65536) (h : SlAt intS w A l) :
    Calls Tryz.prog 56 #[.slice A l.length c] w fun e' w' => e' = .returned (.int .i64 (Lib.minOf l)) ∧ w' = w := by
  obtain ⟨b, off, rfl, _, hc⟩ := h.int_at h0
  have := Any.slices_Min_int minInt b off l.length c l w h0 (Nat.le_refl _) (by omega) (cellsI hc)
  rw [List.take_length] at this
  exact this
theorem indexI_any {w : World} {A : Option Addr} {c : Nat} {l : List Int} (x : Int) (h0 : 0 < l.length) (hll : l.length ≤ 65536) (h : SlAt intS w A l) :
    Calls Tryz.prog 55 #[.slice A l.length c, .int .i64 x] w fun e' w' => e' = .returned (.int .i64 (Lib.idxOf l x)) ∧ w' = w := by
  obtain ⟨b, off, rfl, _, hc⟩ := h.int_at h0
  have := Any.slices_Index_int indexInt b off l.length c l x w (Nat.le_refl _) (by omega) (cellsI hc)
  rw [List.take_length] at this
  exact this
end Go.Proofs.YtiodlclaempihaaGreat
