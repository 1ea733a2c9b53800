/- slices.Reverse, slices.Min and slices.Index at a row of integers. -/
import Derived.Test.YtiledncedekefaaBridgeI
import Derived.Test.YtiledncedekefaaShelfB
namespace Go.Proofs.Ytiledncedekefaa
open Go.RowKit Go.Shelf Go.Lib Go.Sort

theorem grow_none (X : World) : grow X #[] = X := by
  unfold grow
  simp
theorem reverseI_any {w : World} {B n c : Nat} {A : Option Addr} {e : TypeId} {l : List Int} (hll : l.length ≤ 65536) (h : SlOwn intS w B e (.slice A n c) l) :
    Calls Try.prog 100 #[.slice A n c] w fun e' w' => e' = .returned (.tuple #[]) ∧ SlOwn intS w' B e (.slice A n c) l.reverse ∧ RowKit.Below B w w' := by
  obtain ⟨A', c', hv, _, _⟩ := h.form
  injection hv with e1 e2 e3
  subst e1; subst e2; subst e3
  rcases h.2 with ⟨hv, h0⟩ | ⟨g, cap, cur, hv, _, hg, _⟩
  · injection hv with e1 e2 e3
    have hl : l = [] := List.eq_nil_of_length_eq_zero h0
    subst e1; subst hl; subst e3
    refine (Any.slices_Reverse_int_empty reverseInt none 0 w).mono ?_
    rintro e' w' ⟨rfl, rfl⟩
    exact ⟨rfl, h, Below.refl _ _⟩
  · injection hv with e1 e2 e3
    subst e1
    obtain ⟨hH, hg2, hB, _⟩ := own_holdsI h
    have hcon := Any.slices_Reverse_int reverseInt g 0 c l w hH (by omega)
    refine Calls.mono hcon ?_
    rintro e' w' ⟨rfl, m, rfl⟩
    have := sorted_ownI h l.reverse.toArray (by simp) m #[]
    rw [grow_none] at this
    exact ⟨rfl, by simpa using this.1, this.2⟩
theorem cellsI {w : World} {b off : Nat} {l : List Int} (hc : ∀ j x, l[j]? = some x → w.cell? ⟨b, off + j, none⟩ = some (.int .i64 x)) : ∀ j, j < l.length → w.cell? ⟨b, off + j, none⟩ = some (.int .i64 (l.getD j 0)) := fun j hj => by
  rw [hc j _ (List.getElem?_eq_getElem hj), List.getD_eq_getElem?_getD, List.getElem?_eq_getElem hj]; rfl
theorem minI_any {w : World} {A : Option Addr} {c : Nat} {l : List Int} (h0 : 0 < l.length) (hll : l.length ≤ 65536) (h : SlAt intS w A l) :
    Calls Try.prog 79 #[.slice A l.length c] w fun e' w' => e' = .returned (.int .i64 (Lib.minOf l)) ∧ w' = w := by
  obtain ⟨b, off, rfl, _, hc⟩ := h.int_at h0
  have := Any.slices_Min_int minInt b off l.length c l w h0 (Nat.le_refl _) (by omega) (cellsI hc)
  rw [List.take_length] at this
  exact this
theorem indexI_any {w : World} {A : Option Addr} {c : Nat} {l : List Int} (x : Int) (h0 : 0 < l.length) (hll : l.length ≤ 65536) (h : SlAt intS w A l) :
    Calls Try.prog 103 #[.slice A l.length c, .int .i64 x] w fun e' w' => e' = .returned (.int .i64 (Lib.idxOf l x)) ∧ w' = w := by
  obtain ⟨b, off, rfl, _, hc⟩ := h.int_at h0
  have := Any.slices_Index_int indexInt b off l.length c l x w (Nat.le_refl _) (by omega) (cellsI hc)
  rw [List.take_length] at this
  exact this
end Go.Proofs.Ytiledncedekefaa
