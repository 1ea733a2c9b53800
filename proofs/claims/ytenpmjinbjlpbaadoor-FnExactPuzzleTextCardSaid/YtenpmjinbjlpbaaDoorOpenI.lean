/- How a law's arguments are opened: a slice of integers. -/
import Derived.Test.YtenpmjinbjlpbaaDoorOpen
import Derived.Test.YtenpmjinbjlpbaaDoorSl
import Derived.ChangeSlices
namespace Go.Proofs.YtenpmjinbjlpbaaDoor
open Go.ChangeShapes Go.WideShapes Go.ChangeAt Go.RowKit Go.Deep Go.Joins
set_option linter.unusedVariables false

section
variable {H : Type} {enc : TypeId × Value → H} {W : World} {base : Nat} {held : Bool}
set_option maxRecDepth 100000 in
theorem open_intS {r : Reach} {b0 : Nat} {v : Value} {d : DataW H} {p : List MemPlace} (hv : Value.okWide Tryd.prog W r b0 40 v) (h : DataW.Trod enc Tryd.prog W base (fun _ => true) held 40 v d p) :
    ∃ (A : Option Addr) (c : Nat) (l : List Int), v = .slice A l.length c ∧ SlAt intS W A l ∧ (l.length : Int) ≤ 9223372036854775807 := by
  obtain ⟨A0, n0, c0, rfl⟩ := okWide_slice Tryd.underlying40 hv
  obtain ⟨fuel, hf⟩ := h
  rcases open_ints Tryd.underlying40 Tryd.underlying3 cellsInt hf with ⟨hcs, _⟩ | ⟨a, len, cap, zs, hcs, _, hl, hm, hz, _, hx, _⟩
  · have hcs' : ([Value.slice A0 n0 c0] : List Value) = [.slice none 0 0] := hcs
    simp at hcs'
    obtain ⟨rfl, rfl, rfl⟩ := hcs'
    exact ⟨none, 0, [], rfl, .inl rfl, by simp⟩
  · have hcs' : ([Value.slice A0 n0 c0] : List Value) = [.slice (some a) len cap] := hcs
    simp at hcs'
    obtain ⟨rfl, rfl, rfl⟩ := hcs'
    simp only [if_true] at hz
    refine ⟨some a, c0, zs.take n0, by simp; omega, ?_, by simp; unfold maxLen at hm; omega⟩
    rcases Nat.eq_zero_or_pos n0 with h0 | h0
    · subst h0; exact .inl (by simp)
    · obtain ⟨b, off, spot⟩ := a
      have hc0 := hx 0 (by omega)
      have hsp : spot = none := by simpa [Addr.add] using World.cell?_spot hc0
      subst hsp
      refine .inr ⟨b, off, rfl, World.block_lt_of_cell? _ _ (by rw [Addr.add_lit] at hc0; exact hc0), fun k x hk j hj => ?_⟩
      obtain rfl : j = 0 := by have : j < 1 := hj; omega
      have hk0 := (List.getElem?_eq_some_iff.1 hk).1
      rw [List.length_take] at hk0
      have hck := hx k (by omega)
      rw [List.getElem?_take_of_lt (by omega)] at hk
      rw [List.getD_eq_getElem?_getD, hk, Addr.add_lit] at hck
      show W.cell? ⟨b, off + k * 1 + 0, none⟩ = _
      rw [Nat.mul_one, Nat.add_zero]
      exact hck
end
end Go.Proofs.YtenpmjinbjlpbaaDoor
