/- How a law's arguments are opened: a rod, an ant, an integer. -/
import Derived.Test.YtenpmjinbjlpbaaDoorChecked
import Derived.Test.YtenpmjinbjlpbaaDoorBase
import Derived.ProofKit
import Derived.OpenShut
import Derived.ShutString
import Derived.ChangeOld
import Derived.Lib.SmallJoins
import Derived.Deep.SlicePairs
namespace Go.Proofs.YtenpmjinbjlpbaaDoor
open Go.ChangeShapes Go.WideShapes Go.ChangeAt Go.RowKit Go.Deep Go.Joins
set_option linter.unusedVariables false

theorem own : ownKnob Tryd.prog.godebug = none := by kernel_rfl
theorem laidOut : laidOutB Tryd.prog = true := by kernel_rfl
theorem cellsRod : Tryd.prog.cellsOf 33 = 2 := by kernel_rfl

theorem cellsAnt : Tryd.prog.cellsOf 127 = 2 := by kernel_rfl
theorem cellsInt : Tryd.prog.cellsOf 3 = 1 := by kernel_rfl

section
variable {H : Type} {enc : TypeId × Value → H} {W : World} {base : Nat} {held : Bool}
set_option maxRecDepth 100000 in
theorem open_rod {r : Reach} {b0 : Nat} {v : Value} {d : DataW H} {p : List MemPlace} (hv : Value.okWide Tryd.prog W r b0 33 v) (h : DataW.Trod enc Tryd.prog W base (fun _ => true) held 33 v d p) :
    ∃ (L : Int) (A : Option Addr) (c : Nat) (l : List (Int × Int)), v = .agg #[.int .i64 L, .slice A l.length c] ∧ AntsAt W A l ∧ (l.length : Int) ≤ 9223372036854775807 := by
  obtain ⟨c0, c1, y0, y1, m, rfl, rfl, rfl, hy0, hy1⟩ := open_agg2 Tryd.underlying33 (by kernel_rfl) cellsRod hv h
  obtain ⟨L, e0, _, _⟩ := DataW.trod_int Tryd.underlying3 hy0
  simp at e0
  subst e0
  rcases open_slice_pairs Tryd.underlying31 Tryd.underlying127 cellsAnt rfl rfl cellsInt cellsInt hy1 with ⟨hcs, _⟩ | ⟨a, len, cap, m', n, V0, V1, D0, D1, P0, P1, hcs, _, hl, hm, hmm, _, hx⟩
  · simp at hcs
    subst hcs
    exact ⟨L, none, 0, [], rfl, .inl rfl, by simp⟩
  · simp at hcs
    subst hcs
    have hlm : len ≤ m' := by rw [hmm]; split <;> omega
    have hi : ∀ i, ∃ q : Int × Int, i < len → V0 i = .int .i64 q.1 ∧ V1 i = .int .i64 q.2 := by
      intro i
      by_cases hi : i < len
      · obtain ⟨_, _, h0, h1⟩ := hx i (by omega)
        obtain ⟨x, e0, _, _⟩ := DataW.trod_int Tryd.underlying3 h0
        obtain ⟨y, e1, _, _⟩ := DataW.trod_int Tryd.underlying3 h1
        simp at e0 e1
        exact ⟨(x, y), fun _ => ⟨e0, e1⟩⟩
      · exact ⟨(0, 0), fun h => absurd h hi⟩
    obtain ⟨q, hq⟩ := Classical.axiomOfChoice hi
    refine ⟨L, some a, cap, (List.range len).map q, by simp, ?_, by simp; unfold maxLen at hm; omega⟩
    rcases Nat.eq_zero_or_pos len with h0 | h0
    · subst h0; exact .inl rfl
    · obtain ⟨b, off, spot⟩ := a
      have hsp : spot = none := by simpa [Addr.add] using World.cell?_spot (hx 0 (by omega)).1
      subst hsp
      refine .inr ⟨b, off, rfl, fun k hk => ?_⟩
      have hk' : k < len := by simpa using hk
      obtain ⟨h0, h1, _, _⟩ := hx k (by omega)
      obtain ⟨g0, g1⟩ := hq k hk'
      rw [g0] at h0
      rw [g1] at h1
      have e : ((List.range len).map q).getD k (0, 0) = q k := by simp [List.getD, hk']
      rw [e, ← Addr.add_lit, ← Addr.add_lit, ← Addr.add_lit] at *
      exact ⟨by simpa [Addr.add_lit] using h0, by simpa [Addr.add_lit, Nat.add_assoc] using h1⟩
end

end Go.Proofs.YtenpmjinbjlpbaaDoor
