/- How a law's arguments are opened: a desk. -/
import Derived.Test.YtenpmjinbjlpbaaDoorOpen
import Derived.Deep.Strs
import Derived.ChangeMaps5
namespace Go.Proofs.YtenpmjinbjlpbaaDoor
open Go.ChangeShapes Go.WideShapes Go.ChangeAt Go.RowKit Go.Deep Go.Joins
set_option linter.unusedVariables false

theorem cellsDesk : Tryd.prog.cellsOf 35 = 3 := by kernel_rfl
theorem cellsStr : Tryd.prog.cellsOf 9 = 1 := by kernel_rfl
section
variable {H : Type} {enc : TypeId × Value → H} {W : World} {base : Nat} {held : Bool}
set_option maxRecDepth 100000 in
theorem open_antS {n : Nat} {c1 : Value} {y1 : DataW H × List MemPlace} (hy1 : DataW.trod enc Tryd.prog W base (fun _ => true) held n 31 [c1] = some y1) :
    ∃ (A : Option Addr) (c : Nat) (l : List (Int × Int)), c1 = .slice A l.length c ∧ AntsAt W A l ∧ (l.length : Int) ≤ 9223372036854775807 := by
  rcases open_slice_pairs Tryd.underlying31 Tryd.underlying127 cellsAnt rfl rfl cellsInt cellsInt hy1 with ⟨hcs, _⟩ | ⟨a, len, cap, m', n, V0, V1, D0, D1, P0, P1, hcs, _, hl, hm, hmm, _, hx⟩
  · simp at hcs
    subst hcs
    exact ⟨none, 0, [], rfl, .inl rfl, by simp⟩
  · simp at hcs
    subst hcs
    have hlm : len ≤ m' := by rw [hmm]; split <;> omega
    have hi : ∀ i, ∃ q : Int × Int, i < len → V0 i = .int .i64 q.1 ∧ V1 i = .int .i64 q.2 := by
      intro i
      by_cases hi : i < len
      · obtain ⟨_, _, h0, h1⟩ := hx i (by omega)
        obtain ⟨x, e0, _, _⟩ := DataW.trod_int Tryd.underlying3 h0
        obtain ⟨y, e1, _, _⟩ := DataW.trod_int Tryd.underlying3 h1
        simp at e0 e1
        exact ⟨(x, y), fun _ => ⟨e0, e1⟩⟩
      · exact ⟨(0, 0), fun h => absurd h hi⟩
    obtain ⟨q, hq⟩ := Classical.axiomOfChoice hi
    refine ⟨some a, cap, (List.range len).map q, by simp, ?_, by simp; unfold maxLen at hm; omega⟩
    rcases Nat.eq_zero_or_pos len with h0 | h0
    · subst h0; exact .inl rfl
    · obtain ⟨b, off, spot⟩ := a
      have hsp : spot = none := by simpa [Addr.add] using World.cell?_spot (hx 0 (by omega)).1
      subst hsp
      refine .inr ⟨b, off, rfl, fun k hk => ?_⟩
      have hk' : k < len := by simpa using hk
      obtain ⟨h0, h1, _, _⟩ := hx k (by omega)
      obtain ⟨g0, g1⟩ := hq k hk'
      rw [g0] at h0
      rw [g1] at h1
      have e : ((List.range len).map q).getD k (0, 0) = q k := by simp [List.getD, hk']
      rw [e, ← Addr.add_lit, ← Addr.add_lit, ← Addr.add_lit] at *
      exact ⟨by simpa [Addr.add_lit] using h0, by simpa [Addr.add_lit, Nat.add_assoc] using h1⟩

set_option maxRecDepth 100000 in
theorem open_desk {r : Reach} {b0 : Nat} {v : Value} {d : DataW H} {p : List MemPlace} (hv : Value.okWide Tryd.prog W r b0 35 v) (h : DataW.Trod enc Tryd.prog W base (fun _ => true) held 35 v d p) :
    ∃ (L : Int) (A : Option Addr) (c : Nat) (l : List (Int × Int)) (s : ByteArray), v = .agg #[.int .i64 L, .slice A l.length c, .string s] ∧ AntsAt W A l ∧ (l.length : Int) ≤ 9223372036854775807 ∧ s.size ≤ maxLen := by
  obtain ⟨cs, rfl, hsz⟩ := okWide_struct Tryd.underlying35 hv
  obtain ⟨c0, c1, c2, rfl⟩ := array3 (hsz.trans cellsDesk)
  obtain ⟨fuel, hf⟩ := h
  obtain ⟨y0, y1, n, hx, _, h0, h1⟩ := trod_struct2 Tryd.underlying35 hf
  have h0' : DataW.trod enc Tryd.prog W base (fun _ => true) held n 33 [c0, c1] = some y0 := by simpa [Value.cells, cellsRod] using h0
  have h1' : DataW.trod enc Tryd.prog W base (fun _ => true) held n 9 [c2] = some y1 := by simpa [Value.cells, cellsStr] using h1
  obtain ⟨z0, z1, m, _, _, g0, g1⟩ := trod_struct2 Tryd.underlying33 h0'
  have g0' : DataW.trod enc Tryd.prog W base (fun _ => true) held m 3 [c0] = some z0 := by simpa [cellsInt] using g0
  have g1' : DataW.trod enc Tryd.prog W base (fun _ => true) held m 31 [c1] = some z1 := by
    have e : Tryd.prog.cellsOf 31 = 1 := by kernel_rfl
    simpa [e] using g1
  obtain ⟨L, e0, _, _⟩ := DataW.trod_int Tryd.underlying3 g0'
  simp at e0
  subst e0
  obtain ⟨A, c, l, rfl, hA, hl⟩ := open_antS g1'
  obtain ⟨s, e2, _, hs⟩ := DataW.trod_string Tryd.underlying9 h1'
  simp at e2
  subst e2
  exact ⟨L, A, c, l, s, rfl, hA, hl, hs⟩
end
end Go.Proofs.YtenpmjinbjlpbaaDoor
