/- How a law's arguments are opened: a clue, a puzzle. -/
import Derived.Test.YtenpmjinbjlpbaaDoorOpenI
import Derived.Deep.Strs
namespace Go.Proofs.YtenpmjinbjlpbaaDoor
open Go.ChangeShapes Go.WideShapes Go.ChangeAt Go.RowKit Go.Deep Go.Joins
set_option linter.unusedVariables false

section
variable {H : Type} {enc : TypeId × Value → H} {W : World} {base : Nat} {held : Bool}
theorem cellsClue : Tryd.prog.cellsOf 105 = 3 := by kernel_rfl
set_option maxRecDepth 100000 in
theorem open_clue {r : Reach} {b0 : Nat} {v : Value} {d : DataW H} {p : List MemPlace} (hv : Value.okWide Tryd.prog W r b0 105 v) (h : DataW.Trod enc Tryd.prog W base (fun _ => true) held 105 v d p) :
    ∃ (a y z : Int), v = .agg #[.int .i64 a, .int .i64 y, .int .i64 z] := by
  obtain ⟨c0, c1, c2, y0, y1, y2, m, rfl, rfl, rfl, hy0, hy1, hy2⟩ := open_agg3 Tryd.underlying105 (by kernel_rfl) cellsClue hv h
  obtain ⟨a, e0, _, _⟩ := DataW.trod_int Tryd.underlying3 hy0
  obtain ⟨y, e1, _, _⟩ := DataW.trod_int Tryd.underlying3 hy1
  obtain ⟨z, e2, _, _⟩ := DataW.trod_int Tryd.underlying3 hy2
  simp at e0 e1 e2
  subst e0; subst e1; subst e2
  exact ⟨a, y, z, rfl⟩
set_option maxRecDepth 100000 in
/-- a slice of clues in cells -/
theorem open_clueS {fuel : Nat} {cs : List Value} {x : DataW H × List MemPlace} (h : DataW.trod enc Tryd.prog W base (fun _ => true) held fuel 41 cs = some x) :
    ∃ (A : Option Addr) (c : Nat) (l : List (Int × Int × Int)), cs = [.slice A l.length c] ∧ SlAt tripS W A l ∧ (l.length : Int) ≤ 9223372036854775807 := by
  rcases open_slice Tryd.underlying41 h with ⟨hcs, _⟩ | ⟨a, len, cap, m, n, D, Pl, hcs, _, hl, hm, hmm, _, hx⟩
  · subst hcs
    exact ⟨none, 0, [], rfl, .inl rfl, by simp⟩
  · subst hcs
    have hlm : len ≤ m := by rw [hmm]; split <;> omega
    have each : ∀ i, ∃ q : Int × Int × Int, i < len → W.cell? (a.add (i * 3)) = some (.int .i64 q.1) ∧ W.cell? (a.add (i * 3 + 1)) = some (.int .i64 q.2.1) ∧ W.cell? (a.add (i * 3 + 2)) = some (.int .i64 q.2.2) := by
      intro i
      by_cases hi : i < len
      · obtain ⟨cs', h1, h2⟩ := hx i (by omega)
        rw [cellsClue] at h1
        obtain ⟨_, hlen, hcell⟩ := World.cells?_some h1
        obtain ⟨y0, y1, y2, k, _, _, g0, g1, g2⟩ := trod_struct3 Tryd.underlying105 h2
        match cs', hlen with
        | [v0, v1, v2], _ =>
          have e0 := hcell 0 (by omega)
          have e1 := hcell 1 (by omega)
          have e2 := hcell 2 (by omega)
          rw [add_add] at e0 e1 e2
          have g0' : DataW.trod enc Tryd.prog W base (fun _ => true) held k 3 [v0] = some y0 := g0
          have g1' : DataW.trod enc Tryd.prog W base (fun _ => true) held k 3 [v1] = some y1 := g1
          have g2' : DataW.trod enc Tryd.prog W base (fun _ => true) held k 3 [v2] = some y2 := g2
          obtain ⟨a0, b0, _, _⟩ := DataW.trod_int Tryd.underlying3 g0'
          obtain ⟨a1, b1, _, _⟩ := DataW.trod_int Tryd.underlying3 g1'
          obtain ⟨a2, b2, _, _⟩ := DataW.trod_int Tryd.underlying3 g2'
          simp at b0 b1 b2
          subst b0; subst b1; subst b2
          exact ⟨(a0, a1, a2), fun _ => ⟨by simpa using e0, by simpa using e1, by simpa using e2⟩⟩
      · exact ⟨(0, 0, 0), fun h => absurd h hi⟩
    obtain ⟨q, hq⟩ := Classical.axiomOfChoice each
    refine ⟨some a, cap, (List.range len).map q, by simp, ?_, by simp; unfold maxLen at hm; omega⟩
    rcases Nat.eq_zero_or_pos len with h0 | h0
    · subst h0; exact .inl rfl
    · obtain ⟨b, off, spot⟩ := a
      have h00 := (hq 0 (by omega)).1
      have hsp : spot = none := by simpa [Addr.add] using World.cell?_spot h00
      subst hsp
      refine .inr ⟨b, off, rfl, World.block_lt_of_cell? _ _ (by rw [Addr.add_lit] at h00; exact h00), fun k x hk j hj => ?_⟩
      have hk' : k < len := by have := (List.getElem?_eq_some_iff.1 hk).1; simpa using this
      obtain ⟨h0, h1, h2⟩ := hq k hk'
      have e : q k = x := by simpa [hk'] using hk
      rw [e] at h0 h1 h2
      rw [Addr.add_lit] at h0 h1 h2
      have hj' : j < 3 := hj
      match j, hj' with
      | 0, _ => exact h0
      | 1, _ => exact h1
      | 2, _ => exact h2

theorem cellsPuzzle : Tryd.prog.cellsOf 43 = 3 := by kernel_rfl
set_option maxRecDepth 100000 in
theorem open_puzzle {r : Reach} {b0 : Nat} {v : Value} {d : DataW H} {p : List MemPlace} (hv : Value.okWide Tryd.prog W r b0 43 v) (h : DataW.Trod enc Tryd.prog W base (fun _ => true) held 43 v d p) :
    ∃ (L : Int) (A : Option Addr) (c : Nat) (l : List Int) (C : Option Addr) (e : Nat) (cs : List (Int × Int × Int)), v = .agg #[.int .i64 L, .slice A l.length c, .slice C cs.length e] ∧ SlAt intS W A l ∧ SlAt tripS W C cs ∧ (l.length : Int) ≤ 9223372036854775807 ∧ (cs.length : Int) ≤ 9223372036854775807 := by
  obtain ⟨c0, c1, c2, y0, y1, y2, m, rfl, rfl, rfl, hy0, hy1, hy2⟩ := open_agg3 Tryd.underlying43 (by kernel_rfl) cellsPuzzle hv h
  obtain ⟨L, e0, _, _⟩ := DataW.trod_int Tryd.underlying3 hy0
  simp at e0
  subst e0
  have hy1' : DataW.trod enc Tryd.prog W base (fun _ => true) held m 40 [c1] = some y1 := hy1
  have hy2' : DataW.trod enc Tryd.prog W base (fun _ => true) held m 41 [c2] = some y2 := hy2
  obtain ⟨C, e, cs, hcs, hC, hcl⟩ := open_clueS hy2'
  simp at hcs
  subst hcs
  rcases open_ints Tryd.underlying40 Tryd.underlying3 cellsInt hy1' with ⟨hcs, _⟩ | ⟨a, len, cap, zs, hcs, _, hl, hm, hz, _, hx, _⟩
  · simp at hcs
    subst hcs
    exact ⟨L, none, 0, [], C, e, cs, rfl, .inl rfl, hC, by simp, hcl⟩
  · simp at hcs
    subst hcs
    simp only [if_true] at hz
    refine ⟨L, some a, cap, zs.take len, C, e, cs, by simp; omega, ?_, hC, by simp; unfold maxLen at hm; omega, hcl⟩
    rcases Nat.eq_zero_or_pos len with h0 | h0
    · subst h0; exact .inl (by simp)
    · obtain ⟨b, off, spot⟩ := a
      have hc0 := hx 0 (by omega)
      have hsp : spot = none := by simpa [Addr.add] using World.cell?_spot hc0
      subst hsp
      refine .inr ⟨b, off, rfl, World.block_lt_of_cell? _ _ (by rw [Addr.add_lit] at hc0; exact hc0), fun k x hk j hj => ?_⟩
      obtain rfl : j = 0 := by have : j < 1 := hj; omega
      have hk0 := (List.getElem?_eq_some_iff.1 hk).1
      rw [List.length_take] at hk0
      have hck := hx k (by omega)
      rw [List.getElem?_take_of_lt (by omega)] at hk
      rw [List.getD_eq_getElem?_getD, hk, Addr.add_lit] at hck
      show W.cell? ⟨b, off + k * 1 + 0, none⟩ = _
      rw [Nat.mul_one, Nat.add_zero]
      exact hck
end
end Go.Proofs.YtenpmjinbjlpbaaDoor
