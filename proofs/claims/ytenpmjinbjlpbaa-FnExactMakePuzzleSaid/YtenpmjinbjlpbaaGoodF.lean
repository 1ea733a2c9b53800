/- What the ants of a rod are: few, within it, in their order. No dump is read here but for the contracts. -/
import Derived.Test.YtenpmjinbjlpbaaGood
import Derived.Test.YtenpmjinbjlpbaaSrt
namespace Go.Proofs.Ytenpmjinbjlpbaa

theorem getD_of {α : Type} {l : List α} {k : Nat} {x d : α} (h : l[k]? = some x) : l.getD k d = x := by rw [List.getD_eq_getElem?_getD, h]; rfl
theorem good_len {L : Int} {l : List (Int × Int)} (h : goodB L l = true) : (l.length : Int) ≤ 16 := by
  simp only [goodB, Bool.and_eq_true] at h
  have := (hdr_iff _ _).1 h.1
  omega
theorem good_hdr {L : Int} {l : List (Int × Int)} (h : goodB L l = true) : 2 ≤ L ∧ L ≤ 1000 ∧ L % 2 = 0 := by
  simp only [goodB, Bool.and_eq_true] at h
  have := (hdr_iff _ _).1 h.1
  omega
theorem good_ant {L : Int} {l : List (Int × Int)} (h : goodB L l = true) {k : Nat} {x : Int × Int} (hx : l[k]? = some x) : 0 ≤ x.1 ∧ x.1 ≤ L ∧ x.1 % 2 = 0 ∧ (x.2 = -1 ∨ x.2 = 1) := by
  simp only [goodB, Bool.and_eq_true, List.all_eq_true] at h
  have h1 := h.2 k (List.mem_range.2 (List.getElem?_eq_some_iff.1 hx).1)
  simp only [okAt, Bool.and_eq_true, getD_of hx] at h1
  have h2 := h1.1
  simp only [isAntB, Bool.and_eq_true, Bool.or_eq_true, decide_eq_true_eq, beq_iff_eq] at h2
  obtain ⟨⟨⟨a, b⟩, c⟩, d⟩ := h2
  exact ⟨a, b, c, d⟩

theorem good_next {L : Int} {l : List (Int × Int)} (h : goodB L l = true) (k : Nat) (hk : k + 1 < l.length) : antLt (l.getD k (0, 0)) (l.getD (k + 1) (0, 0)) = true := by
  simp only [goodB, Bool.and_eq_true, List.all_eq_true] at h
  have h1 := h.2 (k + 1) (List.mem_range.2 hk)
  simp only [okAt, Bool.and_eq_true, Bool.or_eq_true, Nat.add_sub_cancel] at h1
  rcases h1.2 with h2 | h2
  · simp at h2
  · simp only [mayB, metB, Bool.or_eq_true, Bool.and_eq_true, decide_eq_true_eq, beq_iff_eq] at h2
    rw [antLt_iff]
    omega
theorem good_lt {L : Int} {l : List (Int × Int)} (h : goodB L l = true) (i : Nat) : ∀ j, i < j → j < l.length → antLt (l.getD i (0, 0)) (l.getD j (0, 0)) = true := by
  intro j
  induction j with
  | zero => intro h; omega
  | succ j ih =>
    intro hij hj
    have h1 := good_next h j hj
    by_cases hi : i = j
    · subst hi; exact h1
    · have h2 := ih (by omega) (by omega)
      rw [antLt_iff] at *
      omega
end Go.Proofs.Ytenpmjinbjlpbaa
