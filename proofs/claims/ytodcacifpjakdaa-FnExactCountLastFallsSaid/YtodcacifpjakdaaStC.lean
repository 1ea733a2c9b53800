/- The model's table of last falls, each with how many ways make it. -/
import Derived.Test.YtodcacifpjakdaaIns
import Derived.Test.YtodcacifpjakdaaLasts
import Derived.Test.YtodcacifpjakdaaStRod
import Derived.Test.YtodcacifpjakdaaRowsP
namespace Go.Proofs.Ytodcacifpjakdaa
open Go.RowKit

theorem speRLx (L : Int) (l : List Int) (k : Nat) (hp : plB L l = true) (W : World) (A : Option Addr) (c B : Nat) (h : SlOwn pairS W B 62 (.slice A l.length c) (rdL l (wyN l.length k))) :
    Calls Try.prog 27 #[.agg #[.int .i64 L, .slice A l.length c]] W fun e w' => e = .returned (.int .i64 (lfk L l k)) ∧ Below W.heap.size W w' := by
  have h2 := roLast_good L A c (rdL l (wyN l.length k)) W (goodB_rd hp (wyN_len l.length k) (wyN_mem _ _)) (slAt_ants h.sl)
  rw [rdL_len l _ (wyN_len _ _)] at h2
  exact h2
theorem lfk_in (L : Int) (l : List Int) (k : Nat) (hp : plB L l = true) : 0 ≤ lfk L l k ∧ lfk L l k ≤ 1000 := by
  have h := maxOf_bounds (fallsOf L (rdL l (wyN l.length k))) (fallsOf_bounds (goodB_rd hp (wyN_len l.length k) (wyN_mem _ _))) (fallsOf L (rdL l (wyN l.length k))).length
  rw [List.take_length] at h
  exact h
/-- the table behind k ways -/
def tbl (L : Int) (l : List Int) (k : Nat) : List (Int × Int) := insAll (lfT L l k)
theorem tbl_succ (L : Int) (l : List Int) (k : Nat) : tbl L l (k + 1) = insR (tbl L l k) (lfk L l k) := insAll_range _ _
theorem tbl_len (L : Int) (l : List Int) (k : Nat) : (tbl L l k).length ≤ k := insAll_rlen _ _
theorem tbl_in (L : Int) (l : List Int) (k : Nat) (hp : plB L l = true) : ∀ p ∈ tbl L l k, 0 ≤ p.1 ∧ p.1 ≤ 1000 ∧ 1 ≤ p.2 ∧ p.2 ≤ k := by
  intro p hpm
  obtain ⟨h1, h2, j, _, h3⟩ := insAll_cnt (lfk L l) k p hpm
  have := lfk_in L l j hp
  rw [← h3] at this
  exact ⟨this.1, this.2, h1, h2⟩

theorem ref_in {q : List (Nat × Nat × Nat)} {w : World} {B : Nat} {v : Value} {R : List (Int × Int)} (h : RowsQ q w B v (rowsP R)) {k : Nat} {p : Int × Int} (hp : R[k]? = some p) :
    ∃ x c, q[k]? = some (x, 2, c) ∧ 2 ≤ c ∧ w.cell? ⟨x, 0, none⟩ = some (.int .i64 p.1) ∧ w.cell? ⟨x, 1, none⟩ = some (.int .i64 p.2) ∧ w.frozen? ⟨x, 1, none⟩ = false := by
  have hk : k < q.length := by rw [h.len, rowsP_len]; exact (List.getElem?_eq_some_iff.1 hp).1
  obtain ⟨y, hy⟩ : ∃ y, q[k]? = some y := ⟨_, List.getElem?_eq_getElem hk⟩
  have ho := h.row k y _ hy (rowsP_at hp)
  obtain ⟨x, n, c⟩ := y
  have hn : n = 2 := own_lenR ho
  subst hn
  refine ⟨x, c, hy, own_cap ho, ?_, ?_, ?_⟩
  · have := World.ownsRow.cellAt ho 0 (by simp [intS])
    simpa [Shape.row, intS] using this
  · have := World.ownsRow.cellAt ho 1 (by simp [intS])
    simpa [Shape.row, intS] using this
  · exact World.ownsRow.frozenAt ho 1
/-- a row put in among the others, all told anew -/
theorem RowsQ.ins {q : List (Nat × Nat × Nat)} {w w' : World} {B n' c' g k : Nat} {v : Value} {A' : Option Addr} {R : List (List Int)} {r : List Int} (h : RowsQ q w B v R) (hw : Below w.heap.size w w') (hB : B ≤ w.heap.size)
    (hg : w.heap.size ≤ g) (hr : SlOwn intS w' B 3 (.slice (some ⟨g, 0, none⟩) 2 2) r) (ho : SlOwn refS w' w.heap.size 22 (.slice A' n' c') (([] ++ q.take k ++ [(g, 2, 2)]) ++ q.drop k)) (hk : k ≤ q.length) :
    RowsQ (([] ++ q.take k ++ [(g, 2, 2)]) ++ q.drop k) w' B (.slice A' n' c') (R.take k ++ r :: R.drop k) := by
  have hlow := h.rowlt
  have e : ([] ++ q.take k ++ [(g, 2, 2)]) ++ q.drop k = q.take k ++ (g, 2, 2) :: q.drop k := by simp
  have hmem : ∀ x, x ∈ q.take k ++ (g, 2, 2) :: q.drop k → x = (g, 2, 2) ∨ x ∈ q := by
    intro x hx
    rcases List.mem_append.1 hx with hx | hx
    · exact .inr (List.mem_of_mem_take hx)
    · rcases List.mem_cons.1 hx with hx | hx
      · exact .inl hx
      · exact .inr (List.mem_of_mem_drop hx)
  have hlen := h.len
  have at_ : ∀ (i : Nat) (x : Nat × Nat × Nat), (q.take k ++ (g, 2, 2) :: q.drop k)[i]? = some x → (i < k ∧ q[i]? = some x) ∨ (i = k ∧ x = (g, 2, 2)) ∨ (k < i ∧ q[i - 1]? = some x) := by
    intro i x hx
    by_cases h1 : i < k
    · left
      rw [List.getElem?_append_left (by rw [List.length_take]; omega), List.getElem?_take, if_pos h1] at hx
      exact ⟨h1, hx⟩
    · rw [List.getElem?_append_right (by rw [List.length_take]; omega), List.length_take, Nat.min_eq_left hk] at hx
      by_cases h2 : i = k
      · subst h2
        rw [Nat.sub_self, List.getElem?_cons_zero] at hx
        injection hx with hx
        exact .inr (.inl ⟨rfl, hx.symm⟩)
      · right; right
        refine ⟨by omega, ?_⟩
        rw [show i - k = (i - k - 1) + 1 by omega, List.getElem?_cons_succ, List.getElem?_drop, show k + (i - k - 1) = i - 1 by omega] at hx
        exact hx
  rw [e] at ho ⊢
  refine ⟨?_, SlOwn.base ho hB, fun i x s hx hs => ?_, fun i j x y hij hx hy => ?_, fun x hx => ?_⟩
  · simp only [List.length_append, List.length_cons, List.length_take, List.length_drop]; omega
  · rcases at_ i x hx with ⟨h1, h2⟩ | ⟨h1, h2⟩ | ⟨h1, h2⟩
    · rw [List.getElem?_append_left (by rw [List.length_take]; omega), List.getElem?_take, if_pos h1] at hs
      exact (h.row i x s h2 hs).below hw
    · subst h1
      rw [List.getElem?_append_right (by rw [List.length_take]; omega), List.length_take, Nat.min_eq_left (by omega), Nat.sub_self, List.getElem?_cons_zero] at hs
      injection hs with hs
      subst hs
      subst h2
      exact hr
    · rw [List.getElem?_append_right (by rw [List.length_take]; omega), List.length_take, Nat.min_eq_left (by omega), show i - k = (i - k - 1) + 1 by omega, List.getElem?_cons_succ, List.getElem?_drop, show k + (i - k - 1) = i - 1 by omega] at hs
      exact (h.row (i - 1) x s h2 hs).below hw
  · have lt1 : ∀ z : Nat × Nat × Nat, z ∈ q → z.1 < w.heap.size := fun z hz => (hlow z hz).2
    rcases at_ i x hx with ⟨h1, h2⟩ | ⟨h1, h2⟩ | ⟨h1, h2⟩ <;> rcases at_ j y hy with ⟨h3, h4⟩ | ⟨h3, h4⟩ | ⟨h3, h4⟩
    · exact h.apart i j x y hij h2 h4
    · subst h4; have := lt1 x (List.mem_of_getElem? h2); show x.1 ≠ g; omega
    · exact h.apart i (j - 1) x y (by omega) h2 h4
    · omega
    · omega
    · subst h2; have := lt1 y (List.mem_of_getElem? h4); show g ≠ y.1; omega
    · omega
    · omega
    · exact h.apart (i - 1) (j - 1) x y (by omega) h2 h4
  · intro hb
    rcases hmem x hx with rfl | hxq
    · rcases ho.2 with ⟨h1, _⟩ | ⟨g', cap, cur, hv, _, hrow, _⟩
      · rw [h1] at hb; simp [Value.ownBlock] at hb
      · rw [hv] at hb
        simp [Value.ownBlock] at hb
        subst hb
        rcases hr.2 with ⟨h1, _⟩ | ⟨g2, cap2, cur2, hv2, _, hrow2, _⟩
        · cases h1
        · injection hv2 with hv2 _ _
          injection hv2 with hv2
          injection hv2 with hv2 _ _
          subst hv2
          rw [hrow] at hrow2
          simp at hrow2
    · have h1 := (hlow x hxq).2
      rcases ho.2 with ⟨h2, _⟩ | ⟨g', cap, cur, hv, hge, _⟩
      · rw [h2] at hb; simp [Value.ownBlock] at hb
      · rw [hv] at hb
        simp [Value.ownBlock] at hb
        omega
end Go.Proofs.Ytodcacifpjakdaa
