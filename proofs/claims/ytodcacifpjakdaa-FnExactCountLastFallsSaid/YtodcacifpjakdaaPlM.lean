/- Different places, increasing: sorted and made compact, or put in one by one. No dump is read here. -/
import Derived.Lib.SlicesCompact
import Derived.Lib.Hide
namespace Go.Proofs.Ytodcacifpjakdaa
open Go.Lib

def Up (l : List Int) : Prop := l.Pairwise fun a b => a < b
theorem up_eq {l m : List Int} (hl : Up l) (hm : Up m) (h : ∀ x, x ∈ l ↔ x ∈ m) : l = m := by
  induction l generalizing m with
  | nil =>
    cases m with
    | nil => rfl
    | cons b m => exact absurd ((h b).2 List.mem_cons_self) (by simp)
  | cons a l ih =>
    cases m with
    | nil => exact absurd ((h a).1 List.mem_cons_self) (by simp)
    | cons b m =>
      have h1 := List.pairwise_cons.1 hl
      have h2 := List.pairwise_cons.1 hm
      have e : a = b := by
        have ha := (h a).1 List.mem_cons_self
        have hb := (h b).2 List.mem_cons_self
        rcases List.mem_cons.1 ha with ha | ha
        · exact ha
        · rcases List.mem_cons.1 hb with hb | hb
          · exact hb.symm
          · have := h2.1 a ha
            have := h1.1 b hb
            omega
      subst e
      rw [ih h1.2 h2.2 (fun x => ?_)]
      constructor
      · intro hx
        have := h1.1 x hx
        rcases List.mem_cons.1 ((h x).1 (List.mem_cons_of_mem _ hx)) with hx' | hx'
        · omega
        · exact hx'
      · intro hx
        have := h2.1 x hx
        rcases List.mem_cons.1 ((h x).2 (List.mem_cons_of_mem _ hx)) with hx' | hx'
        · omega
        · exact hx'

theorem compactUp (d : Array Int) (hs : ∀ i j, i < j → j < d.size → d[i]! ≤ d[j]!) : ∀ m, m ≤ d.size → Up (compactUpTo d m) ∧ ∀ x, x ∈ compactUpTo d m ↔ ∃ j, j < m ∧ d[j]! = x
  | 0, _ => by
    refine ⟨?_, fun x => ?_⟩
    · show List.Pairwise _ _
      simp [compactUpTo]
    · simp [compactUpTo]
  | m + 1, hm => by
    obtain ⟨ih1, ih2⟩ := compactUp d hs m (by omega)
    rw [compactUpTo_succ]
    by_cases hk : keeps d m = true
    · rw [if_pos hk]
      have hlt : ∀ x, x ∈ compactUpTo d m → x < d[m]! := by
        intro x hx
        obtain ⟨j, hj, rfl⟩ := (ih2 x).1 hx
        have h0 : m ≠ 0 := by omega
        have hne : d[m]! ≠ d[m - 1]! := by
          intro e
          rw [keeps_neg (by omega) e] at hk
          cases hk
        have h1 := hs (m - 1) m (by omega) (by omega)
        by_cases hjm : j = m - 1
        · subst hjm; omega
        · have := hs j (m - 1) (by omega) (by omega)
          omega
      refine ⟨?_, fun x => ?_⟩
      · show List.Pairwise _ _
        rw [List.pairwise_append]
        refine ⟨ih1, List.pairwise_singleton _ _, fun a ha b hb => ?_⟩
        rw [List.mem_singleton] at hb
        subst hb
        exact hlt a ha
      · rw [List.mem_append, List.mem_singleton, ih2]
        constructor
        · rintro (⟨j, hj, e⟩ | e)
          · exact ⟨j, by omega, e⟩
          · exact ⟨m, by omega, e.symm⟩
        · rintro ⟨j, hj, e⟩
          by_cases hjm : j = m
          · subst hjm; exact .inr e.symm
          · exact .inl ⟨j, by omega, e⟩
    · rw [if_neg hk, List.append_nil]
      refine ⟨ih1, fun x => ?_⟩
      rw [ih2]
      have hm0 : m ≠ 0 := by
        intro h0
        subst h0
        rw [keeps_lt_one d 0 (by omega)] at hk
        exact hk rfl
      have he : d[m]! = d[m - 1]! := by
        by_cases e : d[m]! = d[m - 1]!
        · exact e
        · exact absurd (keeps_pos e) hk
      constructor
      · rintro ⟨j, hj, e⟩; exact ⟨j, by omega, e⟩
      · rintro ⟨j, hj, e⟩
        by_cases hjm : j = m
        · subst hjm; exact ⟨j - 1, by omega, by rw [← he]; exact e⟩
        · exact ⟨j, by omega, e⟩
def srtI (l : List Int) : List Int := l.mergeSort fun x y => decide (x ≤ y)
theorem srtI_mem (l : List Int) (x : Int) : x ∈ srtI l ↔ x ∈ l := (List.mergeSort_perm l _).mem_iff
theorem srtI_len (l : List Int) : (srtI l).length = l.length := (List.mergeSort_perm l _).length_eq
theorem srtI_srt (l : List Int) : (srtI l).Pairwise fun a b => a ≤ b := by
  have h := List.pairwise_mergeSort (le := fun x y : Int => decide (x ≤ y)) (fun a b c h1 h2 => by simp at *; omega) (fun a b => by simp; omega) l
  exact h.imp (fun h => by simpa using h)
theorem compact_srt (l : List Int) : Up (compact (srtI l)) ∧ ∀ x, x ∈ compact (srtI l) ↔ x ∈ l := by
  have hs := List.pairwise_iff_getElem.1 (srtI_srt l)
  have h := compactUp (srtI l).toArray (fun i j hij hj => by
    have hj' : j < (srtI l).length := by simpa using hj
    have := hs i j (by omega) hj' hij
    simpa [show i < (srtI l).length by omega, hj'] using this) (srtI l).length (by simp)
  refine ⟨h.1, fun x => ?_⟩
  unfold compact
  rw [h.2, ← srtI_mem l x, List.mem_iff_getElem]
  constructor
  · rintro ⟨j, hj, e⟩
    exact ⟨j, hj, by simpa [hj] using e⟩
  · rintro ⟨j, hj, e⟩
    exact ⟨j, hj, by simpa [hj] using e⟩

/-- one put into its place -/
def insA (q : List Int) (x : Int) : List Int := q.filter (fun y => decide (y < x)) ++ x :: q.filter (fun y => decide (x < y))
theorem insA_up {q : List Int} (h : Up q) (x : Int) : Up (insA q x) := by
  unfold insA Up
  rw [List.pairwise_append]
  refine ⟨h.sublist List.filter_sublist, ?_, fun a ha b hb => ?_⟩
  · rw [List.pairwise_cons]
    exact ⟨fun a ha => by simpa using (List.mem_filter.1 ha).2, h.sublist List.filter_sublist⟩
  · have ha' : a < x := by simpa using (List.mem_filter.1 ha).2
    rcases List.mem_cons.1 hb with rfl | hb
    · exact ha'
    · have : x < b := by simpa using (List.mem_filter.1 hb).2
      omega
theorem insA_mem {q : List Int} {x : Int} (hx : x ∉ q) (y : Int) : y ∈ insA q x ↔ y ∈ q ∨ y = x := by
  unfold insA
  rw [List.mem_append, List.mem_cons, List.mem_filter, List.mem_filter]
  simp only [decide_eq_true_eq]
  constructor
  · rintro (h | h | h)
    · exact .inl h.1
    · exact .inr h
    · exact .inl h.1
  · rintro (h | h)
    · rcases Int.lt_trichotomy y x with h1 | h1 | h1
      · exact .inl ⟨h, h1⟩
      · subst h1; exact absurd h hx
      · exact .inr (.inr ⟨h, h1⟩)
    · exact .inr (.inl h)
theorem insA_at {q : List Int} (h : Up q) {x : Int} (hx : x ∉ q) {k : Nat} (hk : k ≤ q.length) (h1 : ∀ j (hj : j < q.length), j < k → q[j] < x) (h2 : ∀ hj : k < q.length, ¬ q[k] < x) : q.take k ++ [x] ++ q.drop k = insA q x := by
  have hp := List.pairwise_iff_getElem.1 h
  have e1 : q.filter (fun y => decide (y < x)) = q.take k := by
    conv => lhs; rw [← List.take_append_drop k q]
    rw [List.filter_append]
    rw [List.filter_eq_self.2, List.filter_eq_nil_iff.2, List.append_nil]
    · intro a ha
      obtain ⟨j, hj, rfl⟩ := List.mem_iff_getElem.1 ha
      rw [List.length_drop] at hj
      rw [List.getElem_drop]
      have hkl : k < q.length := by omega
      have := h2 hkl
      by_cases hj0 : j = 0
      · subst hj0; simpa using this
      · have := hp k (k + j) hkl (by omega) (by omega)
        simp; omega
    · intro a ha
      obtain ⟨j, hj, rfl⟩ := List.mem_iff_getElem.1 ha
      rw [List.length_take] at hj
      rw [List.getElem_take]
      exact decide_eq_true (h1 j (by omega) (by omega))
  have e2 : q.filter (fun y => decide (x < y)) = q.drop k := by
    conv => lhs; rw [← List.take_append_drop k q]
    rw [List.filter_append]
    rw [List.filter_eq_nil_iff.2, List.filter_eq_self.2, List.nil_append]
    · intro a ha
      obtain ⟨j, hj, rfl⟩ := List.mem_iff_getElem.1 ha
      rw [List.length_drop] at hj
      rw [List.getElem_drop]
      have hkl : k < q.length := by omega
      have h3 := h2 hkl
      have h4 : q[k] ≠ x := fun e => hx (e ▸ List.getElem_mem hkl)
      refine decide_eq_true ?_
      by_cases hj0 : j = 0
      · subst hj0
        show x < q[k]
        omega
      · have := hp k (k + j) hkl (by omega) (by omega)
        omega
    · intro a ha
      obtain ⟨j, hj, rfl⟩ := List.mem_iff_getElem.1 ha
      rw [List.length_take] at hj
      rw [List.getElem_take]
      have := h1 j (by omega) (by omega)
      simp; omega
  unfold insA
  rw [e1, e2]
  simp
def puL (m : List Int) : Nat → List Int
  | 0 => []
  | k + 1 => if m.getD k 0 ∈ puL m k then puL m k else insA (puL m k) (m.getD k 0)
theorem puL_ok (m : List Int) : ∀ k, k ≤ m.length → Up (puL m k) ∧ ∀ x, x ∈ puL m k ↔ x ∈ m.take k
  | 0, _ => by
    refine ⟨List.Pairwise.nil, fun x => ?_⟩
    simp [puL]
  | k + 1, hk => by
    obtain ⟨h1, h2⟩ := puL_ok m k (by omega)
    have hkl : k < m.length := hk
    have e : m.getD k 0 = m[k] := by rw [List.getD_eq_getElem?_getD, List.getElem?_eq_getElem hkl]; rfl
    unfold puL
    rw [e, List.take_succ_eq_append_getElem hkl]
    split
    · rename_i h
      refine ⟨h1, fun x => ?_⟩
      rw [h2, List.mem_append, List.mem_singleton]
      constructor
      · exact .inl
      · rintro (h' | rfl)
        · exact h'
        · exact (h2 _).1 h
    · rename_i h
      refine ⟨insA_up h1 _, fun x => ?_⟩
      rw [insA_mem h, h2, List.mem_append, List.mem_singleton]
theorem puL_compact (m : List Int) : puL m m.length = compact (srtI m) := by
  have h1 := puL_ok m m.length (Nat.le_refl _)
  have h2 := compact_srt m
  rw [List.take_length] at h1
  exact up_eq h1.1 h2.1 (fun x => (h1.2 x).trans (h2.2 x).symm)
theorem insA_len (q : List Int) (x : Int) : (insA q x).length ≤ q.length + 1 := by
  unfold insA
  rw [List.length_append, List.length_cons]
  have : ∀ q : List Int, (q.filter fun y => decide (y < x)).length + (q.filter fun y => decide (x < y)).length ≤ q.length := by
    intro q
    induction q with
    | nil => simp
    | cons a q ih =>
      rw [List.filter_cons, List.filter_cons, List.length_cons]
      by_cases h1 : a < x
      · rw [if_pos (by simpa using h1), if_neg (by simp; omega)]; simp only [List.length_cons]; omega
      · by_cases h2 : x < a
        · rw [if_neg (by simpa using h1), if_pos (by simpa using h2)]; simp only [List.length_cons]; omega
        · rw [if_neg (by simpa using h1), if_neg (by simpa using h2)]; omega
  have := this q
  omega
theorem puL_len (m : List Int) : ∀ k, (puL m k).length ≤ k
  | 0 => Nat.le_refl _
  | k + 1 => by
    have h := puL_len m k
    unfold puL
    split
    · omega
    · have := insA_len (puL m k) (m.getD k 0)
      omega
end Go.Proofs.Ytodcacifpjakdaa
