/- Words, further: meetings of a step, rest in fewer steps than signs, the other side, all words are listed in order. No dump is read here. -/
import Derived.Test.YtfojldkiagemeaaDoorWrdA
namespace Go.Proofs.YtfojldkiagemeaaDoor

theorem num_stp_sum (l : List UInt8) : ∀ r, (num r (stp l)).sum + fcR l = (num r l).sum := by
  refine row_all (p := fun l => ∀ r, (num r (stp l)).sum + fcR l = (num r l).sum) (fun _ => rfl) ?_ ?_ l
  · intro t h _ r
    have := h (r + 1)
    rw [stp_two, fcR_two, num, if_neg (by decide), num, if_pos rfl, num, if_pos rfl, num, if_neg (by decide), List.sum_cons, List.sum_cons]
    omega
  · intro x t hx h r
    rw [stp_one hx, fcR_one hx, num, num]
    by_cases h1 : x = 114
    · rw [if_pos h1, if_pos h1]; exact h (r + 1)
    · rw [if_neg h1, if_neg h1, List.sum_cons, List.sum_cons]
      have := h r
      omega
theorem inv_stp (l : List UInt8) : invW (stp l) + fcR l = invW l := num_stp_sum l 0

theorem lr_cases {x : UInt8} (h : isLr x = true) : x = 108 ∨ x = 114 := by unfold isLr at h; simpa using h
theorem all_cons {x : UInt8} {t : List UInt8} (h : (x :: t).all isLr = true) : (x = 108 ∨ x = 114) ∧ t.all isLr = true := by
  rw [List.all_cons, Bool.and_eq_true] at h
  exact ⟨lr_cases h.1, h.2⟩
theorem rest_r (t : List UInt8) : t.all isLr = true → fcR (114 :: t) = 0 → t = List.replicate (t.count 114) 114 ∧ t.count 108 = 0 := by
  induction t with
  | nil => intro _ _; exact ⟨rfl, rfl⟩
  | cons x t ih =>
    intro ha hf
    obtain ⟨h1, h2⟩ := all_cons ha
    rcases h1 with rfl | rfl
    · rw [fcR_two] at hf; omega
    · rw [fcR_one (by simp)] at hf
      obtain ⟨e1, e2⟩ := ih h2 hf
      rw [List.count_cons_self, List.replicate_succ, ← e1, List.count_cons_of_ne (by decide)]
      exact ⟨rfl, e2⟩
theorem rest_shape (l : List UInt8) : l.all isLr = true → fcR l = 0 → l = rst (l.count 108) (l.count 114) := by
  induction l with
  | nil => intro _ _; rfl
  | cons x t ih =>
    intro ha hf
    obtain ⟨h1, h2⟩ := all_cons ha
    rcases h1 with rfl | rfl
    · rw [fcR_one (by simp)] at hf
      have := ih h2 hf
      rw [List.count_cons_self, List.count_cons_of_ne (by decide)]
      unfold rst at this ⊢
      rw [List.replicate_succ, List.cons_append, ← this]
    · obtain ⟨e1, e2⟩ := rest_r t h2 hf
      rw [List.count_cons_self, List.count_cons_of_ne (by decide), e2]
      unfold rst
      rw [List.replicate_succ, ← e1]; rfl
theorem fcR_rep_r (b : Nat) : fcR (List.replicate b 114) = 0 := by
  induction b with
  | zero => rfl
  | succ b ih =>
    rw [List.replicate_succ, fcR_one]
    · exact ih
    · cases b <;> simp [List.replicate_succ]
theorem fcR_rst (a b : Nat) : fcR (rst a b) = 0 := by
  unfold rst
  induction a with
  | zero => exact fcR_rep_r b
  | succ a ih => rw [List.replicate_succ, List.cons_append, fcR_one (by simp)]; exact ih
theorem rest_iff {l : List UInt8} (ha : l.all isLr = true) : fcR l = 0 ↔ l = rst (l.count 108) (l.count 114) :=
  ⟨rest_shape l ha, fun h => by rw [h]; exact fcR_rst _ _⟩
theorem num_rep (b : Nat) : ∀ r, num r (List.replicate b 114) = [] := by
  induction b with
  | zero => intro r; rfl
  | succ b ih => intro r; rw [List.replicate_succ, num, if_pos rfl, ih]
theorem inv_rst (a b : Nat) : invW (rst a b) = 0 := by
  unfold rst
  induction a with
  | zero => unfold invW; rw [List.replicate_zero, List.nil_append, num_rep]; rfl
  | succ a ih => rw [List.replicate_succ, List.cons_append, inv_l]; exact ih
theorem inv_rest {l : List UInt8} (ha : l.all isLr = true) (h : fcR l = 0) : invW l = 0 := by rw [rest_shape l ha h]; exact inv_rst _ _
theorem metF_sum : ∀ f l, l.all isLr = true → plc 0 l < f → (metF f l).sum = invW l := by
  intro f
  induction f with
  | zero => intro l _ h; omega
  | succ f ih =>
    intro l ha hf
    rw [metF]
    by_cases h : fcR l = 0
    · rw [if_pos h, inv_rest ha h]; rfl
    · have h1 := plc_stp l 0
      have h2 := inv_stp l
      rw [if_neg h, List.sum_cons, ih (stp l) (stp_all l ha) (by omega)]
      omega
theorem met_sum {l : List UInt8} (ha : l.all isLr = true) : (metL l).sum = invW l := metF_sum _ l ha (Nat.lt_succ_self _)

/- the steps -/
theorem stpN_front (n : Nat) (l : List UInt8) : stpN n (stp l) = stpN (n + 1) l := by
  induction n with
  | zero => rfl
  | succ n ih => rw [stpN, ih]; rfl
theorem stp_rest {l : List UInt8} (h : fcR l = 0) : stp l = l := by
  refine row_all (p := fun l => fcR l = 0 → stp l = l) (fun _ => rfl) ?_ ?_ l h
  · intro t _ _ h; rw [fcR_two] at h; omega
  · intro x t hx ih h; rw [fcR_one hx] at h; rw [stp_one hx, ih h]
theorem stpN_rest {l : List UInt8} (k : Nat) (h : fcR (stpN k l) = 0) (m : Nat) : stpN (k + m) l = stpN k l := by
  induction m with
  | zero => rfl
  | succ m ih => rw [Nat.add_succ, stpN, ih, stp_rest h]
theorem stpN_all (n : Nat) {l : List UInt8} (h : l.all isLr = true) : (stpN n l).all isLr = true := by
  induction n with
  | zero => exact h
  | succ n ih => exact stp_all _ ih
theorem stpN_count (c : UInt8) (n : Nat) (l : List UInt8) : (stpN n l).count c = l.count c := by
  induction n with
  | zero => rfl
  | succ n ih => rw [stpN, stp_count, ih]
theorem met_len_le : ∀ (k : Nat) (l : List UInt8), fcR (stpN k l) = 0 → (metL l).length ≤ k := by
  intro k
  induction k with
  | zero => intro l h; rw [show metL l = [] from metL_rest (show fcR l = 0 from h)]; exact Nat.le_refl _
  | succ k ih =>
    intro l h
    by_cases h0 : fcR l = 0
    · rw [metL_rest h0]; exact Nat.zero_le _
    · rw [metL_step h0, List.length_cons]
      have := ih (stp l) (by rw [stpN_front]; exact h)
      omega
theorem met_len_gt : ∀ (j : Nat) (l : List UInt8), j < (metL l).length → fcR (stpN j l) ≠ 0 := by
  intro j
  induction j with
  | zero =>
    intro l h h0
    rw [show metL l = [] from metL_rest (show fcR l = 0 from h0)] at h
    simp at h
  | succ j ih =>
    intro l h
    by_cases h0 : fcR l = 0
    · rw [metL_rest h0] at h; simp at h
    · rw [metL_step h0, List.length_cons] at h
      rw [← stpN_front]
      exact ih (stp l) (by omega)

/- each l is at its place in time -/
def sN : Nat → List Nat → List Nat
  | _, [] => []
  | p, m :: t => (if p < m then m - 1 else m) :: sN m t
theorem sN_more (r : Nat) (t : List UInt8) (h : t.head? ≠ some 108) (ha : t.all isLr = true) : sN (r + 1) (num (r + 1) t) = sN r (num (r + 1) t) := by
  cases t with
  | nil => rfl
  | cons y t =>
    obtain ⟨h1, _⟩ := all_cons ha
    rcases h1 with rfl | rfl
    · exact absurd rfl h
    · rw [num, if_pos rfl]
      have hge : ∀ (t : List UInt8) (q : Nat), ∀ x ∈ num q t, q ≤ x := by
        intro t
        induction t with
        | nil => intro q x hx; simp [num] at hx
        | cons y t ih =>
          intro q x hx
          rw [num] at hx
          split at hx
          · have := ih (q + 1) x hx; omega
          · rcases List.mem_cons.1 hx with rfl | hx
            · exact Nat.le_refl _
            · exact ih q x hx
      cases hn : num (r + 1 + 1) t with
      | nil => rfl
      | cons m ms =>
        have := hge t (r + 1 + 1) m (by rw [hn]; exact List.mem_cons_self)
        rw [sN, sN, if_pos (by omega), if_pos (by omega)]
theorem num_stp (l : List UInt8) : l.all isLr = true → ∀ r, num r (stp l) = sN r (num r l) := by
  refine row_all (p := fun l => l.all isLr = true → ∀ r, num r (stp l) = sN r (num r l)) (fun _ _ => rfl) ?_ ?_ l
  · intro t h _ ha r
    have h2 := (all_cons (all_cons ha).2).2
    rw [stp_two, num, if_neg (by decide), num, if_pos rfl, num, if_pos rfl, num, if_neg (by decide), sN, if_pos (by omega), h h2]
    rfl
  · intro x t hx h ha r
    obtain ⟨h1, h2⟩ := all_cons ha
    rw [stp_one hx]
    rcases h1 with rfl | rfl
    · rw [num, if_neg (by decide), num, if_neg (by decide), sN, if_neg (by omega), h h2]
    · rw [num, if_pos rfl, num, if_pos rfl, h h2]
      exact sN_more r t (fun e => hx ⟨rfl, e⟩) h2
/-- a bound on the numbers behind so many steps -/
def Late (R t i : Nat) (l : List Nat) : Prop := ∀ j x, l[j]? = some x → x ≤ R + (i + j) - t
theorem late_step (R t : Nat) : ∀ (l : List Nat) (i p : Nat), Late R t i l → p ≤ R + i - (t + 1) → Late R (t + 1) i (sN p l) := by
  intro l
  induction l with
  | nil => intro i p _ _ j x hx; simp [sN] at hx
  | cons m l ih =>
    intro i p h hp j x hx
    have hm := h 0 m rfl
    rw [sN] at hx
    cases j with
    | zero =>
      simp only [List.getElem?_cons_zero, Option.some.injEq] at hx
      subst hx
      split <;> omega
    | succ j =>
      have := ih (i + 1) m (fun j x hx => by have := h (j + 1) x hx; omega) (by omega) j x hx
      omega
theorem late_num (l : List UInt8) : ∀ r, ∀ x ∈ num r l, x ≤ r + l.count 114 := by
  induction l with
  | nil => intro r x hx; simp [num] at hx
  | cons y t ih =>
    intro r x hx
    rw [num] at hx
    by_cases h : y = 114
    · rw [if_pos h] at hx
      have := ih (r + 1) x hx
      rw [h, List.count_cons_self]; omega
    · rw [if_neg h] at hx
      rw [List.count_cons_of_ne h]
      rcases List.mem_cons.1 hx with rfl | hx
      · omega
      · exact ih r x hx
theorem late_all {l : List UInt8} (ha : l.all isLr = true) (t : Nat) : Late (l.count 114) t 0 (num 0 (stpN t l)) := by
  induction t with
  | zero =>
    intro j x hx
    have := late_num l 0 x (List.mem_of_getElem? hx)
    omega
  | succ t ih =>
    rw [stpN, num_stp _ (stpN_all t ha)]
    exact late_step _ _ _ _ _ ih (Nat.zero_le _)
theorem sum_zero (l : List Nat) (h : ∀ x ∈ l, x = 0) : l.sum = 0 := by
  induction l with
  | nil => rfl
  | cons x l ih => rw [List.sum_cons, h x List.mem_cons_self, ih fun y hy => h y (List.mem_cons_of_mem _ hy)]
/-- as many steps as one less than there are signs lead to rest -/
theorem rest_late {l : List UInt8} (ha : l.all isLr = true) {t : Nat} (h : l.length ≤ t + 1) : fcR (stpN t l) = 0 := by
  have h1 := late_all ha t
  have h2 := count_lr l ha
  have h3 := num_len (stpN t l) (stpN_all t ha) 0
  rw [stpN_count] at h3
  have h4 : invW (stpN t l) = 0 := sum_zero _ fun x hx => by
    obtain ⟨j, hj, rfl⟩ := List.mem_iff_getElem.1 hx
    have := h1 j _ (List.getElem?_eq_getElem hj)
    omega
  have := inv_stp (stpN t l)
  omega
theorem steps_lt {l : List UInt8} (ha : l.all isLr = true) : (metL l).length ≤ l.length - 1 := met_len_le _ l (rest_late ha (by omega))

/- the other side -/
theorem oth_oth {l : List UInt8} (ha : l.all isLr = true) : oth (oth l) = l := by
  induction l with
  | nil => rfl
  | cons x t ih =>
    obtain ⟨h1, h2⟩ := all_cons ha
    have e : oth (x :: t) = oth t ++ [othB x] := by unfold oth; simp
    rw [e, oth_snoc, ih h2]
    rcases h1 with rfl | rfl <;> rfl
theorem oth_cons (x : UInt8) (t : List UInt8) : oth (x :: t) = oth t ++ [othB x] := by unfold oth; simp
theorem stp_snoc2 (a : List UInt8) : stp (a ++ [114, 108]) = stp a ++ [108, 114] := by
  refine row_all (p := fun a => stp (a ++ [114, 108]) = stp a ++ [108, 114]) rfl ?_ ?_ a
  · intro t h _; rw [List.cons_append, List.cons_append, stp_two, h, stp_two]; rfl
  · intro x t hx h
    rw [List.cons_append, stp_one, h, stp_one hx]
    · rfl
    · cases t with
      | nil => simp
      | cons y t => simpa using hx
theorem stp_snoc1 (a : List UInt8) (y : UInt8) : ¬ (a.getLast? = some 114 ∧ y = 108) → stp (a ++ [y]) = stp a ++ [y] := by
  refine row_all (p := fun a => ¬ (a.getLast? = some 114 ∧ y = 108) → stp (a ++ [y]) = stp a ++ [y]) (fun _ => rfl) ?_ ?_ a
  · intro t h _ hc
    rw [List.cons_append, List.cons_append, stp_two, stp_two, h]
    · rfl
    · cases t with
      | nil => simp
      | cons z t => simpa [List.getLast?_cons_cons] using hc
  · intro x t hx h hc
    rw [List.cons_append, stp_one hx, stp_one, h]
    · rfl
    · cases t with
      | nil => simp
      | cons z t => simpa [List.getLast?_cons_cons] using hc
    · cases t with
      | nil =>
        simp only [List.getLast?_singleton, Option.some.injEq] at hc
        simpa using hc
      | cons z t => simpa using hx
theorem stp_oth {l : List UInt8} (ha : l.all isLr = true) : stp (oth l) = oth (stp l) := by
  refine row_all (p := fun l => l.all isLr = true → stp (oth l) = oth (stp l)) (fun _ => rfl) ?_ ?_ l ha
  · intro t h _ ha
    have h2 := (all_cons (all_cons ha).2).2
    rw [stp_two, oth_cons, oth_cons, oth_cons, oth_cons, List.append_assoc, List.append_assoc]
    show stp (oth t ++ [114, 108]) = oth (stp t) ++ [108, 114]
    rw [stp_snoc2, h h2]
  · intro x t hx h ha
    obtain ⟨h1, h2⟩ := all_cons ha
    rw [stp_one hx, oth_cons, oth_cons, stp_snoc1, h h2]
    rintro ⟨e1, e2⟩
    apply hx
    rcases h1 with rfl | rfl
    · exact absurd e2 (by decide)
    · refine ⟨rfl, ?_⟩
      cases t with
      | nil => simp [oth] at e1
      | cons y t =>
        rw [oth_cons, List.getLast?_append] at e1
        simp only [List.getLast?_singleton, Option.some_or, Option.some.injEq] at e1
        rcases (all_cons h2).1 with rfl | rfl
        · rfl
        · exact absurd e1 (by decide)
theorem oth_all (l : List UInt8) : (oth l).all isLr = true := by
  refine List.all_eq_true.2 fun x hx => ?_
  unfold oth at hx
  rw [List.mem_reverse] at hx
  obtain ⟨y, _, rfl⟩ := List.mem_map.1 hx
  unfold othB
  split <;> rfl
theorem oth_len (l : List UInt8) : (oth l).length = l.length := by unfold oth; simp

/- what faces each other turns -/
theorem face_turn (l : List UInt8) : ∀ i, faceAt l i = true → (stp l)[i]? = some 108 ∧ (stp l)[i + 1]? = some 114 := by
  refine row_all (p := fun l => ∀ i, faceAt l i = true → (stp l)[i]? = some 108 ∧ (stp l)[i + 1]? = some 114) ?_ ?_ ?_ l
  · intro i h; simp [faceAt] at h
  · intro t h _ i hi
    rw [stp_two]
    match i, hi with
    | 0, _ => exact ⟨rfl, rfl⟩
    | 1, hi => simp [faceAt] at hi
    | i + 2, hi => exact h i hi
  · intro x t hx h i hi
    rw [stp_one hx]
    cases i with
    | zero =>
      rw [faceAt_zero, decide_eq_true_eq] at hi
      exact absurd hi hx
    | succ i => exact h i hi
theorem fac_mem {l : List UInt8} {k i : Nat} (h : i ∈ facP l k) : faceAt l i = true := (List.mem_filter.1 h).2

/- all words are listed, in order -/
theorem allW_all : ∀ (l : List UInt8), l.all isLr = true → l ∈ allW (l.count 108) (l.count 114) := by
  intro l
  induction l with
  | nil => intro _; show [] ∈ allW 0 0; rw [allW]; exact List.mem_singleton.2 rfl
  | cons x t ih =>
    intro ha
    obtain ⟨h1, h2⟩ := all_cons ha
    have hm := ih h2
    rcases h1 with rfl | rfl
    · rw [List.count_cons_self, List.count_cons_of_ne (by decide)]
      cases hb : t.count 114 with
      | zero => rw [hb] at hm; rw [allW]; exact List.mem_map.2 ⟨t, hm, rfl⟩
      | succ b => rw [hb] at hm; rw [allW]; exact List.mem_append.2 (.inl (List.mem_map.2 ⟨t, hm, rfl⟩))
    · rw [List.count_cons_self, List.count_cons_of_ne (by decide)]
      cases hb : t.count 108 with
      | zero => rw [hb] at hm; rw [allW]; exact List.mem_map.2 ⟨t, hm, rfl⟩
      | succ a => rw [hb] at hm; rw [allW]; exact List.mem_append.2 (.inr (List.mem_map.2 ⟨t, hm, rfl⟩))
/-- before, as texts -/
def ltW : List UInt8 → List UInt8 → Prop
  | [], [] => False
  | [], _ :: _ => True
  | _ :: _, [] => False
  | x :: s, y :: t => x < y ∨ (x = y ∧ ltW s t)
theorem ltW_cons (x : UInt8) {s t : List UInt8} (h : ltW s t) : ltW (x :: s) (x :: t) := .inr ⟨rfl, h⟩
theorem pw_map (x : UInt8) {L : List (List UInt8)} (h : L.Pairwise ltW) : (L.map (x :: ·)).Pairwise ltW := List.pairwise_map.2 (h.imp fun h => ltW_cons x h)
theorem allW_up : ∀ n a b, a + b ≤ n → (allW a b).Pairwise ltW := by
  intro n
  induction n with
  | zero =>
    intro a b h
    obtain rfl : a = 0 := by omega
    obtain rfl : b = 0 := by omega
    rw [allW]; exact List.pairwise_singleton _ _
  | succ n ih =>
    intro a b h
    match a, b, h with
    | 0, 0, _ => rw [allW]; exact List.pairwise_singleton _ _
    | a + 1, 0, h => rw [allW]; exact pw_map _ (ih a 0 (by omega))
    | 0, b + 1, h => rw [allW]; exact pw_map _ (ih 0 b (by omega))
    | a + 1, b + 1, h =>
      rw [allW, List.pairwise_append]
      refine ⟨pw_map _ (ih a (b + 1) (by omega)), pw_map _ (ih (a + 1) b (by omega)), fun s hs t ht => ?_⟩
      obtain ⟨u, _, rfl⟩ := List.mem_map.1 hs
      obtain ⟨v, _, rfl⟩ := List.mem_map.1 ht
      exact .inl (by decide)
end Go.Proofs.YtfojldkiagemeaaDoor
