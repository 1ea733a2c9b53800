/- Which of those that are on the rod an ant is: as many are ahead of it as have not fallen of those that fall ahead. No dump is read here. -/
import Derived.Test.YthfacfoclekcbaaFallOf
import Derived.Test.YthfacfoclekcbaaRoGhosts
namespace Go.Proofs.Ythfacfoclekcbaa

theorem ft_end {L : Int} {p : Int × Int} (h : p.2 = -1 ∨ p.2 = 1) : ft (p.1, p.2, L) = endT L p := by
  unfold ft endT
  rcases h with h | h
  · simp only [h]; rw [if_pos trivial, if_pos (by omega)]
  · simp only [h]; rw [if_neg (by omega), if_neg (by omega)]

theorem gs_pair {L : Int} {l : List (Int × Int)} (hg : goodB L l = true) : (gsOf L l).Pairwise (fun a b => a.1 ≤ b.1 ∧ a.2.2 = b.2.2) := by
  unfold gsOf
  rw [List.pairwise_map]
  refine (good_srt hg).imp fun {a b} h => ⟨?_, rfl⟩
  rw [antLe_iff] at h
  simp only
  omega
theorem fL_sorted {L : Int} {l : List (Int × Int)} (hg : goodB L l = true) : ((way (-1) (gsOf L l)).map ft).Pairwise (fun a b => a ≤ b) := by
  rw [List.pairwise_map]
  have h1 : (way (-1) (gsOf L l)).Pairwise (fun a b => a.1 ≤ b.1 ∧ a.2.2 = b.2.2) := (gs_pair hg).filter _
  refine h1.imp_of_mem fun {a b} ha hb h => ?_
  have ea := (way_mem ha).2
  have eb := (way_mem hb).2
  unfold ft
  rw [if_pos ea, if_pos eb]
  exact h.1
theorem fR_sorted {L : Int} {l : List (Int × Int)} (hg : goodB L l = true) : ((way 1 (gsOf L l)).map ft).Pairwise (fun a b => b ≤ a) := by
  rw [List.pairwise_map]
  have h1 : (way 1 (gsOf L l)).Pairwise (fun a b => a.1 ≤ b.1 ∧ a.2.2 = b.2.2) := (gs_pair hg).filter _
  refine h1.imp_of_mem fun {a b} ha hb h => ?_
  have ea := (way_mem ha).2
  have eb := (way_mem hb).2
  unfold ft
  rw [if_neg (by omega), if_neg (by omega)]
  omega

def leB (t x : Int) : Bool := decide (x ≤ t)
theorem cnt_left (A : List Int) (hs : A.Pairwise (fun a b => a ≤ b)) (t : Int) (k : Nat) (hk : k < A.length) (h : t < A[k]) : (A.take k).countP (leB t) = A.countP (leB t) := by
  have h0 : (A.drop k).countP (leB t) = 0 := by
    rw [List.countP_eq_zero]
    intro a ha
    obtain ⟨i, hi, rfl⟩ := List.mem_iff_getElem.1 ha
    rw [List.length_drop] at hi
    rw [List.getElem_drop]
    have : A[k] ≤ A[k + i] := by
      by_cases h0 : i = 0
      · subst h0; exact Int.le_refl _
      · exact List.pairwise_iff_getElem.1 hs k (k + i) hk (by omega) (by omega)
    unfold leB
    rw [decide_eq_true_eq]
    omega
  have h1 : A.countP (leB t) = (A.take k ++ A.drop k).countP (leB t) := by rw [List.take_append_drop]
  rw [h1, List.countP_append, h0]
  rfl
theorem cnt_right (B : List Int) (hs : B.Pairwise (fun a b => b ≤ a)) (t : Int) (j : Nat) (hj : j < B.length) (h : t < B[j]) : (B.take j).countP (leB t) = 0 := by
  rw [List.countP_eq_zero]
  intro a ha
  obtain ⟨i, hi, rfl⟩ := List.mem_iff_getElem.1 ha
  rw [List.length_take] at hi
  rw [List.getElem_take]
  have : B[j] ≤ B[i] := List.pairwise_iff_getElem.1 hs i j (by omega) hj (by omega)
  unfold leB
  rw [decide_eq_true_eq]
  omega

/-- of the first k that fall, how many have not fallen; of those at the left, how many have -/
def befN (fl : List Int) (t : Int) (k : Nat) : Nat := (fl.take k).countP (fun x => !leB t x)
def falN (fl : List Int) (t : Int) (k : Nat) : Nat := (fl.take k).countP (leB t)
theorem bef_le (fl : List Int) (t : Int) (k : Nat) : befN fl t k ≤ k := by
  unfold befN
  refine Nat.le_trans List.countP_le_length ?_
  rw [List.length_take]; omega
theorem fal_le (fl : List Int) (t : Int) (k : Nat) : falN fl t k ≤ k := by
  unfold falN
  refine Nat.le_trans List.countP_le_length ?_
  rw [List.length_take]; omega
theorem bef_fal_sum (fl : List Int) (t : Int) (k : Nat) (hk : k ≤ fl.length) : befN fl t k + falN fl t k = k := by
  unfold befN falN
  have h := List.length_eq_countP_add_countP (leB t) (l := fl.take k)
  rw [List.length_take, Nat.min_eq_left hk] at h
  have e : (fl.take k).countP (fun x => !leB t x) = (fl.take k).countP (fun a => decide (¬ leB t a = true)) := by
    refine List.countP_congr fun x _ => ?_
    cases leB t x <;> simp
  rw [e]
  omega
theorem bef_snoc (fl : List Int) (t : Int) (k : Nat) (x : Int) (hx : fl[k]? = some x) : befN fl t (k + 1) = befN fl t k + (if x ≤ t then 0 else 1) := by
  obtain ⟨hk, rfl⟩ := List.getElem?_eq_some_iff.1 hx
  unfold befN
  rw [List.take_succ_eq_append_getElem hk, List.countP_append]
  congr 1
  unfold leB
  by_cases h : fl[k] ≤ t <;> simp [h]
theorem fal_snoc (fl : List Int) (t : Int) (k : Nat) (x : Int) (hx : fl[k]? = some x) : falN fl t (k + 1) = falN fl t k + (if x ≤ t then 1 else 0) := by
  obtain ⟨hk, rfl⟩ := List.getElem?_eq_some_iff.1 hx
  unfold falN
  rw [List.take_succ_eq_append_getElem hk, List.countP_append]
  congr 1
  unfold leB
  by_cases h : fl[k] ≤ t <;> simp [h]

theorem fallsOf_parts (L : Int) (l : List (Int × Int)) : fallsOf L l = (way (-1) (gsOf L l)).map ft ++ (way 1 (gsOf L l)).map ft := by
  unfold fallsOf fallAs
  rw [List.map_append]
theorem fal_same {L : Int} {l : List (Int × Int)} (hg : goodB L l = true) (t : Int) (k : Nat) (x : Int) (hx : (fallsOf L l)[k]? = some x) (h : ¬ x ≤ t) : falN (fallsOf L l) t k = falN (fallsOf L l) t (nL L l) := by
  have hA := fL_sorted hg
  have hB := fR_sorted hg
  have hn : nL L l = ((way (-1) (gsOf L l)).map ft).length := by rw [List.length_map]; rfl
  rw [hn]
  rw [fallsOf_parts] at *
  generalize (way (-1) (gsOf L l)).map ft = A at *
  generalize (way 1 (gsOf L l)).map ft = B at *
  unfold falN
  rw [List.take_left' rfl]
  by_cases hk : k < A.length
  · rw [List.getElem?_append_left hk] at hx
    obtain ⟨_, rfl⟩ := List.getElem?_eq_some_iff.1 hx
    rw [List.take_append_of_le_length (by omega)]
    exact cnt_left A hA t k hk (by omega)
  · rw [List.getElem?_append_right (by omega)] at hx
    obtain ⟨hj, rfl⟩ := List.getElem?_eq_some_iff.1 hx
    have e : (A ++ B).take k = A ++ B.take (k - A.length) := by
      rw [List.take_append, List.take_of_length_le (by omega)]
    rw [e, List.countP_append, cnt_right B hB t (k - A.length) hj (by omega)]
    rfl

theorem way_count (p : Int × Int × Int → Bool) : ∀ gs : List (Int × Int × Int), (∀ g ∈ gs, g.2.1 = -1 ∨ g.2.1 = 1) → (way (-1) gs ++ way 1 gs).countP p = gs.countP p
  | [], _ => rfl
  | g :: gs, h => by
    have ih := way_count p gs (fun x hx => h x (List.mem_cons_of_mem _ hx))
    rw [List.countP_append] at *
    have hg := h g List.mem_cons_self
    unfold way at *
    rcases hg with e | e
    · rw [List.filter_cons_of_pos (by rw [e]; decide), List.filter_cons_of_neg (by rw [e]; decide), List.countP_cons, List.countP_cons]
      omega
    · rw [List.filter_cons_of_neg (by rw [e]; decide), List.filter_cons_of_pos (by rw [e]; decide), List.countP_cons, List.countP_cons]
      omega
theorem on_count {L : Int} {l : List (Int × Int)} (hg : goodB L l = true) (t : Int) : (srtA (afL L t l)).length = befN (fallsOf L l) t (fallsOf L l).length := by
  have h1 : ∀ g ∈ gsOf L l, g.2.1 = -1 ∨ g.2.1 = 1 := fun g h => (gsOf_good hg g h).1.2.2.2.2
  unfold befN
  rw [List.take_length, srtA_len]
  unfold fallsOf fallAs
  rw [List.countP_map, way_count _ _ h1]
  unfold afL gsOf
  rw [List.length_map, ← List.countP_eq_length_filter, List.countP_map]
  refine List.countP_congr fun x hx => ?_
  have hw : x.2 = -1 ∨ x.2 = 1 := by
    obtain ⟨j, hj, rfl⟩ := List.mem_iff_getElem.1 hx
    exact (good_ant hg (List.getElem?_eq_getElem hj)).2.2.2
  have e := ft_end (L := L) hw
  show onF L t x = true ↔ (!leB t (ft (x.1, x.2, L))) = true
  rw [e]
  rfl
/-- as many are ahead, and the ant is one of those that are there -/
theorem where_eq {L : Int} {l : List (Int × Int)} (hg : goodB L l = true) (t : Int) (k : Nat) (x : Int) (hx : (fallsOf L l)[k]? = some x) (h : ¬ x ≤ t) :
    befN (fallsOf L l) t k = k - falN (fallsOf L l) t (nL L l) ∧ falN (fallsOf L l) t (nL L l) ≤ k ∧ befN (fallsOf L l) t k < (srtA (afL L t l)).length := by
  have hk := (List.getElem?_eq_some_iff.1 hx).1
  have h1 := bef_fal_sum (fallsOf L l) t k (by omega)
  have h2 := fal_same hg t k x hx h
  refine ⟨by omega, by omega, ?_⟩
  rw [on_count hg]
  have h3 := bef_snoc (fallsOf L l) t k x hx
  rw [if_neg h] at h3
  have h4 : befN (fallsOf L l) t (k + 1) ≤ befN (fallsOf L l) t (fallsOf L l).length := by
    unfold befN
    refine List.Sublist.countP_le ?_
    rw [List.take_length]
    exact List.take_sublist _ _
  omega

end Go.Proofs.Ythfacfoclekcbaa
