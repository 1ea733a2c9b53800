/- Ants behind a time: they are on a rod again, not farther from where they were than the time, and behind two times as behind both together. No dump is read here. -/
import Derived.Test.YthfacfoclekcbaaWhereMath
import Derived.Test.YthfacfoclekcbaaGhostsAfter
namespace Go.Proofs.Ythfacfoclekcbaa

theorem isAntB_iff (a y L : Int) : isAntB a y L = true ↔ 0 ≤ a ∧ a ≤ L ∧ a % 2 = 0 ∧ (y = -1 ∨ y = 1) := by
  simp only [isAntB, Bool.and_eq_true, Bool.or_eq_true, decide_eq_true_eq, beq_iff_eq, and_assoc]
/-- what is a rod -/
theorem good_of {L : Int} {m : List (Int × Int)} (hL : 2 ≤ L ∧ L ≤ 1000 ∧ L % 2 = 0) (hn : m.length ≤ 16) (ha : ∀ x ∈ m, 0 ≤ x.1 ∧ x.1 ≤ L ∧ x.1 % 2 = 0 ∧ (x.2 = -1 ∨ x.2 = 1))
    (hp : m.Pairwise fun a b => antLt a b = true) : goodB L m = true := by
  unfold goodB
  rw [Bool.and_eq_true, hdr_iff, List.all_eq_true]
  refine ⟨⟨hL.1, hL.2.1, hL.2.2, hn⟩, fun k hk => ?_⟩
  have hk := List.mem_range.1 hk
  unfold okAt
  rw [Bool.and_eq_true, isAntB_iff, List.getD_eq_getElem?_getD, List.getElem?_eq_getElem hk]
  refine ⟨ha _ (List.getElem_mem hk), ?_⟩
  by_cases h0 : k = 0
  · subst h0; rfl
  · have h := List.pairwise_iff_getElem.1 hp (k - 1) k (by omega) hk (by omega)
    have h1 := ha _ (List.getElem_mem hk)
    have h2 := ha _ (List.getElem_mem (show k - 1 < m.length by omega))
    rw [antLt_iff] at h
    rw [List.getD_eq_getElem?_getD, List.getElem?_eq_getElem (show k - 1 < m.length by omega)]
    simp only [Option.getD_some, mayB, metB, Bool.or_eq_true, Bool.and_eq_true, decide_eq_true_eq, beq_iff_eq]
    omega
theorem good_up {L : Int} {l : List (Int × Int)} (h : goodB L l = true) : l.Pairwise fun a b => antLt a b = true := by
  rw [List.pairwise_iff_getElem]
  intro i j hi hj hij
  have h1 := good_lt h i j hij hj
  rwa [List.getD_eq_getElem?_getD, List.getD_eq_getElem?_getD, List.getElem?_eq_getElem hi, List.getElem?_eq_getElem hj] at h1
theorem good_mem {L : Int} {l : List (Int × Int)} (h : goodB L l = true) {x : Int × Int} (hx : x ∈ l) : 0 ≤ x.1 ∧ x.1 ≤ L ∧ x.1 % 2 = 0 ∧ (x.2 = -1 ∨ x.2 = 1) := by
  obtain ⟨k, hk⟩ := List.getElem?_of_mem hx
  exact good_ant h hk
theorem srtA_up {l : List (Int × Int)} (h : l.Nodup) : (srtA l).Pairwise fun a b => antLt a b = true := by
  have hn : (srtA l).Nodup := (srtA_perm l).nodup_iff.2 h
  have := (srtA_srt l).and hn
  refine this.imp fun {a b} h => ?_
  rw [antLe_iff] at h
  rw [antLt_iff]
  have hne := h.2
  obtain ⟨a1, a2⟩ := a
  obtain ⟨b1, b2⟩ := b
  simp only [ne_eq, Prod.mk.injEq] at hne
  simp only at h ⊢
  omega
theorem endT_way {L : Int} {x : Int × Int} (h : x.2 = -1 ∨ x.2 = 1) : endT L x = if x.2 = -1 then x.1 else L - x.1 := by
  unfold endT
  rcases h with h | h <;> rw [h] <;> rfl
theorem onF_iff (L t : Int) (x : Int × Int) : onF L t x = true ↔ t < endT L x := by unfold onF; simp
theorem afL_nodup {L : Int} {l : List (Int × Int)} (hg : goodB L l = true) (t : Int) : (afL L t l).Nodup := by
  have hl : l.Nodup := (good_up hg).imp fun {a b} h => by
    rw [antLt_iff] at h
    rintro rfl
    omega
  unfold afL
  unfold List.Nodup at *
  rw [List.pairwise_map]
  refine (hl.filter (p := onF L t)).imp fun {a b} h e => h ?_
  obtain ⟨a1, a2⟩ := a
  obtain ⟨b1, b2⟩ := b
  simp only [mvF, Prod.mk.injEq] at e ⊢
  obtain ⟨e1, e2⟩ := e
  subst e2
  exact ⟨by omega, rfl⟩
/-- ants behind a time are on a rod -/
theorem after_good {L : Int} {l : List (Int × Int)} (hg : goodB L l = true) {t : Int} (h0 : 0 ≤ t) (h2 : t % 2 = 0) : goodB L (srtA (afL L t l)) = true := by
  obtain ⟨a, b, c⟩ := good_hdr hg
  refine good_of ⟨a, b, c⟩ ?_ ?_ (srtA_up (afL_nodup hg t))
  · have h1 := afL_len L t l l.length
    rw [List.take_length] at h1
    have := good_len hg
    omega
  · intro x hx
    have hx := (srtA_perm _).mem_iff.1 hx
    unfold afL at hx
    obtain ⟨y, hy, rfl⟩ := List.mem_map.1 hx
    obtain ⟨hy, ho⟩ := List.mem_filter.1 hy
    obtain ⟨y1, y2, y3, y4⟩ := good_mem hg hy
    rw [onF_iff, endT_way y4] at ho
    unfold mvF
    rcases y4 with e | e
    · rw [if_pos e] at ho
      exact ⟨by simp only [e]; omega, by simp only [e]; omega, by simp only [e]; omega, .inl e⟩
    · rw [if_neg (by omega)] at ho
      exact ⟨by simp only [e]; omega, by simp only [e]; omega, by simp only [e]; omega, .inr e⟩
/-- two times behind each other -/
theorem after_twice {L : Int} {l : List (Int × Int)} (hg : goodB L l = true) {t : Int} (_h0 : 0 ≤ t) : srtA (afL L t (srtA (afL L t l))) = srtA (afL L (2 * t) l) := by
  refine (srtA_unique (srtA_srt _) ?_)
  refine (srtA_perm _).trans ?_
  have h1 : (afL L t (srtA (afL L t l))).Perm (afL L t (afL L t l)) := ((srtA_perm (afL L t l)).filter _).map _
  refine h1.trans ?_
  have h2 : afL L t (afL L t l) = afL L (2 * t) l := by
    unfold afL
    rw [List.filter_map, List.filter_filter, List.map_map]
    have e1 : l.filter (fun a => (onF L t ∘ mvF t) a && onF L t a) = l.filter (onF L (2 * t)) := by
      refine List.filter_congr fun x hx => ?_
      obtain ⟨y1, y2, y3, y4⟩ := good_mem hg hx
      rw [Bool.eq_iff_iff, Bool.and_eq_true, Function.comp_apply, onF_iff, onF_iff, onF_iff, endT_way y4, endT_way (show (mvF t x).2 = -1 ∨ (mvF t x).2 = 1 from y4)]
      unfold mvF
      rcases y4 with e | e
      · rw [if_pos e, if_pos e]; simp only [e]; omega
      · rw [if_neg (by omega), if_neg (by omega)]; simp only [e]; omega
    rw [e1]
    refine List.map_congr_left fun x hx => ?_
    obtain ⟨y1, y2, y3, y4⟩ := good_mem hg (List.mem_filter.1 hx).1
    unfold mvF
    simp only [Function.comp_apply, Prod.mk.injEq, and_true]
    rcases y4 with e | e <;> simp only [e] <;> omega
  rw [h2]

/- how far an ant goes -/
theorem cnt_low (M : List (Int × Int)) (hs : M.Pairwise fun a b => a.1 ≤ b.1) (B : Int) (k : Nat) (hk : k < M.length) (h : k < M.countP (fun x => decide (x.1 ≤ B))) : M[k].1 ≤ B := by
  apply Classical.byContradiction
  intro hn
  have h0 : (M.drop k).countP (fun x => decide (x.1 ≤ B)) = 0 := by
    rw [List.countP_eq_zero]
    intro a ha
    obtain ⟨i, hi, rfl⟩ := List.mem_iff_getElem.1 ha
    rw [List.length_drop] at hi
    rw [List.getElem_drop, decide_eq_true_eq]
    have : M[k].1 ≤ M[k + i].1 := by
      by_cases h0 : i = 0
      · subst h0; exact Int.le_refl _
      · exact List.pairwise_iff_getElem.1 hs k (k + i) hk (by omega) (by omega)
    omega
  have h1 : M.countP (fun x => decide (x.1 ≤ B)) = (M.take k ++ M.drop k).countP (fun x => decide (x.1 ≤ B)) := by rw [List.take_append_drop]
  rw [List.countP_append, h0] at h1
  have h2 : (M.take k).countP (fun x => decide (x.1 ≤ B)) ≤ (M.take k).length := List.countP_le_length
  rw [List.length_take] at h2
  omega
theorem cnt_high (M : List (Int × Int)) (hs : M.Pairwise fun a b => a.1 ≤ b.1) (B : Int) (k : Nat) (hk : k < M.length) (h : M.length - k ≤ M.countP (fun x => decide (B ≤ x.1))) : B ≤ M[k].1 := by
  apply Classical.byContradiction
  intro hn
  have h0 : (M.take (k + 1)).countP (fun x => decide (B ≤ x.1)) = 0 := by
    rw [List.countP_eq_zero]
    intro a ha
    obtain ⟨i, hi, rfl⟩ := List.mem_iff_getElem.1 ha
    rw [List.length_take] at hi
    rw [List.getElem_take, decide_eq_true_eq]
    have : M[i].1 ≤ M[k].1 := by
      by_cases h0 : i = k
      · subst h0; exact Int.le_refl _
      · exact List.pairwise_iff_getElem.1 hs i k (by omega) hk (by omega)
    omega
  have h1 : M.countP (fun x => decide (B ≤ x.1)) = (M.take (k + 1) ++ M.drop (k + 1)).countP (fun x => decide (B ≤ x.1)) := by rw [List.take_append_drop]
  rw [List.countP_append, h0] at h1
  have h2 : (M.drop (k + 1)).countP (fun x => decide (B ≤ x.1)) ≤ (M.drop (k + 1)).length := List.countP_le_length
  rw [List.length_drop] at h2
  omega
/-- how many have fallen at the left, and at the right -/
def fellL (t : Int) (x : Int × Int) : Bool := decide (x.2 = -1 ∧ x.1 ≤ t)
def fellR (L t : Int) (x : Int × Int) : Bool := decide (x.2 = 1 ∧ L - x.1 ≤ t)
theorem fal_fellL (L : Int) (l : List (Int × Int)) (t : Int) : falN (fallsOf L l) t (nL L l) = l.countP (fellL t) := by
  have hn : nL L l = ((way (-1) (gsOf L l)).map ft).length := by rw [List.length_map]; rfl
  rw [hn, fallsOf_parts]
  unfold falN
  rw [List.take_left' rfl, List.countP_map]
  unfold way gsOf
  rw [List.countP_filter, List.countP_map]
  refine List.countP_congr fun x _ => ?_
  simp only [Function.comp_apply, Bool.and_eq_true, beq_iff_eq, fellL, leB, ft, decide_eq_true_eq]
  constructor
  · rintro ⟨h1, h2⟩; rw [if_pos h2] at h1; exact ⟨h2, h1⟩
  · rintro ⟨h1, h2⟩; rw [if_pos h1]; exact ⟨h2, h1⟩
theorem on_fell {L : Int} {l : List (Int × Int)} (hw : ∀ x ∈ l, x.2 = -1 ∨ x.2 = 1) (t : Int) : l.countP (onF L t) + l.countP (fellL t) + l.countP (fellR L t) = l.length := by
  induction l with
  | nil => rfl
  | cons x l ih =>
    have h1 := ih fun y hy => hw y (List.mem_cons_of_mem _ hy)
    have h2 := hw x List.mem_cons_self
    have h3 : (if onF L t x = true then 1 else 0) + (if fellL t x = true then 1 else 0) + (if fellR L t x = true then 1 else 0) = 1 := by
      simp only [onF_iff, endT_way h2, fellL, fellR, decide_eq_true_eq]
      rcases h2 with e | e
      · simp only [e]
        by_cases h : x.1 ≤ t
        · simp [h] <;> omega
        · simp [h] <;> omega
      · simp only [e]
        by_cases h : L - x.1 ≤ t
        · simp [h] <;> omega
        · simp [h] <;> omega
    rw [List.countP_cons, List.countP_cons, List.countP_cons, List.length_cons]
    omega
theorem far_le {L : Int} {l : List (Int × Int)} (hg : goodB L l = true) {t : Int} (h0 : 0 ≤ t) (k : Nat) (f : Int) (hx : (fallsOf L l)[k]? = some f) (h : ¬ f ≤ t) (p q : Int × Int) (hp : l[k]? = some p)
    (hq : (srtA (afL L t l))[befN (fallsOf L l) t k]? = some q) : q.1 - p.1 ≤ t ∧ p.1 - q.1 ≤ t := by
  obtain ⟨e1, e2, e3⟩ := where_eq hg t k f hx h
  have hs : (srtA (afL L t l)).Pairwise fun a b => a.1 ≤ b.1 := (srtA_srt _).imp fun {a b} h => by rw [antLe_iff] at h; omega
  have hmem : ∀ x ∈ srtA (afL L t l), 0 ≤ x.1 ∧ x.1 ≤ L := fun x hx => by
    have hx := (srtA_perm _).mem_iff.1 hx
    unfold afL at hx
    obtain ⟨y, hy, rfl⟩ := List.mem_map.1 hx
    obtain ⟨hy, ho⟩ := List.mem_filter.1 hy
    obtain ⟨y1, y2, y3, y4⟩ := good_mem hg hy
    rw [onF_iff, endT_way y4] at ho
    unfold mvF
    rcases y4 with e | e
    · rw [if_pos e] at ho; simp only [e]; omega
    · rw [if_neg (by omega)] at ho; simp only [e]; omega
  obtain ⟨hql, hqe⟩ := List.getElem?_eq_some_iff.1 hq
  obtain ⟨hpl, hpe⟩ := List.getElem?_eq_some_iff.1 hp
  have hq01 := hmem q (List.mem_of_getElem? hq)
  have hll : (srtA (afL L t l)).length = l.countP (onF L t) := by rw [srtA_len]; unfold afL; rw [List.length_map, List.countP_eq_length_filter]
  have hfl := fal_fellL L l t
  have hup := good_up hg
  have htk : ∀ x ∈ l.take (k + 1), x.1 ≤ p.1 := fun x hx => by
    obtain ⟨i, hi, rfl⟩ := List.mem_iff_getElem.1 hx
    rw [List.length_take] at hi
    rw [List.getElem_take]
    by_cases h0 : i = k
    · subst h0; rw [hpe]; exact Int.le_refl _
    · have := List.pairwise_iff_getElem.1 hup i k (by omega) hpl (by omega)
      rw [antLt_iff, hpe] at this; omega
  have hdr : ∀ x ∈ l.drop k, p.1 ≤ x.1 := fun x hx => by
    obtain ⟨i, hi, rfl⟩ := List.mem_iff_getElem.1 hx
    rw [List.length_drop] at hi
    rw [List.getElem_drop]
    by_cases h0 : i = 0
    · subst h0; simp only [Nat.add_zero, hpe]; exact Int.le_refl _
    · have := List.pairwise_iff_getElem.1 hup k (k + i) hpl (by omega) (by omega)
      rw [antLt_iff, hpe] at this; omega
  have hway : ∀ x ∈ l, x.2 = -1 ∨ x.2 = 1 := fun x hx => (good_mem hg hx).2.2.2
  have hcM : ∀ (P : Int × Int → Bool), (srtA (afL L t l)).countP P = l.countP (fun x => P (mvF t x) && onF L t x) := fun P => by
    rw [(srtA_perm _).countP_eq]
    unfold afL
    rw [List.countP_map, List.countP_filter]; rfl
  have hsub : ∀ (P : Int × Int → Bool) (s : List (Int × Int)), s.Sublist l → (∀ x ∈ s, onF L t x = true → P (mvF t x) = true) → s.countP (onF L t) ≤ (srtA (afL L t l)).countP P := fun P s h1 h2 => by
    rw [hcM]
    refine Nat.le_trans ?_ (h1.countP_le)
    refine List.countP_mono_left fun x hx ho => ?_
    rw [Bool.and_eq_true]; exact ⟨h2 x hx ho, ho⟩
  have mv : ∀ x ∈ l, (mvF t x).1 ≤ x.1 + t ∧ x.1 - t ≤ (mvF t x).1 := fun x hx => by
    unfold mvF
    rcases hway x hx with e | e <;> simp only [e] <;> omega
  constructor
  · -- not farther to the right
    by_cases hr : ∃ x ∈ l.take (k + 1), fellR L t x = true
    · obtain ⟨x, hx, hf⟩ := hr
      have h1 := htk x hx
      unfold fellR at hf
      rw [decide_eq_true_eq] at hf
      omega
    · have h1 := on_fell (fun x hx => hway x (List.mem_of_mem_take hx)) (L := L) (l := l.take (k + 1)) t
      have h2 : (l.take (k + 1)).countP (fellR L t) = 0 := List.countP_eq_zero.2 fun x hx hf => hr ⟨x, hx, hf⟩
      have h3 : (l.take (k + 1)).countP (fellL t) ≤ l.countP (fellL t) := (List.take_sublist _ _).countP_le
      rw [List.length_take] at h1
      have h4 := hsub (fun x => decide (x.1 ≤ p.1 + t)) (l.take (k + 1)) (List.take_sublist _ _) (fun x hx _ => by
        have := htk x hx; have := mv x (List.mem_of_mem_take hx); rw [decide_eq_true_eq]; omega)
      have := cnt_low _ hs (p.1 + t) _ hql (by omega)
      rw [hqe] at this
      omega
  · by_cases hr : ∃ x ∈ l.drop k, fellL t x = true
    · obtain ⟨x, hx, hf⟩ := hr
      have h1 := hdr x hx
      unfold fellL at hf
      rw [decide_eq_true_eq] at hf
      omega
    · have h1 := on_fell (fun x hx => hway x (List.mem_of_mem_drop hx)) (L := L) (l := l.drop k) t
      have h2 : (l.drop k).countP (fellL t) = 0 := List.countP_eq_zero.2 fun x hx hf => hr ⟨x, hx, hf⟩
      have h3 : (l.drop k).countP (fellR L t) ≤ l.countP (fellR L t) := (List.drop_sublist _ _).countP_le
      have h5 := on_fell hway (L := L) t
      rw [List.length_drop] at h1
      have h4 := hsub (fun x => decide (p.1 - t ≤ x.1)) (l.drop k) (List.drop_sublist _ _) (fun x hx _ => by
        have := hdr x hx; have := mv x (List.mem_of_mem_drop hx); rw [decide_eq_true_eq]; omega)
      have := cnt_high _ hs (p.1 - t) _ hql (by omega)
      rw [hqe] at this
      omega
end Go.Proofs.Ythfacfoclekcbaa
