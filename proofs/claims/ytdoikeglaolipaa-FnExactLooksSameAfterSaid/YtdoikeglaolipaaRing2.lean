/- Ants around a circle with whole rounds counted: they keep their order, and those told anew are they, turned around. No dump is read here. -/
import Derived.Test.YtdoikeglaolipaaRing
namespace Go.Proofs.Ytdoikeglaolipaa
open Classical

theorem trK_fst (i : Nat) (s s' : List (Int × Int) × Nat) (h : s.1 = s'.1) : ∀ k, (trK i k s).1 = (trK i k s').1
  | 0 => h
  | k + 1 => by
    have ih := trK_fst i s s' h k
    unfold trK
    rw [ih]
    split
    · rfl
    · exact ih
theorem trI_fst (s s' : List (Int × Int) × Nat) (h : s.1 = s'.1) : ∀ i, (trI i s).1 = (trI i s').1
  | 0 => h
  | i + 1 => trK_fst i _ _ (trI_fst s s' h i) i
theorem two_of {v : List (Int × Int)} (ho : Opp v) (hw : ∀ x ∈ v, x.2 = -1 ∨ x.2 = 1) : Two v := by
  have hp : ∀ (a b : Nat) (x y : Int × Int), a ≠ b → v[a]? = some x → v[b]? = some y → x.1 = y.1 → x.2 = -y.2 := by
    intro a b x y hab hx hy he
    obtain ⟨ha, rfl⟩ := List.getElem?_eq_some_iff.1 hx
    obtain ⟨hb, rfl⟩ := List.getElem?_eq_some_iff.1 hy
    rcases Nat.lt_or_gt_of_ne hab with h | h
    · exact List.pairwise_iff_getElem.1 ho a b ha hb h he
    · have := List.pairwise_iff_getElem.1 ho b a hb ha h he.symm
      omega
  intro a b c x y z hab hbc hac hx hy hz h1 h2
  have e1 := hp a b x y hab hx hy h1
  have e2 := hp b c y z hbc hy hz h2
  have e3 := hp a c x z hac hx hz (h1.trans h2)
  have := hw x (List.mem_of_getElem? hx)
  omega

def wrC (L : Int) (x : Int × Int) : Int × Int := (x.1 % L, x.2)
def mvU (x : Int × Int) : Int × Int := (x.1 + x.2, x.2)
def stepU (L : Int) (u : List (Int × Int)) : List (Int × Int) := List.zipWith (fun a b => (a.1, b.2)) (u.map mvU) (trI u.length ((u.map mvU).map (wrC L), 0)).1
def runU (L : Int) (l : List (Int × Int)) : Nat → List (Int × Int)
  | 0 => l
  | t + 1 => stepU L (runU L l t)
theorem mv_wr (L : Int) (x : Int × Int) : mvC L (wrC L x) = wrC L (mvU x) := by
  unfold mvC wrC mvU
  simp only
  rw [Int.add_emod_right, Int.emod_add_emod]
theorem stepU_at {L : Int} {u : List (Int × Int)} (ht : Two ((u.map mvU).map (wrC L))) {j : Nat} {x : Int × Int} (hx : u[j]? = some x) :
    (stepU L u)[j]? = some (x.1 + x.2, if ∃ o y, o ≠ j ∧ u[o]? = some y ∧ (y.1 + y.2) % L = (x.1 + x.2) % L then -x.2 else x.2) := by
  have hv : ((u.map mvU).map (wrC L))[j]? = some (wrC L (mvU x)) := by rw [List.getElem?_map, List.getElem?_map, hx]; rfl
  have h1 := tr_at ht 0 hv
  have hl : ((u.map mvU).map (wrC L)).length = u.length := by simp
  rw [hl] at h1
  unfold stepU
  rw [List.getElem?_zipWith, List.getElem?_map, hx, h1]
  have : (∃ o y, o ≠ j ∧ ((u.map mvU).map (wrC L))[o]? = some y ∧ y.1 = (wrC L (mvU x)).1) ↔ (∃ o y, o ≠ j ∧ u[o]? = some y ∧ (y.1 + y.2) % L = (x.1 + x.2) % L) := by
    constructor
    · rintro ⟨o, y, hne, hy, he⟩
      rw [List.getElem?_map, List.getElem?_map] at hy
      cases hz : u[o]? with
      | none => rw [hz] at hy; cases hy
      | some z =>
        rw [hz] at hy
        injection hy with hy
        subst hy
        exact ⟨o, z, hne, hz, he⟩
    · rintro ⟨o, y, hne, hy, he⟩
      exact ⟨o, wrC L (mvU y), hne, by rw [List.getElem?_map, List.getElem?_map, hy]; rfl, he⟩
  simp only [this]
  rfl
theorem stepU_len {L : Int} {u : List (Int × Int)} (ht : Two ((u.map mvU).map (wrC L))) : (stepU L u).length = u.length := by
  have h := (trI_pt ht 0 u.length (by simp)).1
  unfold stepU
  rw [List.length_zipWith, h]
  simp
theorem stepU_inv {L : Int} {u : List (Int × Int)} (ht : Two ((u.map mvU).map (wrC L))) {j : Nat} {z : Int × Int} (hz : (stepU L u)[j]? = some z) :
    ∃ x, u[j]? = some x ∧ z = (x.1 + x.2, if ∃ o y, o ≠ j ∧ u[o]? = some y ∧ (y.1 + y.2) % L = (x.1 + x.2) % L then -x.2 else x.2) := by
  have hj := (List.getElem?_eq_some_iff.1 hz).1
  rw [stepU_len ht] at hj
  have h := stepU_at ht (List.getElem?_eq_getElem hj)
  rw [hz] at h
  injection h with h
  exact ⟨_, List.getElem?_eq_getElem hj, h⟩
theorem moved_opp {L : Int} {l : List (Int × Int)} (h : Circ L l) (t : Nat) (u : List (Int × Int)) (hu : (runC L l t).1 = u.map (wrC L)) : Opp ((u.map mvU).map (wrC L)) ∧ Two ((u.map mvU).map (wrC L)) := by
  have h1 := (run_ok h t).1.map (mvC L)
  rw [List.map_map, show (mvC L ∘ ghC L (t : Int)) = ghC L ((t + 1 : Nat) : Int) from funext fun x => mv_gh L t x, hu, List.map_map, show mvC L ∘ wrC L = wrC L ∘ mvU from funext fun x => mv_wr L x, ← List.map_map] at h1
  have ho := opp_perm h1.symm (gh_opp h _)
  refine ⟨ho, two_of ho fun x hx => ?_⟩
  have := h1.mem_iff.1 hx
  obtain ⟨y, hy, rfl⟩ := List.mem_map.1 this
  exact (h.ant y hy).2.2.2
theorem wr_run {L : Int} {l : List (Int × Int)} (h : Circ L l) : ∀ t, (runC L l t).1 = (runU L l t).map (wrC L)
  | 0 => by
    show l = l.map (wrC L)
    conv => lhs; rw [← List.map_id l]
    refine List.map_congr_left fun x hx => ?_
    have := h.ant x hx
    unfold wrC
    rw [Int.emod_eq_of_lt this.1 this.2.1]
    rfl
  | t + 1 => by
    have ih := wr_run h t
    have ht := (moved_opp h t _ ih).2
    show (trI (runC L l t).1.length ((runC L l t).1.map (mvC L), (runC L l t).2)).1 = (stepU L (runU L l t)).map (wrC L)
    rw [ih]
    generalize runU L l t = u at *
    have e1 : (u.map (wrC L)).map (mvC L) = (u.map mvU).map (wrC L) := by
      rw [List.map_map, List.map_map]
      exact List.map_congr_left fun x _ => mv_wr L x
    rw [e1, List.length_map]
    have e2 := trI_fst ((u.map mvU).map (wrC L), (runC L l t).2) ((u.map mvU).map (wrC L), 0) rfl u.length
    rw [e2]
    have hlen := (trI_pt ht 0 u.length (by simp)).1
    apply List.ext_getElem?
    intro j
    by_cases hj : j < u.length
    · obtain ⟨x, hx⟩ : ∃ x, u[j]? = some x := ⟨_, List.getElem?_eq_getElem hj⟩
      have hv : ((u.map mvU).map (wrC L))[j]? = some (wrC L (mvU x)) := by rw [List.getElem?_map, List.getElem?_map, hx]; rfl
      have h1 := (trI_pt ht 0 u.length (by simp)).2 j _ hv
      rw [List.getElem?_map]
      unfold stepU
      rw [List.getElem?_zipWith, List.getElem?_map, hx, h1]
      rfl
    · rw [List.getElem?_eq_none (by rw [hlen]; simp; omega), List.getElem?_eq_none (by rw [List.length_map, stepU_len ht]; omega)]

/-! ### order -/
structure Ring (L : Int) (t : Int) (u : List (Int × Int)) : Prop where
  par : ∀ (i : Nat) (x : Int × Int), u[i]? = some x → (x.1 - t) % 2 = 0
  way : ∀ (i : Nat) (x : Int × Int), u[i]? = some x → x.2 = -1 ∨ x.2 = 1
  up : ∀ (i j : Nat) (x y : Int × Int), i < j → u[i]? = some x → u[j]? = some y → x.1 ≤ y.1 ∧ (x.1 = y.1 → x.2 = -1 ∧ y.2 = 1)
  dn : ∀ (i j : Nat) (x y : Int × Int), i < j → u[i]? = some x → u[j]? = some y → y.1 ≤ x.1 + L ∧ (y.1 = x.1 + L → y.2 = -1 ∧ x.2 = 1)
theorem ring_step {L t : Int} {u : List (Int × Int)} (he : L % 2 = 0) (ht : Two ((u.map mvU).map (wrC L))) (h : Ring L t u) : Ring L (t + 1) (stepU L u) := by
  refine ⟨fun i z hz => ?_, fun i z hz => ?_, fun i j z z' hij hz hz' => ?_, fun i j z z' hij hz hz' => ?_⟩
  · obtain ⟨x, hx, rfl⟩ := stepU_inv ht hz
    have h1 := h.par i x hx
    have h2 := h.way i x hx
    show (x.1 + x.2 - (t + 1)) % 2 = 0
    omega
  · obtain ⟨x, hx, rfl⟩ := stepU_inv ht hz
    have h2 := h.way i x hx
    simp only
    split <;> omega
  · obtain ⟨x, hx, rfl⟩ := stepU_inv ht hz
    obtain ⟨y, hy, rfl⟩ := stepU_inv ht hz'
    have p1 := h.par i x hx
    have p2 := h.par j y hy
    have w1 := h.way i x hx
    have w2 := h.way j y hy
    have u1 := h.up i j x y hij hx hy
    simp only
    refine ⟨?_, fun e => ?_⟩
    · by_cases q : x.1 = y.1
      · have := u1.2 q; omega
      · omega
    · have q : ¬ x.1 = y.1 := fun q => by have := u1.2 q; omega
      have c1 : ∃ o y, o ≠ i ∧ u[o]? = some y ∧ (y.1 + y.2) % L = (x.1 + x.2) % L := ⟨j, y, by omega, hy, by rw [e]⟩
      have c2 : ∃ o z, o ≠ j ∧ u[o]? = some z ∧ (z.1 + z.2) % L = (y.1 + y.2) % L := ⟨i, x, by omega, hx, by rw [e]⟩
      rw [if_pos c1, if_pos c2]
      omega
  · obtain ⟨x, hx, rfl⟩ := stepU_inv ht hz
    obtain ⟨y, hy, rfl⟩ := stepU_inv ht hz'
    have p1 := h.par i x hx
    have p2 := h.par j y hy
    have w1 := h.way i x hx
    have w2 := h.way j y hy
    have d1 := h.dn i j x y hij hx hy
    simp only
    refine ⟨?_, fun e => ?_⟩
    · by_cases q : y.1 = x.1 + L
      · have := d1.2 q; omega
      · omega
    · have q : ¬ y.1 = x.1 + L := fun q => by have := d1.2 q; omega
      have e2 : (y.1 + y.2) % L = (x.1 + x.2) % L := by rw [e, Int.add_emod_right]
      have c1 : ∃ o y, o ≠ i ∧ u[o]? = some y ∧ (y.1 + y.2) % L = (x.1 + x.2) % L := ⟨j, y, by omega, hy, e2⟩
      have c2 : ∃ o z, o ≠ j ∧ u[o]? = some z ∧ (z.1 + z.2) % L = (y.1 + y.2) % L := ⟨i, x, by omega, hx, e2.symm⟩
      rw [if_pos c1, if_pos c2]
      omega
/-- strictly ordered at first -/
def Asc (l : List (Int × Int)) : Prop := ∀ (i j : Nat) (x y : Int × Int), i < j → l[i]? = some x → l[j]? = some y → x.1 < y.1 ∨ (x.1 = y.1 ∧ x.2 < y.2)
theorem ring_zero {L : Int} {l : List (Int × Int)} (h : Circ L l) (hs : Asc l) : Ring L 0 l := by
  refine ⟨fun i x hx => ?_, fun i x hx => (h.ant x (List.mem_of_getElem? hx)).2.2.2, fun i j x y hij hx hy => ?_, fun i j x y hij hx hy => ?_⟩
  · have := h.ant x (List.mem_of_getElem? hx); omega
  · have h1 := hs i j x y hij hx hy
    have h2 := (h.ant x (List.mem_of_getElem? hx)).2.2.2
    have h3 := (h.ant y (List.mem_of_getElem? hy)).2.2.2
    omega
  · have h2 := h.ant x (List.mem_of_getElem? hx)
    have h3 := h.ant y (List.mem_of_getElem? hy)
    omega
theorem ring_run {L : Int} {l : List (Int × Int)} (h : Circ L l) (hs : Asc l) : ∀ t : Nat, Ring L t (runU L l t)
  | 0 => ring_zero h hs
  | t + 1 => ring_step h.even (moved_opp h t _ (wr_run h t)).2 (ring_run h hs t)
theorem runU_len {L : Int} {l : List (Int × Int)} (h : Circ L l) : ∀ t, (runU L l t).length = l.length
  | 0 => rfl
  | t + 1 => (stepU_len (moved_opp h t _ (wr_run h t)).2).trans (runU_len h t)

/-! ### sums -/
theorem sumI_perm {p q : List Int} (h : p.Perm q) : p.sum = q.sum := by
  induction h with
  | nil => rfl
  | cons x h ih => rw [List.sum_cons, List.sum_cons, ih]
  | swap x y p => simp only [List.sum_cons]; omega
  | trans h1 h2 i1 i2 => exact i1.trans i2
theorem sum_addI {α : Type} (f g : α → Int) (l : List α) : (l.map fun x => f x + g x).sum = (l.map f).sum + (l.map g).sum := by
  induction l with
  | nil => rfl
  | cons x l ih => simp only [List.map_cons, List.sum_cons, ih]; omega
theorem sum_mulI {α : Type} (L : Int) (f : α → Int) (l : List α) : (l.map fun x => L * f x).sum = L * (l.map f).sum := by
  induction l with
  | nil => simp
  | cons x l ih => simp only [List.map_cons, List.sum_cons, ih, Int.mul_add]
theorem sum_congrI {α : Type} (f g : α → Int) (l : List α) (h : ∀ x ∈ l, f x = g x) : (l.map f).sum = (l.map g).sum := by rw [List.map_congr_left h]
theorem ways_sum {L : Int} {l : List (Int × Int)} (h : Circ L l) (t : Nat) : ((runU L l t).map fun x => x.2).sum = (l.map fun x => x.2).sum := by
  have h1 := (run_ok h t).1.map fun x : Int × Int => x.2
  rw [wr_run h t, List.map_map, List.map_map] at h1
  exact sumI_perm h1
theorem places_sum {L : Int} {l : List (Int × Int)} (h : Circ L l) : ∀ t : Nat, ((runU L l t).map fun x => x.1).sum = (l.map fun x : Int × Int => x.1 + x.2 * (t : Int)).sum
  | 0 => by
    show (l.map fun x => x.1).sum = _
    exact sum_congrI _ _ l fun x _ => by simp
  | t + 1 => by
    have ih := places_sum h t
    have hw := ways_sum h t
    have ht := (moved_opp h t _ (wr_run h t)).2
    show ((stepU L (runU L l t)).map fun x => x.1).sum = _
    have e : ((stepU L (runU L l t)).map fun x => x.1) = (runU L l t).map fun x => x.1 + x.2 := by
      apply List.ext_getElem?
      intro j
      rw [List.getElem?_map, List.getElem?_map]
      by_cases hj : j < (runU L l t).length
      · rw [stepU_at ht (List.getElem?_eq_getElem hj), List.getElem?_eq_getElem hj]
        rfl
      · rw [List.getElem?_eq_none (by rw [stepU_len ht]; omega), List.getElem?_eq_none (by omega)]
        rfl
    rw [e, sum_addI, ih, hw, ← sum_addI]
    exact sum_congrI _ _ l fun x _ => by
      rw [Int.natCast_add, Int.mul_add]
      omega
theorem rounds_sum {L : Int} {l : List (Int × Int)} (h : Circ L l) (t : Nat) : ((runU L l t).map fun x => x.1 / L).sum = (l.map fun x : Int × Int => (x.1 + x.2 * (t : Int)) / L).sum := by
  have h1 := places_sum h t
  have h2 := (run_ok h t).1.map fun x : Int × Int => x.1
  rw [wr_run h t, List.map_map, List.map_map] at h2
  have h3 := sumI_perm h2
  have e1 : ((runU L l t).map fun x => x.1).sum = L * ((runU L l t).map fun x => x.1 / L).sum + ((runU L l t).map ((fun x : Int × Int => x.1) ∘ wrC L)).sum := by
    rw [← sum_mulI, ← sum_addI]
    exact sum_congrI _ _ _ fun x _ => (Int.mul_ediv_add_emod x.1 L).symm
  have e2 : (l.map fun x : Int × Int => x.1 + x.2 * (t : Int)).sum = L * (l.map fun x : Int × Int => (x.1 + x.2 * (t : Int)) / L).sum + (l.map ((fun x : Int × Int => x.1) ∘ ghC L t)).sum := by
    rw [← sum_mulI, ← sum_addI]
    exact sum_congrI _ _ _ fun x _ => (Int.mul_ediv_add_emod (x.1 + x.2 * t) L).symm
  have hL := h.pos
  have e3 : L * ((runU L l t).map fun x => x.1 / L).sum = L * (l.map fun x : Int × Int => (x.1 + x.2 * (t : Int)) / L).sum := by omega
  exact Int.eq_of_mul_eq_mul_left (by omega) e3
end Go.Proofs.Ytdoikeglaolipaa
