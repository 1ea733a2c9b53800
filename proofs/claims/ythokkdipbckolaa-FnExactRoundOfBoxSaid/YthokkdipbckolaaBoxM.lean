/- Ants between walls, in plain lists: how often they meet, when they are as at first, how often a place is visited. No dump is read here. -/
import Derived.Test.YthokkdipbckolaaBox
namespace Go.Proofs.Ythokkdipbckolaa

/-! ### meetings -/
/-- when two first meet -/
def frB (L : Int) (x y : Int × Int) : Int := L - ((rdB L x 0 + rdB L y 0) % (2 * L)) / 2
/-- how often two have met, behind a time -/
def gB (L t f : Int) : Int := (t - f + L) / L
theorem gB_fC {L : Int} (_hL : 2 ≤ L) (t f : Int) : gB L t f = fC (2 * L) t (2 * f) := by
  unfold gB fC
  rw [show 2 * t - 2 * f + 2 * L = 2 * (t - f + L) by omega, Int.mul_ediv_mul_of_pos _ _ (by omega)]
def wtB (L : Int) (l : List (Int × Int)) : Nat → List Int
  | 0 => []
  | k + 1 => wtB L l k ++ (l.take k).map (frB L (l.getD k (0, 0)))
theorem place_iff {L p q : Int} (hp : 0 ≤ p ∧ p < 2 * L) (hq : 0 ≤ q ∧ q < 2 * L) (hne : p ≠ q) : ((if p < L then p else 2 * L - p) = (if q < L then q else 2 * L - q)) ↔ (p + q) % (2 * L) = 0 := by
  have h1 : (p + q) % (2 * L) = 0 ↔ p + q = 2 * L := by
    constructor
    · intro h
      by_cases c : p + q < 2 * L
      · rw [Int.emod_eq_of_lt (by omega) c] at h; omega
      · have e : p + q = (p + q - 2 * L) + 2 * L := by omega
        rw [e, Int.add_emod_right, Int.emod_eq_of_lt (by omega) (by omega)] at h
        omega
    · intro h; rw [h, Int.emod_self]
  rw [h1]
  split <;> split <;> omega
theorem bxG_fst (L t : Int) (x : Int × Int) : (bxG L t x).1 = if rdB L x t < L then rdB L x t else 2 * L - rdB L x t := by
  unfold bxG; split <;> rfl
theorem emod_even {a L : Int} (h : a % 2 = 0) : (a % (2 * L)) % 2 = 0 := by
  rw [Int.emod_emod_of_dvd a ⟨L, rfl⟩]; exact h
theorem rdB_even {L : Int} {x : Int × Int} (h : x.1 % 2 = 0) : rdB L x 0 % 2 = 0 := by
  unfold rdB
  refine emod_even ?_
  rw [Int.add_zero, Int.mul_emod, h]
  simp
structure TwoB (L : Int) (x y : Int × Int) : Prop where
  ne : rdB L x 0 ≠ rdB L y 0
  ex : x.1 % 2 = 0
  ey : y.1 % 2 = 0
theorem meet_iff {L : Int} (hL : 2 ≤ L) (x y : Int × Int) (h : TwoB L x y) (t : Int) : (bxG L t y).1 = (bxG L t x).1 ↔ (2 * t - 2 * frB L x y) % (2 * L) = 0 := by
  have hx := rdB_in hL x t
  have hy := rdB_in hL y t
  have ex : rdB L x t = (rdB L x 0 + t) % (2 * L) := by have := rdB_add L x 0 t; rwa [Int.zero_add] at this
  have ey : rdB L y t = (rdB L y 0 + t) % (2 * L) := by have := rdB_add L y 0 t; rwa [Int.zero_add] at this
  have hne : rdB L y t ≠ rdB L x t := by
    intro e
    rw [ex, ey, Int.emod_eq_emod_iff_emod_sub_eq_zero] at e
    have e2 : rdB L y 0 + t - (rdB L x 0 + t) = rdB L y 0 - rdB L x 0 := by omega
    rw [e2, ← Int.emod_eq_emod_iff_emod_sub_eq_zero] at e
    have h1 := rdB_in hL x 0
    have h2 := rdB_in hL y 0
    rw [Int.emod_eq_of_lt h1.1 h1.2, Int.emod_eq_of_lt h2.1 h2.2] at e
    exact h.ne e.symm
  rw [bxG_fst, bxG_fst, place_iff hy hx hne, ey, ex, Int.emod_add_emod, Int.add_emod_emod]
  unfold frB
  have hev : ((rdB L x 0 + rdB L y 0) % (2 * L)) % 2 = 0 := emod_even (by have := rdB_even (L := L) h.ex; have := rdB_even (L := L) h.ey; omega)
  have e3 : 2 * t - 2 * (L - (rdB L x 0 + rdB L y 0) % (2 * L) / 2) = (2 * t + (rdB L x 0 + rdB L y 0) % (2 * L)) - 2 * L := by omega
  rw [e3, Int.sub_emod_right, Int.add_emod_emod]
  have e4 : rdB L y 0 + t + (rdB L x 0 + t) = 2 * t + (rdB L x 0 + rdB L y 0) := by omega
  rw [e4]
theorem eqP_wt {L : Int} (hL : 2 ≤ L) (l : List (Int × Int)) (t : Int) (h2 : ∀ (i j : Nat) (x y : Int × Int), i < j → l[i]? = some x → l[j]? = some y → TwoB L y x) : ∀ k, k ≤ l.length → eqP (pl ((l.take k).map (bxG L t))) = (wtB L l k).countP fun f => (2 * t - 2 * f) % (2 * L) == 0
  | 0, _ => by simp [pl, eqP, wtB]
  | k + 1, hk => by
    have ih := eqP_wt hL l t h2 k (by omega)
    have hkl : k < l.length := by omega
    have e : pl ((l.take (k + 1)).map (bxG L t)) = pl ((l.take k).map (bxG L t)) ++ [(bxG L t l[k]).1] := by
      rw [List.take_succ_eq_append_getElem hkl, List.map_append]
      simp [pl]
    rw [e, eqP_snoc, ih]
    show _ = (wtB L l k ++ (l.take k).map (frB L (l.getD k (0, 0)))).countP _
    rw [List.countP_append, count_pl, List.countP_map, List.countP_map, getD_lt' hkl]
    congr 1
    refine List.countP_congr fun x hx => ?_
    obtain ⟨i, hi, rfl⟩ := List.mem_iff_getElem.1 hx
    rw [List.length_take] at hi
    simp only [Function.comp, beq_iff_eq, List.getElem_take]
    exact meet_iff hL _ _ (h2 i k _ _ (by omega) (List.getElem?_eq_getElem (by omega)) (List.getElem?_eq_getElem hkl)) t
theorem box_two {L : Int} {l : List (Int × Int)} (h : BoxL L l) : ∀ (i j : Nat) (x y : Int × Int), i < j → l[i]? = some x → l[j]? = some y → TwoB L y x := by
  intro i j x y hij hx hy
  have h1 := h.ord.ant x (List.mem_of_getElem? hx)
  have h2 := h.ord.ant y (List.mem_of_getElem? hy)
  have hu := h.ord.up i j x y hij hx hy
  refine ⟨fun e => ?_, by omega, by omega⟩
  have b1 := bxG_zero ⟨h1.1, h1.2.1, h1.2.2.2.1, h1.2.2.2.2.1, h1.2.2.2.2.2⟩ h.pos
  have b2 := bxG_zero ⟨h2.1, h2.2.1, h2.2.2.2.1, h2.2.2.2.2.1, h2.2.2.2.2.2⟩ h.pos
  have : x = y := by
    rw [← b1, ← b2]
    unfold bxG
    rw [e]
  subst this
  have := hu.2 rfl
  omega
theorem tuB_met {v : List (Int × Int)} (m : Nat) (h : Nei v) : ∀ k, k < v.length → (tuB k (v, m)).2 = m + eqP (pl (v.take (k + 1)))
  | 0, hk => by
    have e : v.take 1 = [v[0]] := by
      cases v with
      | nil => simp at hk
      | cons a v => rfl
    rw [e]
    rfl
  | k + 1, hk => by
    have ih := tuB_met m h k (by omega)
    have I := tuB_ok m h k (by omega)
    have hlen := tuB_len (v, m) k
    simp only at hlen
    obtain ⟨x, hx⟩ : ∃ x, (tuB k (v, m)).1[k + 1]? = some x := ⟨_, List.getElem?_eq_getElem (by omega)⟩
    obtain ⟨y, hy⟩ : ∃ y, (tuB k (v, m)).1[k]? = some y := ⟨_, List.getElem?_eq_getElem (by omega)⟩
    have hvx : v[k + 1]? = some x := by rw [← I.late (k + 1) (by omega)]; exact hx
    obtain ⟨y0, hvy, hy0⟩ := I.place k y hy
    have e1 : pl (v.take (k + 1 + 1)) = pl (v.take (k + 1)) ++ [x.1] := by
      obtain ⟨hh, ex⟩ := List.getElem?_eq_some_iff.1 hvx
      rw [List.take_succ_eq_append_getElem hh, ex]
      simp [pl]
    have e2 : pl (v.take (k + 1)) = pl (v.take k) ++ [y0.1] := by
      obtain ⟨hh, ex⟩ := List.getElem?_eq_some_iff.1 hvy
      rw [List.take_succ_eq_append_getElem hh, ex]
      simp [pl]
    have e3 : (pl (v.take k)).count x.1 = 0 := by
      rw [List.count_eq_zero]
      intro hm
      unfold pl at hm
      obtain ⟨z, hz, hz1⟩ := List.mem_map.1 hm
      obtain ⟨i, hi, rfl⟩ := List.mem_iff_getElem.1 hz
      rw [List.length_take] at hi
      have := h.next (i := i) (j := k + 1) (by omega) (List.getElem?_eq_getElem (by omega)) hvx (by rw [← hz1, List.getElem_take])
      omega
    rw [e1, eqP_snoc, e2, List.count_append, e3, List.count_singleton, ← e2]
    by_cases he : x.1 = y.1
    · rw [tuB_yes k (v, m) hx hy he, if_pos (by simp only [beq_iff_eq]; omega)]
      show (tuB k (v, m)).2 + 1 = _
      omega
    · rw [tuB_no k (v, m) hx hy he, if_neg (by simp only [beq_iff_eq]; omega)]
      omega
theorem runB_met {L : Int} {l : List (Int × Int)} (h : BoxL L l) : ∀ t : Nat, (((runB L l t).2 : Nat) : Int) = ((wtB L l l.length).map (gB L t)).sum := by
  have hf : ∀ k, k ≤ l.length → ∀ f ∈ wtB L l k, 0 < f ∧ f ≤ L := by
    intro k
    induction k with
    | zero => intro _ f hf; cases hf
    | succ k ih =>
      intro hk f hf
      rcases List.mem_append.1 hf with hf | hf
      · exact ih (by omega) f hf
      · obtain ⟨x, hx, rfl⟩ := List.mem_map.1 hf
        obtain ⟨i, hi, rfl⟩ := List.mem_iff_getElem.1 hx
        rw [List.length_take] at hi
        have hp := h.pos
        have hr := Int.emod_nonneg (rdB L (l.getD k (0, 0)) 0 + rdB L (l.take k)[i] 0) (show 2 * L ≠ 0 by omega)
        have hr2 := Int.emod_lt_of_pos (rdB L (l.getD k (0, 0)) 0 + rdB L (l.take k)[i] 0) (show 0 < 2 * L by omega)
        unfold frB
        omega
  have hL := h.pos
  have e : ∀ t : Int, (wtB L l l.length).map (gB L t) = ((wtB L l l.length).map fun f => 2 * f).map (fC (2 * L) t) := fun t => by
    rw [List.map_map]
    exact List.map_congr_left fun f _ => gB_fC hL t f
  intro t
  induction t with
  | zero =>
    have hz : ∀ w : List Int, (∀ f ∈ w, 0 < f ∧ f ≤ L) → (w.map (gB L 0)).sum = 0 := by
      intro w
      induction w with
      | nil => intro _; rfl
      | cons a w ih =>
        intro hw
        have h1 := hw a List.mem_cons_self
        rw [List.map_cons, List.sum_cons, ih (fun b hb => hw b (List.mem_cons_of_mem _ hb)), gB_fC hL, fC_zero (by omega) (by omega)]
        rfl
    rw [show ((0 : Nat) : Int) = 0 from rfl, hz _ (hf l.length (Nat.le_refl _))]
    rfl
  | succ t ih =>
    obtain ⟨h1, h2⟩ := runB_ok h t
    have hn := bmv_nei h1
    have hst : (runB L l (t + 1)).2 = (tuB ((runB L l t).1.length - 1) ((runB L l t).1.map (bmv L), (runB L l t).2)).2 := rfl
    have hp : ((runB L l t).1.map (bmv L)).Perm (l.map (bxG L ((t + 1 : Nat) : Int))) := by
      have h4 := h2.map (bmv L)
      rw [List.map_map, show (bmv L ∘ bxG L (t : Int)) = bxG L ((t + 1 : Nat) : Int) from funext fun x => bmv_bxG h.pos x t] at h4
      exact h4
    have hm : (runB L l (t + 1)).2 = (runB L l t).2 + eqP (pl (l.map (bxG L ((t + 1 : Nat) : Int)))) := by
      rw [hst]
      by_cases h0 : (runB L l t).1.length = 0
      · have e0 : (runB L l t).1 = [] := List.eq_nil_of_length_eq_zero h0
        rw [e0] at hp ⊢
        have e1 : l.map (bxG L ((t + 1 : Nat) : Int)) = [] := hp.symm.eq_nil
        rw [e1]
        rfl
      · have hl : ((runB L l t).1.map (bmv L)).length = (runB L l t).1.length := by simp
        rw [tuB_met _ hn _ (by omega), List.take_of_length_le (by omega)]
        congr 1
        exact eqP_perm (hp.map _)
    have hw := eqP_wt hL l ((t + 1 : Nat) : Int) (box_two h) l.length (Nat.le_refl _)
    rw [List.take_length] at hw
    rw [hm, Int.natCast_add, ih, hw, e, e]
    have hs := sum_succ (L := 2 * L) (by omega) (by omega) (t : Int) ((wtB L l l.length).map fun f => 2 * f) (by
      intro a ha
      obtain ⟨f, _, rfl⟩ := List.mem_map.1 ha
      omega)
    rw [show ((t + 1 : Nat) : Int) = (t : Int) + 1 from rfl, hs, List.countP_map]
    rfl

/-! ### as at first -/
theorem rdB_round (L : Int) (x : Int × Int) (t : Int) : rdB L x (t + 2 * L) = rdB L x t := by
  unfold rdB
  rw [← Int.add_assoc, Int.add_emod_right]
theorem bxA_round {L : Int} {l : List (Int × Int)} (h : BoxL L l) : bxA L (2 * L) l = l := by
  have e : l.map (bxG L (2 * L)) = l := by
    conv => rhs; rw [← List.map_id l]
    refine List.map_congr_left fun x hx => ?_
    have h1 := h.ord.ant x hx
    have h2 := rdB_round L x 0
    rw [Int.zero_add] at h2
    have h3 := bxG_zero ⟨h1.1, h1.2.1, h1.2.2.2.1, h1.2.2.2.2.1, h1.2.2.2.2.2⟩ h.pos
    unfold bxG at h3 ⊢
    rw [h2]
    exact h3
  unfold bxA
  rw [e]
  exact srtA_self h.ord.srt
/-- the first even time of 2, 4, .., 2 (k + 1) at which it is as at first, counted by halves: k more than asked if there is none -/
def perB (L : Int) (l : List (Int × Int)) : Nat → Nat → Nat
  | 0, k => k
  | n + 1, k => if bxA L ((2 * (k + 1) : Nat) : Int) l = l then k else perB L l n (k + 1)

/-! ### visits -/
theorem visit_one {L q : Int} (hL : 2 ≤ L) (hq : 0 ≤ q ∧ q < 2 * L) (hqe : q % 2 = 0) {x : Int × Int} (hx : x.1 % 2 = 0) : ∀ T : Nat, (((List.range T).countP fun (k : Nat) => rdB L x (2 * ((k : Int) + 1)) == q : Nat) : Int) = fC (2 * L) T (2 * L - ((rdB L x 0 - q) % (2 * L))) := by
  have hr := rdB_in hL x 0
  have hxe := rdB_even (L := L) hx
  have hm0 := Int.emod_nonneg (rdB L x 0 - q) (show 2 * L ≠ 0 by omega)
  have hm1 := Int.emod_lt_of_pos (rdB L x 0 - q) (show 0 < 2 * L by omega)
  have hme : ((rdB L x 0 - q) % (2 * L)) % 2 = 0 := emod_even (by omega)
  intro T
  induction T with
  | zero =>
    rw [show ((0 : Nat) : Int) = 0 from rfl, fC_zero (by omega) (by omega)]
    rfl
  | succ T ih =>
    rw [List.range_succ, List.countP_append, Int.natCast_add, ih, show ((T + 1 : Nat) : Int) = (T : Int) + 1 from rfl, fC_succ (by omega) (by omega) (by omega)]
    congr 1
    have e1 : (2 * ((T : Int) + 1) - (2 * L - (rdB L x 0 - q) % (2 * L))) % (2 * L) = (rdB L x 0 + 2 * ((T : Int) + 1) - q) % (2 * L) := by
      have : 2 * ((T : Int) + 1) - (2 * L - (rdB L x 0 - q) % (2 * L)) = (2 * ((T : Int) + 1) + (rdB L x 0 - q) % (2 * L)) - 2 * L := by omega
      rw [this, Int.sub_emod_right, Int.add_emod_emod]
      congr 1
      omega
    have e2 : rdB L x (2 * ((T : Int) + 1)) = (rdB L x 0 + 2 * ((T : Int) + 1)) % (2 * L) := by have := rdB_add L x 0 (2 * ((T : Int) + 1)); rwa [Int.zero_add] at this
    have e3 : rdB L x (2 * ((T : Int) + 1)) = q ↔ (rdB L x 0 + 2 * ((T : Int) + 1) - q) % (2 * L) = 0 := by
      rw [e2, ← Int.emod_eq_emod_iff_emod_sub_eq_zero, Int.emod_eq_of_lt hq.1 hq.2]
    rw [e1]
    by_cases c : rdB L x (2 * ((T : Int) + 1)) = q
    · rw [if_pos (e3.1 c)]
      simp [c]
    · rw [if_neg (fun h => c (e3.2 h))]
      simp [c]
/-- at even times within a round each ghost is once at each even place of its round -/
theorem visit_once {L q : Int} (hL : 2 ≤ L) (hq : 0 ≤ q ∧ q < 2 * L) (hqe : q % 2 = 0) {x : Int × Int} (hx : x.1 % 2 = 0) : ((List.range L.toNat).countP fun (k : Nat) => rdB L x (2 * ((k : Int) + 1)) == q) = 1 := by
  have h := visit_one hL hq hqe hx L.toNat
  have hm0 := Int.emod_nonneg (rdB L x 0 - q) (show 2 * L ≠ 0 by omega)
  have hm1 := Int.emod_lt_of_pos (rdB L x 0 - q) (show 0 < 2 * L by omega)
  have e : fC (2 * L) (L.toNat : Int) (2 * L - ((rdB L x 0 - q) % (2 * L))) = 1 := by
    unfold fC
    generalize (rdB L x 0 - q) % (2 * L) = m at *
    have e1 : 2 * ((L.toNat : Nat) : Int) - (2 * L - m) + 2 * L = m + 2 * L := by omega
    rw [e1, Int.add_ediv_of_dvd_right (Int.dvd_refl _), Int.ediv_self (by omega), Int.ediv_eq_zero_of_lt hm0 hm1]
    rfl
  rw [e] at h
  omega
/-- how often a place is visited: at each time, by each one -/
def viB (L : Int) (l : List (Int × Int)) (p : Int) : Nat → Nat
  | 0 => 0
  | k + 1 => viB L l p k + (bxA L (2 * ((k : Int) + 1)) l).countP fun x => x.1 == p
theorem countP_srtA (f : Int × Int → Bool) (l : List (Int × Int)) : (srtA l).countP f = l.countP f := (srtA_perm l).countP_eq f
theorem viB_each (L : Int) (p : Int) (l : List (Int × Int)) : ∀ k, viB L l p k = (l.map fun x => (List.range k).countP fun (j : Nat) => (bxG L (2 * ((j : Int) + 1)) x).1 == p).sum
  | 0 => by
    have : ∀ m : List (Int × Int), (m.map fun _ => 0).sum = 0 := fun m => by induction m with
      | nil => rfl
      | cons a m ih => rw [List.map_cons, List.sum_cons, ih]
    exact (this l).symm
  | k + 1 => by
    unfold viB
    rw [viB_each L p l k]
    unfold bxA
    rw [countP_srtA, List.countP_map]
    have e : (l.map fun x => (List.range (k + 1)).countP fun (j : Nat) => (bxG L (2 * ((j : Int) + 1)) x).1 == p) = l.map fun x => ((List.range k).countP fun (j : Nat) => (bxG L (2 * ((j : Int) + 1)) x).1 == p) + if (bxG L (2 * ((k : Int) + 1)) x).1 == p then 1 else 0 := by
      refine List.map_congr_left fun x _ => ?_
      rw [List.range_succ, List.countP_append, List.countP_singleton]
    rw [e, sum_add, sum_if (fun x : Int × Int => (bxG L (2 * ((k : Int) + 1)) x).1 == p)]
    rfl
theorem viB_all {L p : Int} {l : List (Int × Int)} (h : BoxL L l) (hp : 0 ≤ p ∧ p ≤ L ∧ p % 2 = 0) : viB L l p L.toNat = if p = 0 ∨ p = L then l.length else 2 * l.length := by
  have hL := h.pos
  have he := h.even
  have hconst : ∀ (c : Nat) (f : Int × Int → Nat) (m : List (Int × Int)), (∀ x ∈ m, f x = c) → (m.map f).sum = c * m.length := by
    intro c f m
    induction m with
    | nil => intro _; simp
    | cons a m ih =>
      intro hm
      rw [List.map_cons, List.sum_cons, hm a List.mem_cons_self, ih (fun y hy => hm y (List.mem_cons_of_mem _ hy)), List.length_cons, Nat.mul_add]
      omega
  rw [viB_each]
  by_cases hw : p = 0 ∨ p = L
  · rw [if_pos hw, hconst 1 _ l, Nat.one_mul]
    intro x hx
    have hxe : x.1 % 2 = 0 := by have := h.ord.ant x hx; omega
    rw [← visit_once (q := p) hL (by omega) hp.2.2 hxe]
    refine List.countP_congr fun k _ => ?_
    have hr := rdB_in hL x (2 * ((k : Int) + 1))
    rw [bxG_fst]
    simp only [beq_iff_eq]
    split <;> omega
  · rw [if_neg hw, hconst 2 _ l]
    intro x hx
    have hxe : x.1 % 2 = 0 := by have := h.ord.ant x hx; omega
    have v1 := visit_once (q := p) hL (by omega) hp.2.2 hxe
    have v2 := visit_once (q := 2 * L - p) hL (by omega) (by omega) hxe
    have hsum : ∀ T : Nat, ((List.range T).countP fun (j : Nat) => (bxG L (2 * ((j : Int) + 1)) x).1 == p) = ((List.range T).countP fun (k : Nat) => rdB L x (2 * ((k : Int) + 1)) == p) + ((List.range T).countP fun (k : Nat) => rdB L x (2 * ((k : Int) + 1)) == 2 * L - p) := by
      intro T
      induction T with
      | zero => rfl
      | succ T ih =>
        rw [List.range_succ, List.countP_append, List.countP_append, List.countP_append, ih]
        have hr := rdB_in hL x (2 * ((T : Int) + 1))
        have hb := bxG_fst L (2 * ((T : Int) + 1)) x
        have : ([T].countP fun (j : Nat) => (bxG L (2 * ((j : Int) + 1)) x).1 == p) = ([T].countP fun (k : Nat) => rdB L x (2 * ((k : Int) + 1)) == p) + ([T].countP fun (k : Nat) => rdB L x (2 * ((k : Int) + 1)) == 2 * L - p) := by
          rw [List.countP_singleton, List.countP_singleton, List.countP_singleton, hb]
          generalize rdB L x (2 * ((T : Int) + 1)) = r at *
          simp only [beq_iff_eq]
          by_cases a1 : r < L
          · rw [if_pos a1, if_neg (show ¬ r = 2 * L - p by omega), Nat.add_zero]
          · rw [if_neg a1, if_neg (show ¬ r = p by omega)]
            by_cases c : r = 2 * L - p
            · rw [if_pos (show 2 * L - r = p by omega), if_pos c]
            · rw [if_neg (show ¬ 2 * L - r = p by omega), if_neg c]
        omega
    rw [hsum, v1, v2]
end Go.Proofs.Ythokkdipbckolaa
