/- Ants around a circle, in the order in which they are told at first, are those told anew, turned around by how far all ghosts have come past the place 0. No dump is read here. -/
import Derived.Test.YtdoikeglaolipaaRing2
import Derived.Test.YtdoikeglaolipaaSrt
namespace Go.Proofs.Ytdoikeglaolipaa
open Classical

theorem floor_two {x y L : Int} (hL : 0 < L) (h1 : x ≤ y) (h2 : y ≤ x + L) : y / L = x / L ∨ y / L = x / L + 1 := by
  have e1 := Int.ediv_le_ediv hL h1
  have e2 := Int.ediv_le_ediv hL h2
  rw [Int.add_ediv_of_dvd_right (Int.dvd_refl L), Int.ediv_self (by omega)] at e2
  omega
theorem cut_at {L t q : Int} {u : List (Int × Int)} (hL : 0 < L) (h : Ring L t u) (hq : ∀ (i : Nat) (x : Int × Int), u[i]? = some x → x.1 / L = q ∨ x.1 / L = q + 1) : ∀ m, m ≤ u.length → ∃ k, k ≤ m ∧ (∀ (i : Nat) (x : Int × Int), i < k → u[i]? = some x → x.1 / L = q) ∧ (∀ (i : Nat) (x : Int × Int), k ≤ i → i < m → u[i]? = some x → x.1 / L = q + 1)
  | 0, _ => ⟨0, Nat.le_refl _, fun i x h => absurd h (Nat.not_lt_zero i), fun i x _ h => absurd h (Nat.not_lt_zero i)⟩
  | m + 1, hm => by
    obtain ⟨k, hk, h1, h2⟩ := cut_at hL h hq m (by omega)
    obtain ⟨y, hy⟩ : ∃ y, u[m]? = some y := ⟨_, List.getElem?_eq_getElem (by omega)⟩
    by_cases hkm : k = m
    · subst hkm
      rcases hq k y hy with e | e
      · refine ⟨k + 1, Nat.le_refl _, fun i x hi hx => ?_, fun i x h3 h4 => by omega⟩
        by_cases hik : i = k
        · subst hik
          rw [hy] at hx
          injection hx with hx
          subst hx
          exact e
        · exact h1 i x (by omega) hx
      · refine ⟨k, by omega, h1, fun i x h3 h4 hx => ?_⟩
        have hik : i = k := by omega
        subst hik
        rw [hy] at hx
        injection hx with hx
        subst hx
        exact e
    · refine ⟨k, by omega, h1, fun i x h3 h4 hx => ?_⟩
      by_cases him : i = m
      · subst him
        rw [hy] at hx
        injection hx with hx
        subst hx
        obtain ⟨z, hz⟩ : ∃ z, u[k]? = some z := ⟨_, List.getElem?_eq_getElem (by omega)⟩
        have e1 := h2 k z (Nat.le_refl _) (by omega) hz
        have e2 := Int.ediv_le_ediv hL (h.up k i z y (by omega) hz hy).1
        rcases hq i y hy with e | e
        · omega
        · exact e
      · exact h2 i x h3 (by omega) hx
theorem sum_const {α : Type} (f : α → Int) (c : Int) : ∀ l : List α, (∀ x ∈ l, f x = c) → (l.map f).sum = l.length * c
  | [], _ => by simp
  | x :: l, h => by
    rw [List.map_cons, List.sum_cons, h x List.mem_cons_self, sum_const f c l fun y hy => h y (List.mem_cons_of_mem _ hy), List.length_cons, Int.natCast_add, Int.add_mul]
    simp
    omega
theorem emod_floor (x L : Int) : x % L = x - L * (x / L) := by
  have := Int.mul_ediv_add_emod x L
  omega
/-- where the cut is, and what lies on either side -/
theorem ring_cut {L t : Int} {u : List (Int × Int)} (hL : 0 < L) (h : Ring L t u) (hne : 0 < u.length) : ∃ (q : Int) (k : Nat), k ≤ u.length ∧ (∀ (i : Nat) (x : Int × Int), i < k → u[i]? = some x → x.1 / L = q) ∧ (∀ (i : Nat) (x : Int × Int), k ≤ i → u[i]? = some x → x.1 / L = q + 1) := by
  obtain ⟨z, hz⟩ : ∃ z, u[0]? = some z := ⟨_, List.getElem?_eq_getElem hne⟩
  have hq : ∀ (i : Nat) (x : Int × Int), u[i]? = some x → x.1 / L = z.1 / L ∨ x.1 / L = z.1 / L + 1 := by
    intro i x hx
    by_cases hi : i = 0
    · subst hi
      rw [hz] at hx
      injection hx with hx
      subst hx
      exact .inl rfl
    · exact floor_two hL (h.up 0 i z x (by omega) hz hx).1 (h.dn 0 i z x (by omega) hz hx).1
  obtain ⟨k, hk, h1, h2⟩ := cut_at hL h hq u.length (Nat.le_refl _)
  exact ⟨z.1 / L, k, hk, h1, fun i x h3 hx => h2 i x h3 (List.getElem?_eq_some_iff.1 hx).1 hx⟩
theorem ring_sorted {L t q : Int} {u : List (Int × Int)} {k : Nat} (h : Ring L t u) (hk : k ≤ u.length) (h1 : ∀ (i : Nat) (x : Int × Int), i < k → u[i]? = some x → x.1 / L = q) (h2 : ∀ (i : Nat) (x : Int × Int), k ≤ i → u[i]? = some x → x.1 / L = q + 1) : Srt ((u.drop k ++ u.take k).map (wrC L)) := by
  unfold Srt
  rw [List.pairwise_map, List.pairwise_append]
  refine ⟨?_, ?_, ?_⟩
  · rw [List.pairwise_iff_getElem]
    intro i j hi hj hij
    have gi : (u.drop k)[i]? = u[k + i]? := List.getElem?_drop
    have gj : (u.drop k)[j]? = u[k + j]? := List.getElem?_drop
    rw [List.getElem?_eq_getElem hi] at gi
    rw [List.getElem?_eq_getElem hj] at gj
    generalize (u.drop k)[i] = x at *
    generalize (u.drop k)[j] = y at *
    have e1 := h2 _ x (by omega) gi.symm
    have e2 := h2 _ y (by omega) gj.symm
    have u1 := h.up (k + i) (k + j) x y (by omega) gi.symm gj.symm
    rw [antLe_iff]
    unfold wrC
    simp only
    rw [emod_floor x.1, emod_floor y.1, e1, e2]
    omega
  · rw [List.pairwise_iff_getElem]
    intro i j hi hj hij
    rw [List.length_take] at hi hj
    have gi : (u.take k)[i]? = u[i]? := by rw [List.getElem?_take, if_pos (by omega)]
    have gj : (u.take k)[j]? = u[j]? := by rw [List.getElem?_take, if_pos (by omega)]
    rw [List.getElem?_eq_getElem (by rw [List.length_take]; omega)] at gi
    rw [List.getElem?_eq_getElem (by rw [List.length_take]; omega)] at gj
    generalize (u.take k)[i] = x at *
    generalize (u.take k)[j] = y at *
    have e1 := h1 _ x (by omega) gi.symm
    have e2 := h1 _ y (by omega) gj.symm
    have u1 := h.up i j x y (by omega) gi.symm gj.symm
    rw [antLe_iff]
    unfold wrC
    simp only
    rw [emod_floor x.1, emod_floor y.1, e1, e2]
    omega
  · intro y hy x hx
    obtain ⟨j, hj, rfl⟩ := List.mem_iff_getElem.1 hy
    obtain ⟨i, hi, rfl⟩ := List.mem_iff_getElem.1 hx
    have gj : (u.drop k)[j]? = u[k + j]? := List.getElem?_drop
    rw [List.getElem?_eq_getElem hj] at gj
    have gi : (u.take k)[i]? = u[i]? := by rw [List.getElem?_take, if_pos (by rw [List.length_take] at hi; omega)]
    rw [List.getElem?_eq_getElem hi] at gi
    rw [List.length_take] at hi
    generalize (u.drop k)[j] = y at *
    generalize (u.take k)[i]'(by rw [List.length_take]; omega) = x at *
    have e1 := h1 _ x (by omega) gi.symm
    have e2 := h2 _ y (by omega) gj.symm
    have d1 := h.dn i (k + j) x y (by omega) gi.symm gj.symm
    rw [antLe_iff]
    unfold wrC
    simp only
    rw [emod_floor x.1, emod_floor y.1, e1, e2, Int.mul_add]
    omega
/-- how far all ghosts have come past the place 0 -/
def shU (L t : Int) (l : List (Int × Int)) : Int := (l.map fun x : Int × Int => (x.1 + x.2 * t) / L).sum
theorem ring_told {L : Int} {l : List (Int × Int)} (h : Circ L l) (hs : Asc l) (t : Nat) {i : Nat} (hi : i < l.length) :
    (runC L l t).1[i]? = (srtA (l.map (ghC L t)))[((((i : Nat) : Int) + shU L t l) % (l.length : Int)).toNat]? ∧
    ∃ x, (runU L l t)[i]? = some x ∧ x.1 / L = (((i : Nat) : Int) + shU L t l) / (l.length : Int) := by
  have hL : 0 < L := by have := h.pos; omega
  have hr := ring_run h hs t
  have hlen := runU_len h t
  have hw := wr_run h t
  obtain ⟨q, k, hk, h1, h2⟩ := ring_cut hL hr (by omega)
  have hS : shU L t l = k * q + ((l.length : Int) - k) * (q + 1) := by
    unfold shU
    rw [← rounds_sum h t]
    have e : runU L l t = (runU L l t).take k ++ (runU L l t).drop k := (List.take_append_drop k _).symm
    rw [e, List.map_append, List.sum_append]
    rw [sum_const (fun x : Int × Int => x.1 / L) q _ (fun x hx => by
      obtain ⟨j, hj, rfl⟩ := List.mem_iff_getElem.1 hx
      have g : ((runU L l t).take k)[j]? = (runU L l t)[j]? := by rw [List.getElem?_take, if_pos (by rw [List.length_take] at hj; omega)]
      rw [List.getElem?_eq_getElem hj] at g
      exact h1 j _ (by rw [List.length_take] at hj; omega) g.symm)]
    rw [sum_const (fun x : Int × Int => x.1 / L) (q + 1) _ (fun x hx => by
      obtain ⟨j, hj, rfl⟩ := List.mem_iff_getElem.1 hx
      have g : ((runU L l t).drop k)[j]? = (runU L l t)[k + j]? := List.getElem?_drop
      rw [List.getElem?_eq_getElem hj] at g
      exact h2 _ _ (by omega) g.symm)]
    rw [List.length_take, List.length_drop, hlen, Nat.min_eq_left (by omega), Int.natCast_sub (by omega)]
  have hS2 : shU L t l = (l.length : Int) * q + ((l.length : Int) - k) := by
    rw [hS, Int.mul_add, Int.sub_mul]
    omega
  have htold : srtA (l.map (ghC L t)) = ((runU L l t).drop k ++ (runU L l t).take k).map (wrC L) := by
    refine (srtA_unique (ring_sorted hr hk h1 h2) ?_).symm
    have p1 : ((runU L l t).drop k ++ (runU L l t).take k).Perm (runU L l t) := by
      have := List.perm_append_comm (l₁ := (runU L l t).drop k) (l₂ := (runU L l t).take k)
      rwa [List.take_append_drop] at this
    refine (p1.map (wrC L)).trans ?_
    rw [← hw]
    exact (run_ok h t).1
  have hn : (0 : Int) < (l.length : Int) := by omega
  obtain ⟨x, hx⟩ : ∃ x, (runU L l t)[i]? = some x := ⟨_, List.getElem?_eq_getElem (by omega)⟩
  rw [hS2, htold, hw, List.getElem?_map, List.getElem?_map, hx]
  rw [hlen] at hk
  by_cases hik : i < k
  · have e : ((i : Nat) : Int) + ((l.length : Int) * q + ((l.length : Int) - k)) = (((i : Nat) : Int) + ((l.length : Int) - k)) + (l.length : Int) * q := by omega
    rw [e, Int.add_mul_emod_self_left, Int.add_mul_ediv_left _ _ (by omega), Int.emod_eq_of_lt (by omega) (by omega), Int.ediv_eq_zero_of_lt (by omega) (by omega)]
    refine ⟨?_, x, rfl, by rw [h1 i x hik hx]; omega⟩
    have e2 : (((i : Nat) : Int) + ((l.length : Int) - k)).toNat = (l.length - k) + i := by omega
    rw [e2, List.getElem?_append_right (by rw [List.length_drop, hlen]; omega), List.length_drop, hlen, Nat.add_sub_cancel_left, List.getElem?_take, if_pos hik, hx]
  · have e : ((i : Nat) : Int) + ((l.length : Int) * q + ((l.length : Int) - k)) = (((i : Nat) : Int) - k) + (l.length : Int) * (q + 1) := by
      rw [Int.mul_add]
      omega
    rw [e, Int.add_mul_emod_self_left, Int.add_mul_ediv_left _ _ (by omega), Int.emod_eq_of_lt (by omega) (by omega), Int.ediv_eq_zero_of_lt (by omega) (by omega)]
    refine ⟨?_, x, rfl, by rw [h2 i x (by omega) hx]; omega⟩
    have e2 : (((i : Nat) : Int) - k).toNat = i - k := by omega
    rw [e2, List.getElem?_append_left (by rw [List.length_drop, hlen]; omega), List.getElem?_drop, show k + (i - k) = i by omega, hx]
end Go.Proofs.Ytdoikeglaolipaa
