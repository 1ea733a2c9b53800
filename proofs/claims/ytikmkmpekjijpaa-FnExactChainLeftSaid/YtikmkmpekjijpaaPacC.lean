/- Chains as the program goes along them: what the first masses alone tell. Mathematics only; no dump is read here. -/
import Derived.Test.YtikmkmpekjijpaaPacB
namespace Go.Proofs.Ytikmkmpekjijpaa

theorem chain_pre {ms : List Int} : ∀ k, k ≤ 4 → (∀ j, j ≤ k → 0 < k → 1 ≤ ms.getD j 0 ∧ ms.getD j 0 ≤ 9) →
    (0 < (chNow ms k).1 ∧ (chNow ms k).1 ≤ pw18 k ∧ 1 ≤ (chNow ms k).2 ∧ (chNow ms k).2 ≤ pw18 k) ∧ ∀ j, j < k → clOk (ms.getD j 0) (chNow ms j) (ms.getD (j + 1) 0) (0, 1) = true := by
  intro k
  induction k with
  | zero => intro _ _; exact ⟨by unfold chNow pw18; simp, fun j hj => absurd hj (by omega)⟩
  | succ k ih =>
    intro hk hat
    obtain ⟨i1, i2⟩ := ih (by omega) (fun j hj _ => hat j (by omega) (by omega))
    have hp : 18 * pw18 k ≤ 1000000 := by
      have : k ≤ 3 := by omega
      match k, this with
      | 0, _ => decide
      | 1, _ => decide
      | 2, _ => decide
      | 3, _ => decide
    have m1 := hat k (by omega) (by omega)
    have m2 := hat (k + 1) (by omega) (by omega)
    obtain ⟨r1, r2⟩ := rest_clack m1 m2 (u := chNow ms k) (B := pw18 k) ⟨by omega, i1.2.1, i1.2.2⟩ hp
    refine ⟨⟨?_, r2.2.1, r2.2.2⟩, fun j hj => ?_⟩
    · rw [chNow]
      generalize chNow ms k = u at *
      generalize ms.getD k 0 = m at *
      generalize ms.getD (k + 1) 0 = n at *
      obtain ⟨p, q⟩ := u
      obtain ⟨i3, _, i4, _⟩ := i1
      simp only at i3 i4
      have hok2 := r1
      unfold clOk at hok2
      rw [Bool.and_eq_true] at hok2
      have hv := (mkV_pa hok2.2).1
      have e2 : suN (2 * m) (p, q) (n - m) (0, 1) = 2 * m * p := by unfold suN; simp
      have e3 : suD (m + n) (p, q) (0, 1) = (m + n) * q := by unfold suD; simp
      rw [e2, e3] at hv
      unfold clV suV
      rw [r1, if_pos rfl]
      show 0 < (mkV _ _).1
      rw [e2, e3, hv]
      have hn : 0 < 2 * m * p := Int.mul_pos (by omega) i3
      have hd : 0 < (m + n) * q := Int.mul_pos (by omega) (by omega)
      have hx := lowP_num (2 * m * p) ((m + n) * q)
      generalize (lowP (2 * m * p) ((m + n) * q)).1 = x at *
      apply Classical.byContradiction
      intro hc
      have : x * (gcdN (2 * m * p) ((m + n) * q) : Int) ≤ 0 := Int.mul_nonpos_of_nonpos_of_nonneg (by omega) (by omega)
      omega
    · rcases (by omega : j < k ∨ j = k) with h | h
      · exact i2 j h
      · subst h; exact r1
theorem pw18_le {k : Nat} (h : k ≤ 4) : pw18 k ≤ 1000000 := by
  match k, h with
  | 0, _ => decide
  | 1, _ => decide
  | 2, _ => decide
  | 3, _ => decide
  | 4, _ => decide
/-- the next clack of a chain goes just if both masses are masses -/
theorem ch_ck {ms : List Int} {k : Nat} (hk : k ≤ 3) (hat : ∀ j, j ≤ k → 0 < k → 1 ≤ ms.getD j 0 ∧ ms.getD j 0 ≤ 9) (hpa : paP (chNow ms k) = true) :
    ckOk (ms.getD k 0) (chNow ms k) (ms.getD (k + 1) 0) (0, 1) = (maB (ms.getD k 0) && maB (ms.getD (k + 1) 0)) ∧
    ((maB (ms.getD k 0) && maB (ms.getD (k + 1) 0)) = true → ckV (ms.getD k 0) (chNow ms k) (ms.getD (k + 1) 0) (0, 1) = clV (ms.getD k 0) (chNow ms k) (ms.getD (k + 1) 0) (0, 1) ∧ paP (chNow ms (k + 1)) = true) := by
  obtain ⟨h1, _⟩ := chain_pre k (by omega) hat
  have hf : fstB (chNow ms k) (0, 1) = true := by unfold fstB; simp; omega
  have ha : asB (ms.getD k 0) (chNow ms k) (ms.getD (k + 1) 0) (0, 1) = (maB (ms.getD k 0) && maB (ms.getD (k + 1) 0)) := by
    unfold asB
    rw [hpa, show paP (0, 1) = true by decide, Bool.and_true, Bool.and_true]
  cases hm : (maB (ms.getD k 0) && maB (ms.getD (k + 1) 0)) with
  | false =>
    rw [hm] at ha
    exact ⟨by unfold ckOk; rw [ha]; rfl, fun h => by cases h⟩
  | true =>
    rw [hm] at ha
    rw [Bool.and_eq_true, maB_iff, maB_iff] at hm
    have hok := (chain_pre (ms := ms) (k + 1) (by omega) (fun j hj _ => by
      rcases (by omega : j ≤ k ∧ 0 < k ∨ j = k ∨ j = k + 1) with h | h | h
      · exact hat j h.1 h.2
      · subst h; exact hm.1
      · subst h; exact hm.2)).2 k (by omega)
    have e : ckOk (ms.getD k 0) (chNow ms k) (ms.getD (k + 1) 0) (0, 1) = true := by unfold ckOk; rw [ha, hf, hok]; rfl
    refine ⟨e, fun _ => ⟨by unfold ckV; rw [e]; rfl, ?_⟩⟩
    rw [chNow]
    exact (clV_pa hok).2
theorem chNow_zero_pa (ms : List Int) : paP (chNow ms 0) = true := by show paP (1, 1) = true; decide
theorem getD_mem {ms : List Int} {j : Nat} (h : j < ms.length) : ms.getD j 0 ∈ ms := by
  rw [List.getD_eq_getElem?_getD, List.getElem?_eq_getElem h]; exact List.getElem_mem h
theorem chB_all {ms : List Int} (h2 : 2 ≤ ms.length) (h5 : ms.length ≤ 5) (hat : ∀ j, j < ms.length → 1 ≤ ms.getD j 0 ∧ ms.getD j 0 ≤ 9) : chB ms = true := by
  rw [chB_iff]
  refine ⟨⟨h2, h5⟩, fun m hm => ?_⟩
  obtain ⟨j, hj, rfl⟩ := List.getElem_of_mem hm
  have := hat j hj
  rwa [List.getD_eq_getElem?_getD, List.getElem?_eq_getElem hj] at this
theorem chB_bad {ms : List Int} {j : Nat} (hj : j < ms.length) (h : maB (ms.getD j 0) = false) : chB ms = false := by
  rw [← Bool.not_eq_true, chB_iff]
  intro hh
  have := hh.2 _ (getD_mem hj)
  rw [← maB_iff] at this
  rw [this] at h; cases h
theorem chB_short {ms : List Int} (h : ¬ (2 ≤ ms.length ∧ ms.length ≤ 5)) : chB ms = false := by
  rw [← Bool.not_eq_true, chB_iff]
  exact fun hh => h hh.1
/-- the paces as they stand behind k clacks -/
def chP (ms : List Int) (k : Nat) : List (Int × Int) := chOut ms k ++ [chNow ms k]
theorem chP_len (ms : List Int) (k : Nat) : (chP ms k).length = k + 1 := by unfold chP chOut; simp
theorem chP_at (ms : List Int) (k : Nat) : (chP ms k).getD k (0, 0) = chNow ms k := by
  unfold chP
  rw [List.getD_eq_getElem?_getD, List.getElem?_append_right (by unfold chOut; simp)]
  unfold chOut; simp
theorem chP_succ (ms : List Int) (k : Nat) : (chP ms k).set k (clV (ms.getD k 0) (chNow ms k) (ms.getD (k + 1) 0) (0, 1)).1 ++ [chNow ms (k + 1)] = chP ms (k + 1) := by
  have e : (chP ms k).set k (clV (ms.getD k 0) (chNow ms k) (ms.getD (k + 1) 0) (0, 1)).1 = chOut ms (k + 1) := by
    unfold chP
    have hl : (chOut ms k).length = k := by unfold chOut; simp
    rw [List.set_append_right _ _ (by omega), hl, Nat.sub_self]
    unfold chOut
    rw [List.range_succ, List.map_append]
    rfl
  rw [e]
  rfl
theorem chP_last (ms : List Int) : chP ms (ms.length - 1) = chL ms := rfl
end Go.Proofs.Ytikmkmpekjijpaa
