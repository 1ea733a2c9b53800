/- How often a runner meets another one: mathematics only; no dump is read here. -/
import Derived.Test.YtlepdphdflpoaaaFrac
import Derived.Test.YtlepdphdflpoaaaGho
namespace Go.Proofs.Ytlepdphdflpoaaa

theorem lowP_inj {a b D : Int} (hD : 0 < D) : lowP a D = lowP b D ↔ a = b := by
  constructor
  · intro h
    have h1 := lowP_lt (n1 := a) (n2 := b) hD
    have h2 := lowP_lt (n1 := b) (n2 := a) hD
    rw [h] at h1 h2
    have h3 : ¬ a < b := fun hh => absurd (h1.2 hh) (Int.lt_irrefl _)
    have h4 : ¬ b < a := fun hh => absurd (h2.2 hh) (Int.lt_irrefl _)
    omega
  · rintro rfl; rfl

/-- whether another one than the k-th is where that is -/
def eqG (s : List (Int × Int)) (k i : Nat) : Bool := (!(i == k)) && decide ((s.getD i (0, 0)).1 = (s.getD k (0, 0)).1)
def cnG (s : List (Int × Int)) (k : Nat) : Nat → Nat
  | 0 => 0
  | i + 1 => cnG s k i + (if eqG s k i then 1 else 0)
theorem cnG_le (s : List (Int × Int)) (k : Nat) : ∀ i, cnG s k i ≤ i
  | 0 => Nat.le_refl _
  | i + 1 => by
    have := cnG_le s k i
    rw [cnG]
    split <;> omega
theorem cnG_yes {s : List (Int × Int)} {k i : Nat} (hi : i ≠ k) (h : (s.getD i (0, 0)).1 = (s.getD k (0, 0)).1) : cnG s k (i + 1) = cnG s k i + 1 := by
  rw [cnG, if_pos]
  unfold eqG
  simp only [List.getD_eq_getElem?_getD] at h
  simp [hi]
  exact h
theorem cnG_no {s : List (Int × Int)} {k i : Nat} (hi : i ≠ k) (h : ¬ (s.getD i (0, 0)).1 = (s.getD k (0, 0)).1) : cnG s k (i + 1) = cnG s k i := by
  rw [cnG, if_neg]
  · omega
  · unfold eqG
    simp only [List.getD_eq_getElem?_getD] at h
    simp [hi]
    exact h
theorem cnG_own {s : List (Int × Int)} {k i : Nat} (hi : i = k) : cnG s k (i + 1) = cnG s k i := by
  rw [cnG, if_neg]
  · omega
  · unfold eqG
    simp [hi]
def toG (T l : List (Int × Int)) (k : Nat) : Nat → Nat
  | 0 => 0
  | j + 1 => toG T l k j + cnG (ghL (T.getD j (0, 0)).1 (T.getD j (0, 0)).2 l) k l.length
theorem toG_le {T l : List (Int × Int)} (hl : l.length ≤ 12) (k : Nat) : ∀ j, toG T l k j ≤ 12 * j
  | 0 => Nat.le_refl _
  | j + 1 => by
    have h1 := toG_le (T := T) hl k j
    have h2 := cnG_le (ghL (T.getD j (0, 0)).1 (T.getD j (0, 0)).2 l) k l.length
    rw [toG]
    omega

/-- a time of a meeting is a time that may be asked -/
theorem meetP_time {x y t : Int × Int} (h : meetP x y = some t) (hxy : x.1 < y.1) : 0 ≤ t.1 := by
  unfold meetP at h
  split at h
  · injection h with h
    subst h
    show 0 ≤ (y.1 - x.1) / _
    exact Int.ediv_nonneg (by omega) (by omega)
  · cases h
theorem tiK_time {l : List (Int × Int)} (h : rnnB l = true) : ∀ k, k ≤ l.length → ∀ t, t ∈ tiK l k → 0 ≤ t.1
  | 0, _, t, ht => by simp [tiK] at ht
  | k + 1, hk, t, ht => by
    rw [tiK, List.mem_append] at ht
    rcases ht with ht | ht
    · exact tiK_time h k (by omega) t ht
    · obtain ⟨y, hy, hm⟩ := List.mem_filterMap.1 ht
      obtain ⟨j, hj, rfl⟩ := List.mem_iff_getElem.1 hy
      rw [List.length_drop] at hj
      refine meetP_time hm ?_
      rw [List.getElem_drop, ← getDp]
      exact rnn_lt h (k + 1 + j) k (by omega) (by omega)
theorem mmL_time {l : List (Int × Int)} (h : rnnB l = true) {t : Int × Int} (ht : t ∈ mmL l) : timB t.1 t.2 = true := by
  have h1 := (ti_ts l).mem_iff.2 (mmL_mem.1 ht)
  have h2 := tiL_mem h h1
  have h3 := tiK_time h _ (Nat.le_refl _) t h1
  unfold timB momB
  simp
  omega

/-- whether there is a k-th, and how often it meets another one -/
def moB (l : List (Int × Int)) (k : Int) : Bool := rnnB l && (decide (0 ≤ k) && decide (k ≤ (l.length : Int) - 1))
def moV (l : List (Int × Int)) (k : Int) : Int := if moB l k then ((toG (mmL l) l k.toNat (mmL l).length : Nat) : Int) else 0
end Go.Proofs.Ytlepdphdflpoaaa
