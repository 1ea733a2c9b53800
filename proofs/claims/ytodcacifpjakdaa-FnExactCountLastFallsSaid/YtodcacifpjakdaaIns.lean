/- Where a time is put among the counted ones, in plain lists. No dump is read here. -/
import Derived.Test.YtodcacifpjakdaaBits
namespace Go.Proofs.Ytodcacifpjakdaa

/-- how many counted times lie ahead -/
def kIns : List (Int × Int) → Int → Nat
  | [], _ => 0
  | p :: R, t => if p.1 < t then kIns R t + 1 else 0
theorem kIns_le (t : Int) : ∀ R : List (Int × Int), kIns R t ≤ R.length
  | [] => Nat.le_refl _
  | p :: R => by
    have := kIns_le t R
    unfold kIns
    split
    · simpa using this
    · exact Nat.zero_le _
theorem kIns_at (t : Int) : ∀ (R : List (Int × Int)) (k : Nat), (∀ (j : Nat) (p : Int × Int), j < k → R[j]? = some p → p.1 < t) → k ≤ R.length → (∀ p, R[k]? = some p → ¬ p.1 < t) → kIns R t = k
  | [], k, _, hk, _ => by
    have : k = 0 := by simpa using hk
    subst this
    rfl
  | p :: R, 0, _, _, h => by
    unfold kIns
    rw [if_neg (h p rfl)]
  | p :: R, k + 1, h1, hk, h2 => by
    unfold kIns
    rw [if_pos (h1 0 p (by omega) rfl), kIns_at t R k (fun j q hj hq => h1 (j + 1) q (by omega) hq) (by simpa using hk) (fun q hq => h2 q hq)]
theorem insR_hit (t : Int) : ∀ (R : List (Int × Int)) (p : Int × Int), R[kIns R t]? = some p → p.1 = t → insR R t = R.set (kIns R t) (p.1, p.2 + 1)
  | [], p, h, _ => by simp at h
  | q :: R, p, h, hp => by
    unfold kIns at h ⊢
    unfold insR
    by_cases c : q.1 < t
    · rw [if_pos c] at h ⊢
      rw [if_pos c, insR_hit t R p h hp]
      rfl
    · rw [if_neg c] at h ⊢
      rw [if_neg c]
      have e : q = p := by simpa using h
      subst e
      rw [if_pos hp]
      rfl
theorem insR_miss (t : Int) : ∀ (R : List (Int × Int)), (∀ p, R[kIns R t]? = some p → ¬ p.1 = t) → insR R t = R.take (kIns R t) ++ (t, 1) :: R.drop (kIns R t)
  | [], _ => rfl
  | q :: R, h => by
    unfold kIns at h ⊢
    unfold insR
    by_cases c : q.1 < t
    · rw [if_pos c] at h ⊢
      rw [if_pos c, insR_miss t R (fun p hp => h p hp)]
      rfl
    · rw [if_neg c] at h ⊢
      rw [if_neg c, if_neg (h q rfl)]
      rfl
theorem insR_mem (R : List (Int × Int)) (t : Int) : ∀ p ∈ insR R t, p ∈ R ∨ p = (t, 1) ∨ ∃ q ∈ R, p = (q.1, q.2 + 1) := by
  induction R with
  | nil => intro p hp; right; left; simpa [insR] using hp
  | cons q R ih =>
    intro p hp
    unfold insR at hp
    split at hp
    · rcases List.mem_cons.1 hp with rfl | hp
      · exact .inl List.mem_cons_self
      · rcases ih p hp with h | h | ⟨r, hr, h⟩
        · exact .inl (List.mem_cons_of_mem _ h)
        · exact .inr (.inl h)
        · exact .inr (.inr ⟨r, List.mem_cons_of_mem _ hr, h⟩)
    · split at hp
      · rcases List.mem_cons.1 hp with rfl | hp
        · exact .inr (.inr ⟨q, List.mem_cons_self, rfl⟩)
        · exact .inl (List.mem_cons_of_mem _ hp)
      · rcases List.mem_cons.1 hp with rfl | hp
        · exact .inr (.inl rfl)
        · exact .inl hp
theorem insAll_cnt (f : Nat → Int) (k : Nat) : ∀ p ∈ insAll ((List.range k).map f), 1 ≤ p.2 ∧ p.2 ≤ k ∧ ∃ j, j < k ∧ p.1 = f j := by
  induction k with
  | zero => intro p hp; simp [insAll] at hp
  | succ k ih =>
    intro p hp
    rw [List.range_succ, List.map_append, List.map_cons, List.map_nil, insAll_snoc] at hp
    rcases insR_mem _ _ p hp with h | rfl | ⟨q, hq, rfl⟩
    · obtain ⟨h1, h2, j, hj, h3⟩ := ih p h
      exact ⟨h1, by omega, j, by omega, h3⟩
    · exact ⟨by simp, by simp only; omega, k, by omega, rfl⟩
    · obtain ⟨h1, h2, j, hj, h3⟩ := ih q hq
      exact ⟨by simp only; omega, by simp only; omega, j, by omega, h3⟩
theorem insAll_range (f : Nat → Int) (k : Nat) : insAll ((List.range (k + 1)).map f) = insR (insAll ((List.range k).map f)) (f k) := by
  rw [List.range_succ, List.map_append, List.map_cons, List.map_nil, insAll_snoc]
theorem insAll_rlen (f : Nat → Int) (k : Nat) : (insAll ((List.range k).map f)).length ≤ k := by
  have := insAll_len ((List.range k).map f)
  simpa using this
/-- the rows that are told -/
def rowsP (R : List (Int × Int)) : List (List Int) := R.map fun p => [p.1, p.2]
theorem rowsP_len (R : List (Int × Int)) : (rowsP R).length = R.length := by simp [rowsP]
theorem rowsP_at {R : List (Int × Int)} {k : Nat} {p : Int × Int} (h : R[k]? = some p) : (rowsP R)[k]? = some [p.1, p.2] := by unfold rowsP; rw [List.getElem?_map, h]; rfl
theorem rowsP_set (R : List (Int × Int)) (k : Nat) (p : Int × Int) : (rowsP R).set k [p.1, p.2] = rowsP (R.set k p) := by unfold rowsP; rw [List.map_set]
theorem rowsP_ins (R : List (Int × Int)) (k : Nat) (t c : Int) : rowsP (R.take k ++ (t, c) :: R.drop k) = (rowsP R).take k ++ [t, c] :: (rowsP R).drop k := by
  unfold rowsP
  rw [List.map_append, List.map_cons, List.map_take, List.map_drop]
end Go.Proofs.Ytodcacifpjakdaa
