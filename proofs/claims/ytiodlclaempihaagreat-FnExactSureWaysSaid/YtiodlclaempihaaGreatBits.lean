/- All ways of n ants, told by bits: mathematics alone, no dump. -/
namespace Go.Proofs.YtiodlclaempihaaGreat

/-- the ways that the bits k tell: the last place is the lowest one -/
def wyN : Nat → Nat → List Int
  | 0, _ => []
  | n + 1, k => wyN n (k / 2) ++ [if k % 2 = 1 then 1 else -1]
theorem wyN_len (n k : Nat) : (wyN n k).length = n := by
  induction n generalizing k with
  | zero => rfl
  | succ n ih => simp [wyN, ih]
theorem wyN_mem (n k : Nat) : ∀ y ∈ wyN n k, y = -1 ∨ y = 1 := by
  induction n generalizing k with
  | zero => intro y hy; cases hy
  | succ n ih =>
    intro y hy
    rcases List.mem_append.1 hy with hy | hy
    · exact ih _ y hy
    · rw [List.mem_singleton] at hy
      subst hy
      split
      · exact .inr rfl
      · exact .inl rfl
theorem wyN_at (n k i : Nat) (hi : i < n) : (wyN n k).getD i 0 = if k / 2 ^ (n - 1 - i) % 2 = 1 then 1 else -1 := by
  induction n generalizing k with
  | zero => omega
  | succ n ih =>
    unfold wyN
    by_cases h : i < n
    · have := ih (k / 2) h
      rw [List.getD_eq_getElem?_getD] at this ⊢
      rw [List.getElem?_append_left (by rw [wyN_len]; exact h), this, Nat.div_div_eq_div_mul, ← Nat.pow_succ', show (n - 1 - i).succ = n + 1 - 1 - i by omega]
    · obtain rfl : i = n := by omega
      rw [List.getD_eq_getElem?_getD, List.getElem?_append_right (by rw [wyN_len]; exact Nat.le_refl _), wyN_len, Nat.sub_self, show i + 1 - 1 - i = 0 by omega]
      simp
theorem wyN_zero (n : Nat) : wyN n 0 = List.replicate n (-1) := by
  induction n with
  | zero => rfl
  | succ n ih => rw [wyN, Nat.zero_div, ih, List.replicate_succ']; rfl
theorem wyN_full (n : Nat) : wyN n (2 ^ n - 1) = List.replicate n 1 := by
  induction n with
  | zero => rfl
  | succ n ih =>
    have hp : 0 < 2 ^ n := Nat.two_pow_pos n
    rw [wyN, show (2 ^ (n + 1) - 1) / 2 = 2 ^ n - 1 by rw [Nat.pow_succ]; omega, ih, List.replicate_succ', if_pos (by rw [Nat.pow_succ]; omega)]
/-- the next ways: the last one to the left turns, and those behind it turn back -/
theorem wyN_succ (n k : Nat) (h : k + 1 < 2 ^ n) :
    ∃ i, i < n ∧ (wyN n k).getD i 0 = -1 ∧ (∀ j, i < j → j < n → (wyN n k).getD j 0 = 1) ∧ wyN n (k + 1) = (wyN n k).take i ++ 1 :: List.replicate (n - 1 - i) (-1) := by
  induction n generalizing k with
  | zero => simp at h
  | succ n ih =>
    have hl : (wyN n (k / 2)).length = n := wyN_len _ _
    by_cases h2 : k % 2 = 1
    · obtain ⟨i, hi, h3, h4, h5⟩ := ih (k / 2) (by rw [Nat.pow_succ] at h; omega)
      refine ⟨i, by omega, ?_, ?_, ?_⟩
      · unfold wyN
        rw [List.getD_eq_getElem?_getD] at h3 ⊢
        rw [List.getElem?_append_left (by omega)]
        exact h3
      · intro j hj hjn
        unfold wyN
        rw [List.getD_eq_getElem?_getD]
        by_cases hjn2 : j < n
        · have := h4 j hj hjn2
          rw [List.getD_eq_getElem?_getD] at this
          rw [List.getElem?_append_left (by omega)]
          exact this
        · rw [List.getElem?_append_right (by omega), hl, show j - n = 0 by omega, if_pos h2]
          rfl
      · show wyN n ((k + 1) / 2) ++ [if (k + 1) % 2 = 1 then 1 else -1] = (wyN n (k / 2) ++ [if k % 2 = 1 then 1 else -1]).take i ++ _
        rw [show (k + 1) / 2 = k / 2 + 1 by omega, h5, if_neg (by omega), List.take_append_of_le_length (by omega), List.append_assoc, List.cons_append,
          show n + 1 - 1 - i = (n - 1 - i) + 1 by omega, List.replicate_succ']
    · refine ⟨n, by omega, ?_, fun j h3 h4 => by omega, ?_⟩
      · unfold wyN
        rw [List.getD_eq_getElem?_getD, List.getElem?_append_right (by omega), hl, Nat.sub_self, if_neg h2]
        rfl
      · show wyN n ((k + 1) / 2) ++ [if (k + 1) % 2 = 1 then 1 else -1] = (wyN n (k / 2) ++ [if k % 2 = 1 then 1 else -1]).take n ++ _
        rw [show (k + 1) / 2 = k / 2 by omega, if_pos (by omega), List.take_append_of_le_length (by omega), List.take_of_length_le (by omega), show n + 1 - 1 - n = 0 by omega]
        rfl
theorem wyN_ne (n k : Nat) (h : k + 1 < 2 ^ n) : wyN n k ≠ List.replicate n 1 := by
  intro e
  obtain ⟨i, hi, h1, _⟩ := wyN_succ n k h
  rw [e] at h1
  simp [List.getD_eq_getElem?_getD, hi] at h1

/-- the bits that tell ways -/
def bitsOf (l : List Int) : Nat := l.foldl (fun b y => 2 * b + if y = 1 then 1 else 0) 0
theorem bitsOf_snoc (l : List Int) (y : Int) : bitsOf (l ++ [y]) = 2 * bitsOf l + if y = 1 then 1 else 0 := by
  unfold bitsOf; rw [List.foldl_append]; rfl
theorem bitsOf_nil : bitsOf [] = 0 := rfl
theorem wyN_bits (n : Nat) (l : List Int) (hn : l.length = n) (h : ∀ y ∈ l, y = -1 ∨ y = 1) : wyN n (bitsOf l) = l ∧ bitsOf l < 2 ^ n := by
  induction n generalizing l with
  | zero =>
    have : l = [] := List.eq_nil_of_length_eq_zero hn
    subst this
    exact ⟨rfl, by decide⟩
  | succ n ih =>
    rcases List.eq_nil_or_concat l with rfl | ⟨m, y, rfl⟩
    · simp at hn
    · rw [List.concat_eq_append] at *
      have hm : m.length = n := by simpa using hn
      obtain ⟨h1, h2⟩ := ih m hm (fun z hz => h z (List.mem_append_left _ hz))
      have hy := h y (List.mem_append_right _ (List.mem_singleton.2 rfl))
      rw [bitsOf_snoc, Nat.pow_succ]
      unfold wyN
      rcases hy with rfl | rfl
      · refine ⟨?_, by simp; omega⟩
        simp [h1]
      · refine ⟨?_, by simp; omega⟩
        rw [if_pos rfl, show (2 * bitsOf m + 1) / 2 = bitsOf m by omega, h1, if_pos (by omega)]
theorem bitsOf_lt (l : List Int) (h : ∀ y ∈ l, y = -1 ∨ y = 1) : bitsOf l < 2 ^ l.length := (wyN_bits _ l rfl h).2

/-! ### rows of numbers with their counts -/
def insR : List (Int × Int) → Int → List (Int × Int)
  | [], t => [(t, 1)]
  | p :: R, t => if p.1 < t then p :: insR R t else if p.1 = t then (p.1, p.2 + 1) :: R else (t, 1) :: p :: R
def insAll (T : List Int) : List (Int × Int) := T.foldl insR []
theorem insAll_snoc (T : List Int) (t : Int) : insAll (T ++ [t]) = insR (insAll T) t := by unfold insAll; rw [List.foldl_append]; rfl
theorem insR_comm (R : List (Int × Int)) (a b : Int) : insR (insR R a) b = insR (insR R b) a := by
  induction R with
  | nil =>
    rcases Int.lt_trichotomy a b with h | h | h
    · simp [insR, h, show ¬ b < a by omega, show ¬ b = a by omega]
    · subst h; rfl
    · simp [insR, h, show ¬ a < b by omega, show ¬ a = b by omega]
  | cons p R ih =>
    obtain ⟨k, c⟩ := p
    rcases Int.lt_trichotomy k a with h1 | h1 | h1 <;> rcases Int.lt_trichotomy k b with h2 | h2 | h2
    · simp [insR, h1, h2, ih]
    · subst h2
      simp [insR, h1]
    · simp [insR, h1, show ¬ k < b by omega, show ¬ k = b by omega, show b < a by omega]
    · subst h1
      simp [insR, h2]
    · subst h1; subst h2; rfl
    · subst h1
      simp [insR, h2, show ¬ k < b by omega, show ¬ k = b by omega]
    · simp [insR, h2, show ¬ k < a by omega, show ¬ k = a by omega, show a < b by omega]
    · subst h2
      simp [insR, h1, show ¬ k < a by omega, show ¬ k = a by omega]
    · have e1 : ¬ k < a := by omega
      have e2 : ¬ k = a := by omega
      have e3 : ¬ k < b := by omega
      have e4 : ¬ k = b := by omega
      rcases Int.lt_trichotomy a b with h | h | h
      · simp [insR, e1, e2, e3, e4, h, show ¬ b < a by omega, show ¬ b = a by omega]
      · subst h; rfl
      · simp [insR, e1, e2, e3, e4, h, show ¬ a < b by omega, show ¬ a = b by omega]
theorem insAll_perm {S T : List Int} (h : S.Perm T) : insAll S = insAll T := by
  unfold insAll
  exact h.foldl_eq' (fun x _ y _ z => insR_comm z x y) []
/-- all keys are below -/
def keysLt (R : List (Int × Int)) (t : Int) : Prop := ∀ p ∈ R, p.1 < t
theorem insR_end {R : List (Int × Int)} {t : Int} (h : keysLt R t) : insR R t = R ++ [(t, 1)] := by
  induction R with
  | nil => rfl
  | cons p R ih => rw [insR, if_pos (h p List.mem_cons_self), ih (fun q hq => h q (List.mem_cons_of_mem _ hq))]; rfl
theorem insR_bump {R : List (Int × Int)} {t c : Int} (h : keysLt R t) : insR (R ++ [(t, c)]) t = R ++ [(t, c + 1)] := by
  induction R with
  | nil => simp [insR]
  | cons p R ih => rw [List.cons_append, insR, if_pos (h p List.mem_cons_self), ih (fun q hq => h q (List.mem_cons_of_mem _ hq))]; rfl
/-- what counting in order has behind k numbers: its last row is that of the last number -/
theorem insAll_last (T : List Int) (hs : T.Pairwise fun a b => a ≤ b) (k : Nat) (hk : k < T.length) :
    ∃ (R : List (Int × Int)) (c : Int), insAll (T.take (k + 1)) = R ++ [(T[k], c)] ∧ keysLt R T[k] ∧ 1 ≤ c ∧ c ≤ k + 1 := by
  induction k with
  | zero => exact ⟨[], 1, by rw [List.take_succ_eq_append_getElem hk, List.take_zero]; rfl, fun p hp => (by cases hp), by omega, by omega⟩
  | succ k ih =>
    obtain ⟨R, c, h1, h2, h3, h4⟩ := ih (by omega)
    have hle : T[k] ≤ T[k + 1] := List.pairwise_iff_getElem.1 hs k (k + 1) (by omega) hk (by omega)
    rw [List.take_succ_eq_append_getElem hk, insAll_snoc, h1]
    by_cases he : T[k + 1] = T[k]
    · rw [he, insR_bump h2]
      exact ⟨R, c + 1, rfl, h2, by omega, by omega⟩
    · have hlt : keysLt (R ++ [(T[k], c)]) T[k + 1] := by
        intro p hp
        rcases List.mem_append.1 hp with hp | hp
        · have := h2 p hp; omega
        · rw [List.mem_singleton] at hp; subst hp; show T[k] < _; omega
      rw [insR_end hlt]
      exact ⟨_, 1, rfl, hlt, by omega, by omega⟩
theorem insAll_same (T : List Int) (hs : T.Pairwise fun a b => a ≤ b) (k : Nat) (hk : k + 1 < T.length) (he : T[k + 1] = T[k]) :
    ∃ (R : List (Int × Int)) (c : Int), insAll (T.take (k + 1)) = R ++ [(T[k + 1], c)] ∧ insAll (T.take (k + 2)) = R ++ [(T[k + 1], c + 1)] ∧ 1 ≤ c ∧ c ≤ k + 1 := by
  obtain ⟨R, c, h1, h2, h3, h4⟩ := insAll_last T hs k (by omega)
  refine ⟨R, c, by rw [he]; exact h1, ?_, h3, h4⟩
  rw [List.take_succ_eq_append_getElem hk, insAll_snoc, h1, he, insR_bump h2]
theorem insAll_new (T : List Int) (hs : T.Pairwise fun a b => a ≤ b) (k : Nat) (hk : k < T.length) (he : k = 0 ∨ ∀ h : k - 1 < T.length, T[k - 1] ≠ T[k]) :
    insAll (T.take (k + 1)) = insAll (T.take k) ++ [(T[k], 1)] := by
  rw [List.take_succ_eq_append_getElem hk, insAll_snoc]
  cases k with
  | zero => rfl
  | succ k =>
    obtain ⟨R, c, h1, h2, h3, h4⟩ := insAll_last T hs k (by omega)
    have hle : T[k] ≤ T[k + 1] := List.pairwise_iff_getElem.1 hs k (k + 1) (by omega) hk (by omega)
    have hne : T[k] ≠ T[k + 1] := by
      rcases he with he | he
      · omega
      · exact he (by omega)
    rw [h1]
    refine insR_end ?_
    intro p hp
    rcases List.mem_append.1 hp with hp | hp
    · have := h2 p hp; omega
    · rw [List.mem_singleton] at hp; subst hp; show T[k] < _; omega
theorem insR_len (R : List (Int × Int)) (t : Int) : (insR R t).length ≤ R.length + 1 := by
  induction R with
  | nil => simp [insR]
  | cons p R ih => unfold insR; split; · simp; omega
                   split <;> simp
theorem insAll_len (T : List Int) : (insAll T).length ≤ T.length := by
  have h : ∀ k, k ≤ T.length → (insAll (T.take k)).length ≤ k := by
    intro k
    induction k with
    | zero => intro _; simp [insAll]
    | succ k ih =>
      intro hk
      rw [List.take_succ_eq_append_getElem hk, insAll_snoc]
      have := insR_len (insAll (T.take k)) T[k]
      have := ih (by omega)
      omega
  have := h T.length (Nat.le_refl _)
  rwa [List.take_length] at this
/-- the sum of all numbers -/
def sumL (T : List Int) : Int := T.foldl (· + ·) 0
theorem sumL_snoc (T : List Int) (t : Int) : sumL (T ++ [t]) = sumL T + t := by unfold sumL; rw [List.foldl_append]; rfl
def sumR : List (Int × Int) → Int
  | [] => 0
  | p :: R => p.1 * p.2 + sumR R
theorem sumR_ins (R : List (Int × Int)) (t : Int) : sumR (insR R t) = sumR R + t := by
  induction R with
  | nil => simp [insR, sumR]
  | cons p R ih =>
    unfold insR
    split
    · simp only [sumR, ih]; omega
    · split
      · rename_i h1 h2
        subst h2
        simp only [sumR]
        rw [Int.mul_add]
        omega
      · simp [sumR]; omega
theorem sumR_all (T : List Int) : sumR (insAll T) = sumL T := by
  have h : ∀ k, k ≤ T.length → sumR (insAll (T.take k)) = sumL (T.take k) := by
    intro k
    induction k with
    | zero => intro _; simp [insAll, sumR, sumL]
    | succ k ih =>
      intro hk
      rw [List.take_succ_eq_append_getElem hk, insAll_snoc, sumL_snoc, sumR_ins, ih (by omega)]
  have := h T.length (Nat.le_refl _)
  rwa [List.take_length] at this
theorem sumR_append (R S : List (Int × Int)) : sumR (R ++ S) = sumR R + sumR S := by
  induction R with
  | nil => simp [sumR]
  | cons p R ih => simp [sumR, ih]; omega
/-- keys and counts of rows -/
theorem insR_bounds {R : List (Int × Int)} {t : Int} {K : Int} (h : ∀ p ∈ R, 0 ≤ p.1 ∧ p.1 ≤ 1000 ∧ 1 ≤ p.2 ∧ p.2 ≤ K) (h0 : 0 ≤ t) (h1 : t ≤ 1000) (hK : 0 ≤ K) : ∀ p ∈ insR R t, 0 ≤ p.1 ∧ p.1 ≤ 1000 ∧ 1 ≤ p.2 ∧ p.2 ≤ K + 1 := by
  induction R with
  | nil => intro p hp; simp [insR] at hp; subst hp; exact ⟨h0, h1, by simp, by simp; omega⟩
  | cons q R ih =>
    have hq := h q List.mem_cons_self
    have hR := ih (fun p hp => h p (List.mem_cons_of_mem _ hp))
    intro p hp
    unfold insR at hp
    split at hp
    · rcases List.mem_cons.1 hp with rfl | hp
      · omega
      · exact hR p hp
    · split at hp
      · rcases List.mem_cons.1 hp with rfl | hp
        · simp only; omega
        · have := h p (List.mem_cons_of_mem _ hp); omega
      · rcases List.mem_cons.1 hp with rfl | hp
        · simp only; omega
        · have := h p hp; omega
theorem insAll_bounds (T : List Int) (h : ∀ t ∈ T, 0 ≤ t ∧ t ≤ 1000) : ∀ k, k ≤ T.length → ∀ p ∈ insAll (T.take k), 0 ≤ p.1 ∧ p.1 ≤ 1000 ∧ 1 ≤ p.2 ∧ p.2 ≤ k := by
  intro k
  induction k with
  | zero => intro _ p hp; simp [insAll] at hp
  | succ k ih =>
    intro hk
    rw [List.take_succ_eq_append_getElem hk, insAll_snoc]
    have := insR_bounds (ih (by omega)) (h _ (List.getElem_mem hk)).1 (h _ (List.getElem_mem hk)).2 (by omega)
    exact this

/-! ### the least number, and where it is first -/
def minL : List Int → Int
  | [] => 0
  | t :: T => T.foldl (fun m x => if x < m then x else m) t
theorem insR_head (R : List (Int × Int)) (p : Int × Int) (t : Int) : ((insR (p :: R) t).getD 0 (0, 0)).1 = if t < p.1 then t else p.1 := by
  unfold insR
  split
  · rw [if_neg (by omega)]; rfl
  · split
    · rw [if_neg (by omega)]; rfl
    · rw [if_pos (by omega)]; rfl
theorem insR_ne (R : List (Int × Int)) (t : Int) : insR R t ≠ [] := by
  cases R with
  | nil => simp [insR]
  | cons p R => unfold insR; split; · simp
                split <;> simp
theorem minL_snoc (t : Int) (T : List Int) (x : Int) : minL (t :: T ++ [x]) = if x < minL (t :: T) then x else minL (t :: T) := by
  show (T ++ [x]).foldl _ t = _
  rw [List.foldl_append]; rfl
theorem insAll_head (t : Int) (T : List Int) : ((insAll (t :: T)).getD 0 (0, 0)).1 = minL (t :: T) ∧ insAll (t :: T) ≠ [] := by
  have h : ∀ k, k ≤ T.length → ((insAll (t :: T.take k)).getD 0 (0, 0)).1 = minL (t :: T.take k) ∧ insAll (t :: T.take k) ≠ [] := by
    intro k
    induction k with
    | zero => intro _; exact ⟨rfl, by simp [insAll, insR]⟩
    | succ k ih =>
      intro hk
      obtain ⟨h1, h2⟩ := ih (by omega)
      rw [List.take_succ_eq_append_getElem hk, ← List.cons_append, insAll_snoc, minL_snoc]
      refine ⟨?_, insR_ne _ _⟩
      cases hR : insAll (t :: T.take k) with
      | nil => exact absurd hR h2
      | cons p R =>
        rw [hR] at h1
        rw [insR_head, ← h1]
        rfl
  have := h T.length (Nat.le_refl _)
  rwa [List.take_length] at this
/-- the first place of the least number -/
def argMin : List Int → Nat
  | [] => 0
  | t :: T => (T.foldl (fun (s : Nat × Nat × Int) x => if x < s.2.2 then (s.1 + 1, s.1, x) else (s.1 + 1, s.2)) (1, 0, t)).2.1
end Go.Proofs.YtiodlclaempihaaGreat
