/- All words of told signs, in order; the next one of a word; how many have so many meetings; ranks. No dump is read here. -/
import Derived.Test.YtfojldkiagemeaaDoorWrd
namespace Go.Proofs.YtfojldkiagemeaaDoor

def allW : Nat → Nat → List (List UInt8)
  | 0, 0 => [[]]
  | a + 1, 0 => (allW a 0).map (108 :: ·)
  | 0, b + 1 => (allW 0 b).map (114 :: ·)
  | a + 1, b + 1 => (allW a (b + 1)).map (108 :: ·) ++ (allW (a + 1) b).map (114 :: ·)
termination_by a b => a + b

/-- the next word of as many signs -/
def nxt : List UInt8 → Option (List UInt8)
  | [] => none
  | x :: t => match nxt t with
    | some u => some (x :: u)
    | none => if x = 108 ∧ t.head? = some 114 then some (114 :: rst ((108 :: t.tail).count 108) ((108 :: t.tail).count 114)) else none

theorem allW_mem : ∀ n a b, a + b ≤ n → ∀ w ∈ allW a b, w.count 108 = a ∧ w.count 114 = b ∧ w.length = a + b ∧ w.all isLr = true := by
  intro n
  induction n with
  | zero =>
    intro a b h w hw
    obtain rfl : a = 0 := by omega
    obtain rfl : b = 0 := by omega
    rw [allW] at hw
    obtain rfl := List.mem_singleton.1 hw
    exact ⟨rfl, rfl, rfl, rfl⟩
  | succ n ih =>
    have hl : ∀ a b, a + 1 + b ≤ n + 1 → ∀ w ∈ (allW a b).map (108 :: ·), w.count 108 = a + 1 ∧ w.count 114 = b ∧ w.length = a + 1 + b ∧ w.all isLr = true := by
      intro a b h w hw
      obtain ⟨u, hu, rfl⟩ := List.mem_map.1 hw
      obtain ⟨h1, h2, h3, h4⟩ := ih a b (by omega) u hu
      exact ⟨by rw [List.count_cons_self, h1], by rw [List.count_cons_of_ne (by decide), h2], by rw [List.length_cons, h3]; omega, by rw [List.all_cons, h4]; rfl⟩
    have hr : ∀ a b, a + (b + 1) ≤ n + 1 → ∀ w ∈ (allW a b).map (114 :: ·), w.count 108 = a ∧ w.count 114 = b + 1 ∧ w.length = a + (b + 1) ∧ w.all isLr = true := by
      intro a b h w hw
      obtain ⟨u, hu, rfl⟩ := List.mem_map.1 hw
      obtain ⟨h1, h2, h3, h4⟩ := ih a b (by omega) u hu
      exact ⟨by rw [List.count_cons_of_ne (by decide), h1], by rw [List.count_cons_self, h2], by rw [List.length_cons, h3]; omega, by rw [List.all_cons, h4]; rfl⟩
    intro a b h w hw
    match a, b, h, hw with
    | 0, 0, _, hw =>
      rw [allW] at hw
      obtain rfl := List.mem_singleton.1 hw
      exact ⟨rfl, rfl, rfl, rfl⟩
    | a + 1, 0, h, hw => rw [allW] at hw; exact hl a 0 h w hw
    | 0, b + 1, h, hw => rw [allW] at hw; exact hr 0 b h w hw
    | a + 1, b + 1, h, hw =>
      rw [allW] at hw
      rcases List.mem_append.1 hw with hw | hw
      · exact hl a (b + 1) h w hw
      · exact hr (a + 1) b h w hw
theorem allW_at {a b k : Nat} {w : List UInt8} (h : (allW a b)[k]? = some w) : w.count 108 = a ∧ w.count 114 = b ∧ w.length = a + b ∧ w.all isLr = true := allW_mem (a + b) a b (Nat.le_refl _) w (List.mem_of_getElem? h)

theorem allW_head : ∀ n a b, a + b ≤ n → (allW a b)[0]? = some (rst a b) := by
  intro n
  induction n with
  | zero =>
    intro a b h
    obtain rfl : a = 0 := by omega
    obtain rfl : b = 0 := by omega
    rw [allW]; rfl
  | succ n ih =>
    intro a b h
    match a, b, h with
    | 0, 0, _ => rw [allW]; rfl
    | a + 1, 0, h => rw [allW, List.getElem?_map, ih a 0 (by omega)]; rfl
    | 0, b + 1, h => rw [allW, List.getElem?_map, ih 0 b (by omega)]; rfl
    | a + 1, b + 1, h =>
      have hh := ih a (b + 1) (by omega)
      have h0 := (List.getElem?_eq_some_iff.1 hh).1
      rw [allW, List.getElem?_append_left (by simpa using h0), List.getElem?_map, hh]; rfl
theorem allW_pos (a b : Nat) : 0 < (allW a b).length := (List.getElem?_eq_some_iff.1 (allW_head (a + b) a b (Nat.le_refl _))).1

theorem last_map {l : List (List UInt8)} {x : UInt8} {w : List UInt8} (h : l.getLast? = some w) : (l.map (x :: ·)).getLast? = some (x :: w) := by rw [List.getLast?_map, h]; rfl
theorem allW_last : ∀ n a b, a + b ≤ n → (allW a b).getLast? = some (List.replicate b 114 ++ List.replicate a 108) := by
  intro n
  induction n with
  | zero =>
    intro a b h
    obtain rfl : a = 0 := by omega
    obtain rfl : b = 0 := by omega
    rw [allW]; rfl
  | succ n ih =>
    intro a b h
    match a, b, h with
    | 0, 0, _ => rw [allW]; rfl
    | a + 1, 0, h => rw [allW, last_map (ih a 0 (by omega))]; rfl
    | 0, b + 1, h => rw [allW, last_map (ih 0 b (by omega))]; rfl
    | a + 1, b + 1, h =>
      rw [allW, List.getLast?_append, last_map (ih (a + 1) b (by omega))]; rfl

theorem nxt_all_l (a : Nat) : nxt (List.replicate a 108) = none := by
  induction a with
  | zero => rfl
  | succ a ih =>
    rw [List.replicate_succ, nxt, ih]
    cases a <;> simp [List.replicate_succ]
theorem nxt_last (a b : Nat) : nxt (List.replicate b 114 ++ List.replicate a 108) = none := by
  induction b with
  | zero => exact nxt_all_l a
  | succ b ih =>
    rw [List.replicate_succ, List.cons_append, nxt, ih]
    simp

/-- the next word is the next of all -/
theorem allW_nxt : ∀ n a b, a + b ≤ n → ∀ k w, (allW a b)[k]? = some w → nxt w = (allW a b)[k + 1]? := by
  intro n
  induction n with
  | zero =>
    intro a b h k w hw
    obtain rfl : a = 0 := by omega
    obtain rfl : b = 0 := by omega
    rw [allW] at hw ⊢
    cases k with
    | zero => simp at hw; subst hw; rfl
    | succ k => simp at hw
  | succ n ih =>
    intro a b h k w hw
    match a, b, h, hw with
    | 0, 0, _, hw =>
      rw [allW] at hw ⊢
      cases k with
      | zero => simp at hw; subst hw; rfl
      | succ k => simp at hw
    | a + 1, 0, h, hw =>
      rw [allW] at hw ⊢
      rw [List.getElem?_map] at hw ⊢
      obtain ⟨u, hu, rfl⟩ := Option.map_eq_some_iff.1 hw
      have hn := ih a 0 (by omega) k u hu
      rw [nxt, hn]
      cases (allW a 0)[k + 1]? with
      | some v => rfl
      | none =>
        have hc := (allW_at hu).2.1
        rw [if_neg]
        · rfl
        · rintro ⟨_, hh⟩
          have : (114 : UInt8) ∈ u := List.mem_of_mem_head? hh
          have := List.count_pos_iff.2 this
          omega
    | 0, b + 1, h, hw =>
      rw [allW] at hw ⊢
      rw [List.getElem?_map] at hw ⊢
      obtain ⟨u, hu, rfl⟩ := Option.map_eq_some_iff.1 hw
      have hn := ih 0 b (by omega) k u hu
      rw [nxt, hn]
      cases (allW 0 b)[k + 1]? with
      | some v => rfl
      | none => rw [if_neg (by rintro ⟨h1, _⟩; exact absurd h1 (by decide))]; rfl
    | a + 1, b + 1, h, hw =>
      rw [allW] at hw ⊢
      have hlen : ((allW a (b + 1)).map (108 :: ·)).length = (allW a (b + 1)).length := List.length_map ..
      by_cases hk : k < (allW a (b + 1)).length
      · rw [List.getElem?_append_left (by omega), List.getElem?_map] at hw
        obtain ⟨u, hu, rfl⟩ := Option.map_eq_some_iff.1 hw
        have hn := ih a (b + 1) (by omega) k u hu
        by_cases hk1 : k + 1 < (allW a (b + 1)).length
        · rw [List.getElem?_append_left (by omega), List.getElem?_map, nxt, hn]
          obtain ⟨v, hv⟩ : ∃ v, (allW a (b + 1))[k + 1]? = some v := ⟨_, List.getElem?_eq_getElem hk1⟩
          rw [hv]; rfl
        · have hke : k + 1 = (allW a (b + 1)).length := by omega
          have hlast := allW_last (a + (b + 1)) a (b + 1) (Nat.le_refl _)
          have hul : (allW a (b + 1)).getLast? = some u := by
            rw [List.getLast?_eq_getElem?, ← hke]; exact hu
          rw [hlast] at hul
          injection hul with hul
          rw [List.getElem?_append_right (by omega), hlen, show k + 1 - (allW a (b + 1)).length = 0 by omega, List.getElem?_map, allW_head _ (a + 1) b (Nat.le_refl _), nxt, hn, List.getElem?_eq_none (by omega), ← hul]
          show (if _ then _ else _) = some (114 :: rst (a + 1) b)
          rw [if_pos ⟨rfl, by rw [List.replicate_succ]; rfl⟩]
          have ht : (List.replicate (b + 1) (114 : UInt8) ++ List.replicate a 108).tail = List.replicate b 114 ++ List.replicate a 108 := by rw [List.replicate_succ]; rfl
          rw [ht, List.count_cons_self, List.count_cons_of_ne (by decide), List.count_append, List.count_append, List.count_replicate_self, List.count_replicate_self, List.count_replicate, List.count_replicate]
          simp
      · rw [List.getElem?_append_right (by omega), hlen, List.getElem?_map] at hw
        obtain ⟨u, hu, rfl⟩ := Option.map_eq_some_iff.1 hw
        have hn := ih (a + 1) b (by omega) _ u hu
        rw [List.getElem?_append_right (by omega), hlen, List.getElem?_map, nxt, hn, show k + 1 - (allW a (b + 1)).length = k - (allW a (b + 1)).length + 1 by omega]
        cases (allW (a + 1) b)[k - (allW a (b + 1)).length + 1]? with
        | some v => rfl
        | none => rw [if_neg (by rintro ⟨h1, _⟩; exact absurd h1 (by decide))]; rfl
theorem all_next {a b k : Nat} {w : List UInt8} (h : (allW a b)[k]? = some w) : nxt w = (allW a b)[k + 1]? := allW_nxt (a + b) a b (Nat.le_refl _) k w h

/- the library's last index of "lr" -/
theorem pfx_lr (x : UInt8) (t : List UInt8) : ([108, 114] : List UInt8).isPrefixOf (x :: t) = decide (x = 108 ∧ t.head? = some 114) := by
  cases t with
  | nil => simp [List.isPrefixOf]
  | cons y t =>
    simp only [List.isPrefixOf, List.head?_cons, Option.some.injEq, Bool.and_true]
    by_cases h1 : x = 108
    · subst h1
      by_cases h2 : y = 114
      · subst h2; rfl
      · rw [show ((114 : UInt8) == y) = false from beq_eq_false_iff_ne.2 (fun e => h2 e.symm)]; simp [h2]
    · rw [show ((108 : UInt8) == x) = false from beq_eq_false_iff_ne.2 (fun e => h1 e.symm)]; simp [h1]
theorem lastOcc_cons (x : UInt8) (t : List UInt8) (k : Nat) : Lib.lastOcc (x :: t) [108, 114] (k + 1) = if 0 ≤ Lib.lastOcc t [108, 114] k then Lib.lastOcc t [108, 114] k + 1 else if x = 108 ∧ t.head? = some 114 then 0 else -1 := by
  induction k with
  | zero =>
    show (if Lib.occAt (x :: t) [108, 114] 0 = true then (0 : Int) else -1) = if (0 : Int) ≤ -1 then _ else _
    rw [if_neg (show ¬ (0 : Int) ≤ -1 by decide), show Lib.occAt (x :: t) [108, 114] 0 = ([108, 114] : List UInt8).isPrefixOf (x :: t) from rfl, pfx_lr]
    simp only [decide_eq_true_eq]
  | succ k ih =>
    rw [Lib.lastOcc, show Lib.occAt (x :: t) [108, 114] (k + 1) = Lib.occAt t [108, 114] k from rfl]
    by_cases h : Lib.occAt t [108, 114] k = true
    · rw [if_pos h, Lib.lastOcc_hit _ _ _ h, if_pos (by omega)]; omega
    · rw [if_neg h, ih, Lib.lastOcc_miss _ _ _ (by simpa using h)]
def li (w : List UInt8) : Int := Lib.lastOcc w [108, 114] w.length
theorem occ_end (w : List UInt8) (k : Nat) (h : w.length ≤ k + 1) : Lib.occAt w [108, 114] k = false := by
  cases hc : Lib.occAt w [108, 114] k
  · rfl
  · have := Lib.occAt_room hc
    simp at this
    omega
theorem li_eq (w : List UInt8) : Lib.lastIndex w [108, 114] = li w := by
  unfold Lib.lastIndex li
  cases w with
  | nil => rfl
  | cons x t =>
    cases t with
    | nil =>
      rw [if_neg (by simp)]
      show -1 = Lib.lastOcc [x] [108, 114] 1
      rw [Lib.lastOcc_miss _ _ _ (occ_end [x] 0 (by simp))]; rfl
    | cons y t =>
      rw [if_pos (by simp)]
      show Lib.lastOcc _ _ (t.length + 1 + 1 - 2 + 1) = Lib.lastOcc _ _ (t.length + 1 + 1)
      rw [Lib.lastOcc_miss _ _ _ (occ_end (x :: y :: t) (t.length + 1) (by simp))]
      rfl
theorem li_cons (x : UInt8) (t : List UInt8) : li (x :: t) = if 0 ≤ li t then li t + 1 else if x = 108 ∧ t.head? = some 114 then 0 else -1 := lastOcc_cons x t t.length
theorem li_lt (w : List UInt8) : li w < w.length := by
  induction w with
  | nil => decide
  | cons x t ih =>
    rw [li_cons, List.length_cons]
    split
    · omega
    · split <;> omega
/-- what the program makes of a word at the place of its last lr -/
def putNext (w : List UInt8) (i : Nat) : List UInt8 := w.take i ++ 114 :: rst ((108 :: w.drop (i + 2)).count 108) ((108 :: w.drop (i + 2)).count 114)
theorem nxt_li (w : List UInt8) : (li w < 0 ∧ nxt w = none) ∨ (∃ i : Nat, li w = i ∧ i + 2 ≤ w.length ∧ nxt w = some (putNext w i)) := by
  induction w with
  | nil => exact .inl ⟨by decide, rfl⟩
  | cons x t ih =>
    rw [li_cons, nxt]
    rcases ih with ⟨h1, h2⟩ | ⟨i, h1, hb, h2⟩
    · rw [if_neg (by omega), h2]
      by_cases hx : x = 108 ∧ t.head? = some 114
      · refine .inr ⟨0, by rw [if_pos hx]; rfl, ?_, ?_⟩
        · cases t with
          | nil => simp at hx
          | cons y t => simp
        · simp only [if_pos hx]
          cases t with
          | nil => simp at hx
          | cons y t => rfl
      · rw [if_neg hx]
        refine .inl ⟨by decide, ?_⟩
        simp only [if_neg hx]
    · rw [if_pos (by omega), h2, h1]
      exact .inr ⟨i + 1, by omega, by rw [List.length_cons]; omega, rfl⟩

/- how many words have so many meetings -/
def cnt (a b : Nat) (m : Int) : Nat := (allW a b).countP fun w => decide ((invW w : Int) = m)
theorem cnt_l (a b : Nat) (m : Int) : ((allW a b).map (108 :: ·)).countP (fun w => decide ((invW w : Int) = m)) = cnt a b m := by
  rw [List.countP_map]
  unfold cnt
  congr 1
  funext w
  show decide ((invW (108 :: w) : Int) = m) = _
  rw [inv_l]
theorem cnt_r (a b : Nat) (m : Int) : ((allW a b).map (114 :: ·)).countP (fun w => decide ((invW w : Int) = m)) = cnt a b (m - a) := by
  rw [List.countP_map]
  unfold cnt
  refine List.countP_congr fun w hw => ?_
  obtain ⟨h1, _, _, h4⟩ := allW_mem _ a b (Nat.le_refl _) w hw
  simp only [Function.comp_apply, decide_eq_true_eq]
  rw [inv_r w h4, h1]
  omega
theorem cnt_a (a : Nat) (m : Int) : cnt a 0 m = if m = 0 then 1 else 0 := by
  induction a with
  | zero =>
    unfold cnt
    rw [allW]
    by_cases h : m = 0
    · subst h; rfl
    · rw [if_neg h, List.countP_cons_of_neg]
      · rfl
      · simp only [decide_eq_true_eq]; intro e; exact h (by rw [← e]; rfl)
  | succ a ih =>
    have := cnt_l a 0 m
    rw [ih] at this
    rw [← this]; unfold cnt; rw [allW]
theorem cnt_b (b : Nat) (m : Int) : cnt 0 b m = if m = 0 then 1 else 0 := by
  induction b with
  | zero => exact cnt_a 0 m
  | succ b ih =>
    have := cnt_r 0 b m
    rw [show m - ((0 : Nat) : Int) = m by omega, ih] at this
    rw [← this]; unfold cnt; rw [allW]
theorem cnt_first (a b : Nat) (m : Int) : cnt (a + 1) (b + 1) m = cnt a (b + 1) m + cnt (a + 1) b (m - (a + 1 : Nat)) := by
  rw [← cnt_l a (b + 1), ← cnt_r (a + 1) b]
  unfold cnt
  rw [allW, List.countP_append]
theorem cnt_none : ∀ n a b : Nat, a + b ≤ n → ∀ m : Int, (m < 0 ∨ m > (a : Int) * b) → cnt a b m = 0 := by
  intro n
  induction n with
  | zero =>
    intro a b h m hm
    obtain rfl : b = 0 := by omega
    rw [cnt_a, if_neg (by rintro rfl; simp at hm)]
  | succ n ih =>
    intro a b h m hm
    match a, b, h, hm with
    | a, 0, _, hm => rw [cnt_a, if_neg (by rintro rfl; simp at hm)]
    | 0, b, _, hm => rw [cnt_b, if_neg (by rintro rfl; simp at hm)]
    | a + 1, b + 1, h, hm =>
      rw [cnt_first, ih a (b + 1) (by omega) m, ih (a + 1) b (by omega)]
      · rcases hm with hm | hm
        · exact .inl (by omega)
        · right
          push_cast at hm ⊢
          rw [Int.mul_add, Int.mul_one] at hm
          omega
      · rcases hm with hm | hm
        · exact .inl hm
        · right
          push_cast at hm ⊢
          rw [Int.add_mul, Int.one_mul] at hm
          omega
theorem cnt_last : ∀ n a b, a + b ≤ n → ∀ m : Int, cnt (a + 1) (b + 1) m = cnt (a + 1) b m + cnt a (b + 1) (m - (b + 1 : Nat)) := by
  intro n
  induction n with
  | zero =>
    intro a b h m
    obtain rfl : a = 0 := by omega
    obtain rfl : b = 0 := by omega
    rw [cnt_first, cnt_b, cnt_a, cnt_a, cnt_b]
  | succ n ih =>
    intro a b h m
    rw [cnt_first]
    match a, b, h with
    | 0, 0, _ => rw [cnt_b, cnt_a, cnt_a, cnt_b]
    | 0, b + 1, h =>
      have h1 := ih 0 b (by omega) (m - ((0 + 1 : Nat) : Int))
      have h2 := cnt_first 0 b m
      rw [cnt_b] at h2
      rw [h1, h2, cnt_b, cnt_b, cnt_b]
      have e : m - ((0 + 1 : Nat) : Int) - ((b + 1 : Nat) : Int) = m - ((b + 1 + 1 : Nat) : Int) := by push_cast; omega
      rw [e]
      omega
    | a + 1, 0, h =>
      have h1 := ih a 0 (by omega) m
      have h2 := cnt_first a 0 (m - ((0 + 1 : Nat) : Int))
      rw [h1, h2, cnt_a, cnt_a, cnt_a, cnt_a]
      have e : m - ((0 + 1 : Nat) : Int) - ((a + 1 : Nat) : Int) = m - ((a + 1 + 1 : Nat) : Int) := by push_cast; omega
      rw [e]
      omega
    | a + 1, b + 1, h =>
      have h1 := ih a (b + 1) (by omega) m
      have h2 := ih (a + 1) b (by omega) (m - ((a + 1 + 1 : Nat) : Int))
      have h3 := cnt_first (a + 1) b m
      have h4 := cnt_first a (b + 1) (m - ((b + 1 + 1 : Nat) : Int))
      rw [h1, h2, h3, h4]
      have e : m - ((a + 1 + 1 : Nat) : Int) - ((b + 1 : Nat) : Int) = m - ((b + 1 + 1 : Nat) : Int) - ((a + 1 : Nat) : Int) := by push_cast; omega
      rw [e]
      omega
theorem cnt_end {a b : Nat} (ha : a ≠ 0) (hb : b ≠ 0) (m : Int) : cnt a b m = cnt a (b - 1) m + cnt (a - 1) b (m - b) := by
  obtain ⟨a, rfl⟩ := Nat.exists_eq_succ_of_ne_zero ha
  obtain ⟨b, rfl⟩ := Nat.exists_eq_succ_of_ne_zero hb
  exact cnt_last (a + b) a b (Nat.le_refl _) m

/- how many words there are -/
def chF (n : Nat) : Nat → Nat
  | 0 => 1
  | k + 1 => chF n k * (n - k) / (k + 1)
def pasc : Nat → Nat → Nat
  | _, 0 => 1
  | 0, _ + 1 => 0
  | n + 1, k + 1 => pasc n k + pasc n (k + 1)
theorem pasc_zero (n : Nat) : pasc n 0 = 1 := by cases n <;> rfl
theorem pasc_big : ∀ n k, n < k → pasc n k = 0 := by
  intro n
  induction n with
  | zero => intro k h; cases k with
    | zero => omega
    | succ k => rfl
  | succ n ih => intro k h; cases k with
    | zero => omega
    | succ k => rw [pasc, ih k (by omega), ih (k + 1) (by omega)]
theorem pasc_all (n : Nat) : pasc n n = 1 := by
  induction n with
  | zero => rfl
  | succ n ih => rw [pasc, ih, pasc_big n (n + 1) (by omega)]
theorem ch_pasc : ∀ n, n ≤ 14 → ∀ k, k ≤ n → chF n k = pasc n k := by decide
theorem allW_len : ∀ n a b, a + b ≤ n → (allW a b).length = pasc (a + b) a := by
  intro n
  induction n with
  | zero =>
    intro a b h
    obtain rfl : a = 0 := by omega
    obtain rfl : b = 0 := by omega
    rw [allW]; rfl
  | succ n ih =>
    intro a b h
    match a, b, h with
    | 0, 0, _ => rw [allW]; rfl
    | a + 1, 0, h => rw [allW, List.length_map, ih a 0 (by omega)]; show pasc a a = pasc (a + 1) (a + 1); rw [pasc_all, pasc_all]
    | 0, b + 1, h => rw [allW, List.length_map, ih 0 b (by omega), pasc_zero, pasc_zero]
    | a + 1, b + 1, h =>
      rw [allW, List.length_append, List.length_map, List.length_map, ih a (b + 1) (by omega), ih (a + 1) b (by omega), show a + 1 + (b + 1) = (a + b + 1) + 1 by omega, pasc, show a + (b + 1) = a + b + 1 by omega, show a + 1 + b = a + b + 1 by omega]
theorem all_len {a b : Nat} : (allW a b).length = pasc (a + b) a := allW_len (a + b) a b (Nat.le_refl _)
theorem pasc_le (n : Nat) : ∀ k, pasc n k ≤ 2 ^ n := by
  induction n with
  | zero => intro k; cases k <;> simp [pasc]
  | succ n ih =>
    intro k
    cases k with
    | zero => rw [pasc]; exact Nat.one_le_two_pow
    | succ k => have := ih k; have := ih (k + 1); rw [pasc, Nat.pow_succ]; omega
theorem all_len_le {a b : Nat} (h : a + b ≤ 14) : (allW a b).length ≤ 16384 := by
  rw [all_len]
  exact Nat.le_trans (pasc_le _ _) (Nat.pow_le_pow_right (by decide) h)

/-- the word of a rank, sign after sign -/
theorem rank_step {a b k : Nat} (h : a + b ≠ 0) (hk : k < (allW a b).length) :
    (k < (if a = 0 then 0 else (allW (a - 1) b).length) ∧ a ≠ 0 ∧ (allW a b)[k]? = ((allW (a - 1) b)[k]?).map (108 :: ·))
    ∨ (¬ k < (if a = 0 then 0 else (allW (a - 1) b).length) ∧ b ≠ 0 ∧ (allW a b)[k]? = ((allW a (b - 1))[k - (if a = 0 then 0 else (allW (a - 1) b).length)]?).map (114 :: ·) ∧ k - (if a = 0 then 0 else (allW (a - 1) b).length) < (allW a (b - 1)).length) := by
  match a, b, h, hk with
  | 0, 0, h, _ => exact absurd rfl h
  | a + 1, 0, _, hk =>
    rw [allW, List.length_map] at hk
    exact .inl ⟨by rw [if_neg (by omega)]; exact hk, by omega, by rw [allW, List.getElem?_map]; rfl⟩
  | 0, b + 1, _, hk =>
    rw [allW, List.length_map] at hk
    exact .inr ⟨by simp, by omega, by rw [allW, List.getElem?_map]; rfl, by simpa using hk⟩
  | a + 1, b + 1, _, hk =>
    rw [allW, List.length_append, List.length_map, List.length_map] at hk
    rw [if_neg (by omega), show a + 1 - 1 = a by omega, show b + 1 - 1 = b by omega]
    by_cases hc : k < (allW a (b + 1)).length
    · exact .inl ⟨hc, by omega, by rw [allW, List.getElem?_append_left (by rw [List.length_map]; exact hc), List.getElem?_map]⟩
    · exact .inr ⟨hc, by omega, by rw [allW, List.getElem?_append_right (by rw [List.length_map]; omega), List.getElem?_map, List.length_map], by omega⟩
end Go.Proofs.YtfojldkiagemeaaDoor
