/- Ranks of words: the sum over the signs is the place among all words. No dump is read here. -/
import Derived.Test.YtfojldkiagemeaaDoorWrdB
namespace Go.Proofs.YtfojldkiagemeaaDoor

/-- the rank of a word: for each r, all words that have an l there instead -/
def rk : List UInt8 → Nat
  | [] => 0
  | x :: t => (if x = 114 then (if t.count 108 = 0 then 0 else (allW (t.count 108 - 1) (t.count 114 + 1)).length) else 0) + rk t
theorem rk_l (t : List UInt8) : rk (108 :: t) = rk t := by rw [rk, if_neg (by decide), Nat.zero_add]
theorem rk_r (t : List UInt8) : rk (114 :: t) = (if t.count 108 = 0 then 0 else (allW (t.count 108 - 1) (t.count 114 + 1)).length) + rk t := by rw [rk, if_pos rfl]
theorem rk_at (l : List UInt8) : l.all isLr = true → (allW (l.count 108) (l.count 114))[rk l]? = some l := by
  induction l with
  | nil => intro _; show (allW 0 0)[0]? = some []; rw [allW]; rfl
  | cons x t ih =>
    intro ha
    obtain ⟨h1, h2⟩ := all_cons ha
    have hm := ih h2
    rcases h1 with rfl | rfl
    · rw [List.count_cons_self, List.count_cons_of_ne (by decide), rk_l]
      cases hb : t.count 114 with
      | zero => rw [hb] at hm; rw [allW, List.getElem?_map, hm]; rfl
      | succ b =>
        rw [hb] at hm
        rw [allW, List.getElem?_append_left (by rw [List.length_map]; exact (List.getElem?_eq_some_iff.1 hm).1), List.getElem?_map, hm]; rfl
    · rw [List.count_cons_self, List.count_cons_of_ne (by decide), rk_r]
      cases hb : t.count 108 with
      | zero => rw [hb] at hm; rw [if_pos rfl, Nat.zero_add, allW, List.getElem?_map, hm]; rfl
      | succ a =>
        rw [hb] at hm
        rw [if_neg (by omega), show a + 1 - 1 = a by omega, allW, List.getElem?_append_right (by rw [List.length_map]; omega), List.length_map, Nat.add_sub_cancel_left, List.getElem?_map, hm]; rfl
theorem ltW_irr : ∀ s : List UInt8, ¬ ltW s s
  | [] => fun h => h
  | x :: s => fun h => by
    rcases h with h | ⟨_, h⟩
    · exact absurd h (UInt8.lt_irrefl x)
    · exact ltW_irr s h
theorem allW_one {a b j k : Nat} {w : List UInt8} (hj : (allW a b)[j]? = some w) (hk : (allW a b)[k]? = some w) : j = k := by
  have hp := List.pairwise_iff_getElem.1 (allW_up (a + b) a b (Nat.le_refl _))
  obtain ⟨j1, j2⟩ := List.getElem?_eq_some_iff.1 hj
  obtain ⟨k1, k2⟩ := List.getElem?_eq_some_iff.1 hk
  rcases Nat.lt_trichotomy j k with h | h | h
  · have := hp j k j1 k1 h; rw [j2, k2] at this; exact absurd this (ltW_irr _)
  · exact h
  · have := hp k j k1 j1 h; rw [j2, k2] at this; exact absurd this (ltW_irr _)
theorem rk_lt {l : List UInt8} (ha : l.all isLr = true) : rk l < (allW (l.count 108) (l.count 114)).length := (List.getElem?_eq_some_iff.1 (rk_at l ha)).1
theorem rk_le {l : List UInt8} (ha : l.all isLr = true) (h14 : l.length ≤ 14) : rk l < 16384 := by
  have h1 := rk_lt ha
  have h2 := count_lr l ha
  have h3 := all_len_le (a := l.count 108) (b := l.count 114) (by omega)
  omega
/-- what the model adds at an r -/
theorem rk_add {t : List UInt8} (ha : t.all isLr = true) : (if t.count 108 = 0 then 0 else (allW (t.count 108 - 1) (t.count 114 + 1)).length) = if (t.count 108 : Int) - 1 < 0 then 0 else pasc t.length ((t.count 108 : Int) - 1).toNat := by
  have h2 := count_lr t ha
  by_cases h : t.count 108 = 0
  · rw [if_pos h, if_pos (by omega)]
  · rw [if_neg h, if_neg (by omega), all_len, show ((t.count 108 : Int) - 1).toNat = t.count 108 - 1 by omega, show t.count 108 - 1 + (t.count 114 + 1) = t.length by omega]
end Go.Proofs.YtfojldkiagemeaaDoor
