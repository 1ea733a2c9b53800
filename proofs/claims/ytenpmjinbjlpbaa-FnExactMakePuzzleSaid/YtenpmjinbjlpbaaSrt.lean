/- Ants in order: one put in behind those that don't lie behind it, and all of them sorted. No dump is read here. -/
import Derived.Test.YtenpmjinbjlpbaaBase
namespace Go.Proofs.Ytenpmjinbjlpbaa

/-- the ant lies ahead of the other -/
def antLt (x y : Int × Int) : Bool := decide (x.1 < y.1) || (x.1 == y.1 && decide (x.2 < y.2))
def antLe (x y : Int × Int) : Bool := !antLt y x
theorem antLt_iff (x y : Int × Int) : antLt x y = true ↔ x.1 < y.1 ∨ (x.1 = y.1 ∧ x.2 < y.2) := by simp [antLt]
theorem antLe_iff (x y : Int × Int) : antLe x y = true ↔ ¬ (y.1 < x.1 ∨ (y.1 = x.1 ∧ y.2 < x.2)) := by
  rw [← antLt_iff]; simp [antLe]
theorem antLe_trans (a b c : Int × Int) (h1 : antLe a b = true) (h2 : antLe b c = true) : antLe a c = true := by
  rw [antLe_iff] at *; omega
theorem antLe_total (a b : Int × Int) : (antLe a b || antLe b a) = true := by
  rw [Bool.or_eq_true, antLe_iff, antLe_iff]; omega
theorem antLe_anti (a b : Int × Int) (h1 : antLe a b = true) (h2 : antLe b a = true) : a = b := by
  rw [antLe_iff] at *
  obtain ⟨a1, a2⟩ := a
  obtain ⟨b1, b2⟩ := b
  simp only at h1 h2
  rw [Prod.mk.injEq]
  omega
def Srt (l : List (Int × Int)) : Prop := l.Pairwise fun a b => antLe a b = true
def srtA (l : List (Int × Int)) : List (Int × Int) := l.mergeSort antLe
theorem srtA_perm (l : List (Int × Int)) : (srtA l).Perm l := List.mergeSort_perm l antLe
theorem srtA_srt (l : List (Int × Int)) : Srt (srtA l) := List.pairwise_mergeSort antLe_trans antLe_total l
theorem srtA_unique {m l : List (Int × Int)} (hs : Srt m) (hp : m.Perm l) : m = srtA l :=
  List.Perm.eq_of_pairwise (le := fun a b => antLe a b = true) (fun a b _ _ h1 h2 => antLe_anti a b h1 h2) hs (srtA_srt l) (hp.trans (srtA_perm l).symm)
theorem srtA_self {l : List (Int × Int)} (hs : Srt l) : srtA l = l := (srtA_unique hs (List.Perm.refl l)).symm
theorem srtA_len (l : List (Int × Int)) : (srtA l).length = l.length := (srtA_perm l).length_eq
theorem srtA_nil : srtA [] = [] := List.mergeSort_nil

/-- how many of the first k ants stay ahead -/
def putK (l : List (Int × Int)) (x : Int × Int) : Nat → Nat
  | 0 => 0
  | k + 1 => if antLt x (l.getD k (0, 0)) then putK l x k else k + 1
theorem putK_le (l : List (Int × Int)) (x : Int × Int) : ∀ k, putK l x k ≤ k
  | 0 => Nat.le_refl _
  | k + 1 => by
    unfold putK
    split
    · exact Nat.le_succ_of_le (putK_le l x k)
    · exact Nat.le_refl _
theorem putK_behind (l : List (Int × Int)) (x : Int × Int) : ∀ k j, putK l x k ≤ j → j < k → antLt x (l.getD j (0, 0)) = true
  | 0, j, _, h => absurd h (Nat.not_lt_zero j)
  | k + 1, j, h, hj => by
    unfold putK at h
    split at h
    · rename_i hx
      by_cases hjk : j = k
      · subst hjk; exact hx
      · exact putK_behind l x k j h (by omega)
    · omega
theorem putK_ahead (l : List (Int × Int)) (x : Int × Int) : ∀ k j, putK l x k = j + 1 → antLt x (l.getD j (0, 0)) = false
  | 0, j, h => by simp [putK] at h
  | k + 1, j, h => by
    unfold putK at h
    split at h
    · exact putK_ahead l x k j h
    · rename_i hx
      obtain rfl : k = j := by omega
      simpa using hx
def putA (l : List (Int × Int)) (x : Int × Int) : List (Int × Int) := l.take (putK l x l.length) ++ x :: l.drop (putK l x l.length)
theorem putA_len (l : List (Int × Int)) (x : Int × Int) : (putA l x).length = l.length + 1 := by
  have := putK_le l x l.length
  unfold putA
  rw [List.length_append, List.length_take, List.length_cons, List.length_drop]
  omega
theorem putA_perm (l : List (Int × Int)) (x : Int × Int) : (putA l x).Perm (l ++ [x]) := by
  unfold putA
  refine List.perm_middle.trans ?_
  rw [List.take_append_drop]
  exact (List.perm_append_singleton x l).symm
theorem putA_srt {l : List (Int × Int)} (x : Int × Int) (hs : Srt l) : Srt (putA l x) := by
  have hK := putK_le l x l.length
  have hb := putK_behind l x l.length
  have ha := putK_ahead l x l.length
  unfold putA
  generalize putK l x l.length = K at *
  have hs0 : ∀ i j, i < j → j < l.length → antLe (l.getD i (0, 0)) (l.getD j (0, 0)) = true := fun i j hij hj => by
    have := List.pairwise_iff_getElem.1 hs i j (by omega) hj hij
    rw [List.getD_eq_getElem?_getD, List.getD_eq_getElem?_getD, List.getElem?_eq_getElem (by omega), List.getElem?_eq_getElem hj]
    exact this
  have hx1 : ∀ i, i < K → antLe (l.getD i (0, 0)) x = true := fun i hi => by
    have h1 := ha (K - 1) (by omega)
    have h2 : antLe (l.getD (K - 1) (0, 0)) x = true := by unfold antLe; rw [h1]; rfl
    by_cases hik : i = K - 1
    · subst hik; exact h2
    · exact antLe_trans _ _ _ (hs0 i (K - 1) (by omega) (by omega)) h2
  have hx2 : ∀ j, K ≤ j → j < l.length → antLe x (l.getD j (0, 0)) = true := fun j hj hl => by
    have h1 := hb j hj hl
    rw [antLt_iff] at h1
    rw [antLe_iff]
    omega
  have mem1 : ∀ a, a ∈ l.take K → ∃ i, i < K ∧ i < l.length ∧ a = l.getD i (0, 0) := fun a h => by
    obtain ⟨i, hi, rfl⟩ := List.mem_iff_getElem.1 h
    rw [List.length_take] at hi
    refine ⟨i, by omega, by omega, ?_⟩
    rw [List.getElem_take, List.getD_eq_getElem?_getD, List.getElem?_eq_getElem (by omega)]
    rfl
  have mem2 : ∀ a, a ∈ l.drop K → ∃ j, K ≤ j ∧ j < l.length ∧ a = l.getD j (0, 0) := fun a h => by
    obtain ⟨i, hi, rfl⟩ := List.mem_iff_getElem.1 h
    rw [List.length_drop] at hi
    refine ⟨K + i, by omega, by omega, ?_⟩
    rw [List.getElem_drop, List.getD_eq_getElem?_getD, List.getElem?_eq_getElem (by omega)]
    rfl
  unfold Srt
  rw [List.pairwise_append]
  refine ⟨hs.sublist (List.take_sublist K l), ?_, ?_⟩
  · rw [List.pairwise_cons]
    refine ⟨fun a h => ?_, hs.sublist (List.drop_sublist K l)⟩
    obtain ⟨j, h1, h2, rfl⟩ := mem2 a h
    exact hx2 j h1 h2
  · intro a h b hb'
    obtain ⟨i, h1, h2, rfl⟩ := mem1 a h
    rcases List.mem_cons.1 hb' with rfl | h'
    · exact hx1 i h1
    · obtain ⟨j, h3, h4, rfl⟩ := mem2 b h'
      exact hs0 i j (by omega) h4
theorem putA_sorted {l : List (Int × Int)} (x : Int × Int) (hs : Srt l) : putA l x = srtA (l ++ [x]) := srtA_unique (putA_srt x hs) (putA_perm l x)
theorem putA_srtA (l : List (Int × Int)) (x : Int × Int) : putA (srtA l) x = srtA (l ++ [x]) :=
  srtA_unique (putA_srt x (srtA_srt l)) ((putA_perm _ _).trans ((srtA_perm l).append_right [x]))

/-- one more of a mapped list -/
theorem srt_snoc (f : Int × Int → Int × Int) (l : List (Int × Int)) (k : Nat) (x : Int × Int) (hx : l[k]? = some x) :
    putA (srtA ((l.take k).map f)) (f x) = srtA ((l.take (k + 1)).map f) := by
  obtain ⟨hk, rfl⟩ := List.getElem?_eq_some_iff.1 hx
  rw [putA_srtA, List.take_succ_eq_append_getElem hk, List.map_append]
  rfl

/-- the mirrored ants, the last first, are sorted -/
theorem srt_reverse (f : Int × Int → Int × Int) (l : List (Int × Int)) (h : l.Pairwise fun a b => antLe (f b) (f a) = true) : (l.map f).reverse = srtA (l.map f) := by
  refine srtA_unique ?_ (List.reverse_perm _)
  unfold Srt
  rw [List.pairwise_reverse, List.pairwise_map]
  exact h
end Go.Proofs.Ytenpmjinbjlpbaa
