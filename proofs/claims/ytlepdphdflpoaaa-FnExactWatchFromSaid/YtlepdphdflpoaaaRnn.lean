/- Runners, and when pairs of them meet: mathematics only; no dump is read here. -/
import Derived.Test.YtlepdphdflpoaaaMom
import Derived.Test.YtlepdphdflpoaaaSrt
namespace Go.Proofs.Ytlepdphdflpoaaa

def rnnOk (a p : Int) : Bool := decide (0 ≤ a) && decide (a ≤ 1000) && decide (-9 ≤ p) && decide (p ≤ 9)
theorem rnnOk_iff (a p : Int) : rnnOk a p = true ↔ 0 ≤ a ∧ a ≤ 1000 ∧ -9 ≤ p ∧ p ≤ 9 := by simp [rnnOk]; omega
def rnnAt (l : List (Int × Int)) (k : Nat) : Bool := rnnOk (l.getD k (0, 0)).1 (l.getD k (0, 0)).2 && (k == 0 || decide ((l.getD (k - 1) (0, 0)).1 < (l.getD k (0, 0)).1))
def rnnB (l : List (Int × Int)) : Bool := decide (l.length ≤ 12) && (List.range l.length).all (rnnAt l)
theorem rnn_len {l : List (Int × Int)} (h : rnnB l = true) : l.length ≤ 12 := by
  simp [rnnB] at h; exact h.1
theorem rnn_at {l : List (Int × Int)} (h : rnnB l = true) {k : Nat} (hk : k < l.length) : rnnAt l k = true := by
  unfold rnnB at h
  rw [Bool.and_eq_true, List.all_eq_true] at h
  exact h.2 k (List.mem_range.2 hk)
theorem rnn_one {l : List (Int × Int)} (h : rnnB l = true) {k : Nat} (hk : k < l.length) : 0 ≤ (l.getD k (0, 0)).1 ∧ (l.getD k (0, 0)).1 ≤ 1000 ∧ -9 ≤ (l.getD k (0, 0)).2 ∧ (l.getD k (0, 0)).2 ≤ 9 := by
  have := rnn_at h hk
  unfold rnnAt at this
  rw [Bool.and_eq_true, rnnOk_iff] at this
  exact this.1
theorem rnn_lt {l : List (Int × Int)} (h : rnnB l = true) : ∀ j i, i < j → j < l.length → (l.getD i (0, 0)).1 < (l.getD j (0, 0)).1 := by
  intro j
  induction j with
  | zero => intro i hi; omega
  | succ j ih =>
    intro i hi hj
    have h1 := rnn_at h hj
    unfold rnnAt at h1
    rw [Bool.and_eq_true] at h1
    have h2 : (l.getD j (0, 0)).1 < (l.getD (j + 1) (0, 0)).1 := by simpa using h1.2
    by_cases e : i = j
    · subst e; exact h2
    · have := ih i (by omega) (by omega)
      omega
theorem rnn_mem {l : List (Int × Int)} (h : rnnB l = true) {x : Int × Int} (hx : x ∈ l) : 0 ≤ x.1 ∧ x.1 ≤ 1000 ∧ -9 ≤ x.2 ∧ x.2 ≤ 9 := by
  obtain ⟨k, hk, rfl⟩ := List.mem_iff_getElem.1 hx
  have := rnn_one h hk
  rwa [List.getD_eq_getElem?_getD, List.getElem?_eq_getElem hk] at this

theorem getDp {l : List (Int × Int)} {k : Nat} (hk : k < l.length) : l.getD k (0, 0) = l[k] := by
  rw [List.getD_eq_getElem?_getD, List.getElem?_eq_getElem hk]; rfl
theorem getDq {l : List (Int × Int)} {k : Nat} (hk : k < l.length) : l[k]? = some (l.getD k (0, 0)) := by
  rw [getDp hk, List.getElem?_eq_getElem hk]

/-! ### sums of paces -/
def paSum (l : List (Int × Int)) : Int := l.foldl (fun s p => s + p.2) 0
def sqSum (l : List (Int × Int)) : Int := l.foldl (fun s p => s + p.2 * p.2) 0
theorem paSum_snoc (l : List (Int × Int)) (k : Nat) (hk : k < l.length) : paSum (l.take (k + 1)) = paSum (l.take k) + (l.getD k (0, 0)).2 := by
  unfold paSum
  rw [List.take_succ_eq_append_getElem hk, List.foldl_append, getDp hk]
  rfl
theorem sqSum_snoc (l : List (Int × Int)) (k : Nat) (hk : k < l.length) : sqSum (l.take (k + 1)) = sqSum (l.take k) + (l.getD k (0, 0)).2 * (l.getD k (0, 0)).2 := by
  unfold sqSum
  rw [List.take_succ_eq_append_getElem hk, List.foldl_append, getDp hk]
  rfl
theorem sq_le {p : Int} (h0 : -9 ≤ p) (h1 : p ≤ 9) : 0 ≤ p * p ∧ p * p ≤ 81 := by
  have : p = -9 ∨ p = -8 ∨ p = -7 ∨ p = -6 ∨ p = -5 ∨ p = -4 ∨ p = -3 ∨ p = -2 ∨ p = -1 ∨ p = 0 ∨ p = 1 ∨ p = 2 ∨ p = 3 ∨ p = 4 ∨ p = 5 ∨ p = 6 ∨ p = 7 ∨ p = 8 ∨ p = 9 := by omega
  rcases this with rfl | rfl | rfl | rfl | rfl | rfl | rfl | rfl | rfl | rfl | rfl | rfl | rfl | rfl | rfl | rfl | rfl | rfl | rfl <;> decide
theorem sums_bounds {l : List (Int × Int)} (h : rnnB l = true) : ∀ k, k ≤ l.length → -(9 * k) ≤ paSum (l.take k) ∧ paSum (l.take k) ≤ 9 * k ∧ 0 ≤ sqSum (l.take k) ∧ sqSum (l.take k) ≤ 81 * k := by
  intro k
  induction k with
  | zero => intro _; simp [paSum, sqSum]
  | succ k ih =>
    intro hk
    have h1 := ih (by omega)
    have h2 := rnn_one h (show k < l.length by omega)
    rw [paSum_snoc l k (by omega), sqSum_snoc l k (by omega)]
    have h3 := sq_le h2.2.2.1 h2.2.2.2
    omega

/-! ### ghosts at a time -/
/-- where a ghost is at N / D, times D, and its pace -/
def keyR (N D : Int) (x : Int × Int) : Int × Int := (x.1 * D + x.2 * N, x.2)
theorem key_bound {N D : Int} {x : Int × Int} (hN0 : 0 ≤ N) (hN1 : N ≤ 1000000) (hD0 : 1 ≤ D) (hD1 : D ≤ 1000) (hx : 0 ≤ x.1 ∧ x.1 ≤ 1000 ∧ -9 ≤ x.2 ∧ x.2 ≤ 9) :
    0 ≤ x.1 * D ∧ x.1 * D ≤ 1000000 ∧ -9000000 ≤ x.2 * N ∧ x.2 * N ≤ 9000000 := by
  obtain ⟨x0, x1, x2, x3⟩ := hx
  refine ⟨Int.mul_nonneg x0 (by omega), ?_, ?_, ?_⟩
  · have := Int.mul_le_mul x1 hD1 (by omega) (by omega); omega
  · have h1 : (-9) * N ≤ x.2 * N := Int.mul_le_mul_of_nonneg_right x2 hN0
    omega
  · have h1 : x.2 * N ≤ 9 * N := Int.mul_le_mul_of_nonneg_right x3 hN0
    omega

/-! ### meetings of pairs -/
/-- when the one behind, x, meets the one ahead, y -/
def meetP (x y : Int × Int) : Option (Int × Int) := if y.2 < x.2 then some (lowP (y.1 - x.1) (x.2 - y.2)) else none
def tiK (l : List (Int × Int)) : Nat → List (Int × Int)
  | 0 => []
  | k + 1 => tiK l k ++ (l.drop (k + 1)).filterMap (meetP (l.getD k (0, 0)))
def tsK (l : List (Int × Int)) : Nat → List (Int × Int)
  | 0 => []
  | k + 1 => tsK l k ++ (l.take k).filterMap (fun a => meetP a (l.getD k (0, 0)))
def tI : List (Int × Int) → List (Int × Int)
  | [] => []
  | x :: l => l.filterMap (meetP x) ++ tI l
theorem tiK_cons (x : Int × Int) (l : List (Int × Int)) : ∀ k, tiK (x :: l) (k + 1) = l.filterMap (meetP x) ++ tiK l k
  | 0 => by simp [tiK]
  | k + 1 => by
    rw [tiK, tiK_cons x l k, tiK, List.append_assoc]
    rfl
theorem tiK_all : ∀ l : List (Int × Int), tiK l l.length = tI l
  | [] => rfl
  | x :: l => by rw [List.length_cons, tiK_cons, tiK_all l]; rfl
theorem tI_snoc (y : Int × Int) : ∀ l : List (Int × Int), (tI (l ++ [y])).Perm (tI l ++ l.filterMap (fun a => meetP a y))
  | [] => by simp [tI]
  | x :: l => by
    have ih := tI_snoc y l
    show ((l ++ [y]).filterMap (meetP x) ++ tI (l ++ [y])).Perm ((l.filterMap (meetP x) ++ tI l) ++ (x :: l).filterMap fun a => meetP a y)
    rw [List.filterMap_append, List.append_assoc, List.append_assoc]
    refine List.Perm.append_left _ ?_
    refine (List.Perm.append_left _ ih).trans ?_
    have e : (x :: l).filterMap (fun a => meetP a y) = [y].filterMap (meetP x) ++ l.filterMap (fun a => meetP a y) := by
      simp only [List.filterMap_cons, List.filterMap_nil]
      cases meetP x y <;> rfl
    rw [e, ← List.append_assoc, ← List.append_assoc]
    exact List.Perm.append_right _ List.perm_append_comm
theorem tsK_perm (l : List (Int × Int)) : ∀ k, k ≤ l.length → (tI (l.take k)).Perm (tsK l k)
  | 0, _ => by simp [tI, tsK]
  | k + 1, hk => by
    rw [List.take_succ_eq_append_getElem (by omega), tsK, getDp (by omega)]
    exact (tI_snoc _ _).trans (List.Perm.append_right _ (tsK_perm l k (by omega)))
/-- all times of meetings of pairs, in the program's and in the model's order -/
def tiL (l : List (Int × Int)) : List (Int × Int) := tiK l l.length
def tsL (l : List (Int × Int)) : List (Int × Int) := tsK l l.length
theorem ti_ts (l : List (Int × Int)) : (tiL l).Perm (tsL l) := by
  unfold tiL tsL
  rw [tiK_all]
  have := tsK_perm l l.length (Nat.le_refl _)
  rwa [List.take_length] at this

theorem meetP_some {x y t : Int × Int} (h : meetP x y = some t) (hx : 0 ≤ x.1 ∧ x.1 ≤ 1000 ∧ -9 ≤ x.2 ∧ x.2 ≤ 9) (hy : 0 ≤ y.1 ∧ y.1 ≤ 1000 ∧ -9 ≤ y.2 ∧ y.2 ≤ 9) :
    -1000 ≤ t.1 ∧ t.1 ≤ 1000 ∧ 1 ≤ t.2 ∧ t.2 ≤ 18 ∧ gcdN t.1 t.2 = 1 := by
  unfold meetP at h
  split at h
  · rename_i hlt
    injection h with h
    subst h
    have hd : 0 < x.2 - y.2 := by omega
    have h1 := lowP_pos (num := y.1 - x.1) hd
    have h2 := lowP_den_le (num := y.1 - x.1) hd
    have h3 := lowP_num_abs (num := y.1 - x.1) hd 1000 (by omega) (by omega)
    have h4 := lowP_coprime (num := y.1 - x.1) hd
    exact ⟨h3.1, h3.2, by omega, by omega, h4⟩
  · cases h
theorem tiK_mem {l : List (Int × Int)} (h : rnnB l = true) : ∀ k, k ≤ l.length → ∀ t, t ∈ tiK l k → -1000 ≤ t.1 ∧ t.1 ≤ 1000 ∧ 1 ≤ t.2 ∧ t.2 ≤ 18 ∧ gcdN t.1 t.2 = 1
  | 0, _, t, ht => by simp [tiK] at ht
  | k + 1, hk, t, ht => by
    rw [tiK, List.mem_append] at ht
    rcases ht with ht | ht
    · exact tiK_mem h k (by omega) t ht
    · obtain ⟨y, hy, hm⟩ := List.mem_filterMap.1 ht
      exact meetP_some hm (rnn_one h (by omega)) (rnn_mem h (List.mem_of_mem_drop hy))
theorem tiL_mem {l : List (Int × Int)} (h : rnnB l = true) {t : Int × Int} (ht : t ∈ tiL l) : -1000 ≤ t.1 ∧ t.1 ≤ 1000 ∧ 1 ≤ t.2 ∧ t.2 ≤ 18 ∧ gcdN t.1 t.2 = 1 := tiK_mem h _ (Nat.le_refl _) t ht
theorem tsL_mem {l : List (Int × Int)} (h : rnnB l = true) {t : Int × Int} (ht : t ∈ tsL l) : -1000 ≤ t.1 ∧ t.1 ≤ 1000 ∧ 1 ≤ t.2 ∧ t.2 ≤ 18 ∧ gcdN t.1 t.2 = 1 := tiL_mem h ((ti_ts l).mem_iff.2 ht)
theorem tiK_len (l : List (Int × Int)) : ∀ k, (tiK l k).length ≤ k * l.length
  | 0 => by simp [tiK]
  | k + 1 => by
    rw [tiK, List.length_append, Nat.add_mul, Nat.one_mul]
    have h1 := tiK_len l k
    have h2 : ((l.drop (k + 1)).filterMap (meetP (l.getD k (0, 0)))).length ≤ (l.drop (k + 1)).length := List.length_filterMap_le _ _
    rw [List.length_drop] at h2
    omega
theorem tsK_len (l : List (Int × Int)) : ∀ k, (tsK l k).length ≤ k * l.length
  | 0 => by simp [tsK]
  | k + 1 => by
    rw [tsK, List.length_append, Nat.add_mul, Nat.one_mul]
    have h1 := tsK_len l k
    have h2 : ((l.take k).filterMap (fun a => meetP a (l.getD k (0, 0)))).length ≤ (l.take k).length := List.length_filterMap_le _ _
    rw [List.length_take] at h2
    omega
theorem mul_le_144 {a b : Nat} (ha : a ≤ 12) (hb : b ≤ 12) : a * b ≤ 144 := Nat.mul_le_mul ha hb
theorem tiK_144 {l : List (Int × Int)} (h : l.length ≤ 12) {k : Nat} (hk : k ≤ 12) : (tiK l k).length ≤ 144 := Nat.le_trans (tiK_len l k) (mul_le_144 hk h)
theorem tsK_144 {l : List (Int × Int)} (h : l.length ≤ 12) {k : Nat} (hk : k ≤ 12) : (tsK l k).length ≤ 144 := Nat.le_trans (tsK_len l k) (mul_le_144 hk h)
end Go.Proofs.Ytlepdphdflpoaaa
