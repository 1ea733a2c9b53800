/- Words: rows of l and r. Steps, places where two face each other, counts, and what the library's search and exchange of texts say of them. No dump is read here. -/
import Derived.Lib.ReplaceLaws
import Derived.Lib.LastIndexLaws
import Derived.Lib.SlTrimSet
import Derived.Lib.Repeat
namespace Go.Proofs.YtenpmjinbjlpbaaDoor

def isLr (b : UInt8) : Bool := b == 108 || b == 114
/-- what a word is -/
def okW (l : List UInt8) : Bool := decide (l.length ≤ 14) && l.all isLr

/-- a step: all that face each other turn -/
def stp : List UInt8 → List UInt8
  | [] => []
  | [x] => [x]
  | x :: y :: t => if x = 114 ∧ y = 108 then 108 :: 114 :: stp t else x :: stp (y :: t)
/-- how many face each other -/
def fcR : List UInt8 → Nat
  | [] => 0
  | [_] => 0
  | x :: y :: t => if x = 114 ∧ y = 108 then 1 + fcR t else fcR (y :: t)

theorem stp_two (t : List UInt8) : stp (114 :: 108 :: t) = 108 :: 114 :: stp t := by simp [stp]
theorem stp_one {x : UInt8} {t : List UInt8} (h : ¬ (x = 114 ∧ t.head? = some 108)) : stp (x :: t) = x :: stp t := by
  cases t with
  | nil => rfl
  | cons y t => rw [stp, if_neg (by simpa using h)]
theorem fcR_two (t : List UInt8) : fcR (114 :: 108 :: t) = 1 + fcR t := by simp [fcR]
theorem fcR_one {x : UInt8} {t : List UInt8} (h : ¬ (x = 114 ∧ t.head? = some 108)) : fcR (x :: t) = fcR t := by
  cases t with
  | nil => rfl
  | cons y t => rw [fcR, if_neg (by simpa using h)]

/-- two ways of a row: empty, two that face each other in front, or none there -/
theorem row_ind {p : List UInt8 → Prop} (h0 : p []) (h2 : ∀ t, p t → p (108 :: t) → p (114 :: 108 :: t)) (h1 : ∀ x t, ¬ (x = 114 ∧ t.head? = some 108) → p t → p (x :: t)) : ∀ n l, l.length ≤ n → p l := by
  intro n
  induction n with
  | zero => intro l hl; obtain rfl := List.eq_nil_of_length_eq_zero (show l.length = 0 by omega); exact h0
  | succ n ih =>
    intro l hl
    match l, hl with
    | [], _ => exact h0
    | x :: t, hl =>
      by_cases h : x = 114 ∧ t.head? = some 108
      · obtain ⟨rfl, h⟩ := h
        cases t with
        | nil => simp at h
        | cons y t =>
          obtain rfl : y = 108 := by simpa using h
          exact h2 t (ih t (by simp at hl ⊢; omega)) (ih _ (by simp at hl ⊢; omega))
      · exact h1 x t h (ih t (by simp at hl; omega))
theorem row_all {p : List UInt8 → Prop} (h0 : p []) (h2 : ∀ t, p t → p (108 :: t) → p (114 :: 108 :: t)) (h1 : ∀ x t, ¬ (x = 114 ∧ t.head? = some 108) → p t → p (x :: t)) (l : List UInt8) : p l := row_ind h0 h2 h1 l.length l (Nat.le_refl _)

theorem stp_len (l : List UInt8) : (stp l).length = l.length := by
  refine row_all (p := fun l => (stp l).length = l.length) rfl ?_ ?_ l
  · intro t h _; rw [stp_two]; simp [h]
  · intro x t hx h; rw [stp_one hx]; simp [h]
theorem stp_all (l : List UInt8) (h : l.all isLr = true) : (stp l).all isLr = true := by
  refine row_all (p := fun l => l.all isLr = true → (stp l).all isLr = true) (fun h => h) ?_ ?_ l h
  · intro t h _ ha
    rw [stp_two, List.all_cons, List.all_cons, h (by simp only [List.all_cons, Bool.and_eq_true] at ha; exact ha.2.2)]; rfl
  · intro x t hx h ha
    rw [List.all_cons, Bool.and_eq_true] at ha
    rw [stp_one hx, List.all_cons, ha.1, h ha.2]; rfl
theorem stp_ok {l : List UInt8} (h : okW l = true) : okW (stp l) = true := by
  unfold okW at h ⊢
  rw [Bool.and_eq_true] at h
  rw [stp_len, h.1, stp_all l h.2]; rfl
theorem stp_count (c : UInt8) (l : List UInt8) : (stp l).count c = l.count c := by
  refine row_all (p := fun l => (stp l).count c = l.count c) rfl ?_ ?_ l
  · intro t h _; rw [stp_two]; simp only [List.count_cons, h]; omega
  · intro x t hx h; rw [stp_one hx]; simp only [List.count_cons, h]

/-- the places of l, added up: each step takes off as many as face each other -/
def plc : Nat → List UInt8 → Nat
  | _, [] => 0
  | k, x :: t => (if x = 108 then k else 0) + plc (k + 1) t
theorem plc_stp (l : List UInt8) : ∀ k, plc k (stp l) + fcR l = plc k l := by
  refine row_all (p := fun l => ∀ k, plc k (stp l) + fcR l = plc k l) (fun _ => rfl) ?_ ?_ l
  · intro t h _ k
    rw [stp_two, fcR_two]
    have := h (k + 1 + 1)
    simp only [plc]
    rw [if_pos trivial, if_neg (by decide), if_neg (by decide), if_pos trivial]
    omega
  · intro x t hx h k
    rw [stp_one hx, fcR_one hx]
    have := h (k + 1)
    simp only [plc]
    omega

theorem pfx2 (x : UInt8) (t : List UInt8) : ([114, 108] : List UInt8).isPrefixOf (x :: t) = decide (x = 114 ∧ t.head? = some 108) := by
  cases t with
  | nil => simp [List.isPrefixOf]
  | cons y t =>
    simp only [List.isPrefixOf, List.head?_cons, Option.some.injEq, Bool.and_true]
    by_cases h1 : x = 114
    · subst h1
      by_cases h2 : y = 108
      · subst h2; rfl
      · rw [show ((108 : UInt8) == y) = false from beq_eq_false_iff_ne.2 (fun e => h2 e.symm)]; simp [h2]
    · rw [show ((114 : UInt8) == x) = false from beq_eq_false_iff_ne.2 (fun e => h1 e.symm)]; simp [h1]
theorem index_front (t : List UInt8) : Lib.index (114 :: 108 :: t) [114, 108] = 0 := by
  rw [Lib.index, if_pos (by rw [pfx2]; simp)]
theorem index_back {x : UInt8} {t : List UInt8} (h : ¬ (x = 114 ∧ t.head? = some 108)) : Lib.index (x :: t) [114, 108] = if Lib.index t [114, 108] == -1 then -1 else Lib.index t [114, 108] + 1 := by
  rw [Lib.index, if_neg (by rw [pfx2]; simpa using h)]

theorem countFrom_fc (l : List UInt8) : ∀ n, l.length < n → Lib.countFrom [114, 108] n l = fcR l := by
  refine row_all (p := fun l => ∀ n, l.length < n → Lib.countFrom [114, 108] n l = fcR l) ?_ ?_ ?_ l
  · intro n hn
    cases n with
    | zero => omega
    | succ n => rfl
  · intro t h _ n hn
    cases n with
    | zero => omega
    | succ n =>
      rw [Lib.countFrom, index_front, fcR_two]
      have := h n (by simp at hn; omega)
      simpa using this
  · intro x t hx h n hn
    cases n with
    | zero => omega
    | succ n =>
      rw [Lib.countFrom, index_back hx, fcR_one hx]
      have hd := h (n + 1) (by simp at hn; omega)
      have hg := Lib.index_ge t [114, 108]
      rw [Lib.countFrom] at hd
      by_cases hm : Lib.index t [114, 108] = -1
      · rw [hm] at hd ⊢; simpa using hd
      · have e1 : (Lib.index t [114, 108] == -1) = false := beq_eq_false_iff_ne.2 hm
        have e2 : (Lib.index t [114, 108] + 1 == -1) = false := beq_eq_false_iff_ne.2 (by omega)
        rw [e1] at hd ⊢
        simp only [Bool.false_eq_true, if_false] at hd ⊢
        rw [e2]
        simp only [Bool.false_eq_true, if_false]
        rw [← hd]
        congr 1
        have e3 : (Lib.index t [114, 108] + 1).toNat = (Lib.index t [114, 108]).toNat + 1 := by omega
        rw [e3]
        rfl
theorem count_fc (l : List UInt8) : Lib.count l [114, 108] = fcR l := countFrom_fc l _ (Nat.lt_succ_self _)
theorem index_fc (l : List UInt8) : (Lib.index l [114, 108] = -1) ↔ fcR l = 0 := by
  refine row_all (p := fun l => (Lib.index l [114, 108] = -1) ↔ fcR l = 0) ?_ ?_ ?_ l
  · exact ⟨fun _ => rfl, fun _ => rfl⟩
  · intro t _ _; rw [index_front, fcR_two]; constructor <;> intro h <;> omega
  · intro x t hx h
    rw [index_back hx, fcR_one hx, ← h]
    have hg := Lib.index_ge t [114, 108]
    by_cases hm : Lib.index t [114, 108] = -1
    · rw [hm]; simp
    · have e1 : (Lib.index t [114, 108] == -1) = false := beq_eq_false_iff_ne.2 hm
      rw [e1]; simp only [Bool.false_eq_true, if_false]; omega
theorem contains_fc (l : List UInt8) : Lib.contains l [114, 108] = decide (fcR l ≠ 0) := by
  unfold Lib.contains
  have hg := Lib.index_ge l [114, 108]
  have := index_fc l
  by_cases h : fcR l = 0
  · rw [this.2 h, h]; rfl
  · have hm : Lib.index l [114, 108] ≠ -1 := fun e => h (this.1 e)
    rw [decide_eq_true (show 0 ≤ Lib.index l [114, 108] by omega), decide_eq_true h]
theorem replaceK_stp (l : List UInt8) : Lib.replaceK [114, 108] [108, 114] (fcR l) l = stp l := by
  refine row_all (p := fun l => Lib.replaceK [114, 108] [108, 114] (fcR l) l = stp l) rfl ?_ ?_ l
  · intro t h _
    rw [fcR_two, stp_two, Nat.add_comm, Lib.replaceK, index_front]
    show [108, 114] ++ Lib.replaceK [114, 108] [108, 114] (fcR t) t = _
    rw [h]; rfl
  · intro x t hx h
    rw [fcR_one hx, stp_one hx]
    have hi := index_fc t
    have hg := Lib.index_ge t [114, 108]
    obtain ⟨n, hn⟩ : ∃ n, fcR t = n := ⟨_, rfl⟩
    rw [hn] at h hi ⊢
    cases n with
    | zero => rw [Lib.replaceK] at h ⊢; exact congrArg (x :: ·) h
    | succ n =>
      have hm : Lib.index t [114, 108] ≠ -1 := fun e => by have := hi.1 e; omega
      have e1 : (Lib.index t [114, 108] == -1) = false := beq_eq_false_iff_ne.2 hm
      have e2 : (Lib.index t [114, 108] + 1 == -1) = false := beq_eq_false_iff_ne.2 (by omega)
      have e3 : (Lib.index t [114, 108] + 1).toNat = (Lib.index t [114, 108]).toNat + 1 := by omega
      rw [Lib.replaceK, e1] at h
      rw [Lib.replaceK, index_back hx, e1]
      simp only [Bool.false_eq_true, if_false] at h ⊢
      rw [e2]
      simp only [Bool.false_eq_true, if_false]
      rw [e3, ← h]
      rfl
theorem replaceAll_stp (l : List UInt8) : Lib.replaceAll l [114, 108] [108, 114] = stp l := by
  unfold Lib.replaceAll Lib.replace Lib.replaceNum
  rw [if_neg (by decide), if_pos (Or.inl (by decide)), count_fc, replaceK_stp]
theorem count_two_le (l : List UInt8) : fcR l ≤ l.length := by
  refine row_all (p := fun l => fcR l ≤ l.length) (Nat.le_refl _) ?_ ?_ l
  · intro t h _; rw [fcR_two]; simp; omega
  · intro x t hx h; rw [fcR_one hx]; simp; omega

/-- whether two face each other at a place -/
def faceAt (l : List UInt8) (i : Nat) : Bool := decide (l[i]? = some 114) && decide (l[i + 1]? = some 108)
/-- the places below k at which two face each other -/
def facP (l : List UInt8) (k : Nat) : List Nat := (List.range k).filter (faceAt l)
theorem facP_succ (l : List UInt8) (k : Nat) : facP l (k + 1) = facP l k ++ if faceAt l k then [k] else [] := by
  unfold facP
  rw [List.range_succ, List.filter_append]
  congr 1
  cases h : faceAt l k <;> simp [List.filter, h]
theorem facP_end (l : List UInt8) (k : Nat) (h : l.length ≤ k + 1) : facP l (k + 1) = facP l k := by
  rw [facP_succ, show faceAt l k = false from ?_]
  · simp
  · unfold faceAt
    rw [List.getElem?_eq_none (show l.length ≤ k + 1 by omega)]
    simp
theorem facP_len_le (l : List UInt8) (k : Nat) : (facP l k).length ≤ k := by
  have := List.length_filter_le (faceAt l) (List.range k)
  rw [List.length_range] at this
  exact this
theorem faceAt_cons (x : UInt8) (t : List UInt8) (i : Nat) : faceAt (x :: t) (i + 1) = faceAt t i := rfl
theorem facP_cons (x : UInt8) (t : List UInt8) (k : Nat) : facP (x :: t) (k + 1) = (if faceAt (x :: t) 0 then [0] else []) ++ (facP t k).map (· + 1) := by
  unfold facP
  rw [List.range_succ_eq_map, List.filter_cons, List.filter_map]
  have e : (faceAt (x :: t) ∘ Nat.succ) = faceAt t := rfl
  rw [e]
  cases faceAt (x :: t) 0 <;> simp
theorem faceAt_zero (x : UInt8) (t : List UInt8) : faceAt (x :: t) 0 = decide (x = 114 ∧ t.head? = some 108) := by
  unfold faceAt
  cases t <;> simp
theorem facP_fc (l : List UInt8) : (facP l l.length).length = fcR l := by
  refine row_all (p := fun l => (facP l l.length).length = fcR l) rfl ?_ ?_ l
  · intro t h _
    show (facP (114 :: 108 :: t) (t.length + 1 + 1)).length = _
    rw [facP_cons, facP_cons, fcR_two, faceAt_zero, faceAt_zero]
    simp [h]
    omega
  · intro x t hx h
    show (facP (x :: t) (t.length + 1)).length = _
    rw [facP_cons, fcR_one hx, faceAt_zero, decide_eq_false hx]
    simp [h]

/-- meetings in each step -/
def metF : Nat → List UInt8 → List Nat
  | 0, _ => []
  | f + 1, l => if fcR l = 0 then [] else fcR l :: metF f (stp l)
def metL (l : List UInt8) : List Nat := metF (plc 0 l + 1) l
theorem metF_fuel : ∀ f g l, plc 0 l < f → plc 0 l < g → metF f l = metF g l := by
  intro f
  induction f with
  | zero => intro g l h; omega
  | succ f ih =>
    intro g l hf hg
    cases g with
    | zero => omega
    | succ g =>
      rw [metF, metF]
      by_cases h : fcR l = 0
      · rw [if_pos h, if_pos h]
      · rw [if_neg h, if_neg h]
        have := plc_stp l 0
        rw [ih g (stp l) (by omega) (by omega)]
theorem metL_rest {l : List UInt8} (h : fcR l = 0) : metL l = [] := by rw [metL, metF, if_pos h]
theorem metL_step {l : List UInt8} (h : fcR l ≠ 0) : metL l = fcR l :: metL (stp l) := by
  have := plc_stp l 0
  rw [metL, metF, if_neg h, metF_fuel (plc 0 l) (plc 0 (stp l) + 1) (stp l) (by omega) (by omega)]
  rfl
theorem plc_le (l : List UInt8) : ∀ k, plc k l ≤ l.length * (k + l.length) := by
  induction l with
  | nil => intro k; simp [plc]
  | cons x t ih =>
    intro k
    have := ih (k + 1)
    have e : (k + 1 + t.length) = (k + (x :: t).length) := by simp; omega
    rw [e] at this
    rw [plc, List.length_cons, Nat.succ_mul]
    have h2 : (if x = 108 then k else 0) ≤ k + (t.length + 1) := by split <;> omega
    rw [List.length_cons] at this
    omega
theorem metF_len : ∀ f l, (metF f l).length ≤ plc 0 l := by
  intro f
  induction f with
  | zero => intro l; exact Nat.zero_le _
  | succ f ih =>
    intro l
    rw [metF]
    split
    · exact Nat.zero_le _
    · rename_i h
      have := plc_stp l 0
      have := ih (stp l)
      rw [List.length_cons]
      omega

/-- the word behind so many steps -/
def stpN : Nat → List UInt8 → List UInt8
  | 0, l => l
  | n + 1, l => stp (stpN n l)
theorem stpN_len (n : Nat) (l : List UInt8) : (stpN n l).length = l.length := by
  induction n with
  | zero => rfl
  | succ n ih => rw [stpN, stp_len, ih]
theorem stpN_ok (n : Nat) {l : List UInt8} (h : okW l = true) : okW (stpN n l) = true := by
  induction n with
  | zero => exact h
  | succ n ih => exact stp_ok ih
theorem okW_len {l : List UInt8} (h : okW l = true) : l.length ≤ 14 := by
  unfold okW at h; rw [Bool.and_eq_true] at h; exact of_decide_eq_true h.1
theorem okW_at {l : List UInt8} (h : okW l = true) {b : UInt8} (hb : b ∈ l) : b = 108 ∨ b = 114 := by
  unfold okW at h; rw [Bool.and_eq_true] at h
  have := List.all_eq_true.1 h.2 b hb
  unfold isLr at this
  simpa using this

/-- the spec's step: in a prefix -/
def rst (a b : Nat) : List UInt8 := List.replicate a 108 ++ List.replicate b 114
theorem repeatL_one (c : UInt8) (n : Nat) : Lib.repeatL [c] n = List.replicate n c := by
  induction n with
  | zero => rfl
  | succ n ih => rw [Lib.repeatL, ih]; rfl
theorem count_lr (l : List UInt8) (h : l.all isLr = true) : l.count 108 + l.count 114 = l.length := by
  induction l with
  | nil => rfl
  | cons x t ih =>
    rw [List.all_cons, Bool.and_eq_true] at h
    have := ih h.2
    have h1 : x = 108 ∨ x = 114 := by have := h.1; unfold isLr at this; simpa using this
    rcases h1 with rfl | rfl <;> simp <;> omega

/-- for each l: how many r are before it -/
def num : Nat → List UInt8 → List Nat
  | _, [] => []
  | r, x :: t => if x = 114 then num (r + 1) t else r :: num r t
theorem num_snoc (l : List UInt8) (x : UInt8) : ∀ r, num r (l ++ [x]) = num r l ++ if x = 114 then [] else [r + l.count 114] := by
  induction l with
  | nil => intro r; simp only [List.nil_append, num]; split <;> simp
  | cons y t ih =>
    intro r
    rw [List.cons_append, num, num]
    by_cases h : y = 114
    · subst h
      rw [if_pos rfl, if_pos rfl, ih, List.count_cons_self]
      congr 2
      simp; omega
    · rw [if_neg h, if_neg h, ih, List.count_cons_of_ne h]; rfl
theorem num_len (l : List UInt8) (h : l.all isLr = true) : ∀ r, (num r l).length = l.count 108 := by
  induction l with
  | nil => intro r; rfl
  | cons x t ih =>
    intro r
    rw [List.all_cons, Bool.and_eq_true] at h
    have h1 : x = 108 ∨ x = 114 := by have := h.1; unfold isLr at this; simpa using this
    rcases h1 with rfl | rfl
    · rw [num, if_neg (by decide), List.length_cons, ih h.2, List.count_cons_self]
    · rw [num, if_pos rfl, ih h.2, List.count_cons_of_ne (by decide)]
def invW (l : List UInt8) : Nat := (num 0 l).sum
theorem num_sum (l : List UInt8) (h : l.all isLr = true) : ∀ r, (num r l).sum = r * l.count 108 + invW l := by
  induction l with
  | nil => intro r; simp [num, invW]
  | cons x t ih =>
    rw [List.all_cons, Bool.and_eq_true] at h
    have h1 : x = 108 ∨ x = 114 := by have := h.1; unfold isLr at this; simpa using this
    intro r
    rcases h1 with rfl | rfl
    · unfold invW
      rw [num, if_neg (by decide), num, if_neg (by decide), List.sum_cons, List.sum_cons, ih h.2 r, ih h.2 0, List.count_cons_self, Nat.mul_succ]
      omega
    · unfold invW
      rw [num, if_pos rfl, num, if_pos rfl, ih h.2, ih h.2, List.count_cons_of_ne (by decide), Nat.succ_mul, Nat.zero_add, Nat.one_mul]
      omega
theorem inv_l (t : List UInt8) : invW (108 :: t) = invW t := by unfold invW; rw [num, if_neg (by decide)]; simp
theorem inv_r (t : List UInt8) (h : t.all isLr = true) : invW (114 :: t) = t.count 108 + invW t := by
  rw [show invW (114 :: t) = (num 1 t).sum from rfl, num_sum t h, Nat.one_mul]

/-- from the other side -/
def othB (b : UInt8) : UInt8 := if b = 108 then 114 else 108
def oth (l : List UInt8) : List UInt8 := (l.map othB).reverse
theorem oth_snoc (l : List UInt8) (x : UInt8) : oth (l ++ [x]) = othB x :: oth l := by unfold oth; simp

theorem dropWhile_all {p : UInt8 → Bool} : ∀ m : List UInt8, m.dropWhile p = [] → m.all p = true := by
  intro m
  induction m with
  | nil => intro _; rfl
  | cons x t ih =>
    intro hm
    rw [List.dropWhile_cons] at hm
    by_cases hx : p x = true
    · rw [if_pos hx] at hm; rw [List.all_cons, hx, ih hm]; rfl
    · rw [if_neg hx] at hm; cases hm
theorem dropWhile_nil {p : UInt8 → Bool} : ∀ m : List UInt8, (∀ x ∈ m, p x = true) → m.dropWhile p = [] := by
  intro m
  induction m with
  | nil => intro _; rfl
  | cons x t ih => intro h; rw [List.dropWhile_cons, if_pos (h x List.mem_cons_self)]; exact ih fun y hy => h y (List.mem_cons_of_mem _ hy)
theorem trim_nil (l cs : List UInt8) : Lib.trimS l cs = [] ↔ l.all (cs.contains ·) = true := by
  unfold Lib.trimS Lib.trimRightS Lib.trimLeftS
  constructor
  · intro h
    have h4 := dropWhile_all _ h
    rw [List.all_reverse] at h4
    rw [← List.all_reverse, ← List.takeWhile_append_dropWhile (p := (cs.contains ·)) (l := l.reverse), List.all_append, h4, Bool.and_true]
    exact List.all_takeWhile
  · intro h
    have : l.reverse.dropWhile (cs.contains ·) = [] := dropWhile_nil _ fun x hx => List.all_eq_true.1 h x (List.mem_reverse.1 hx)
    rw [this]; rfl
theorem lr_contains : (fun x : UInt8 => ([108, 114] : List UInt8).contains x) = isLr := by
  funext x; unfold isLr; by_cases h1 : x = 108 <;> by_cases h2 : x = 114 <;> simp [h1, h2]
end Go.Proofs.YtenpmjinbjlpbaaDoor
