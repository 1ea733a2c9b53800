/- Meetings in plain lists: how the program and the model come to the same ones. No dump is read here. -/
import Derived.Lib.Hide
namespace Go.Proofs.Ytdgcdlcfddjmiaa

/-! ### one put behind those that it does not lie ahead of, one after the other -/
section
variable {α : Type} (lt : α → α → Bool) (d : α)
def gK (l : List α) (x : α) : Nat → Nat
  | 0 => 0
  | k + 1 => if lt x (l.getD k d) then gK l x k else k + 1
theorem gK_le (l : List α) (x : α) : ∀ k, gK lt d l x k ≤ k
  | 0 => Nat.le_refl _
  | k + 1 => by
    unfold gK
    split
    · exact Nat.le_succ_of_le (gK_le l x k)
    · exact Nat.le_refl _
theorem gK_behind (l : List α) (x : α) : ∀ k j, gK lt d l x k ≤ j → j < k → lt x (l.getD j d) = true
  | 0, j, _, h => absurd h (Nat.not_lt_zero j)
  | k + 1, j, h, hj => by
    unfold gK at h
    split at h
    · rename_i hx
      by_cases hjk : j = k
      · subst hjk; exact hx
      · exact gK_behind l x k j h (by omega)
    · omega
theorem gK_ahead (l : List α) (x : α) : ∀ k j, gK lt d l x k = j + 1 → lt x (l.getD j d) = false
  | 0, j, h => by simp [gK] at h
  | k + 1, j, h => by
    unfold gK at h
    split at h
    · exact gK_ahead l x k j h
    · rename_i hx
      obtain rfl : k = j := by omega
      simpa using hx
def gPut (l : List α) (x : α) : List α := l.take (gK lt d l x l.length) ++ x :: l.drop (gK lt d l x l.length)
theorem gPut_len (l : List α) (x : α) : (gPut lt d l x).length = l.length + 1 := by
  have := gK_le lt d l x l.length
  unfold gPut
  rw [List.length_append, List.length_take, List.length_cons, List.length_drop]
  omega
theorem gPut_perm (l : List α) (x : α) : (gPut lt d l x).Perm (l ++ [x]) := by
  unfold gPut
  refine List.perm_middle.trans ?_
  rw [List.take_append_drop]
  exact (List.perm_append_singleton x l).symm
def gAll (g : List α) : List α := g.foldl (gPut lt d) []
theorem gAll_nil : gAll lt d [] = [] := rfl
theorem gAll_snoc (g : List α) (x : α) : gAll lt d (g ++ [x]) = gPut lt d (gAll lt d g) x := by
  unfold gAll; rw [List.foldl_append]; rfl
theorem gAll_perm (g : List α) : (gAll lt d g).Perm g := by
  have h : ∀ n, (gAll lt d (g.take n)).Perm (g.take n) := by
    intro n
    induction n with
    | zero => rw [List.take_zero]; exact List.Perm.refl _
    | succ n ih =>
      by_cases hn : n < g.length
      · rw [List.take_succ_eq_append_getElem hn, gAll_snoc]
        exact (gPut_perm lt d _ _).trans (ih.append_right _)
      · rw [List.take_of_length_le (by omega)] at ih ⊢
        exact ih
  have := h g.length
  rwa [List.take_length] at this
theorem gAll_len (g : List α) : (gAll lt d g).length = g.length := (gAll_perm lt d g).length_eq
variable {lt d}
theorem gPut_srt (hT : ∀ a b c, lt b a = false → lt c b = false → lt c a = false) (hA : ∀ a b, lt a b = true → lt b a = false) {l : List α} (x : α) (hs : l.Pairwise fun a b => lt b a = false) :
    (gPut lt d l x).Pairwise fun a b => lt b a = false := by
  have hK := gK_le lt d l x l.length
  have hb := gK_behind lt d l x l.length
  have ha := gK_ahead lt d l x l.length
  unfold gPut
  generalize gK lt d l x l.length = K at *
  have hs0 : ∀ i j, i < j → j < l.length → lt (l.getD j d) (l.getD i d) = false := fun i j hij hj => by
    have := List.pairwise_iff_getElem.1 hs i j (by omega) hj hij
    rw [List.getD_eq_getElem?_getD, List.getD_eq_getElem?_getD, List.getElem?_eq_getElem hj, List.getElem?_eq_getElem (show i < l.length by omega)]
    exact this
  have hx1 : ∀ i, i < K → lt x (l.getD i d) = false := fun i hi => by
    have h1 := ha (K - 1) (by omega)
    by_cases hik : i = K - 1
    · subst hik; exact h1
    · exact hT _ _ _ (hs0 i (K - 1) (by omega) (by omega)) h1
  have hx2 : ∀ j, K ≤ j → j < l.length → lt (l.getD j d) x = false := fun j hj hl => hA _ _ (hb j hj hl)
  have mem1 : ∀ a, a ∈ l.take K → ∃ i, i < K ∧ i < l.length ∧ a = l.getD i d := fun a h => by
    obtain ⟨i, hi, rfl⟩ := List.mem_iff_getElem.1 h
    rw [List.length_take] at hi
    refine ⟨i, by omega, by omega, ?_⟩
    rw [List.getElem_take, List.getD_eq_getElem?_getD, List.getElem?_eq_getElem (by omega)]
    rfl
  have mem2 : ∀ a, a ∈ l.drop K → ∃ j, K ≤ j ∧ j < l.length ∧ a = l.getD j d := fun a h => by
    obtain ⟨i, hi, rfl⟩ := List.mem_iff_getElem.1 h
    rw [List.length_drop] at hi
    refine ⟨K + i, by omega, by omega, ?_⟩
    rw [List.getElem_drop, List.getD_eq_getElem?_getD, List.getElem?_eq_getElem (by omega)]
    rfl
  rw [List.pairwise_append]
  refine ⟨hs.sublist (List.take_sublist K l), ?_, ?_⟩
  · rw [List.pairwise_cons]
    refine ⟨fun a h => ?_, hs.sublist (List.drop_sublist K l)⟩
    obtain ⟨j, h1, h2, rfl⟩ := mem2 a h
    exact hx2 j h1 h2
  · intro a h b hb'
    obtain ⟨i, h1, h2, rfl⟩ := mem1 a h
    rcases List.mem_cons.1 hb' with rfl | h'
    · exact hx1 i h1
    · obtain ⟨j, h3, h4, rfl⟩ := mem2 b h'
      exact hs0 i j (by omega) h4
theorem gAll_srt (hT : ∀ a b c, lt b a = false → lt c b = false → lt c a = false) (hA : ∀ a b, lt a b = true → lt b a = false) (g : List α) : (gAll lt d g).Pairwise fun a b => lt b a = false := by
  have h : ∀ n, (gAll lt d (g.take n)).Pairwise fun a b => lt b a = false := by
    intro n
    induction n with
    | zero => rw [List.take_zero]; exact List.Pairwise.nil
    | succ n ih =>
      by_cases hn : n < g.length
      · rw [List.take_succ_eq_append_getElem hn, gAll_snoc]
        exact gPut_srt hT hA _ ih
      · rw [List.take_of_length_le (by omega)] at ih ⊢
        exact ih
  have := h g.length
  rwa [List.take_length] at this
end

/-! ### meetings -/
def mLt (x y : Int × Int × Int) : Bool := decide (x.1 < y.1) || (x.1 == y.1 && decide (x.2.1 < y.2.1))
theorem mLt_iff (x y : Int × Int × Int) : mLt x y = true ↔ x.1 < y.1 ∨ (x.1 = y.1 ∧ x.2.1 < y.2.1) := by simp [mLt]
theorem mLt_no (x y : Int × Int × Int) : mLt x y = false ↔ ¬ (x.1 < y.1 ∨ (x.1 = y.1 ∧ x.2.1 < y.2.1)) := by rw [← mLt_iff]; simp
theorem mLt_t (a b c : Int × Int × Int) (h1 : mLt b a = false) (h2 : mLt c b = false) : mLt c a = false := by rw [mLt_no] at *; omega
theorem mLt_a (a b : Int × Int × Int) (h : mLt a b = true) : mLt b a = false := by rw [mLt_no]; rw [mLt_iff] at h; omega
def mSrt (l : List (Int × Int × Int)) : Prop := l.Pairwise fun a b => mLt b a = false
def mDist (l : List (Int × Int × Int)) : Prop := l.Pairwise fun a b => ¬ (a.1 = b.1 ∧ a.2.1 = b.2.1)
theorem mDist_inj {l : List (Int × Int × Int)} (h : mDist l) {a b : Int × Int × Int} (ha : a ∈ l) (hb : b ∈ l) (h1 : a.1 = b.1) (h2 : a.2.1 = b.2.1) : a = b := by
  obtain ⟨i, hi, rfl⟩ := List.mem_iff_getElem.1 ha
  obtain ⟨j, hj, rfl⟩ := List.mem_iff_getElem.1 hb
  have hp := List.pairwise_iff_getElem.1 h
  rcases Nat.lt_trichotomy i j with hij | hij | hij
  · exact absurd ⟨h1, h2⟩ (hp i j hi hj hij)
  · subst hij; rfl
  · exact absurd ⟨h1.symm, h2.symm⟩ (hp j i hj hi hij)
theorem mSrt_unique {m m' l : List (Int × Int × Int)} (hd : mDist l) (h1 : mSrt m) (p1 : m.Perm l) (h2 : mSrt m') (p2 : m'.Perm l) : m = m' :=
  List.Perm.eq_of_pairwise (le := fun a b => mLt b a = false) (fun a b ha hb k1 k2 => by
    rw [mLt_no] at k1 k2
    exact mDist_inj hd (p1.mem_iff.1 ha) (p2.mem_iff.1 hb) (by omega) (by omega)) h1 h2 (p1.trans p2.symm)
def mAllS (g : List (Int × Int × Int)) : List (Int × Int × Int) := gAll mLt (0, 0, 0) g
theorem mAllS_srt (g : List (Int × Int × Int)) : mSrt (mAllS g) := gAll_srt mLt_t mLt_a g
theorem mAllS_perm (g : List (Int × Int × Int)) : (mAllS g).Perm g := gAll_perm _ _ g

def mMk (a b : Int × Int) (n : Int) : Int × Int × Int := ((b.1 - a.1) / 2, (a.1 + b.1) / 2, n)
def rightsL (l : List (Int × Int)) := l.filter fun x => x.2 == 1
def leftsL (l : List (Int × Int)) := l.filter fun x => x.2 == -1
/-- the program's row of one ghost to the right -/
def rowI (a : Int × Int) (i : Nat) (ls : List (Int × Int)) : Nat → List (Int × Int × Int)
  | 0 => []
  | j + 1 => rowI a i ls j ++ if (ls.getD j (0, 0)).1 ≤ a.1 then [] else [mMk a (ls.getD j (0, 0)) ((i : Int) + (j : Int))]
def genI (rs ls : List (Int × Int)) : Nat → List (Int × Int × Int)
  | 0 => []
  | i + 1 => genI rs ls i ++ rowI (rs.getD i (0, 0)) i ls ls.length
def mEnd (L : Int) (c : Int × Int) : Int := if c.2 < 0 then c.1 else L - c.1
def leftB (L T P : Int) (c : Int × Int) : Bool := if mEnd L c ≤ T then decide (c.2 < 0) else decide (c.1 + c.2 * T < P)
def cntS (L T P : Int) (l : List (Int × Int)) : Nat := (l.filter (leftB L T P)).length
def rowS (L : Int) (l : List (Int × Int)) (p : Nat) : Nat → List (Int × Int × Int)
  | 0 => []
  | q + 1 => rowS L l p q ++ if (l.getD p (0, 0)).2 < 0 ∨ 0 < (l.getD (p + 1 + q) (0, 0)).2 then [] else
      [mMk (l.getD p (0, 0)) (l.getD (p + 1 + q) (0, 0)) (cntS L (((l.getD (p + 1 + q) (0, 0)).1 - (l.getD p (0, 0)).1) / 2) (((l.getD p (0, 0)).1 + (l.getD (p + 1 + q) (0, 0)).1) / 2) l)]
def genS (L : Int) (l : List (Int × Int)) : Nat → List (Int × Int × Int)
  | 0 => []
  | p + 1 => genS L l p ++ rowS L l p (l.length - (p + 1))

/-! both by counts of places -/
def cB (m : List (Int × Int)) (x : Int × Int) : Nat := (m.filter fun y => decide (y.1 < x.1)).length
def rowC (rs ls0 : List (Int × Int)) (a : Int × Int) (ls : List (Int × Int)) : List (Int × Int × Int) :=
  ls.flatMap fun b => if b.1 ≤ a.1 then [] else [mMk a b ((cB rs a : Int) + (cB ls0 b : Int))]
def genC (rs ls : List (Int × Int)) : List (Int × Int × Int) := rs.flatMap fun a => rowC rs ls a ls
def Inc (m : List (Int × Int)) : Prop := m.Pairwise fun a b => a.1 < b.1
theorem getD_lt {α : Type} {l : List α} {k : Nat} {d : α} (h : k < l.length) : l.getD k d = l[k] := by rw [List.getD_eq_getElem?_getD, List.getElem?_eq_getElem h]; rfl
theorem cB_at {m : List (Int × Int)} (h : Inc m) (i : Nat) (hi : i < m.length) : cB m m[i] = i := by
  have hp := List.pairwise_iff_getElem.1 h
  have e : m.filter (fun y => decide (y.1 < m[i].1)) = m.take i := by
    have h1 : m = m.take i ++ m.drop i := (List.take_append_drop i m).symm
    have h2 : (m.take i).filter (fun y => decide (y.1 < m[i].1)) = m.take i := by
      rw [List.filter_eq_self]
      intro a ha
      obtain ⟨j, hj, rfl⟩ := List.mem_iff_getElem.1 ha
      rw [List.length_take] at hj
      rw [List.getElem_take]
      exact decide_eq_true (hp j i (by omega) hi (by omega))
    have h3 : (m.drop i).filter (fun y => decide (y.1 < m[i].1)) = [] := by
      rw [List.filter_eq_nil_iff]
      intro a ha
      obtain ⟨j, hj, rfl⟩ := List.mem_iff_getElem.1 ha
      rw [List.length_drop] at hj
      rw [List.getElem_drop]
      simp only [decide_eq_true_eq]
      by_cases h0 : j = 0
      · subst h0; simp
      · have := hp i (i + j) hi (by omega) (by omega)
        omega
    calc m.filter (fun y => decide (y.1 < m[i].1)) = (m.take i ++ m.drop i).filter (fun y => decide (y.1 < m[i].1)) := by rw [← h1]
      _ = _ := by rw [List.filter_append, h2, h3, List.append_nil]
  unfold cB
  rw [e, List.length_take]
  omega
theorem rowI_eq {rs ls : List (Int × Int)} (hl : Inc ls) (a : Int × Int) (i : Nat) (hi : cB rs a = i) : ∀ j, j ≤ ls.length → rowI a i ls j = rowC rs ls a (ls.take j)
  | 0, _ => by simp [rowI, rowC]
  | j + 1, hj => by
    have ih := rowI_eq hl a i hi j (by omega)
    have hc := cB_at hl j (by omega)
    unfold rowI
    rw [ih, List.take_succ_eq_append_getElem (by omega), getD_lt (by omega)]
    unfold rowC
    rw [List.flatMap_append]
    congr 1
    simp only [List.flatMap_cons, List.flatMap_nil, List.append_nil, hc, hi]
theorem genI_eq {rs ls : List (Int × Int)} (hr : Inc rs) (hl : Inc ls) : genI rs ls rs.length = genC rs ls := by
  have h : ∀ i, i ≤ rs.length → genI rs ls i = (rs.take i).flatMap fun a => rowC rs ls a ls := by
    intro i
    induction i with
    | zero => intro _; simp [genI]
    | succ i ih =>
      intro hi
      unfold genI
      rw [ih (by omega), List.take_succ_eq_append_getElem (by omega), getD_lt (by omega), List.flatMap_append]
      congr 1
      simp only [List.flatMap_cons, List.flatMap_nil, List.append_nil]
      have := rowI_eq hl rs[i] i (cB_at hr i (by omega)) ls.length (Nat.le_refl _)
      rwa [List.take_length] at this
  have := h rs.length (Nat.le_refl _)
  rwa [List.take_length] at this

/-- ants of a rod: places within it and even, ways 1 or -1, in order, with those that have met the left one first -/
structure Ants (L : Int) (l : List (Int × Int)) : Prop where
  ant : ∀ x ∈ l, 0 ≤ x.1 ∧ x.1 ≤ L ∧ x.1 % 2 = 0 ∧ (x.2 = -1 ∨ x.2 = 1)
  ord : l.Pairwise fun a b => a.1 < b.1 ∨ (a.1 = b.1 ∧ a.2 < b.2)
theorem Ants.inc {L : Int} {l : List (Int × Int)} (h : Ants L l) (w : Int) : Inc (l.filter fun x => x.2 == w) := by
  have h1 := h.ord.sublist (List.filter_sublist (p := fun x => x.2 == w))
  refine List.Pairwise.imp_of_mem ?_ h1
  intro a b ha hb hab
  have ha2 := (List.mem_filter.1 ha).2
  have hb2 := (List.mem_filter.1 hb).2
  simp only [beq_iff_eq] at ha2 hb2
  omega
theorem cnt_eq {L : Int} {l : List (Int × Int)} (h : Ants L l) {a b : Int × Int} (ha : a ∈ l) (hb : b ∈ l) (_ : a.2 = 1) (_ : b.2 = -1) (hab : a.1 < b.1) :
    (cntS L ((b.1 - a.1) / 2) ((a.1 + b.1) / 2) l) = (cB (rightsL l) a) + (cB (leftsL l) b) := by
  obtain ⟨a3, a4, a5, _⟩ := h.ant a ha
  obtain ⟨b3, b4, b5, _⟩ := h.ant b hb
  unfold cntS cB rightsL leftsL
  rw [List.filter_filter, List.filter_filter]
  have key : ∀ m : List (Int × Int), (∀ x ∈ m, x ∈ l) → (m.filter (leftB L ((b.1 - a.1) / 2) ((a.1 + b.1) / 2))).length = (m.filter fun x => (decide (x.1 < a.1) && x.2 == 1)).length + (m.filter fun x => (decide (x.1 < b.1) && x.2 == -1)).length := by
    intro m
    induction m with
    | nil => intro _; rfl
    | cons c m ih =>
      intro hm
      have ih' := ih (fun x hx => hm x (List.mem_cons_of_mem _ hx))
      obtain ⟨c3, c4, c5, c6⟩ := h.ant c (hm c List.mem_cons_self)
      have e : leftB L ((b.1 - a.1) / 2) ((a.1 + b.1) / 2) c = ((decide (c.1 < a.1) && c.2 == 1) || (decide (c.1 < b.1) && c.2 == -1)) := by
        obtain ⟨c1, c2⟩ := c
        simp only at c3 c4 c5 c6
        rw [Bool.eq_iff_iff]
        unfold leftB mEnd
        rcases c6 with rfl | rfl
        · simp only [show ((-1 : Int) < 0) by decide, if_true]
          split <;> simp <;> omega
        · simp only [show ¬ ((1 : Int) < 0) by decide, if_false]
          split <;> simp <;> omega
      have e1 : ¬ ((decide (c.1 < a.1) && c.2 == 1) = true ∧ (decide (c.1 < b.1) && c.2 == -1) = true) := by
        simp only [Bool.and_eq_true, beq_iff_eq]; omega
      rw [List.filter_cons, List.filter_cons, List.filter_cons, e]
      cases h1 : (decide (c.1 < a.1) && c.2 == 1) <;> cases h2 : (decide (c.1 < b.1) && c.2 == -1)
      · simpa using ih'
      · simp; omega
      · simp; omega
      · exact absurd ⟨h1, h2⟩ e1
  exact key l (fun _ h => h)

theorem flatMap_congr' {α β : Type} {l : List α} {f g : α → List β} (h : ∀ x ∈ l, f x = g x) : l.flatMap f = l.flatMap g := by
  induction l with
  | nil => rfl
  | cons x l ih => rw [List.flatMap_cons, List.flatMap_cons, h x List.mem_cons_self, ih (fun y hy => h y (List.mem_cons_of_mem _ hy))]
theorem flatMap_nil' {α β : Type} {l : List α} {f : α → List β} (h : ∀ x ∈ l, f x = []) : l.flatMap f = [] := by
  induction l with
  | nil => rfl
  | cons x l ih => rw [List.flatMap_cons, h x List.mem_cons_self, ih (fun y hy => h y (List.mem_cons_of_mem _ hy))]; rfl
theorem flatMap_filter' {α β : Type} (p : α → Bool) (l : List α) (f : α → List β) : (l.filter p).flatMap f = l.flatMap fun x => if p x then f x else [] := by
  induction l with
  | nil => rfl
  | cons x l ih =>
    rw [List.filter_cons, List.flatMap_cons]
    by_cases hx : p x = true
    · rw [if_pos hx, if_pos hx, List.flatMap_cons, ih]
    · rw [if_neg hx, if_neg hx, ih]; rfl

theorem rowS_left {L : Int} {l : List (Int × Int)} {p : Nat} (h : (l.getD p (0, 0)).2 < 0) : ∀ q, rowS L l p q = []
  | 0 => rfl
  | q + 1 => by unfold rowS; rw [rowS_left h q, if_pos (Or.inl h)]; rfl
theorem rowS_right {L : Int} {l : List (Int × Int)} (h : Ants L l) {p : Nat} (hp : p < l.length) (hr : l[p].2 = 1) :
    ∀ q, q + (p + 1) ≤ l.length → rowS L l p q = ((l.drop (p + 1)).take q).flatMap fun b => if b.2 == -1 then (if b.1 ≤ l[p].1 then [] else [mMk l[p] b ((cB (rightsL l) l[p] : Int) + (cB (leftsL l) b : Int))]) else []
  | 0, _ => by simp [rowS]
  | q + 1, hq => by
    have ih := rowS_right h hp hr q (by omega)
    have hlt : p + 1 + q < l.length := by omega
    have hd : q < (l.drop (p + 1)).length := by rw [List.length_drop]; omega
    unfold rowS
    rw [ih, List.take_succ_eq_append_getElem hd, List.flatMap_append, getD_lt hp, getD_lt hlt]
    congr 1
    simp only [List.flatMap_cons, List.flatMap_nil, List.append_nil, List.getElem_drop]
    have hb := h.ant l[p + 1 + q] (List.getElem_mem hlt)
    have ho := List.pairwise_iff_getElem.1 h.ord p (p + 1 + q) hp hlt (by omega)
    rcases hb.2.2.2 with hb2 | hb2
    · have hab : l[p].1 < l[p + 1 + q].1 := by omega
      have hc := cnt_eq h (List.getElem_mem hp) (List.getElem_mem hlt) hr hb2 hab
      rw [if_neg (by omega), if_pos (by simp [hb2]), if_neg (by omega), hc]
      congr 1
    · rw [if_pos (Or.inr (by omega)), if_neg (by simp [hb2])]
theorem genS_eq {L : Int} {l : List (Int × Int)} (h : Ants L l) : genS L l l.length = genC (rightsL l) (leftsL l) := by
  have key : ∀ p, p ≤ l.length → genS L l p = ((l.take p).filter fun x => x.2 == 1).flatMap fun a => rowC (rightsL l) (leftsL l) a (leftsL l) := by
    intro p
    induction p with
    | zero => intro _; simp [genS]
    | succ p ih =>
      intro hp
      have hp' : p < l.length := hp
      unfold genS
      rw [ih (by omega), List.take_succ_eq_append_getElem hp', List.filter_append, List.flatMap_append]
      congr 1
      have ha := h.ant l[p] (List.getElem_mem hp')
      rcases ha.2.2.2 with ha2 | ha2
      · rw [rowS_left (by rw [getD_lt hp']; omega)]
        simp [ha2]
      · rw [rowS_right h hp' ha2 _ (by omega)]
        simp only [List.filter_cons, ha2, List.filter_nil, List.flatMap_cons, List.flatMap_nil, List.append_nil, beq_self_eq_true, if_true]
        rw [List.take_of_length_le (by rw [List.length_drop]; omega)]
        unfold rowC leftsL
        rw [flatMap_filter']
        have split2 : ∀ f : Int × Int → List (Int × Int × Int), l.flatMap f = (l.take (p + 1)).flatMap f ++ (l.drop (p + 1)).flatMap f := fun f => by
          rw [← List.flatMap_append, List.take_append_drop]
        rw [split2]
        have e0 : ((l.take (p + 1)).flatMap fun x => if (x.2 == -1) = true then (if x.1 ≤ l[p].1 then [] else [mMk l[p] x ((cB (rightsL l) l[p] : Int) + (cB (l.filter fun x => x.2 == -1) x : Int))]) else []) = [] := by
          refine flatMap_nil' fun x hx => ?_
          obtain ⟨j, hj, rfl⟩ := List.mem_iff_getElem.1 hx
          rw [List.length_take] at hj
          rw [List.getElem_take]
          by_cases hjp : j = p
          · subst hjp; rw [if_neg (by simp [ha2])]
          · have ho := List.pairwise_iff_getElem.1 h.ord j p (by omega) hp' (by omega)
            split
            · rw [if_pos (by omega)]
            · rfl
        rw [e0, List.nil_append]
  have := key l.length (Nat.le_refl _)
  rwa [List.take_length] at this

/-- what is true of each meeting -/
theorem genC_mem {L : Int} {l : List (Int × Int)} (_h : Ants L l) {m : Int × Int × Int} (hm : m ∈ genC (rightsL l) (leftsL l)) :
    ∃ a b : Int × Int, a ∈ l ∧ b ∈ l ∧ a.2 = 1 ∧ b.2 = -1 ∧ a.1 < b.1 ∧ m = mMk a b ((cB (rightsL l) a : Int) + (cB (leftsL l) b : Int)) ∧ cB (rightsL l) a < (rightsL l).length ∧ cB (leftsL l) b < (leftsL l).length := by
  unfold genC rowC at hm
  rw [List.mem_flatMap] at hm
  obtain ⟨a, ha, hm⟩ := hm
  rw [List.mem_flatMap] at hm
  obtain ⟨b, hb, hm⟩ := hm
  have hlt : ∀ (s : List (Int × Int)) (x : Int × Int), x ∈ s → cB s x < s.length := by
    intro s x hx
    unfold cB
    rw [List.length_filter_lt_length_iff_exists]
    exact ⟨x, hx, by simp⟩
  have ha' := List.mem_filter.1 ha
  have hb' := List.mem_filter.1 hb
  split at hm
  · cases hm
  · rename_i hab
    rw [List.mem_singleton] at hm
    exact ⟨a, b, ha'.1, hb'.1, by simpa using ha'.2, by simpa using hb'.2, by omega, hm, hlt _ _ ha, hlt _ _ hb⟩
theorem ways_len {L : Int} {l : List (Int × Int)} (h : Ants L l) : (rightsL l).length + (leftsL l).length = l.length := by
  have key : ∀ m : List (Int × Int), (∀ x ∈ m, x ∈ l) → (rightsL m).length + (leftsL m).length = m.length := by
    intro m
    induction m with
    | nil => intro _; rfl
    | cons c m ih =>
      intro hm
      have := ih fun x hx => hm x (List.mem_cons_of_mem _ hx)
      unfold rightsL leftsL at *
      rw [List.filter_cons, List.filter_cons]
      rcases (h.ant c (hm c List.mem_cons_self)).2.2.2 with hc | hc <;> simp [hc] <;> omega
  exact key l (fun _ h => h)
theorem genC_ok {L : Int} {l : List (Int × Int)} (h : Ants L l) {m : Int × Int × Int} (hm : m ∈ genC (rightsL l) (leftsL l)) :
    0 < m.1 ∧ m.1 * 2 ≤ L ∧ 0 ≤ m.2.1 ∧ m.2.1 ≤ L ∧ 0 ≤ m.2.2 ∧ m.2.2 + 1 < (l.length : Int) := by
  obtain ⟨a, b, ha, hb, _, _, hab, rfl, h1, h2⟩ := genC_mem h hm
  have h3 := ways_len h
  have h4 := h.ant a ha
  have h5 := h.ant b hb
  unfold mMk
  simp only
  omega
theorem genC_dist {L : Int} {l : List (Int × Int)} (h : Ants L l) : mDist (genC (rightsL l) (leftsL l)) := by
  unfold mDist genC
  rw [List.pairwise_flatMap]
  have mem : ∀ a ∈ rightsL l, a ∈ l := fun a ha => (List.mem_filter.1 ha).1
  have meml : ∀ a ∈ leftsL l, a ∈ l := fun a ha => (List.mem_filter.1 ha).1
  have row : ∀ a (ls : List (Int × Int)) (m : Int × Int × Int), m ∈ rowC (rightsL l) (leftsL l) a ls → ∃ b ∈ ls, m.1 = (b.1 - a.1) / 2 ∧ m.2.1 = (a.1 + b.1) / 2 := by
    intro a ls m hm
    unfold rowC at hm
    rw [List.mem_flatMap] at hm
    obtain ⟨b, hb, hm⟩ := hm
    split at hm
    · cases hm
    · rw [List.mem_singleton] at hm
      subst hm
      exact ⟨b, hb, rfl, rfl⟩
  refine ⟨fun a ha => ?_, ?_⟩
  · have hi := h.inc (-1)
    have a5 := h.ant a (mem a ha)
    have key : ∀ ls : List (Int × Int), Inc ls → (∀ x ∈ ls, x ∈ l) → (rowC (rightsL l) (leftsL l) a ls).Pairwise fun a b => ¬ (a.1 = b.1 ∧ a.2.1 = b.2.1) := by
      intro ls
      induction ls with
      | nil => intro _ _; exact List.Pairwise.nil
      | cons b ls ih =>
        intro h1 h2
        have ih' := ih (List.pairwise_cons.1 h1).2 (fun x hx => h2 x (List.mem_cons_of_mem _ hx))
        show (rowC (rightsL l) (leftsL l) a (b :: ls)).Pairwise _
        unfold rowC
        rw [List.flatMap_cons]
        split
        · exact ih'
        · rw [List.singleton_append, List.pairwise_cons]
          refine ⟨fun m hm => ?_, ih'⟩
          obtain ⟨b', hb', e1, e2⟩ := row a ls m hm
          have := (List.pairwise_cons.1 h1).1 b' hb'
          have b5 := h.ant b (h2 b List.mem_cons_self)
          have b5' := h.ant b' (h2 b' (List.mem_cons_of_mem _ hb'))
          rw [e1, e2]
          unfold mMk
          simp only
          omega
    exact key _ hi meml
  · have hi := h.inc 1
    refine List.Pairwise.imp_of_mem ?_ hi
    intro a a' ha ha' haa x hx y hy
    obtain ⟨b, hb, e1, e2⟩ := row a _ x hx
    obtain ⟨b', hb', e1', e2'⟩ := row a' _ y hy
    have a5 := h.ant a (mem a ha)
    have a5' := h.ant a' (mem a' ha')
    have b5 := h.ant b (meml b hb)
    have b5' := h.ant b' (meml b' hb')
    rw [e1, e2, e1', e2']
    omega
end Go.Proofs.Ytdgcdlcfddjmiaa
