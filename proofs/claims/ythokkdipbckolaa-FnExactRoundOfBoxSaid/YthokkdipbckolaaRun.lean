/- Ants that go around a circle, in plain lists: they are where the ghosts are, and meet as often as ghosts cross. No dump is read here. -/
import Derived.Lib.Hide
namespace Go.Proofs.Ythokkdipbckolaa

/-! ### ants in one place turn -/
def flp (l : List (Int × Int)) (i : Nat) : List (Int × Int) := l.set i ((l.getD i (0, 0)).1, -(l.getD i (0, 0)).2)
def trK (i : Nat) : Nat → List (Int × Int) × Nat → List (Int × Int) × Nat
  | 0, s => s
  | k + 1, s => if ((trK i k s).1.getD i (0, 0)).1 = ((trK i k s).1.getD k (0, 0)).1 then (flp (flp (trK i k s).1 i) k, (trK i k s).2 + 1) else trK i k s
def trI : Nat → List (Int × Int) × Nat → List (Int × Int) × Nat
  | 0, s => s
  | i + 1, s => trK i i (trI i s)
def pl (l : List (Int × Int)) : List Int := l.map fun x => x.1
theorem pl_len (l : List (Int × Int)) : (pl l).length = l.length := by simp [pl]
theorem pl_at (l : List (Int × Int)) (i : Nat) : (pl l).getD i 0 = (l.getD i (0, 0)).1 := by
  unfold pl
  by_cases h : i < l.length
  · simp [List.getD, h]
  · simp [List.getD, List.getElem?_eq_none (show l.length ≤ i by omega)]
theorem flp_len (l : List (Int × Int)) (i : Nat) : (flp l i).length = l.length := by simp [flp]
theorem flp_pl (l : List (Int × Int)) (i : Nat) : pl (flp l i) = pl l := by
  unfold flp pl
  rw [List.map_set]
  by_cases h : i < l.length
  · have e : (l.getD i (0, 0)).1 = (l.map fun x => x.1)[i]'(by simpa using h) := by simp [List.getD, h]
    rw [e, List.set_getElem_self]
  · rw [List.set_eq_of_length_le (by simp; omega)]
def Opp (l : List (Int × Int)) : Prop := l.Pairwise fun a b => a.1 = b.1 → a.2 = -b.2
theorem opp_perm {l m : List (Int × Int)} (h : l.Perm m) (ho : Opp l) : Opp m :=
  (List.Perm.pairwise_iff (fun {a b} hab e => by have := hab e.symm; omega) h).1 ho
theorem getD_lt' {α : Type} {l : List α} {k : Nat} {d : α} (h : k < l.length) : l.getD k d = l[k] := by rw [List.getD_eq_getElem?_getD, List.getElem?_eq_getElem h]; rfl
theorem flp_flp {l : List (Int × Int)} (ho : Opp l) {i k : Nat} (hk : k < i) (hi : i < l.length) (he : (l.getD i (0, 0)).1 = (l.getD k (0, 0)).1) : (flp (flp l i) k).Perm l := by
  have hkl : k < l.length := by omega
  rw [getD_lt' hi, getD_lt' hkl] at he
  have hw := List.pairwise_iff_getElem.1 ho k i hkl hi hk he.symm
  have e1 : flp l i = l.set i l[k] := by
    unfold flp
    rw [getD_lt' hi]
    congr 1
    rw [Prod.ext_iff]
    exact ⟨he, by simp only; omega⟩
  have e2 : flp (flp l i) k = (l.set i l[k]).set k l[i] := by
    rw [e1]
    unfold flp
    congr 1
    rw [getD_lt' (by simpa using hkl), List.getElem_set_ne (by omega)]
    rw [Prod.ext_iff]
    exact ⟨he.symm, by simp only; omega⟩
  rw [e2]
  exact List.set_set_perm hi hkl
theorem trK_ok {l : List (Int × Int)} (i n : Nat) (ho : Opp l) (hi : i < l.length) : ∀ k, k ≤ i → (trK i k (l, n)).1.Perm l ∧ pl (trK i k (l, n)).1 = pl l ∧ (trK i k (l, n)).2 = n + ((pl l).take k).count ((pl l).getD i 0)
  | 0, _ => ⟨List.Perm.refl _, rfl, by simp [trK]⟩
  | k + 1, hk => by
    obtain ⟨h1, h2, h3⟩ := trK_ok i n ho hi k (by omega)
    have hlen := h1.length_eq
    have hkl : k < (pl l).length := by rw [pl_len]; omega
    have e1 : ((trK i k (l, n)).1.getD i (0, 0)).1 = (pl l).getD i 0 := by rw [← h2, pl_at]
    have e2 : ((trK i k (l, n)).1.getD k (0, 0)).1 = (pl l).getD k 0 := by rw [← h2, pl_at]
    have e3 : (pl l).getD k 0 = (pl l)[k] := getD_lt' hkl
    unfold trK
    split
    · rename_i he
      refine ⟨(flp_flp (opp_perm h1.symm ho) (by omega) (by omega) he).trans h1, ?_, ?_⟩
      · rw [flp_pl, flp_pl, h2]
      · show (trK i k (l, n)).2 + 1 = _
        rw [e1, e2, e3] at he
        rw [h3, List.take_succ_eq_append_getElem hkl, List.count_append, ← he]
        simp
        omega
    · rename_i he
      refine ⟨h1, h2, ?_⟩
      rw [e1, e2, e3] at he
      rw [h3, List.take_succ_eq_append_getElem hkl, List.count_append, List.count_singleton, if_neg (by simp only [beq_iff_eq]; exact fun h => he h.symm)]
      rfl

/-- pairs in one place -/
def eqP : List Int → Nat
  | [] => 0
  | x :: p => p.count x + eqP p
theorem eqP_snoc (x : Int) : ∀ p : List Int, eqP (p ++ [x]) = eqP p + p.count x
  | [] => by simp [eqP]
  | y :: p => by
    show (p ++ [x]).count y + eqP (p ++ [x]) = p.count y + eqP p + (y :: p).count x
    rw [eqP_snoc x p, List.count_append, List.count_singleton, List.count_cons]
    by_cases h : x = y
    · subst h; simp; omega
    · have h2 : ¬ y = x := fun e => h e.symm
      simp [h, h2]; omega
theorem eqP_perm {p q : List Int} (h : p.Perm q) : eqP p = eqP q := by
  induction h with
  | nil => rfl
  | cons x h ih => show _ + _ = _ + _; rw [ih, h.count_eq]
  | swap x y p =>
    show (x :: p).count y + (p.count x + eqP p) = (y :: p).count x + (p.count y + eqP p)
    rw [List.count_cons, List.count_cons]
    by_cases h : x = y
    · subst h; omega
    · have h2 : ¬ y = x := fun e => h e.symm
      simp [h, h2]; omega
  | trans h1 h2 i1 i2 => exact i1.trans i2
theorem trI_ok {l : List (Int × Int)} (n : Nat) (ho : Opp l) : ∀ i, i ≤ l.length → (trI i (l, n)).1.Perm l ∧ pl (trI i (l, n)).1 = pl l ∧ (trI i (l, n)).2 = n + eqP ((pl l).take i)
  | 0, _ => ⟨List.Perm.refl _, rfl, by simp [trI, eqP]⟩
  | i + 1, hi => by
    obtain ⟨h1, h2, h3⟩ := trI_ok n ho i (by omega)
    have hlen := h1.length_eq
    have h4 := trK_ok (l := (trI i (l, n)).1) i (trI i (l, n)).2 (opp_perm h1.symm ho) (by omega) i (Nat.le_refl _)
    have hil : i < (pl l).length := by rw [pl_len]; omega
    refine ⟨h4.1.trans h1, h4.2.1.trans h2, ?_⟩
    show (trK i i (trI i (l, n))).2 = _
    have e : trK i i (trI i (l, n)) = trK i i ((trI i (l, n)).1, (trI i (l, n)).2) := rfl
    rw [e, h4.2.2, h3, h2, List.take_succ_eq_append_getElem hil, eqP_snoc, getD_lt' hil]
    omega

/-! ### one step, and many -/
def mvC (L : Int) (x : Int × Int) : Int × Int := ((x.1 + x.2 + L) % L, x.2)
def ghC (L t : Int) (x : Int × Int) : Int × Int := ((x.1 + x.2 * t) % L, x.2)
def stepC (L : Int) (s : List (Int × Int) × Nat) : List (Int × Int) × Nat := trI s.1.length (s.1.map (mvC L), s.2)
def runC (L : Int) (l : List (Int × Int)) : Nat → List (Int × Int) × Nat
  | 0 => (l, 0)
  | t + 1 => stepC L (runC L l t)
structure Circ (L : Int) (l : List (Int × Int)) : Prop where
  pos : 2 ≤ L
  even : L % 2 = 0
  ant : ∀ x ∈ l, 0 ≤ x.1 ∧ x.1 < L ∧ x.1 % 2 = 0 ∧ (x.2 = -1 ∨ x.2 = 1)
  two : l.Pairwise fun a b => ¬ (a.1 = b.1 ∧ a.2 = b.2)
theorem mv_gh (L : Int) (t : Nat) (x : Int × Int) : mvC L (ghC L t x) = ghC L ((t + 1 : Nat) : Int) x := by
  unfold mvC ghC
  simp only
  rw [Prod.mk.injEq]
  refine ⟨?_, rfl⟩
  rw [Int.add_assoc, Int.emod_add_emod, ← Int.add_assoc, Int.add_emod_right]
  congr 1
  rw [Int.natCast_add, Int.mul_add]
  omega
theorem gh_zero {L : Int} {l : List (Int × Int)} (h : Circ L l) : l.map (ghC L 0) = l := by
  conv => rhs; rw [← List.map_id l]
  refine List.map_congr_left fun x hx => ?_
  have := h.ant x hx
  unfold ghC
  rw [Int.mul_zero, Int.add_zero, Int.emod_eq_of_lt this.1 this.2.1]
  rfl
theorem gh_opp {L : Int} {l : List (Int × Int)} (h : Circ L l) (t : Int) : Opp (l.map (ghC L t)) := by
  unfold Opp
  rw [List.pairwise_map]
  refine List.Pairwise.imp_of_mem ?_ h.two
  intro a b ha hb hab he
  have h1 := h.ant a ha
  have h2 := h.ant b hb
  unfold ghC at he ⊢
  simp only at he ⊢
  by_cases hw : a.2 = b.2
  · exfalso
    apply hab
    refine ⟨?_, hw⟩
    rw [hw, Int.emod_eq_emod_iff_emod_sub_eq_zero] at he
    have e : a.1 + b.2 * t - (b.1 + b.2 * t) = a.1 - b.1 := by omega
    rw [e, ← Int.emod_eq_emod_iff_emod_sub_eq_zero, Int.emod_eq_of_lt h1.1 h1.2.1, Int.emod_eq_of_lt h2.1 h2.2.1] at he
    exact he
  · omega
def metC (L : Int) (l : List (Int × Int)) : Nat → Nat
  | 0 => 0
  | t + 1 => metC L l t + eqP (pl (l.map (ghC L ((t + 1 : Nat) : Int))))
theorem run_ok {L : Int} {l : List (Int × Int)} (h : Circ L l) : ∀ t, (runC L l t).1.Perm (l.map (ghC L t)) ∧ (runC L l t).2 = metC L l t
  | 0 => ⟨by rw [show ((0 : Nat) : Int) = 0 from rfl, gh_zero h]; exact List.Perm.refl _, rfl⟩
  | t + 1 => by
    obtain ⟨h1, h2⟩ := run_ok h t
    have h3 : ((runC L l t).1.map (mvC L)).Perm (l.map (ghC L ((t + 1 : Nat) : Int))) := by
      have := h1.map (mvC L)
      rw [List.map_map] at this
      rw [show (mvC L ∘ ghC L (t : Int)) = ghC L ((t + 1 : Nat) : Int) from funext fun x => mv_gh L t x] at this
      exact this
    have ho := opp_perm h3.symm (gh_opp h _)
    have h4 := trI_ok (runC L l t).2 ho (runC L l t).1.length (by simp)
    refine ⟨h4.1.trans h3, ?_⟩
    show (trI (runC L l t).1.length ((runC L l t).1.map (mvC L), (runC L l t).2)).2 = _
    have h5 : eqP (pl ((runC L l t).1.map (mvC L))) = eqP (pl (l.map (ghC L ((t + 1 : Nat) : Int)))) := eqP_perm (by unfold pl; exact h3.map _)
    rw [h4.2.2, h2, List.take_of_length_le (by rw [pl_len]; simp), h5]
    rfl

/-! ### by pairs of ghosts -/
def apP (L : Int) (r y : Int × Int) : Int := if (y.1 - r.1) % L = 0 then L else (y.1 - r.1) % L
def toRight (l : List (Int × Int)) := l.filter fun x => x.2 == 1
def toLeft (l : List (Int × Int)) := l.filter fun x => x.2 == -1
def wtP (L : Int) (l : List (Int × Int)) : List Int := (toRight l).flatMap fun r => (toLeft l).map (apP L r)
def crossP (m : List (Int × Int)) : Nat := ((toRight m).map fun r => (toLeft m).countP fun y => y.1 == r.1).sum
theorem sum_add {α : Type} (f g : α → Nat) (l : List α) : (l.map fun x => f x + g x).sum = (l.map f).sum + (l.map g).sum := by
  induction l with
  | nil => rfl
  | cons x l ih => simp only [List.map_cons, List.sum_cons, ih]; omega
theorem sum_if {α : Type} (p : α → Bool) (l : List α) : (l.map fun x => if p x then 1 else 0).sum = l.countP p := by
  induction l with
  | nil => rfl
  | cons x l ih => rw [List.map_cons, List.sum_cons, ih, List.countP_cons]; omega
theorem count_pl (x : Int) (m : List (Int × Int)) : (pl m).count x = m.countP fun y => y.1 == x := by
  unfold pl List.count
  rw [List.countP_map]
  rfl
theorem eqP_cross : ∀ m : List (Int × Int), Opp m → (∀ x ∈ m, x.2 = -1 ∨ x.2 = 1) → eqP (pl m) = crossP m
  | [], _, _ => rfl
  | x :: m, ho, hw => by
    have ho2 := List.pairwise_cons.1 ho
    have ih := eqP_cross m ho2.2 (fun y hy => hw y (List.mem_cons_of_mem _ hy))
    show (pl m).count x.1 + eqP (pl m) = _
    rw [ih, count_pl]
    have split : ∀ n : List (Int × Int), (∀ y ∈ n, y.2 = -1 ∨ y.2 = 1) → (n.countP fun y => y.1 == x.1) = ((toRight n).countP fun y => y.1 == x.1) + ((toLeft n).countP fun y => y.1 == x.1) := by
      intro n
      induction n with
      | nil => intro _; rfl
      | cons y n ih =>
        intro h
        have := ih fun z hz => h z (List.mem_cons_of_mem _ hz)
        unfold toRight toLeft at *
        rw [List.countP_cons, this, List.filter_cons, List.filter_cons]
        rcases h y List.mem_cons_self with hy | hy <;> simp [hy, List.countP_cons] <;> omega
    have hsp := split m (fun y hy => hw y (List.mem_cons_of_mem _ hy))
    rcases hw x List.mem_cons_self with hx | hx
    · have h0 : ((toLeft m).countP fun y => y.1 == x.1) = 0 := by
        rw [List.countP_eq_zero]
        intro y hy he
        have h1 := List.mem_filter.1 hy
        have h2 := ho2.1 y h1.1 (by simpa using (by simpa using he : y.1 = x.1).symm)
        have h3 : y.2 = -1 := by simpa using h1.2
        omega
      have e1 : toRight (x :: m) = toRight m := by simp [toRight, hx]
      have e2 : toLeft (x :: m) = x :: toLeft m := by simp [toLeft, hx]
      unfold crossP
      rw [e1, e2, hsp, h0]
      have e3 : ((toRight m).map fun r => (x :: toLeft m).countP fun y => y.1 == r.1) = (toRight m).map fun r => ((toLeft m).countP fun y => y.1 == r.1) + if (x.1 == r.1) then 1 else 0 := by
        refine List.map_congr_left fun r _ => ?_
        rw [List.countP_cons]
      rw [e3, sum_add, sum_if (fun r : Int × Int => x.1 == r.1)]
      have e4 : ((toRight m).countP fun r => x.1 == r.1) = ((toRight m).countP fun y => y.1 == x.1) := by
        congr 1
        funext r
        exact Bool.eq_iff_iff.2 (by simp; exact eq_comm)
      rw [e4]
      omega
    · have h0 : ((toRight m).countP fun y => y.1 == x.1) = 0 := by
        rw [List.countP_eq_zero]
        intro y hy he
        have h1 := List.mem_filter.1 hy
        have h2 := ho2.1 y h1.1 (by simpa using (by simpa using he : y.1 = x.1).symm)
        have h3 : y.2 = 1 := by simpa using h1.2
        omega
      have e1 : toRight (x :: m) = x :: toRight m := by simp [toRight, hx]
      have e2 : toLeft (x :: m) = toLeft m := by simp [toLeft, hx]
      unfold crossP
      rw [e1, e2, hsp, h0, List.map_cons, List.sum_cons]
      omega
theorem right_gh (L t : Int) (l : List (Int × Int)) : toRight (l.map (ghC L t)) = (toRight l).map (ghC L t) := by
  unfold toRight; rw [List.filter_map]; rfl
theorem left_gh (L t : Int) (l : List (Int × Int)) : toLeft (l.map (ghC L t)) = (toLeft l).map (ghC L t) := by
  unfold toLeft; rw [List.filter_map]; rfl
theorem apP_iff {L : Int} (r y : Int × Int) (s : Int) (hr : r.2 = 1) (hy : y.2 = -1) : ((ghC L s y).1 = (ghC L s r).1) ↔ (2 * s - apP L r y) % L = 0 := by
  unfold ghC
  simp only [hr, hy]
  rw [Int.emod_eq_emod_iff_emod_sub_eq_zero]
  have e1 : y.1 + -1 * s - (r.1 + 1 * s) = (y.1 - r.1) - 2 * s := by omega
  rw [e1, ← Int.emod_eq_emod_iff_emod_sub_eq_zero, ← Int.emod_eq_emod_iff_emod_sub_eq_zero]
  unfold apP
  split
  · rename_i h; rw [h, Int.emod_self]; exact eq_comm
  · rw [Int.emod_emod]; exact eq_comm
theorem cross_gh {L : Int} (l : List (Int × Int)) (s : Int) : crossP (l.map (ghC L s)) = (wtP L l).countP fun a => (2 * s - a) % L == 0 := by
  unfold crossP wtP
  rw [right_gh, left_gh, List.map_map, List.countP_flatMap]
  congr 1
  refine List.map_congr_left fun r hr => ?_
  have hr2 : r.2 = 1 := by simpa using (List.mem_filter.1 hr).2
  simp only [Function.comp]
  rw [List.countP_map, List.countP_map]
  refine List.countP_congr fun y hy => ?_
  have hy2 : y.2 = -1 := by simpa using (List.mem_filter.1 hy).2
  simp only [Function.comp, beq_iff_eq]
  exact apP_iff r y s hr2 hy2

/-- how often two have met behind a time -/
def fC (L t a : Int) : Int := (2 * t - a + L) / L
theorem fC_zero {L a : Int} (h0 : 0 < a) (h1 : a ≤ L) : fC L 0 a = 0 := by
  unfold fC
  exact Int.ediv_eq_zero_of_lt (by omega) (by omega)
theorem fC_succ {L a : Int} (hL : 2 ≤ L) (he : L % 2 = 0) (ha : a % 2 = 0) (t : Int) : fC L (t + 1) a = fC L t a + if (2 * (t + 1) - a) % L = 0 then 1 else 0 := by
  unfold fC
  obtain ⟨x, hx⟩ : ∃ x, x = 2 * t - a + L := ⟨_, rfl⟩
  have e1 : 2 * (t + 1) - a + L = x + 2 := by omega
  have e2 : (2 * (t + 1) - a) % L = (x + 2) % L := by
    have : 2 * (t + 1) - a = x + 2 - L := by omega
    rw [this, Int.sub_emod_right]
  rw [e1, e2, ← hx]
  have h1 := Int.mul_ediv_add_emod x L
  have h2 := Int.emod_nonneg x (show L ≠ 0 by omega)
  have h3 := Int.emod_lt_of_pos x (show 0 < L by omega)
  obtain ⟨M, hM⟩ : ∃ M, L = 2 * M := ⟨L / 2, by omega⟩
  have hxe : x % 2 = 0 := by omega
  have hre : (x % L) % 2 = 0 := by
    have : x % L = x - L * (x / L) := by omega
    rw [this, hM, Int.mul_assoc]
    omega
  generalize x / L = q at *
  generalize hr : x % L = r at *
  have hxq : x = r + L * q := by omega
  by_cases hc : r + 2 < L
  · have e3 : (x + 2) / L = q := by
      rw [hxq, show r + L * q + 2 = (r + 2) + L * q by omega, Int.add_mul_ediv_left _ _ (by omega), Int.ediv_eq_zero_of_lt (by omega) hc]
      omega
    have e4 : (x + 2) % L = r + 2 := by
      rw [hxq, show r + L * q + 2 = (r + 2) + L * q by omega, Int.add_mul_emod_self_left, Int.emod_eq_of_lt (by omega) hc]
    rw [e3, e4, if_neg (by omega)]
    omega
  · have e5 : r + 2 = L := by omega
    have e3 : (x + 2) / L = q + 1 := by
      rw [hxq, show r + L * q + 2 = L + L * q by omega, Int.add_mul_ediv_left _ _ (by omega), Int.ediv_self (by omega)]
      omega
    have e4 : (x + 2) % L = 0 := by
      rw [hxq, show r + L * q + 2 = L + L * q by omega, Int.add_mul_emod_self_left, Int.emod_self]
    rw [e3, e4, if_pos rfl]
theorem wtP_ok {L : Int} {l : List (Int × Int)} (h : Circ L l) : ∀ a ∈ wtP L l, 0 < a ∧ a ≤ L ∧ a % 2 = 0 := by
  intro a ha
  unfold wtP at ha
  rw [List.mem_flatMap] at ha
  obtain ⟨r, hr, ha⟩ := ha
  obtain ⟨y, hy, rfl⟩ := List.mem_map.1 ha
  have h1 := h.ant r (List.mem_filter.1 hr).1
  have h2 := h.ant y (List.mem_filter.1 hy).1
  have hL := h.pos
  have he := h.even
  have h3 := Int.emod_nonneg (y.1 - r.1) (show L ≠ 0 by omega)
  have h4 := Int.emod_lt_of_pos (y.1 - r.1) (show 0 < L by omega)
  have h5 : ((y.1 - r.1) % L) % 2 = 0 := by
    have e := Int.mul_ediv_add_emod (y.1 - r.1) L
    obtain ⟨M, hM⟩ : ∃ M, L = 2 * M := ⟨L / 2, by omega⟩
    have : (y.1 - r.1) % L = (y.1 - r.1) - L * ((y.1 - r.1) / L) := by omega
    rw [this, hM, Int.mul_assoc]
    omega
  unfold apP
  split <;> omega
theorem sum_succ {L : Int} (hL : 2 ≤ L) (he : L % 2 = 0) (t : Int) : ∀ w : List Int, (∀ a ∈ w, a % 2 = 0) → (w.map (fC L (t + 1))).sum = (w.map (fC L t)).sum + ((w.countP fun a => (2 * (t + 1) - a) % L == 0 : Nat) : Int)
  | [], _ => by simp
  | a :: w, hw => by
    have ih := sum_succ hL he t w (fun b hb => hw b (List.mem_cons_of_mem _ hb))
    rw [List.map_cons, List.map_cons, List.sum_cons, List.sum_cons, ih, fC_succ hL he (hw a List.mem_cons_self), List.countP_cons]
    by_cases h : (2 * (t + 1) - a) % L = 0
    · simp [h]; omega
    · simp [h]; omega
theorem met_sum {L : Int} {l : List (Int × Int)} (h : Circ L l) : ∀ t : Nat, ((metC L l t : Nat) : Int) = ((wtP L l).map (fC L t)).sum
  | 0 => by
    have hz : ∀ w : List Int, (∀ a ∈ w, 0 < a ∧ a ≤ L) → (w.map (fC L 0)).sum = 0 := by
      intro w
      induction w with
      | nil => intro _; rfl
      | cons a w ih =>
        intro hw
        have h1 := hw a List.mem_cons_self
        rw [List.map_cons, List.sum_cons, ih (fun b hb => hw b (List.mem_cons_of_mem _ hb)), fC_zero h1.1 h1.2]
        rfl
    have := hz (wtP L l) (fun a ha => ⟨(wtP_ok h a ha).1, (wtP_ok h a ha).2.1⟩)
    rw [show ((0 : Nat) : Int) = 0 from rfl, this]
    rfl
  | t + 1 => by
    have ih := met_sum h t
    have hs := sum_succ h.pos h.even (t : Int) (wtP L l) (fun a ha => (wtP_ok h a ha).2.2)
    have hc : eqP (pl (l.map (ghC L ((t + 1 : Nat) : Int)))) = (wtP L l).countP fun a => (2 * ((t : Int) + 1) - a) % L == 0 := by
      rw [eqP_cross _ (gh_opp h _) (fun x hx => by
        obtain ⟨y, hy, rfl⟩ := List.mem_map.1 hx
        exact (h.ant y hy).2.2.2), cross_gh]
      rfl
    show ((metC L l t + eqP _ : Nat) : Int) = _
    rw [Int.natCast_add, ih, hc, show ((t + 1 : Nat) : Int) = (t : Int) + 1 from rfl, hs]
theorem trK_yes (i k : Nat) (s : List (Int × Int) × Nat) {x y : Int × Int} (hx : (trK i k s).1[i]? = some x) (hy : (trK i k s).1[k]? = some y) (h : x.1 = y.1) : trK i (k + 1) s = (flp (flp (trK i k s).1 i) k, (trK i k s).2 + 1) := by
  conv => lhs; unfold trK
  rw [List.getD_eq_getElem?_getD, hx, List.getD_eq_getElem?_getD, hy]
  exact if_pos h
theorem trK_no (i k : Nat) (s : List (Int × Int) × Nat) {x y : Int × Int} (hx : (trK i k s).1[i]? = some x) (hy : (trK i k s).1[k]? = some y) (h : ¬ x.1 = y.1) : trK i (k + 1) s = trK i k s := by
  conv => lhs; unfold trK
  rw [List.getD_eq_getElem?_getD, hx, List.getD_eq_getElem?_getD, hy]
  exact if_neg h

end Go.Proofs.Ythokkdipbckolaa
