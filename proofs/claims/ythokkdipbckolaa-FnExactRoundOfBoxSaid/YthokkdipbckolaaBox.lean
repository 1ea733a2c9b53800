/- Ants between walls, in plain lists: behind a time they are where the ghosts on a round of twice the length are, in their order; they meet as often as ghosts cross. No dump is read here. -/
import Derived.Test.YthokkdipbckolaaSrt
import Derived.Test.YthokkdipbckolaaRun
namespace Go.Proofs.Ythokkdipbckolaa

/-- one ant goes on, and turns at a wall -/
def wallB (L : Int) (x : Int × Int) : Bool := (x.1 + x.2 == 0) || (x.1 + x.2 == L)
def bmv (L : Int) (x : Int × Int) : Int × Int := (x.1 + x.2, if wallB L x then -x.2 else x.2)
/-- those that are in one place turn: the first k pairs of neighbours have been looked at -/
def tuB : Nat → List (Int × Int) × Nat → List (Int × Int) × Nat
  | 0, s => s
  | k + 1, s => if ((tuB k s).1.getD (k + 1) (0, 0)).1 = ((tuB k s).1.getD k (0, 0)).1 then
      (((tuB k s).1.set k (((tuB k s).1.getD k (0, 0)).1, -1)).set (k + 1) (((tuB k s).1.getD (k + 1) (0, 0)).1, 1), (tuB k s).2 + 1) else tuB k s
theorem tuB_yes (k : Nat) (s : List (Int × Int) × Nat) {x y : Int × Int} (hx : (tuB k s).1[k + 1]? = some x) (hy : (tuB k s).1[k]? = some y) (h : x.1 = y.1) : tuB (k + 1) s = (((tuB k s).1.set k (y.1, -1)).set (k + 1) (x.1, 1), (tuB k s).2 + 1) := by
  conv => lhs; unfold tuB
  rw [List.getD_eq_getElem?_getD, hx, List.getD_eq_getElem?_getD, hy]
  exact if_pos h
theorem tuB_no (k : Nat) (s : List (Int × Int) × Nat) {x y : Int × Int} (hx : (tuB k s).1[k + 1]? = some x) (hy : (tuB k s).1[k]? = some y) (h : ¬ x.1 = y.1) : tuB (k + 1) s = tuB k s := by
  conv => lhs; unfold tuB
  rw [List.getD_eq_getElem?_getD, hx, List.getD_eq_getElem?_getD, hy]
  exact if_neg h
theorem tuB_len (s : List (Int × Int) × Nat) : ∀ k, (tuB k s).1.length = s.1.length
  | 0 => rfl
  | k + 1 => by
    have h := tuB_len s k
    unfold tuB
    split
    · simp [h]
    · exact h

/-- neighbours that come to one place come from both sides, and nobody else is there -/
def Nei (v : List (Int × Int)) : Prop := ∀ (i j : Nat) (x y : Int × Int), i < j → v[i]? = some x → v[j]? = some y → x.1 ≤ y.1 ∧ (x.1 = y.1 → x.2 = 1 ∧ y.2 = -1)
theorem Nei.next {v : List (Int × Int)} (h : Nei v) {i j : Nat} {x y : Int × Int} (hij : i < j) (hx : v[i]? = some x) (hy : v[j]? = some y) (he : x.1 = y.1) : j = i + 1 := by
  by_cases hj : j = i + 1
  · exact hj
  · exfalso
    have hjl := (List.getElem?_eq_some_iff.1 hy).1
    obtain ⟨z, hz⟩ : ∃ z, v[i + 1]? = some z := ⟨_, List.getElem?_eq_getElem (by omega)⟩
    have h1 := h i (i + 1) x z (by omega) hx hz
    have h2 := h (i + 1) j z y (by omega) hz hy
    have e1 : x.1 = z.1 := by omega
    have e2 : z.1 = y.1 := by omega
    have := (h1.2 e1).2
    have := (h2.2 e2).1
    omega
/-- how the loop leaves each one -/
structure TuI (v : List (Int × Int)) (k : Nat) (u : List (Int × Int)) : Prop where
  perm : u.Perm v
  late : ∀ (j : Nat), k < j → u[j]? = v[j]?
  place : ∀ (j : Nat) (x : Int × Int), u[j]? = some x → ∃ y, v[j]? = some y ∧ y.1 = x.1
  srt : ∀ (i j : Nat) (x y : Int × Int), i < j → j ≤ k → u[i]? = some x → u[j]? = some y → x.1 = y.1 → x.2 = -1 ∧ y.2 = 1
  here : ∀ (x y : Int × Int), u[k]? = some x → v[k]? = some y → x.2 = y.2 ∨ ∃ j z, j + 1 = k ∧ v[j]? = some z ∧ z.1 = y.1
theorem tuB_ok {v : List (Int × Int)} (m : Nat) (h : Nei v) : ∀ k, k < v.length → TuI v k (tuB k (v, m)).1
  | 0, _ => ⟨List.Perm.refl _, fun _ _ => rfl, fun j x hx => ⟨x, hx, rfl⟩, fun i j x y hij hj => by omega, fun x y hx hy => by
      left
      have hx' : v[0]? = some x := hx
      rw [hx'] at hy
      injection hy with hy
      rw [hy]⟩
  | k + 1, hk => by
    have I := tuB_ok m h k (by omega)
    have hlen := tuB_len (v, m) k
    simp only at hlen
    obtain ⟨x, hx⟩ : ∃ x, (tuB k (v, m)).1[k + 1]? = some x := ⟨_, List.getElem?_eq_getElem (by omega)⟩
    obtain ⟨y, hy⟩ : ∃ y, (tuB k (v, m)).1[k]? = some y := ⟨_, List.getElem?_eq_getElem (by omega)⟩
    have hvx : v[k + 1]? = some x := by rw [← I.late (k + 1) (by omega)]; exact hx
    obtain ⟨y0, hvy, hy0⟩ := I.place k y hy
    by_cases he : x.1 = y.1
    · rw [tuB_yes k (v, m) hx hy he]
      have hn := h k (k + 1) y0 x (by omega) hvy hvx
      have hw := hn.2 (by omega)
      have hyw : y.2 = y0.2 := by
        rcases I.here y y0 hy hvy with e | ⟨j, z, hj, hz, hze⟩
        · exact e
        · have := (h j k z y0 (by omega) hz hvy).2 hze
          omega
      generalize (tuB k (v, m)).1 = u at *
      have hku : k + 1 < u.length := by omega
      obtain ⟨_, ex⟩ := List.getElem?_eq_some_iff.1 hx
      obtain ⟨hk0, ey⟩ := List.getElem?_eq_some_iff.1 hy
      have e1 : ((y.1, -1) : Int × Int) = u[k + 1] := by
        rw [ex, Prod.ext_iff]; exact ⟨he.symm, by simp only; omega⟩
      have e2 : ((x.1, 1) : Int × Int) = u[k] := by
        rw [ey, Prod.ext_iff]; exact ⟨he, by simp only; omega⟩
      have gk : ((u.set k (y.1, -1)).set (k + 1) (x.1, 1))[k]? = some (y.1, -1) := by
        rw [List.getElem?_set_ne (by omega), List.getElem?_set_self hk0]
      have gk1 : ((u.set k (y.1, -1)).set (k + 1) (x.1, 1))[k + 1]? = some (x.1, 1) := by
        rw [List.getElem?_set_self (by simpa using hku)]
      have go : ∀ j, j ≠ k → j ≠ k + 1 → ((u.set k (y.1, -1)).set (k + 1) (x.1, 1))[j]? = u[j]? := fun j h1 h2 => by
        rw [List.getElem?_set_ne (by omega), List.getElem?_set_ne (by omega)]
      refine ⟨?_, fun j hj => ?_, fun j z hz => ?_, fun i j a b hij hj ha hb hab => ?_, fun a b ha hb => ?_⟩
      · rw [e1, e2]
        exact (List.set_set_perm hk0 hku).trans I.perm
      · show ((u.set k (y.1, -1)).set (k + 1) (x.1, 1))[j]? = _
        rw [go j (by omega) (by omega)]
        exact I.late j (by omega)
      · by_cases hjk : j = k
        · subst hjk
          replace hz : ((u.set j (y.1, -1)).set (j + 1) (x.1, 1))[j]? = some z := hz
          rw [gk] at hz
          injection hz with hz
          subst hz
          exact ⟨y0, hvy, hy0⟩
        · by_cases hjk1 : j = k + 1
          · subst hjk1
            replace hz : ((u.set k (y.1, -1)).set (k + 1) (x.1, 1))[k + 1]? = some z := hz
            rw [gk1] at hz
            injection hz with hz
            subst hz
            exact ⟨x, hvx, rfl⟩
          · replace hz : ((u.set k (y.1, -1)).set (k + 1) (x.1, 1))[j]? = some z := hz
            rw [go j hjk hjk1] at hz
            exact I.place j z hz
      · replace ha : ((u.set k (y.1, -1)).set (k + 1) (x.1, 1))[i]? = some a := ha
        replace hb : ((u.set k (y.1, -1)).set (k + 1) (x.1, 1))[j]? = some b := hb
        by_cases hjk1 : j = k + 1
        · subst hjk1
          rw [gk1] at hb
          injection hb with hb
          subst hb
          refine ⟨?_, rfl⟩
          by_cases hik : i = k
          · subst hik
            rw [gk] at ha
            injection ha with ha
            subst ha
            rfl
          · exfalso
            rw [go i hik (by omega)] at ha
            obtain ⟨a0, ha0, ha1⟩ := I.place i a ha
            have hab' : a.1 = x.1 := hab
            have := h.next (by omega) ha0 hvx (by omega)
            omega
        · by_cases hjk : j = k
          · subst hjk
            rw [gk] at hb
            injection hb with hb
            subst hb
            exfalso
            rw [go i (by omega) (by omega)] at ha
            obtain ⟨a0, ha0, ha1⟩ := I.place i a ha
            have hab' : a.1 = y.1 := hab
            have := (h i j a0 y0 hij ha0 hvy).2 (by omega)
            omega
          · rw [go j hjk hjk1] at hb
            rw [go i (by omega) (by omega)] at ha
            exact I.srt i j a b hij (by omega) ha hb hab
      · right
        rw [hvx] at hb
        injection hb with hb
        subst hb
        exact ⟨k, y0, rfl, hvy, by omega⟩
    · rw [tuB_no k (v, m) hx hy he]
      generalize (tuB k (v, m)).1 = u at *
      refine ⟨I.perm, fun j hj => I.late j (by omega), I.place, fun i j a b hij hj ha hb hab => ?_, fun a b ha hb => ?_⟩
      · by_cases hjk1 : j = k + 1
        · exfalso
          subst hjk1
          rw [hx] at hb
          injection hb with hb
          subst hb
          obtain ⟨a0, ha0, ha1⟩ := I.place i a ha
          have := h.next hij ha0 hvx (by omega)
          obtain rfl : i = k := by omega
          rw [hy] at ha
          injection ha with ha
          subst ha
          exact he hab.symm
        · exact I.srt i j a b hij (by omega) ha hb hab
      · left
        rw [hx] at ha
        rw [hvx] at hb
        injection ha with ha
        injection hb with hb
        rw [← ha, ← hb]

/-! ### order -/
structure OrdB (L t : Int) (u : List (Int × Int)) : Prop where
  ant : ∀ x ∈ u, 0 ≤ x.1 ∧ x.1 ≤ L ∧ (x.1 - t) % 2 = 0 ∧ (x.2 = -1 ∨ x.2 = 1) ∧ ¬ (x.1 = 0 ∧ x.2 = -1) ∧ ¬ (x.1 = L ∧ x.2 = 1)
  up : ∀ (i j : Nat) (x y : Int × Int), i < j → u[i]? = some x → u[j]? = some y → x.1 ≤ y.1 ∧ (x.1 = y.1 → x.2 = -1 ∧ y.2 = 1)
theorem OrdB.srt {L t : Int} {u : List (Int × Int)} (h : OrdB L t u) : Srt u := by
  unfold Srt
  rw [List.pairwise_iff_getElem]
  intro i j hi hj hij
  have := h.up i j _ _ hij (List.getElem?_eq_getElem hi) (List.getElem?_eq_getElem hj)
  rw [antLe_iff]
  omega
theorem bmv_ant {L t : Int} {u : List (Int × Int)} (hL : 2 ≤ L) (h : OrdB L t u) : ∀ x ∈ u.map (bmv L), 0 ≤ x.1 ∧ x.1 ≤ L ∧ (x.1 - (t + 1)) % 2 = 0 ∧ (x.2 = -1 ∨ x.2 = 1) ∧ ¬ (x.1 = 0 ∧ x.2 = -1) ∧ ¬ (x.1 = L ∧ x.2 = 1) := by
  intro z hz
  obtain ⟨x, hx, rfl⟩ := List.mem_map.1 hz
  have h1 := h.ant x hx
  unfold bmv wallB
  simp only [Bool.or_eq_true, beq_iff_eq]
  split <;> omega
theorem bmv_nei {L t : Int} {u : List (Int × Int)} (h : OrdB L t u) : Nei (u.map (bmv L)) := by
  intro i j a b hij ha hb
  rw [List.getElem?_map] at ha hb
  cases hx : u[i]? with
  | none => rw [hx] at ha; cases ha
  | some x =>
    cases hy : u[j]? with
    | none => rw [hy] at hb; cases hb
    | some y =>
      rw [hx] at ha
      rw [hy] at hb
      injection ha with ha
      injection hb with hb
      subst ha hb
      have hu := h.up i j x y hij hx hy
      have h1 := h.ant x (List.mem_of_getElem? hx)
      have h2 := h.ant y (List.mem_of_getElem? hy)
      unfold bmv wallB
      simp only [Bool.or_eq_true, beq_iff_eq]
      split <;> split <;> omega

/-- one step of all: the ants, and how often they have met -/
def stepB (L : Int) (s : List (Int × Int) × Nat) : List (Int × Int) × Nat := tuB (s.1.length - 1) (s.1.map (bmv L), s.2)
theorem step_ord {L t : Int} {u : List (Int × Int)} (m : Nat) (hL : 2 ≤ L) (h : OrdB L t u) : OrdB L (t + 1) (stepB L (u, m)).1 ∧ (stepB L (u, m)).1.Perm (u.map (bmv L)) := by
  have hn := bmv_nei h
  have ha := bmv_ant hL h
  unfold stepB
  simp only
  have hlv : (u.map (bmv L)).length = u.length := by simp
  generalize u.map (bmv L) = v at *
  by_cases h0 : u.length = 0
  · have : v = [] := List.eq_nil_of_length_eq_zero (by omega)
    subst this
    rw [h0]
    exact ⟨⟨fun x hx => (by cases hx), fun i j x y _ hx => (by cases hx)⟩, List.Perm.refl _⟩
  · have I := tuB_ok m hn (u.length - 1) (by omega)
    have hl := tuB_len (v, m) (u.length - 1)
    simp only at hl
    generalize (tuB (u.length - 1) (v, m)).1 = w at *
    refine ⟨⟨fun x hx => ha x (I.perm.mem_iff.1 hx), fun i j x y hij hx hy => ?_⟩, I.perm⟩
    have hj := (List.getElem?_eq_some_iff.1 hy).1
    obtain ⟨x0, hx0, ex⟩ := I.place i x hx
    obtain ⟨y0, hy0, ey⟩ := I.place j y hy
    have h1 := hn i j x0 y0 hij hx0 hy0
    exact ⟨by omega, fun e => I.srt i j x y hij (by omega) hx hy e⟩

/-- a ghost on its round -/
def rdB (L : Int) (x : Int × Int) (t : Int) : Int := (x.2 * x.1 + t) % (2 * L)
def bxG (L t : Int) (x : Int × Int) : Int × Int := if rdB L x t < L then (rdB L x t, 1) else (2 * L - rdB L x t, -1)
theorem rdB_in {L : Int} (hL : 2 ≤ L) (x : Int × Int) (t : Int) : 0 ≤ rdB L x t ∧ rdB L x t < 2 * L :=
  ⟨Int.emod_nonneg _ (by omega), Int.emod_lt_of_pos _ (by omega)⟩
theorem rdB_add (L : Int) (x : Int × Int) (s t : Int) : rdB L x (s + t) = (rdB L x s + t) % (2 * L) := by
  unfold rdB
  rw [Int.emod_add_emod, Int.add_assoc]
theorem rdB_succ {L : Int} (hL : 2 ≤ L) (x : Int × Int) (t : Int) : rdB L x (t + 1) = if rdB L x t + 1 = 2 * L then 0 else rdB L x t + 1 := by
  have h := rdB_in hL x t
  rw [rdB_add]
  split
  · rename_i e; rw [e, Int.emod_self]
  · exact Int.emod_eq_of_lt (by omega) (by omega)
theorem bmv_bxG {L : Int} (hL : 2 ≤ L) (x : Int × Int) (t : Int) : bmv L (bxG L t x) = bxG L (t + 1) x := by
  have h := rdB_in hL x t
  have h1 := rdB_succ hL x t
  unfold bxG bmv wallB
  rw [h1]
  generalize rdB L x t = p at *
  by_cases c1 : p < L
  · simp only [if_pos c1]
    rw [if_neg (show ¬ p + 1 = 2 * L by omega)]
    by_cases c2 : p + 1 < L
    · rw [if_pos c2, if_neg (by simp only [Bool.or_eq_true, beq_iff_eq]; omega)]
    · rw [if_neg c2, if_pos (by simp only [Bool.or_eq_true, beq_iff_eq]; omega), Prod.mk.injEq]
      omega
  · simp only [if_neg c1]
    by_cases c2 : p + 1 = 2 * L
    · rw [if_pos c2, if_pos (show (0 : Int) < L by omega), if_pos (by simp only [Bool.or_eq_true, beq_iff_eq]; omega), Prod.mk.injEq]
      omega
    · rw [if_neg c2, if_neg (show ¬ p + 1 < L by omega), if_neg (by simp only [Bool.or_eq_true, beq_iff_eq]; omega), Prod.mk.injEq]
      omega
theorem bxG_zero {L : Int} {x : Int × Int} (h : 0 ≤ x.1 ∧ x.1 ≤ L ∧ (x.2 = -1 ∨ x.2 = 1) ∧ ¬ (x.1 = 0 ∧ x.2 = -1) ∧ ¬ (x.1 = L ∧ x.2 = 1)) (hL : 2 ≤ L) : bxG L 0 x = x := by
  obtain ⟨a, b⟩ := x
  simp only at h
  unfold bxG rdB
  simp only
  rcases h.2.2.1 with rfl | rfl
  · have e : (-1 * a + 0) % (2 * L) = 2 * L - a := by
      have : -1 * a + 0 = (2 * L - a) + (2 * L) * (-1) := by omega
      rw [this, Int.add_mul_emod_self_left, Int.emod_eq_of_lt (by omega) (by omega)]
    rw [e, if_neg (by omega), Prod.mk.injEq]
    omega
  · have e : (1 * a + 0) % (2 * L) = a := by
      have : 1 * a + 0 = a := by omega
      rw [this, Int.emod_eq_of_lt (by omega) (by omega)]
    rw [e, if_pos (by omega)]

/-- a box: its ants at first -/
structure BoxL (L : Int) (l : List (Int × Int)) : Prop where
  pos : 2 ≤ L
  even : L % 2 = 0
  ord : OrdB L 0 l
def runB (L : Int) (l : List (Int × Int)) : Nat → List (Int × Int) × Nat
  | 0 => (l, 0)
  | t + 1 => stepB L (runB L l t)
theorem runB_ok {L : Int} {l : List (Int × Int)} (h : BoxL L l) : ∀ t : Nat, OrdB L t (runB L l t).1 ∧ (runB L l t).1.Perm (l.map (bxG L t))
  | 0 => by
    refine ⟨h.ord, ?_⟩
    have e : l.map (bxG L ((0 : Nat) : Int)) = l := by
      conv => rhs; rw [← List.map_id l]
      refine List.map_congr_left fun x hx => ?_
      have := h.ord.ant x hx
      exact bxG_zero ⟨this.1, this.2.1, this.2.2.2.1, this.2.2.2.2.1, this.2.2.2.2.2⟩ h.pos
    rw [e]
    exact List.Perm.refl _
  | t + 1 => by
    obtain ⟨h1, h2⟩ := runB_ok h t
    have h3 := step_ord (runB L l t).2 h.pos h1
    have e : (stepB L ((runB L l t).1, (runB L l t).2)) = runB L l (t + 1) := rfl
    rw [e] at h3
    refine ⟨h3.1, h3.2.trans ?_⟩
    have h4 := h2.map (bmv L)
    rw [List.map_map, show (bmv L ∘ bxG L (t : Int)) = bxG L ((t + 1 : Nat) : Int) from funext fun x => bmv_bxG h.pos x t] at h4
    exact h4
/-- the ants of a box behind a time -/
def bxA (L t : Int) (l : List (Int × Int)) : List (Int × Int) := srtA (l.map (bxG L t))
theorem runB_bxA {L : Int} {l : List (Int × Int)} (h : BoxL L l) (t : Nat) : (runB L l t).1 = bxA L t l :=
  srtA_unique (runB_ok h t).1.srt (runB_ok h t).2
theorem bxA_len (L t : Int) (l : List (Int × Int)) : (bxA L t l).length = l.length := by unfold bxA; rw [srtA_len]; simp
theorem bxA_in {L : Int} {l : List (Int × Int)} (hL : 2 ≤ L) (t : Int) : ∀ x ∈ bxA L t l, 0 ≤ x.1 ∧ x.1 ≤ L ∧ (x.2 = -1 ∨ x.2 = 1) := by
  intro x hx
  unfold bxA at hx
  obtain ⟨y, hy, rfl⟩ := List.mem_map.1 ((srtA_perm _).mem_iff.1 hx)
  have := rdB_in hL y t
  unfold bxG
  split
  · exact ⟨by simp only; omega, by simp only; omega, .inr rfl⟩
  · exact ⟨by simp only; omega, by simp only; omega, .inl rfl⟩
theorem runB_len {L : Int} {l : List (Int × Int)} (h : BoxL L l) (t : Nat) : (runB L l t).1.length = l.length := by rw [runB_bxA h, bxA_len]
theorem tuB_le (s : List (Int × Int) × Nat) : ∀ k, (tuB k s).2 ≤ s.2 + k
  | 0 => Nat.le_refl _
  | k + 1 => by
    have := tuB_le s k
    unfold tuB
    split
    · show (tuB k s).2 + 1 ≤ _; omega
    · omega
theorem runB_le {L : Int} {l : List (Int × Int)} (h : BoxL L l) (hl : l.length ≤ 16) : ∀ t, (runB L l t).2 ≤ 16 * t
  | 0 => Nat.le_refl _
  | t + 1 => by
    have h1 := runB_le h hl t
    have h2 := runB_len h t
    have h3 := tuB_le ((runB L l t).1.map (bmv L), (runB L l t).2) ((runB L l t).1.length - 1)
    show (tuB ((runB L l t).1.length - 1) ((runB L l t).1.map (bmv L), (runB L l t).2)).2 ≤ _
    simp only at h3
    omega
end Go.Proofs.Ythokkdipbckolaa
