/- Balls as the program goes from clack to clack and from bounce to bounce. Mathematics only; no dump is read here. -/
import Derived.Test.YtikmkmpekjijpaaPac
namespace Go.Proofs.Ytikmkmpekjijpaa

/-- the paces behind the next clack, as the program chooses it -/
def bhN (a b : Int) (s : St) : St := if fstB s.1 s.2 then clV a s.1 b s.2 else if s.1.1 < 0 then ((-s.1.1, s.1.2), s.2) else s
def bxPL (a b : Int) : Nat → St → Bool
  | 0, _ => false
  | f + 1, s => (!fstB s.1 s.2 || clOk a s.1 b s.2) && (if bxGo s then (decide (bhN a b s = bxStep a b s) && decide (bhN a b s ≠ s)) && bxPL a b f (bxStep a b s) else decide (bhN a b s = s))
theorem bx_allP : ∀ a, a < 9 → ∀ b, b < 9 → (bxPL ((a : Nat) + 1) ((b : Nat) + 1) 40 bxSt && (decide (bxK (a + 1) (b + 1) % 2 = 1) == bxBoth (a + 1) (b + 1) (bxK (a + 1) (b + 1)))) = true := by decide +kernel
theorem bx_genP (a b : Int) : ∀ f s, bxPL a b f s = true → ∀ N : Nat → St, N 0 = s → (∀ k, N (k + 1) = bxStep a b (N k)) →
    (∀ k, k < bxF a b f s → bhN a b (N k) = N (k + 1) ∧ N (k + 1) ≠ N k) ∧ bhN a b (N (bxF a b f s)) = N (bxF a b f s) ∧ ∀ k, k ≤ bxF a b f s → fstB (N k).1 (N k).2 = true → clOk a (N k).1 b (N k).2 = true := by
  intro f
  induction f with
  | zero => intro s h; simp [bxPL] at h
  | succ f ih =>
    intro s h N h0 hN
    rw [bxPL, Bool.and_eq_true] at h
    obtain ⟨hc, h⟩ := h
    have hc' : fstB s.1 s.2 = true → clOk a s.1 b s.2 = true := fun hx => by rw [hx] at hc; simpa using hc
    rw [bxF]
    cases hg : bxGo s with
    | false =>
      rw [hg, if_neg (by simp), decide_eq_true_eq] at h
      rw [if_neg (by simp)]
      refine ⟨fun k hk => absurd hk (by omega), by rw [h0]; exact h, fun k hk => ?_⟩
      obtain rfl : k = 0 := by omega
      rw [h0]; exact hc'
    | true =>
      rw [hg, if_pos rfl, Bool.and_eq_true, Bool.and_eq_true, decide_eq_true_eq, decide_eq_true_eq] at h
      rw [if_pos rfl]
      obtain ⟨⟨p1, p2⟩, h2⟩ := h
      obtain ⟨i1, i2, i3⟩ := ih (bxStep a b s) h2 (fun k => N (k + 1)) (by rw [hN, h0]) (fun k => hN (k + 1))
      refine ⟨fun k hk => ?_, i2, fun k hk => ?_⟩
      · cases k with
        | zero => rw [hN, h0]; exact ⟨p1, by rw [← p1]; exact p2⟩
        | succ k => exact i1 k (by omega)
      · cases k with
        | zero => rw [h0]; exact hc'
        | succ k => exact i3 k (by omega)
/-- what the program goes by: each clack changes the paces, the last ones stay, and the first clack is one of both -/
theorem bx_factsP {a b : Int} (ha : maB a = true) (hb : maB b = true) :
    (∀ k, k < bxK a b → bhN a b (bxN a b k) = bxN a b (k + 1) ∧ bxN a b (k + 1) ≠ bxN a b k) ∧ bhN a b (bxN a b (bxK a b)) = bxN a b (bxK a b) ∧ decide (bxK a b % 2 = 1) = bxBoth a b (bxK a b) ∧ ∀ k, k ≤ bxK a b → fstB (bxN a b k).1 (bxN a b k).2 = true → clOk a (bxN a b k).1 b (bxN a b k).2 = true := by
  rw [maB_iff] at ha hb
  have h := bx_allP (a - 1).toNat (by omega) (b - 1).toNat (by omega)
  rw [show (((a - 1).toNat : Nat) : Int) + 1 = a by omega, show (((b - 1).toNat : Nat) : Int) + 1 = b by omega, Bool.and_eq_true, beq_iff_eq] at h
  obtain ⟨h1, h2, h3⟩ := bx_genP a b 40 bxSt h.1 (bxN a b) rfl (fun _ => rfl)
  exact ⟨h1, h2, h.2, h3⟩
/-- the paces of both behind each clack -/
def cpL (a b : Int) (k : Nat) : List St := (List.range k).map fun j => bxN a b (j + 1)
theorem cpL_succ (a b : Int) (k : Nat) : cpL a b (k + 1) = cpL a b k ++ [bxN a b (k + 1)] := by unfold cpL; rw [List.range_succ, List.map_append]; rfl
theorem cpL_len (a b : Int) (k : Nat) : (cpL a b k).length = k := by unfold cpL; simp
theorem cpL_at (a b : Int) {k j : Nat} (h : j < k) : (cpL a b k).getD j ((0, 0), (0, 0)) = bxN a b (j + 1) := by
  unfold cpL; simp [List.getD, h]

/-- a clack with a ball at rest leaves the other one a pace above 0 -/
theorem chain_pos {ms : List Int} (hm : ∀ m ∈ ms, 1 ≤ m ∧ m ≤ 9) (h5 : ms.length ≤ 5) : ∀ k, k < ms.length → 0 < (chNow ms k).1 := by
  have hat : ∀ k, k < ms.length → 1 ≤ ms.getD k 0 ∧ ms.getD k 0 ≤ 9 := fun k hk => by
    rw [List.getD_eq_getElem?_getD, List.getElem?_eq_getElem hk]; exact hm _ (List.getElem_mem hk)
  intro k
  induction k with
  | zero => intro _; show (0 : Int) < 1; decide
  | succ k ih =>
    intro hk
    have hp := ih (by omega)
    obtain ⟨⟨_, _, q1, _⟩, _⟩ := chain_ok hm h5 k (by omega)
    have hok := (chain_ok hm h5 (k + 1) hk).2 k (by omega)
    have m1 := hat k (by omega)
    have m2 := hat (k + 1) hk
    rw [chNow]
    generalize chNow ms k = u at *
    generalize ms.getD k 0 = m at *
    generalize ms.getD (k + 1) 0 = n at *
    obtain ⟨p, q⟩ := u
    simp only at hp q1
    have hok2 := hok
    unfold clOk at hok2
    rw [Bool.and_eq_true] at hok2
    have hv := (mkV_pa hok2.2).1
    have e2 : suN (2 * m) (p, q) (n - m) (0, 1) = 2 * m * p := by unfold suN; simp
    have e3 : suD (m + n) (p, q) (0, 1) = (m + n) * q := by unfold suD; simp
    rw [e2, e3] at hv
    unfold clV suV
    rw [hok, if_pos rfl]
    show 0 < (mkV _ _).1
    rw [e2, e3, hv]
    have hn : 0 < 2 * m * p := Int.mul_pos (by omega) hp
    have hd : 0 < (m + n) * q := Int.mul_pos (by omega) (by omega)
    have hx := lowP_num (2 * m * p) ((m + n) * q)
    have hg := gcdN_pos (num := 2 * m * p) hd
    generalize (lowP (2 * m * p) ((m + n) * q)).1 = x at *
    apply Classical.byContradiction
    intro hc
    have : x * (gcdN (2 * m * p) ((m + n) * q) : Int) ≤ 0 := Int.mul_nonpos_of_nonpos_of_nonneg (by omega) (by omega)
    omega

/-- how many heights are paces -/
def hgF (p : Int × Int) : Nat → Nat → Nat
  | 0, k => k
  | f + 1, k => if hgOk p k then hgF p f (k + 1) else k
def hgN (p : Int × Int) : Nat := hgF p 21 0
theorem hgF_spec (p : Int × Int) : ∀ f k, (∀ j, j < k → hgOk p j = true) → hgOk p (k + f) = false → hgOk p (hgF p f k) = false ∧ ∀ j, j < hgF p f k → hgOk p j = true := by
  intro f
  induction f with
  | zero => intro k h1 h2; exact ⟨h2, h1⟩
  | succ f ih =>
    intro k h1 h2
    rw [hgF]
    cases h : hgOk p k with
    | false => rw [if_neg (by simp)]; exact ⟨h, h1⟩
    | true =>
      rw [if_pos rfl]
      refine ih (k + 1) (fun j hj => ?_) (by rw [show k + 1 + f = k + (f + 1) by omega]; exact h2)
      rcases (by omega : j < k ∨ j = k) with hj | hj
      · exact h1 j hj
      · subst hj; exact h
theorem hgN_spec {p : Int × Int} (h : keB p = true) : hgOk p (hgN p) = false ∧ (∀ j, j < hgN p → hgOk p j = true) ∧ 1 ≤ hgN p ∧ hgN p ≤ 20 := by
  have h21 : hgOk p (0 + 21) = false := by
    cases hc : hgOk p (0 + 21) with
    | false => rfl
    | true => have := hg_stop h _ hc; omega
  obtain ⟨h1, h2⟩ := hgF_spec p 21 0 (fun j hj => absurd hj (by omega)) h21
  have e : hgF p 21 0 = hgN p := rfl
  rw [e] at h1 h2
  refine ⟨h1, h2, ?_, ?_⟩
  · rcases Nat.eq_zero_or_pos (hgN p) with hz | hz
    · rw [hz] at h1; exact absurd h1 (by simp [hgOk])
    · exact hz
  · rcases Nat.lt_or_ge 20 (hgN p) with hz | hz
    · have := hg_stop h _ (h2 20 hz); omega
    · exact hz
theorem hgOk_iff {p : Int × Int} (h : keB p = true) (k : Nat) : hgOk p k = decide (k < hgN p) := by
  obtain ⟨h1, h2, _, _⟩ := hgN_spec h
  rcases Nat.lt_or_ge k (hgN p) with hk | hk
  · rw [h2 k hk]; simp [hk]
  · have : hgOk p k = false := by
      cases hc : hgOk p k with
      | false => rfl
      | true => have := hgOk_le hc _ hk; rw [h1] at this; cases this
    rw [this]; simp; omega
/-- the heights that are paces -/
def hgL (p : Int × Int) (k : Nat) : List (Int × Int) := (List.range k).map (hgV p)
theorem hgL_succ (p : Int × Int) (k : Nat) : hgL p (k + 1) = hgL p k ++ [hgV p k] := by unfold hgL; rw [List.range_succ, List.map_append]; rfl
theorem hgL_len (p : Int × Int) (k : Nat) : (hgL p k).length = k := by unfold hgL; simp
theorem hgL_at (p : Int × Int) {k j : Nat} (h : j < k) : (hgL p k).getD j (0, 0) = hgV p j := by unfold hgL; simp [List.getD, h]

/-- what the program comes to at each bounce: the next height, made lowest -/
theorem hg_next {p : Int × Int} {k : Nat} (h : hgOk p k = true) : hgOk p (k + 1) = paP (prP (hgV p k) p) ∧ (hgOk p (k + 1) = true → hgV p (k + 1) = prP (hgV p k) p) := by
  have e : hgOk p (k + 1) = (hgOk p k && mkOk ((hgV p k).1 * p.1) ((hgV p k).2 * p.2)) := rfl
  rw [e, h]
  refine ⟨rfl, fun h2 => ?_⟩
  exact (mkV_pa (by simpa using h2)).1

/-- twice the heights behind 1, 2, .. bounces together -/
def twP (x : Int × Int) : Int × Int := prP (2, 1) x
def twS (p : Int × Int) : Nat → Int × Int
  | 0 => (0, 1)
  | k + 1 => plP (twS p k) (twP (hgV p (k + 1)))
/-- the numbers of that sum over the last one's denominator -/
def twN (p : Int × Int) : Nat → Int
  | 0 => 0
  | k + 1 => twN p k * p.2 + 2 * p.1 ^ (k + 1)
theorem tw_fr {p : Int × Int} (h : keB p = true) : ∀ k, hgOk p k = true → Fr (twS p k) (twN p k) (p.2 ^ k) ∧ gcdN (twS p k).1 (twS p k).2 = 1 ∧ 0 ≤ twN p k ∧ twN p k ≤ 2 * k * p.2 ^ k := by
  have hp := h
  unfold keB paP at hp
  rw [Bool.and_eq_true, Bool.and_eq_true, decide_eq_true_eq, decide_eq_true_eq, paB_iff] at hp
  obtain ⟨⟨_, _, a3, a4, _⟩, a6, a7⟩ := hp
  intro k
  induction k with
  | zero => intro _; exact ⟨⟨by simp [twS, twN], by simp [twS], by simp⟩, by simp [twS, gcdN], by simp [twN], by simp [twN]⟩
  | succ k ih =>
    intro hk
    obtain ⟨i1, i2, i3, i4⟩ := ih (hgOk_le hk k (by omega))
    obtain ⟨e1, e2, e3, e4, e5⟩ := hg_pow h (k + 1) hk
    have hx : Fr (twP (hgV p (k + 1))) (2 * p.1 ^ (k + 1)) (p.2 ^ (k + 1)) := by
      have hself : Fr (hgV p (k + 1)) (p.1 ^ (k + 1)) (p.2 ^ (k + 1)) := by
        have := Fr.self (x := hgV p (k + 1)) (by omega)
        rw [e1] at this ⊢; exact this
      have := (Fr.self (x := ((2 : Int), (1 : Int))) (by simp)).pr hself
      simpa [twP] using this
    have hq : 0 < p.2 ^ (k + 1) := hx.2.2
    have hps : p.2 ^ (k + 1) = p.2 ^ k * p.2 := Int.pow_succ ..
    have hle : p.1 ^ (k + 1) ≤ p.2 ^ (k + 1) := by rw [e1] at e4; exact e4
    have hge : 0 < p.1 ^ (k + 1) := by rw [e1] at e3; exact e3
    refine ⟨?_, pl_co i1.2.1 hx.2.1, ?_, ?_⟩
    · refine (i1.pl hx).change hq ?_
      rw [twN, hps]
      grind
    · rw [twN]; have := Int.mul_nonneg i3 (show 0 ≤ p.2 by omega); omega
    · rw [twN]
      have h1 : twN p k * p.2 ≤ 2 * k * p.2 ^ k * p.2 := Int.mul_le_mul_of_nonneg_right i4 (by omega)
      have h2 : 2 * (k : Int) * p.2 ^ k * p.2 = 2 * k * p.2 ^ (k + 1) := by rw [hps, Int.mul_assoc]
      have h3 : 2 * ((k + 1 : Nat) : Int) * p.2 ^ (k + 1) = 2 * k * p.2 ^ (k + 1) + 2 * p.2 ^ (k + 1) := by
        rw [show ((k + 1 : Nat) : Int) = (k : Int) + 1 by omega]; grind
      omega
theorem fr_bd {x : Int × Int} {n d B : Int} (h : Fr x n d) (hc : gcdN x.1 x.2 = 1) (h0 : -B ≤ n) (h1 : n ≤ B) : -B ≤ x.1 ∧ x.1 ≤ B ∧ 1 ≤ x.2 ∧ x.2 ≤ d := by
  have e := h.eq hc
  have b1 := lowP_num_abs h.2.2 B h0 h1
  have b2 := lowP_den_le (num := n) h.2.2
  rw [← e] at b1 b2
  exact ⟨b1.1, b1.2, by have := h.2.1; omega, b2⟩
theorem tw_bd {p : Int × Int} (h : keB p = true) {k : Nat} (hk : hgOk p k = true) : 0 - 40000000 ≤ (twS p k).1 ∧ (twS p k).1 ≤ 40000000 ∧ 1 ≤ (twS p k).2 ∧ (twS p k).2 ≤ 1000000 := by
  obtain ⟨i1, i2, i3, i4⟩ := tw_fr h k hk
  obtain ⟨e1, e2, _, _, _⟩ := hg_pow h k hk
  unfold paP at e2
  rw [paB_iff] at e2
  have e6 : p.2 ^ k ≤ 1000000 := by have := e2.2.2.2.1; rw [e1] at this; exact this
  have hk19 := hg_stop h k hk
  have e7 : 0 < p.2 ^ k := i1.2.2
  have hb : 2 * (k : Int) * p.2 ^ k ≤ 40 * 1000000 := Int.mul_le_mul (by omega) e6 (by omega) (by omega)
  have := fr_bd i1 i2 (B := 40000000) (by omega) (by omega)
  omega
/-- the way up to the bounce behind k others -/
def wsP (p : Int × Int) (k : Nat) : Int × Int := plP (1, 1) (twS p k)
theorem ws_fr {p : Int × Int} (h : keB p = true) {k : Nat} (hk : hgOk p k = true) : Fr (wsP p k) (p.2 ^ k + twN p k) (p.2 ^ k) ∧ gcdN (wsP p k).1 (wsP p k).2 = 1 := by
  obtain ⟨i1, i2, i3, i4⟩ := tw_fr h k hk
  refine ⟨?_, pl_co (by simp) i1.2.1⟩
  have := (Fr.self (x := ((1 : Int), (1 : Int))) (by simp)).pl i1
  simpa [wsP] using this
/-- the model's way is the program's -/
theorem wy_ws {p : Int × Int} (h : keB p = true) : ∀ k, hgOk p k = true → wyOk p k = decide (∀ j, j ≤ k → paP (wsP p j) = true) ∧ (wyOk p k = true → wyV p k = wsP p k) := by
  intro k
  induction k with
  | zero =>
    intro _
    have hz : wsP p 0 = (1, 1) := by show plP (1, 1) (0, 1) = (1, 1); decide
    refine ⟨?_, fun _ => hz.symm⟩
    show true = _
    rw [eq_comm, decide_eq_true_eq]
    intro j hj
    obtain rfl : j = 0 := by omega
    rw [hz]; decide
  | succ k ih =>
    intro hk
    obtain ⟨i1, i2⟩ := ih (hgOk_le hk k (by omega))
    obtain ⟨f1, f2⟩ := ws_fr h hk
    obtain ⟨f3, f4⟩ := ws_fr h (hgOk_le hk k (by omega))
    obtain ⟨e1, e2, e3, e4, e5⟩ := hg_pow h (k + 1) hk
    have e : wyOk p (k + 1) = (wyOk p k && (hgOk p (k + 1) && suOk 1 (wyV p k) 2 (hgV p (k + 1)) 1)) := rfl
    have ev : wyV p (k + 1) = suV 1 (wyV p k) 2 (hgV p (k + 1)) 1 := rfl
    rw [hk, Bool.true_and] at e
    cases ho : wyOk p k with
    | false =>
      rw [ho] at e i1
      refine ⟨?_, fun h2 => by rw [e] at h2; cases h2⟩
      rw [e, Bool.false_and, eq_comm, decide_eq_false_iff_not]
      rw [eq_comm, decide_eq_false_iff_not] at i1
      exact fun hh => i1 fun j hj => hh j (by omega)
    | true =>
      rw [ho, Bool.true_and] at e
      have hv := i2 ho
      have hlow : lowP (suN 1 (wyV p k) 2 (hgV p (k + 1))) (suD 1 (wyV p k) (hgV p (k + 1))) = wsP p (k + 1) := by
        rw [hv, f1.eq f2]
        have hfr : Fr (suN 1 (wsP p k) 2 (hgV p (k + 1)), suD 1 (wsP p k) (hgV p (k + 1))) (p.2 ^ (k + 1) + twN p (k + 1)) (p.2 ^ (k + 1)) := by
          obtain ⟨g1, g2, g3⟩ := f3
          have hps : p.2 ^ (k + 1) = p.2 ^ k * p.2 := Int.pow_succ ..
          have hps1 : p.1 ^ (k + 1) = p.1 ^ k * p.1 := Int.pow_succ ..
          refine ⟨?_, ?_, f1.2.2⟩
          · rw [e1]
            unfold suN suD
            simp only
            rw [twN, hps, hps1]
            generalize (wsP p k).1 = x at *
            generalize (wsP p k).2 = y at *
            generalize p.2 ^ k = Q at *
            generalize p.1 ^ k = R at *
            generalize twN p k = T at *
            grind
          · show 0 < suD _ _ _
            unfold suD; exact Int.mul_pos (Int.mul_pos (by decide) g2) (by omega)
        exact hfr.lowP_eq
      have hok : suOk 1 (wyV p k) 2 (hgV p (k + 1)) 1 = paP (wsP p (k + 1)) := by unfold suOk mkOk; rw [hlow]
      refine ⟨?_, fun h2 => ?_⟩
      · rw [e, hok, Bool.eq_iff_iff, decide_eq_true_eq]
        rw [ho, eq_comm, decide_eq_true_eq] at i1
        constructor
        · intro hh j hj
          rcases (by omega : j ≤ k ∨ j = k + 1) with hj | hj
          · exact i1 j hj
          · subst hj; exact hh
        · intro hh; exact hh _ (Nat.le_refl _)
      · rw [e] at h2
        rw [ev, ← hlow]
        exact (mkV_pa h2).1
end Go.Proofs.Ytikmkmpekjijpaa
