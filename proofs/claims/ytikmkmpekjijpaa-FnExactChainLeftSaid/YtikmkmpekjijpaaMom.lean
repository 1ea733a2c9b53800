/- Fractions in lowest terms, runners, and when pairs of them meet: mathematics only; no dump is read here. -/
import Derived.Test.YtikmkmpekjijpaaBase
namespace Go.Proofs.Ytikmkmpekjijpaa

/-- the greatest common divisor of num and den -/
def gcdN (num den : Int) : Nat := Nat.gcd den.natAbs num.natAbs
theorem gcdN_pos {num den : Int} (hd : 0 < den) : 0 < gcdN num den := Nat.gcd_pos_of_pos_left _ (by omega)
theorem gcdN_den (num den : Int) : ((gcdN num den : Nat) : Int) ∣ den := by
  rw [← Int.dvd_natAbs]
  exact Int.natCast_dvd_natCast.2 (Nat.gcd_dvd_left _ _)
theorem gcdN_num (num den : Int) : ((gcdN num den : Nat) : Int) ∣ num := by
  rw [← Int.dvd_natAbs]
  exact Int.natCast_dvd_natCast.2 (Nat.gcd_dvd_right _ _)
theorem gcd_step (p r : Nat) : Nat.gcd r (p % r) = Nat.gcd p r := by
  rw [Nat.gcd_comm r (p % r), ← Nat.gcd_rec r p, Nat.gcd_comm]

/-- num / den in lowest terms -/
def lowP (num den : Int) : Int × Int := (num / (gcdN num den : Int), den / (gcdN num den : Int))
theorem lowP_num (num den : Int) : (lowP num den).1 * (gcdN num den : Int) = num := Int.ediv_mul_cancel (gcdN_num num den)
theorem lowP_den (num den : Int) : (lowP num den).2 * (gcdN num den : Int) = den := Int.ediv_mul_cancel (gcdN_den num den)
theorem lowP_tnum (num den : Int) : num.tdiv (gcdN num den : Int) = (lowP num den).1 := Int.tdiv_eq_ediv_of_dvd (gcdN_num num den)
theorem lowP_tden (num den : Int) : den.tdiv (gcdN num den : Int) = (lowP num den).2 := Int.tdiv_eq_ediv_of_dvd (gcdN_den num den)
theorem lowP_pos {num den : Int} (hd : 0 < den) : 0 < (lowP num den).2 := by
  have h1 := lowP_den num den
  have h2 : (0 : Int) < (gcdN num den : Int) := by have := gcdN_pos (num := num) hd; omega
  by_cases h : 0 < (lowP num den).2
  · exact h
  · exfalso
    have : (lowP num den).2 * (gcdN num den : Int) ≤ 0 := Int.mul_nonpos_of_nonpos_of_nonneg (by omega) (by omega)
    omega
theorem lowP_den_le {num den : Int} (hd : 0 < den) : (lowP num den).2 ≤ den := by
  have h1 := lowP_den num den
  have h2 : (1 : Int) ≤ (gcdN num den : Int) := by have := gcdN_pos (num := num) hd; omega
  have h3 := lowP_pos (num := num) hd
  have : (lowP num den).2 * 1 ≤ (lowP num den).2 * (gcdN num den : Int) := Int.mul_le_mul_of_nonneg_left h2 (by omega)
  omega
theorem lowP_num_abs {num den : Int} (hd : 0 < den) (B : Int) (h0 : -B ≤ num) (h1 : num ≤ B) : -B ≤ (lowP num den).1 ∧ (lowP num den).1 ≤ B := by
  have e := lowP_num num den
  have h2 : (1 : Int) ≤ (gcdN num den : Int) := by have := gcdN_pos (num := num) hd; omega
  generalize (lowP num den).1 = a at *
  generalize (gcdN num den : Int) = g at *
  by_cases ha : 0 ≤ a
  · have : a * 1 ≤ a * g := Int.mul_le_mul_of_nonneg_left h2 ha
    omega
  · have : (-a) * 1 ≤ (-a) * g := Int.mul_le_mul_of_nonneg_left h2 (by omega)
    rw [Int.neg_mul, Int.neg_mul] at this
    omega

/-- in lowest terms already -/
theorem lowP_self_iff {num den : Int} (hd : 0 < den) : lowP num den = (num, den) ↔ gcdN num den = 1 := by
  constructor
  · intro h
    have e := lowP_den num den
    rw [h] at e
    simp only at e
    have h2 := gcdN_pos (num := num) hd
    have e3 : den * (gcdN num den : Int) = den * 1 := by omega
    have := Int.eq_of_mul_eq_mul_left (by omega) e3
    omega
  · intro h
    unfold lowP
    rw [h]
    simp

theorem lowP_coprime {num den : Int} (hd : 0 < den) : gcdN (lowP num den).1 (lowP num den).2 = 1 := by
  have h2 := gcdN_pos (num := num) hd
  have e1 := lowP_num num den
  have e2 := lowP_den num den
  have a1 : (lowP num den).1.natAbs * gcdN num den = num.natAbs := by
    have := congrArg Int.natAbs e1
    rwa [Int.natAbs_mul, Int.natAbs_natCast] at this
  have a2 : (lowP num den).2.natAbs * gcdN num den = den.natAbs := by
    have := congrArg Int.natAbs e2
    rwa [Int.natAbs_mul, Int.natAbs_natCast] at this
  have h : gcdN num den = gcdN (lowP num den).1 (lowP num den).2 * gcdN num den := by
    conv => lhs; unfold gcdN
    rw [← a1, ← a2, Nat.gcd_mul_right]
    rfl
  have h3 : gcdN (lowP num den).1 (lowP num den).2 * gcdN num den = 1 * gcdN num den := by omega
  exact Nat.eq_of_mul_eq_mul_right h2 h3

theorem mul_lt_right {a b c : Int} (hc : 0 < c) : a * c < b * c ↔ a < b := by
  constructor
  · intro h
    by_cases hab : a < b
    · exact hab
    · have : b * c ≤ a * c := Int.mul_le_mul_of_nonneg_right (by omega) (by omega)
      omega
  · intro h
    exact Int.mul_lt_mul_of_pos_right h hc

/-- fractions with one denominator are compared by their numerators -/
theorem lowP_lt {n1 n2 D : Int} (hD : 0 < D) : (lowP n1 D).1 * (lowP n2 D).2 < (lowP n2 D).1 * (lowP n1 D).2 ↔ n1 < n2 := by
  have g1 : (0 : Int) < (gcdN n1 D : Int) := by have := gcdN_pos (num := n1) hD; omega
  have g2 : (0 : Int) < (gcdN n2 D : Int) := by have := gcdN_pos (num := n2) hD; omega
  have e1 := lowP_num n1 D
  have e2 := lowP_den n1 D
  have e3 := lowP_num n2 D
  have e4 := lowP_den n2 D
  generalize (lowP n1 D).1 = a1 at *
  generalize (lowP n1 D).2 = d1 at *
  generalize (lowP n2 D).1 = a2 at *
  generalize (lowP n2 D).2 = d2 at *
  generalize (gcdN n1 D : Int) = k1 at *
  generalize (gcdN n2 D : Int) = k2 at *
  rw [← mul_lt_right (c := k1 * k2) (Int.mul_pos g1 g2)]
  have h1 : a1 * d2 * (k1 * k2) = n1 * D := by
    rw [show a1 * d2 * (k1 * k2) = (a1 * k1) * (d2 * k2) by simp only [Int.mul_comm, Int.mul_left_comm], e1, e4]
  have h2 : a2 * d1 * (k1 * k2) = n2 * D := by
    rw [show a2 * d1 * (k1 * k2) = (a2 * k2) * (d1 * k1) by simp only [Int.mul_comm, Int.mul_left_comm], e3, e2]
  rw [h1, h2, mul_lt_right hD]

/-- two fractions in lowest terms that are neither less are one -/
theorem frac_anti {a b c d : Int} (hb : 0 < b) (hd : 0 < d) (h1 : gcdN a b = 1) (h2 : gcdN c d = 1) (h : a * d = c * b) : a = c ∧ b = d := by
  have hn : a.natAbs * d.natAbs = c.natAbs * b.natAbs := by
    have := congrArg Int.natAbs h
    rwa [Int.natAbs_mul, Int.natAbs_mul] at this
  have d1 : b.natAbs ∣ d.natAbs := by
    have : b.natAbs ∣ a.natAbs * d.natAbs := ⟨c.natAbs, by rw [hn, Nat.mul_comm]⟩
    exact Nat.Coprime.dvd_of_dvd_mul_left (show Nat.gcd b.natAbs a.natAbs = 1 from h1) this
  have d2 : d.natAbs ∣ b.natAbs := by
    have : d.natAbs ∣ c.natAbs * b.natAbs := ⟨a.natAbs, by rw [← hn, Nat.mul_comm]⟩
    exact Nat.Coprime.dvd_of_dvd_mul_left (show Nat.gcd d.natAbs c.natAbs = 1 from h2) this
  have e : b.natAbs = d.natAbs := Nat.dvd_antisymm d1 d2
  have e' : b = d := by omega
  subst e'
  exact ⟨Int.eq_of_mul_eq_mul_right (by omega) h, rfl⟩

/-- what is a moment -/
def momB (n d : Int) : Bool := decide (-1000000 ≤ n) && decide (n ≤ 1000000) && decide (1 ≤ d) && decide (d ≤ 1000) && (gcdN n d == 1)
theorem momB_iff (n d : Int) : momB n d = true ↔ -1000000 ≤ n ∧ n ≤ 1000000 ∧ 1 ≤ d ∧ d ≤ 1000 ∧ gcdN n d = 1 := by
  simp [momB]; omega
def timB (n d : Int) : Bool := momB n d && decide (0 ≤ n)
theorem timB_iff (n d : Int) : timB n d = true ↔ 0 ≤ n ∧ n ≤ 1000000 ∧ 1 ≤ d ∧ d ≤ 1000 ∧ gcdN n d = 1 := by
  unfold timB
  rw [Bool.and_eq_true, momB_iff]; simp; omega
end Go.Proofs.Ytikmkmpekjijpaa
