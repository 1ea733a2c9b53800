/- Balls as the program reckons: fractions made lowest at each step are the same in the end. Mathematics only; no dump is read here. -/
import Derived.Test.YtikmkmpekjijpaaBal
namespace Go.Proofs.Ytikmkmpekjijpaa

theorem lowP_cross {n d : Int} : (lowP n d).1 * d = n * (lowP n d).2 := by
  have e1 := lowP_num n d
  have e2 := lowP_den n d
  grind
/-- x is the fraction n / d -/
def Fr (x : Int × Int) (n d : Int) : Prop := x.1 * d = n * x.2 ∧ 0 < x.2 ∧ 0 < d
theorem Fr.low {n d : Int} (hd : 0 < d) : Fr (lowP n d) n d := ⟨lowP_cross, lowP_pos hd, hd⟩
theorem Fr.self {x : Int × Int} (h : 0 < x.2) : Fr x x.1 x.2 := ⟨rfl, h, h⟩
theorem Fr.lowP_eq {x : Int × Int} {n d : Int} (h : Fr x n d) : lowP x.1 x.2 = lowP n d := by
  obtain ⟨h1, h2, h3⟩ := h
  have c1 := lowP_cross (n := x.1) (d := x.2)
  have c2 := lowP_cross (n := n) (d := d)
  have p1 := lowP_pos (num := x.1) h2
  have p2 := lowP_pos (num := n) h3
  have hk : (lowP x.1 x.2).1 * (lowP n d).2 = (lowP n d).1 * (lowP x.1 x.2).2 := by
    have hz : ((lowP x.1 x.2).1 * (lowP n d).2) * (x.2 * d) = ((lowP n d).1 * (lowP x.1 x.2).2) * (x.2 * d) := by
      generalize (lowP x.1 x.2).1 = a at *
      generalize (lowP x.1 x.2).2 = b at *
      generalize (lowP n d).1 = c at *
      generalize (lowP n d).2 = e at *
      grind
    exact Int.eq_of_mul_eq_mul_right (by have := Int.mul_pos h2 h3; omega) hz
  obtain ⟨k1, k2⟩ := frac_anti p1 p2 (lowP_coprime h2) (lowP_coprime h3) hk
  exact Prod.ext k1 k2
theorem Fr.eq {x : Int × Int} {n d : Int} (h : Fr x n d) (hc : gcdN x.1 x.2 = 1) : x = lowP n d := by
  rw [← h.lowP_eq, (lowP_self_iff h.2.1).2 hc]
theorem Fr.low' {x : Int × Int} {n d : Int} (h : Fr x n d) : Fr (lowP x.1 x.2) n d := by
  rw [h.lowP_eq]; exact Fr.low h.2.2
theorem Fr.change {x : Int × Int} {n d n' d' : Int} (h : Fr x n d) (hd : 0 < d') (he : n * d' = n' * d) : Fr x n' d' := by
  obtain ⟨h1, h2, h3⟩ := h
  refine ⟨?_, h2, hd⟩
  have : (x.1 * d') * d = (n' * x.2) * d := by grind
  exact Int.eq_of_mul_eq_mul_right (by omega) this

def plP (a b : Int × Int) : Int × Int := lowP (a.1 * b.2 + b.1 * a.2) (a.2 * b.2)
def prP (a b : Int × Int) : Int × Int := lowP (a.1 * b.1) (a.2 * b.2)
theorem Fr.pl {a b : Int × Int} {n d n' d' : Int} (ha : Fr a n d) (hb : Fr b n' d') : Fr (plP a b) (n * d' + n' * d) (d * d') := by
  refine (Fr.low (Int.mul_pos ha.2.1 hb.2.1)).change (Int.mul_pos ha.2.2 hb.2.2) ?_
  obtain ⟨h1, _, _⟩ := ha
  obtain ⟨h2, _, _⟩ := hb
  grind
theorem Fr.pr {a b : Int × Int} {n d n' d' : Int} (ha : Fr a n d) (hb : Fr b n' d') : Fr (prP a b) (n * n') (d * d') := by
  refine (Fr.low (Int.mul_pos ha.2.1 hb.2.1)).change (Int.mul_pos ha.2.2 hb.2.2) ?_
  obtain ⟨h1, _, _⟩ := ha
  obtain ⟨h2, _, _⟩ := hb
  grind

/-- a ball's push and energy -/
def psP (m : Int) (u : Int × Int) : Int × Int := prP (m, 1) u
def eyP (m : Int) (u : Int × Int) : Int × Int := prP (psP m u) u
theorem fr_ps {m : Int} {u : Int × Int} (hu : 0 < u.2) : Fr (psP m u) (m * u.1) u.2 := by
  have := Fr.pr (a := (m, 1)) (Fr.self (by simp)) (Fr.self hu)
  simpa [psP] using this
theorem fr_ey {m : Int} {u : Int × Int} (hu : 0 < u.2) : Fr (eyP m u) (m * (u.1 * u.1)) (u.2 * u.2) := by
  have := (fr_ps (m := m) hu).pr (Fr.self hu)
  rwa [Int.mul_assoc] at this
/-- the sum of two from 0 on -/
def smS (x y : Int × Int) : Int × Int := plP (plP (0, 1) x) y
theorem fr_sm {x y : Int × Int} {n d n' d' : Int} (hx : Fr x n d) (hy : Fr y n' d') : Fr (smS x y) (n * d' + n' * d) (d * d') := by
  have h0 : Fr (plP (0, 1) x) n d := by
    have := (Fr.self (x := ((0 : Int), (1 : Int))) (by simp)).pl hx
    simpa using this
  exact h0.pl hy
theorem low_co {n d : Int} (hd : 0 < d) : gcdN (lowP n d).1 (lowP n d).2 = 1 := lowP_coprime hd
theorem pl_co {a b : Int × Int} (ha : 0 < a.2) (hb : 0 < b.2) : gcdN (plP a b).1 (plP a b).2 = 1 := lowP_coprime (Int.mul_pos ha hb)
/-- the push of both together -/
theorem push_eq {m n : Int} {u v : Int × Int} (hu : 0 < u.2) (hv : 0 < v.2) : smS (psP m u) (psP n v) = lowP (suN m u n v) (suD 1 u v) := by
  have h := fr_sm (fr_ps (m := m) hu) (fr_ps (m := n) hv)
  have hc : gcdN (smS (psP m u) (psP n v)).1 (smS (psP m u) (psP n v)).2 = 1 :=
    pl_co (Fr.pl (Fr.self (by simp)) (fr_ps hu)).2.1 (fr_ps hv).2.1
  rw [h.eq hc]
  unfold suN suD
  rw [Int.one_mul]
theorem energy_eq {m n : Int} {u v : Int × Int} (hu : 0 < u.2) (hv : 0 < v.2) : smS (eyP m u) (eyP n v) = lowP (suN m (sqP u) n (sqP v)) (suD 1 (sqP u) (sqP v)) := by
  have h := fr_sm (fr_ey (m := m) hu) (fr_ey (m := n) hv)
  have hc : gcdN (smS (eyP m u) (eyP n v)).1 (smS (eyP m u) (eyP n v)).2 = 1 :=
    pl_co (Fr.pl (Fr.self (by simp)) (fr_ey hu)).2.1 (fr_ey hv).2.1
  rw [h.eq hc]
  unfold suN suD sqP
  rw [Int.one_mul]
/-- the mean of both -/
def mnP (m : Int) (u : Int × Int) (n : Int) (v : Int × Int) : Int × Int := lowP (smS (psP m u) (psP n v)).1 ((smS (psP m u) (psP n v)).2 * (m + n))
theorem mean_eq {m n : Int} {u v : Int × Int} (hu : 0 < u.2) (hv : 0 < v.2) (hc : 0 < m + n) : mnP m u n v = lowP (suN m u n v) (suD (m + n) u v) := by
  obtain ⟨h1, h2, h3⟩ := fr_sm (fr_ps (m := m) hu) (fr_ps (m := n) hv)
  unfold mnP
  have hf : Fr ((smS (psP m u) (psP n v)).1, (smS (psP m u) (psP n v)).2 * (m + n)) (suN m u n v) (suD (m + n) u v) := by
    refine ⟨?_, Int.mul_pos h2 hc, ?_⟩
    · unfold suN suD
      show (smS (psP m u) (psP n v)).1 * _ = _ * ((smS (psP m u) (psP n v)).2 * (m + n))
      generalize smS (psP m u) (psP n v) = s at *
      grind
    · unfold suD; exact Int.mul_pos (Int.mul_pos hc hu) hv
  exact hf.lowP_eq
/-- a pace behind a clack, as the program weighs it -/
theorem behind_eq {m n : Int} {u v : Int × Int} (hu : 0 < u.2) (hv : 0 < v.2) (hc : 0 < m + n) :
    mnP (m - n) u (2 * n) v = lowP (suN (m - n) u (2 * n) v) (suD (m + n) u v) := by
  have := mean_eq (m := m - n) (n := 2 * n) hu hv (by omega)
  rwa [show m - n + 2 * n = m + n by omega] at this
theorem behind_eq' {m n : Int} {u v : Int × Int} (hu : 0 < u.2) (hv : 0 < v.2) (hc : 0 < m + n) :
    mnP (n - m) v (2 * m) u = lowP (suN (2 * m) u (n - m) v) (suD (m + n) u v) := by
  have := mean_eq (m := n - m) (n := 2 * m) hv hu (by omega)
  rw [this]
  have e1 : suN (n - m) v (2 * m) u = suN (2 * m) u (n - m) v := by unfold suN; omega
  have e2 : suD (n - m + 2 * m) v u = suD (m + n) u v := by unfold suD; grind
  rw [e1, e2]
end Go.Proofs.Ytikmkmpekjijpaa
