/- Balls: paces, clacks, a ball between a wall and a great one, chains, bounces. Mathematics only; no dump is read here. -/
import Derived.Test.YtikmkmpekjijpaaMom
namespace Go.Proofs.Ytikmkmpekjijpaa

/-- what is a pace -/
def paB (n d : Int) : Bool := decide (-1000000 ≤ n) && decide (n ≤ 1000000) && decide (1 ≤ d) && decide (d ≤ 1000000) && (gcdN n d == 1)
theorem paB_iff (n d : Int) : paB n d = true ↔ -1000000 ≤ n ∧ n ≤ 1000000 ∧ 1 ≤ d ∧ d ≤ 1000000 ∧ gcdN n d = 1 := by
  simp [paB]; omega
def paP (p : Int × Int) : Bool := paB p.1 p.2
/-- num / den, if that is a pace -/
def mkOk (n d : Int) : Bool := paP (lowP n d)
def mkV (n d : Int) : Int × Int := if mkOk n d then lowP n d else (0, 0)
theorem mkV_pa {n d : Int} (h : mkOk n d = true) : mkV n d = lowP n d ∧ paP (mkV n d) = true := by
  unfold mkV; rw [h]; exact ⟨rfl, h⟩
theorem mul_bd {x y A B : Int} (hx : -A ≤ x ∧ x ≤ A) (hy : -B ≤ y ∧ y ≤ B) (hA : 0 ≤ A) (hB : 0 ≤ B) : -(A * B) ≤ x * y ∧ x * y ≤ A * B := by
  have hxa : x.natAbs ≤ A.natAbs := by omega
  have hyb : y.natAbs ≤ B.natAbs := by omega
  have h := Nat.mul_le_mul hxa hyb
  rw [← Int.natAbs_mul, ← Int.natAbs_mul] at h
  have h2 : 0 ≤ A * B := Int.mul_nonneg hA hB
  omega
theorem mul_pos1 {x y : Int} (hx : 1 ≤ x) (hy : 1 ≤ y) : 1 ≤ x * y := by
  have := Int.mul_pos (show 0 < x by omega) (show 0 < y by omega)
  omega

/-- a u and b v together, divided by c -/
def suN (a : Int) (u : Int × Int) (b : Int) (v : Int × Int) : Int := a * u.1 * v.2 + b * v.1 * u.2
def suD (c : Int) (u v : Int × Int) : Int := c * u.2 * v.2
def suOk (a : Int) (u : Int × Int) (b : Int) (v : Int × Int) (c : Int) : Bool := mkOk (suN a u b v) (suD c u v)
def suV (a : Int) (u : Int × Int) (b : Int) (v : Int × Int) (c : Int) : Int × Int := mkV (suN a u b v) (suD c u v)
/-- both paces behind a clack -/
def clOk (m : Int) (u : Int × Int) (n : Int) (v : Int × Int) : Bool := suOk (m - n) u (2 * n) v (m + n) && suOk (2 * m) u (n - m) v (m + n)
def clV (m : Int) (u : Int × Int) (n : Int) (v : Int × Int) : (Int × Int) × (Int × Int) :=
  if clOk m u n v then (suV (m - n) u (2 * n) v (m + n), suV (2 * m) u (n - m) v (m + n)) else ((0, 0), (0, 0))
theorem clV_pa {m n : Int} {u v : Int × Int} (h : clOk m u n v = true) : paP (clV m u n v).1 = true ∧ paP (clV m u n v).2 = true := by
  unfold clV
  rw [h, if_pos rfl]
  unfold clOk at h
  rw [Bool.and_eq_true] at h
  exact ⟨(mkV_pa h.1).2, (mkV_pa h.2).2⟩
def fstB (u v : Int × Int) : Bool := decide (v.1 * u.2 < u.1 * v.2)
def maB (m : Int) : Bool := decide (1 ≤ m) && decide (m ≤ 9)
theorem maB_iff (m : Int) : maB m = true ↔ 1 ≤ m ∧ m ≤ 9 := by simp [maB]
def asB (m : Int) (u : Int × Int) (n : Int) (v : Int × Int) : Bool := (maB m && paP u) && (maB n && paP v)

/-- what the calls on two balls hand back -/
def ckOk (m : Int) (u : Int × Int) (n : Int) (v : Int × Int) : Bool := (asB m u n v && fstB u v) && clOk m u n v
def ckV (m : Int) (u : Int × Int) (n : Int) (v : Int × Int) : (Int × Int) × (Int × Int) := if ckOk m u n v then clV m u n v else ((0, 0), (0, 0))
def coOk (m : Int) (u : Int × Int) (n : Int) (v : Int × Int) : Bool := asB m u n v && suOk m u n v (m + n)
def coV (m : Int) (u : Int × Int) (n : Int) (v : Int × Int) : Int × Int := if coOk m u n v then suV m u n v (m + n) else (0, 0)
def puOk (m : Int) (u : Int × Int) (n : Int) (v : Int × Int) : Bool := asB m u n v && suOk m u n v 1
def puV (m : Int) (u : Int × Int) (n : Int) (v : Int × Int) : Int × Int := if puOk m u n v then suV m u n v 1 else (0, 0)
def loB (u : Int × Int) : Bool := (decide (-1000 ≤ u.1) && decide (u.1 ≤ 1000)) && decide (u.2 ≤ 1000)
def sqP (u : Int × Int) : Int × Int := (u.1 * u.1, u.2 * u.2)
def enOk (m : Int) (u : Int × Int) (n : Int) (v : Int × Int) : Bool := (asB m u n v && (loB u && loB v)) && suOk m (sqP u) n (sqP v) 1
def enV (m : Int) (u : Int × Int) (n : Int) (v : Int × Int) : Int × Int := if enOk m u n v then suV m (sqP u) n (sqP v) 1 else (0, 0)

/- a small ball between a wall and a great one -/
abbrev St : Type := (Int × Int) × (Int × Int)
def bxGo (s : St) : Bool := decide (s.1.1 < 0) || fstB s.1 s.2
def bxStep (a b : Int) (s : St) : St := if s.1.1 < 0 then ((-s.1.1, s.1.2), s.2) else clV a s.1 b s.2
def bxSt : St := ((0, 1), (-1, 1))
def bxN (a b : Int) : Nat → St
  | 0 => bxSt
  | k + 1 => bxStep a b (bxN a b k)
/-- how many there are -/
def bxF (a b : Int) : Nat → St → Nat
  | 0, _ => 0
  | f + 1, s => if bxGo s then bxF a b f (bxStep a b s) + 1 else 0
def bxK (a b : Int) : Nat := bxF a b 40 bxSt
def bxOkL (a b : Int) : Nat → St → Bool
  | 0, _ => false
  | f + 1, s => (paP s.1 && paP s.2) && (if bxGo s then (decide (s.1.1 < 0) || clOk a s.1 b s.2) && bxOkL a b f (bxStep a b s) else true)
theorem bx_all : ∀ a, a < 9 → ∀ b, b < 9 → (bxOkL ((a : Nat) + 1) ((b : Nat) + 1) 40 bxSt && decide (2 ≤ bxK (a + 1) (b + 1)) && decide (bxK (a + 1) (b + 1) ≤ 30)) = true := by decide +kernel
theorem bx_gen (a b : Int) : ∀ f s, bxOkL a b f s = true → ∀ N : Nat → St, N 0 = s → (∀ k, N (k + 1) = bxStep a b (N k)) →
    (∀ k, k < bxF a b f s → bxGo (N k) = true) ∧ bxGo (N (bxF a b f s)) = false ∧ (∀ k, k ≤ bxF a b f s → paP (N k).1 = true ∧ paP (N k).2 = true) ∧ ∀ k, k < bxF a b f s → (N k).1.1 < 0 ∨ clOk a (N k).1 b (N k).2 = true := by
  intro f
  induction f with
  | zero => intro s h; simp [bxOkL] at h
  | succ f ih =>
    intro s h N h0 hN
    rw [bxOkL, Bool.and_eq_true, Bool.and_eq_true] at h
    obtain ⟨⟨p1, p2⟩, h2⟩ := h
    rw [bxF]
    cases hg : bxGo s with
    | false =>
      rw [if_neg (by simp)]
      refine ⟨fun k hk => absurd hk (by omega), by rw [h0]; exact hg, fun k hk => ?_, fun k hk => absurd hk (by omega)⟩
      obtain rfl : k = 0 := by omega
      rw [h0]; exact ⟨p1, p2⟩
    | true =>
      rw [hg, if_pos rfl, Bool.and_eq_true, Bool.or_eq_true, decide_eq_true_eq] at h2
      rw [if_pos rfl]
      obtain ⟨i1, i2, i3, i4⟩ := ih (bxStep a b s) h2.2 (fun k => N (k + 1)) (by rw [hN, h0]) (fun k => hN (k + 1))
      refine ⟨fun k hk => ?_, i2, fun k hk => ?_, fun k hk => ?_⟩
      · cases k with
        | zero => rw [h0]; exact hg
        | succ k => exact i1 k (by omega)
      · cases k with
        | zero => rw [h0]; exact ⟨p1, p2⟩
        | succ k => exact i3 k (by omega)
      · cases k with
        | zero => rw [h0]; exact h2.1
        | succ k => exact i4 k (by omega)
theorem bx_facts {a b : Int} (ha : maB a = true) (hb : maB b = true) :
    (∀ k, k < bxK a b → bxGo (bxN a b k) = true) ∧ bxGo (bxN a b (bxK a b)) = false ∧ (∀ k, k ≤ bxK a b → paP (bxN a b k).1 = true ∧ paP (bxN a b k).2 = true) ∧ (∀ k, k < bxK a b → (bxN a b k).1.1 < 0 ∨ clOk a (bxN a b k).1 b (bxN a b k).2 = true) ∧ 2 ≤ bxK a b ∧ bxK a b ≤ 30 := by
  rw [maB_iff] at ha hb
  have h := bx_all (a - 1).toNat (by omega) (b - 1).toNat (by omega)
  rw [show (((a - 1).toNat : Nat) : Int) + 1 = a by omega, show (((b - 1).toNat : Nat) : Int) + 1 = b by omega, Bool.and_eq_true, Bool.and_eq_true, decide_eq_true_eq, decide_eq_true_eq] at h
  obtain ⟨⟨h1, h2⟩, h3⟩ := h
  obtain ⟨i1, i2, i3, i4⟩ := bx_gen a b 40 bxSt h1 (bxN a b) rfl (fun _ => rfl)
  exact ⟨i1, i2, i3, i4, h2, h3⟩
/-- the paces behind each clack -/
def bxU (a b : Int) (k : Nat) : List (Int × Int) := (List.range k).map fun j => (bxN a b (j + 1)).1
def bxV (a b : Int) (k : Nat) : List (Int × Int) := (List.range k).map fun j => (bxN a b (j + 1)).2
theorem bxU_succ (a b : Int) (k : Nat) : bxU a b (k + 1) = bxU a b k ++ [(bxN a b (k + 1)).1] := by unfold bxU; rw [List.range_succ, List.map_append]; rfl
theorem bxV_succ (a b : Int) (k : Nat) : bxV a b (k + 1) = bxV a b k ++ [(bxN a b (k + 1)).2] := by unfold bxV; rw [List.range_succ, List.map_append]; rfl
theorem bxU_len (a b : Int) (k : Nat) : (bxU a b k).length = k := by unfold bxU; simp
theorem bxV_len (a b : Int) (k : Nat) : (bxV a b k).length = k := by unfold bxV; simp
/-- was the clack ahead one of both -/
def bxBoth (a b : Int) : Nat → Bool
  | 0 => false
  | k + 1 => !decide ((bxN a b k).1.1 < 0)

/- chains -/
def chNow : List Int → Nat → Int × Int
  | _, 0 => (1, 1)
  | ms, k + 1 => (clV (ms.getD k 0) (chNow ms k) (ms.getD (k + 1) 0) (0, 1)).2
def chOut (ms : List Int) (k : Nat) : List (Int × Int) := (List.range k).map fun j => (clV (ms.getD j 0) (chNow ms j) (ms.getD (j + 1) 0) (0, 1)).1
def chL (ms : List Int) : List (Int × Int) := chOut ms (ms.length - 1) ++ [chNow ms (ms.length - 1)]
def chB (ms : List Int) : Bool := (decide (2 ≤ ms.length) && decide (ms.length ≤ 5)) && ms.all maB
theorem chB_iff (ms : List Int) : chB ms = true ↔ (2 ≤ ms.length ∧ ms.length ≤ 5) ∧ ∀ m ∈ ms, 1 ≤ m ∧ m ≤ 9 := by
  unfold chB
  rw [Bool.and_eq_true, Bool.and_eq_true, decide_eq_true_eq, decide_eq_true_eq, List.all_eq_true]
  constructor
  · rintro ⟨h1, h2⟩; exact ⟨h1, fun m hm => (maB_iff m).1 (h2 m hm)⟩
  · rintro ⟨h1, h2⟩; exact ⟨h1, fun m hm => (maB_iff m).2 (h2 m hm)⟩
theorem low_pa {n d B : Int} (hd : 1 ≤ d) (hdB : d ≤ B) (h0 : -B ≤ n) (h1 : n ≤ B) (hB : B ≤ 1000000) : mkOk n d = true ∧ -B ≤ (mkV n d).1 ∧ (mkV n d).1 ≤ B ∧ 1 ≤ (mkV n d).2 ∧ (mkV n d).2 ≤ B := by
  have h2 := lowP_pos (num := n) (show 0 < d by omega)
  have h3 := lowP_den_le (num := n) (show 0 < d by omega)
  have h4 := lowP_num_abs (show 0 < d by omega) B h0 h1
  have h5 := lowP_coprime (num := n) (show 0 < d by omega)
  have hok : mkOk n d = true := by unfold mkOk paP; rw [paB_iff]; exact ⟨by omega, by omega, by omega, by omega, h5⟩
  rw [(mkV_pa hok).1]
  exact ⟨hok, by omega, by omega, by omega, by omega⟩
/-- a clack with a ball at rest -/
theorem rest_clack {m n : Int} {u : Int × Int} {B : Int} (hm : 1 ≤ m ∧ m ≤ 9) (hn : 1 ≤ n ∧ n ≤ 9) (hu : 0 ≤ u.1 ∧ u.1 ≤ B ∧ 1 ≤ u.2 ∧ u.2 ≤ B) (hB : 18 * B ≤ 1000000) :
    clOk m u n (0, 1) = true ∧ 0 ≤ (clV m u n (0, 1)).2.1 ∧ (clV m u n (0, 1)).2.1 ≤ 18 * B ∧ 1 ≤ (clV m u n (0, 1)).2.2 ∧ (clV m u n (0, 1)).2.2 ≤ 18 * B := by
  obtain ⟨p, q⟩ := u
  simp only at hu
  have e1 : suN (m - n) (p, q) (2 * n) (0, 1) = (m - n) * p := by unfold suN; simp
  have e2 : suN (2 * m) (p, q) (n - m) (0, 1) = 2 * m * p := by unfold suN; simp
  have e3 : suD (m + n) (p, q) (0, 1) = (m + n) * q := by unfold suD; simp
  have b1 := mul_bd (x := m - n) (y := p) (A := 18) (B := B) (by omega) (by omega) (by omega) (by omega)
  have b2 := mul_bd (x := 2 * m) (y := p) (A := 18) (B := B) (by omega) (by omega) (by omega) (by omega)
  have b3 := mul_bd (x := m + n) (y := q) (A := 18) (B := B) (by omega) (by omega) (by omega) (by omega)
  have b4 := mul_pos1 (x := m + n) (y := q) (by omega) (by omega)
  have b5 : 0 ≤ 2 * m * p := Int.mul_nonneg (by omega) (by omega)
  obtain ⟨k1, _⟩ := low_pa (n := (m - n) * p) b4 b3.2 b1.1 b1.2 hB
  obtain ⟨k2, _, k3, k4, k5⟩ := low_pa (n := 2 * m * p) b4 b3.2 b2.1 b2.2 hB
  have hok : clOk m (p, q) n (0, 1) = true := by unfold clOk suOk; rw [e1, e2, e3, k1, k2]; rfl
  refine ⟨hok, ?_, ?_⟩
  · unfold clV suV; rw [hok, if_pos rfl, e2, e3, (mkV_pa k2).1]
    unfold lowP
    exact Int.ediv_nonneg b5 (by omega)
  · unfold clV suV; rw [hok, if_pos rfl, e2, e3]
    exact ⟨k3, k4, k5⟩
def pw18 : Nat → Int
  | 0 => 1
  | k + 1 => 18 * pw18 k
theorem chain_ok {ms : List Int} (hm : ∀ m ∈ ms, 1 ≤ m ∧ m ≤ 9) (h5 : ms.length ≤ 5) : ∀ k, k < ms.length → (0 ≤ (chNow ms k).1 ∧ (chNow ms k).1 ≤ pw18 k ∧ 1 ≤ (chNow ms k).2 ∧ (chNow ms k).2 ≤ pw18 k) ∧ ∀ j, j < k → clOk (ms.getD j 0) (chNow ms j) (ms.getD (j + 1) 0) (0, 1) = true := by
  have hat : ∀ k, k < ms.length → 1 ≤ ms.getD k 0 ∧ ms.getD k 0 ≤ 9 := fun k hk => by
    rw [List.getD_eq_getElem?_getD, List.getElem?_eq_getElem hk]; exact hm _ (List.getElem_mem hk)
  intro k
  induction k with
  | zero => intro _; exact ⟨by unfold chNow pw18; simp, fun j hj => absurd hj (by omega)⟩
  | succ k ih =>
    intro hk
    obtain ⟨i1, i2⟩ := ih (by omega)
    have hp : 18 * pw18 k ≤ 1000000 := by
      have : k ≤ 3 := by omega
      match k, this with
      | 0, _ => decide
      | 1, _ => decide
      | 2, _ => decide
      | 3, _ => decide
    obtain ⟨r1, r2⟩ := rest_clack (hat k (by omega)) (hat (k + 1) hk) i1 hp
    refine ⟨r2, fun j hj => ?_⟩
    rcases (by omega : j < k ∨ j = k) with h | h
    · exact i2 j h
    · subst h; exact r1

/- bounces -/
def keB (p : Int × Int) : Bool := paP p && (decide (0 < p.1) && decide (p.1 < p.2))
def hgV (p : Int × Int) : Nat → Int × Int
  | 0 => (1, 1)
  | k + 1 => mkV ((hgV p k).1 * p.1) ((hgV p k).2 * p.2)
def hgOk (p : Int × Int) : Nat → Bool
  | 0 => true
  | k + 1 => hgOk p k && mkOk ((hgV p k).1 * p.1) ((hgV p k).2 * p.2)
theorem hg_pow {p : Int × Int} (h : keB p = true) : ∀ k, hgOk p k = true → hgV p k = (p.1 ^ k, p.2 ^ k) ∧ paP (hgV p k) = true ∧ 0 < (hgV p k).1 ∧ (hgV p k).1 ≤ (hgV p k).2 ∧ (2 : Int) ^ k ≤ (hgV p k).2 := by
  unfold keB paP at h
  rw [Bool.and_eq_true, Bool.and_eq_true, decide_eq_true_eq, decide_eq_true_eq, paB_iff] at h
  obtain ⟨⟨a1, a2, a3, a4, a5⟩, a6, a7⟩ := h
  intro k
  induction k with
  | zero => intro _; exact ⟨by show ((1 : Int), (1 : Int)) = (p.1 ^ 0, p.2 ^ 0); simp, (show paP (1, 1) = true by decide), (show (0 : Int) < 1 by decide), Int.le_refl _, (show (2 : Int) ^ 0 ≤ 1 by decide)⟩
  | succ k ih =>
    intro hk
    rw [hgOk, Bool.and_eq_true] at hk
    obtain ⟨i1, i2, i3, i4, i5⟩ := ih hk.1
    have hcop : gcdN (p.1 ^ (k + 1)) (p.2 ^ (k + 1)) = 1 := by
      unfold gcdN at a5 ⊢
      rw [Int.natAbs_pow, Int.natAbs_pow]
      exact Nat.Coprime.pow (k + 1) (k + 1) a5
    have e1 : (hgV p k).1 * p.1 = p.1 ^ (k + 1) := by rw [i1]; exact (Int.pow_succ ..).symm
    have e2 : (hgV p k).2 * p.2 = p.2 ^ (k + 1) := by rw [i1]; exact (Int.pow_succ ..).symm
    have hd : 0 < p.2 ^ (k + 1) := by rw [← e2]; exact Int.mul_pos (by omega) (by omega)
    have hlow : lowP (p.1 ^ (k + 1)) (p.2 ^ (k + 1)) = (p.1 ^ (k + 1), p.2 ^ (k + 1)) := (lowP_self_iff hd).2 hcop
    have e3 : hgV p (k + 1) = (p.1 ^ (k + 1), p.2 ^ (k + 1)) := by
      rw [hgV, (mkV_pa hk.2).1, e1, e2, hlow]
    have h2p : (2 : Int) ^ (k + 1) ≤ p.2 ^ (k + 1) := by
      rw [← e2, Int.pow_succ]
      exact Int.mul_le_mul i5 (by omega) (by omega) (by omega)
    refine ⟨e3, (mkV_pa hk.2).2, ?_, ?_, by rw [e3]; exact h2p⟩
    · rw [e3]; show 0 < p.1 ^ (k + 1); rw [← e1]; exact Int.mul_pos i3 a6
    · rw [e3]; show p.1 ^ (k + 1) ≤ p.2 ^ (k + 1); rw [← e1, ← e2]; exact Int.mul_le_mul i4 (by omega) (by omega) (by omega)
theorem hg_stop {p : Int × Int} (h : keB p = true) (k : Nat) (hk : hgOk p k = true) : k ≤ 19 := by
  have h1 := hg_pow h k hk
  have h2 := h1.2.1
  unfold paP at h2
  rw [paB_iff] at h2
  apply Classical.byContradiction
  intro hn
  have h3 : (2 : Int) ^ 20 ≤ (2 : Int) ^ k := by
    have := Nat.pow_le_pow_right (show 0 < 2 by decide) (show 20 ≤ k by omega)
    have e : ∀ j : Nat, ((2 : Int) ^ j) = ((2 ^ j : Nat) : Int) := fun j => by rw [Int.natCast_pow]; rfl
    rw [e, e]; omega
  have h4 : (2 : Int) ^ 20 = 1048576 := by decide
  omega
theorem hgOk_le {p : Int × Int} {k : Nat} (h : hgOk p k = true) : ∀ j, j ≤ k → hgOk p j = true := by
  induction k with
  | zero => intro j hj; obtain rfl : j = 0 := (by omega); exact h
  | succ k ih =>
    intro j hj
    rcases (by omega : j ≤ k ∨ j = k + 1) with h1 | h1
    · rw [hgOk, Bool.and_eq_true] at h; exact ih h.1 j h1
    · subst h1; exact h
def wyV (p : Int × Int) : Nat → Int × Int
  | 0 => (1, 1)
  | k + 1 => suV 1 (wyV p k) 2 (hgV p (k + 1)) 1
def wyOk (p : Int × Int) : Nat → Bool
  | 0 => true
  | k + 1 => wyOk p k && (hgOk p (k + 1) && suOk 1 (wyV p k) 2 (hgV p (k + 1)) 1)
def crL (b l : Nat) (k : Nat) : List Bool := (List.range k).map fun j => decide (b - l ≤ j)
end Go.Proofs.Ytikmkmpekjijpaa
