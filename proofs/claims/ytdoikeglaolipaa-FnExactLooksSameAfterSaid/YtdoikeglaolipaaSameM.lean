/- When a circle looks the same, and when all its ants are back: mathematics. -/
import Derived.Test.YtdoikeglaolipaaCaMath
import Derived.Test.YtdoikeglaolipaaCrewE
import Derived.Test.YtdoikeglaolipaaSrtGood
namespace Go.Proofs.Ytdoikeglaolipaa

/-- the first place from j on at which p holds -/
def lstE (p : Nat → Bool) : Nat → Nat → Nat
  | 0, j => j
  | n + 1, j => if p j then j else lstE p n (j + 1)
theorem lstE_spec (p : Nat → Bool) : ∀ n j v, j ≤ v → v < j + n → p v = true → j ≤ lstE p n j ∧ lstE p n j ≤ v ∧ p (lstE p n j) = true ∧ ∀ i, j ≤ i → i < lstE p n j → p i = false
  | 0, j, v, h1, h2, _ => by omega
  | n + 1, j, v, h1, h2, h3 => by
    unfold lstE
    cases hj : p j with
    | true => exact ⟨Nat.le_refl _, h1, hj, fun i h4 h5 => by simp only [if_true] at h5; omega⟩
    | false =>
      have hne : j ≠ v := fun e => by rw [e, h3] at hj; cases hj
      obtain ⟨a, b, c, d⟩ := lstE_spec p n (j + 1) v (by omega) (by omega) h3
      simp only [Bool.false_eq_true, if_false]
      refine ⟨by omega, b, c, fun i h4 h5 => ?_⟩
      by_cases hi : i = j
      · rw [hi]; exact hj
      · exact d i (by omega) h5

def sameP (L : Int) (l : List (Int × Int)) (j : Nat) : Bool := decide (caV L l ((2 * j : Nat) : Int) = l)
def backP (L : Int) (l : List (Int × Int)) (j : Nat) : Bool := decide ((runC L l (2 * j)).1 = l)
def lsN (L : Int) (l : List (Int × Int)) : Nat := lstE (sameP L l) 400 1
def cbN (L : Int) (l : List (Int × Int)) : Nat := lstE (backP L l) 4000 1

theorem ciB_srt {L : Int} {l : List (Int × Int)} (h : ciB L l = true) : srtA l = l := srtA_self (good_srt (ciB_good h))
theorem pm_norm {L : Int} {l : List (Int × Int)} {t : Int} (ht : ∀ x ∈ l, (x.1 + x.2 * t) % L = x.1) : l.map (mvK L (pmF t)) = l := by
  have e : l.map (mvK L (pmF t)) = l.map id := List.map_congr_left fun x hx => by
    show ((x.1 + x.2 * t) % L, x.2) = x
    rw [ht x hx]
  rw [e, List.map_id]
theorem round_norm {L : Int} {l : List (Int × Int)} (h : ciB L l = true) (m : Int) : ∀ x ∈ l, (x.1 + x.2 * (m * L)) % L = x.1 := fun x hx => by
  obtain ⟨k, hk, rfl⟩ := List.mem_iff_getElem.1 hx
  obtain ⟨q0, q1, _⟩ := ciB_way h (List.getElem?_eq_getElem hk)
  have hl := (ciB_len h).1
  rw [← Int.mul_assoc, Int.add_mul_emod_self_right]
  exact Int.emod_eq_of_lt q0 (by omega)
theorem round_same {L : Int} {l : List (Int × Int)} (h : ciB L l = true) (m : Int) : caV L l (m * L) = l := by
  unfold caV
  rw [pm_norm (round_norm h m), ciB_srt h]
theorem same_ex {L : Int} {l : List (Int × Int)} (h : ciB L l = true) : ∃ v : Nat, 1 ≤ v ∧ v < 1 + 400 ∧ sameP L l v = true := by
  obtain ⟨h0, h1, h2, _⟩ := ciB_len h
  refine ⟨(L / 2).toNat, by omega, by omega, ?_⟩
  unfold sameP
  have e : ((2 * (L / 2).toNat : Nat) : Int) = 1 * L := by omega
  rw [e, round_same h 1]
  exact decide_eq_true rfl
theorem shU_round {L : Int} {l : List (Int × Int)} (h : ciB L l = true) (m : Int) : shU L (m * L) l = m * (l.map fun x : Int × Int => x.2).sum := by
  have hl := (ciB_len h).1
  unfold shU
  rw [← sum_mulI]
  refine sum_congrI _ _ l fun x hx => ?_
  obtain ⟨k, hk, rfl⟩ := List.mem_iff_getElem.1 hx
  obtain ⟨q0, q1, _⟩ := ciB_way h (List.getElem?_eq_getElem hk)
  rw [← Int.mul_assoc, Int.add_mul_ediv_right _ _ (by omega), Int.ediv_eq_zero_of_lt q0 (by omega), Int.mul_comm]
  omega
theorem back_ex {L : Int} {l : List (Int × Int)} (h : ciB L l = true) : ∃ v : Nat, 1 ≤ v ∧ v < 1 + 4000 ∧ backP L l v = true := by
  obtain ⟨h0, h1, h2, h16⟩ := ciB_len h
  have hc := circ_of h
  by_cases hn : l.length = 0
  · have hl : l = [] := List.eq_nil_of_length_eq_zero hn
    refine ⟨1, Nat.le_refl _, by omega, ?_⟩
    unfold backP
    have := runC_len hc (2 * 1)
    rw [hn] at this
    rw [List.eq_nil_of_length_eq_zero this, hl]
    exact decide_eq_true rfl
  · obtain ⟨q, hq⟩ : ∃ q : Nat, L = 2 * (q : Int) := ⟨(L / 2).toNat, by omega⟩
    have hb : l.length * q ≤ 16 * 200 := Nat.mul_le_mul h16 (by omega)
    have hb1 : 1 ≤ l.length * q := Nat.mul_pos (by omega) (by omega)
    refine ⟨l.length * q, hb1, by omega, ?_⟩
    unfold backP
    refine decide_eq_true ?_
    apply List.ext_getElem?
    intro i
    by_cases hi : i < l.length
    · have ht := (ring_told hc (ciB_asc h) (2 * (l.length * q)) hi).1
      have et : (((2 * (l.length * q) : Nat)) : Int) = (l.length : Int) * L := by
        rw [hq]
        push_cast
        rw [← Int.mul_assoc, Int.mul_comm 2, Int.mul_assoc]
      have em : srtA (l.map (ghC L ((2 * (l.length * q) : Nat) : Int))) = l := by
        have := round_same h (l.length : Int)
        rw [et]
        exact this
      rw [em, et, shU_round h] at ht
      rw [ht, Int.add_mul_emod_self_left, Int.emod_eq_of_lt (by omega) (by omega)]
      simp
    · rw [List.getElem?_eq_none (by rw [runC_len hc]; omega), List.getElem?_eq_none (by omega)]

theorem ls_spec {L : Int} {l : List (Int × Int)} (h : ciB L l = true) : 1 ≤ lsN L l ∧ lsN L l ≤ 400 ∧ sameP L l (lsN L l) = true ∧ ∀ i, 1 ≤ i → i < lsN L l → sameP L l i = false := by
  obtain ⟨v, h1, h2, h3⟩ := same_ex h
  obtain ⟨a, b, c, d⟩ := lstE_spec (sameP L l) 400 1 v h1 h2 h3
  exact ⟨a, by unfold lsN; omega, c, d⟩
theorem cb_spec {L : Int} {l : List (Int × Int)} (h : ciB L l = true) : 1 ≤ cbN L l ∧ cbN L l ≤ 4000 ∧ backP L l (cbN L l) = true ∧ ∀ i, 1 ≤ i → i < cbN L l → backP L l i = false := by
  obtain ⟨v, h1, h2, h3⟩ := back_ex h
  obtain ⟨a, b, c, d⟩ := lstE_spec (backP L l) 4000 1 v h1 h2 h3
  exact ⟨a, by unfold cbN; omega, c, d⟩

/-- moved on twice -/
theorem pm_pm (L s t : Int) (x : Int × Int) : mvK L (pmF t) (mvK L (pmF s) x) = mvK L (pmF (s + t)) x := by
  show (((x.1 + x.2 * s) % L + x.2 * t) % L, x.2) = ((x.1 + x.2 * (s + t)) % L, x.2)
  rw [Int.emod_add_emod, Int.mul_add, Int.add_assoc]
theorem map_pm (L s t : Int) (l : List (Int × Int)) : (l.map (mvK L (pmF s))).map (mvK L (pmF t)) = l.map (mvK L (pmF (s + t))) := by
  rw [List.map_map]
  exact List.map_congr_left fun x _ => pm_pm L s t x
theorem same_iff {L : Int} {l : List (Int × Int)} (h : ciB L l = true) (t : Int) : caV L l t = l ↔ (l.map (mvK L (pmF t))).Perm l := by
  constructor
  · intro e
    have := (srtA_perm (l.map (mvK L (pmF t)))).symm
    unfold caV at e
    rwa [e] at this
  · intro e
    unfold caV
    rw [srtA_congr e, ciB_srt h]
theorem same_mul {L : Int} {l : List (Int × Int)} (h : ciB L l = true) {s : Int} (hs : (l.map (mvK L (pmF s))).Perm l) : ∀ q : Nat, (l.map (mvK L (pmF (s * q)))).Perm l
  | 0 => by
    have e : l.map (mvK L (pmF (s * (0 : Nat)))) = l := pm_norm fun x hx => by
      obtain ⟨k, hk, rfl⟩ := List.mem_iff_getElem.1 hx
      obtain ⟨q0, q1, _⟩ := ciB_way h (List.getElem?_eq_getElem hk)
      have : l[k].2 * (s * (0 : Nat)) = 0 := by simp
      rw [this, Int.add_zero]
      exact Int.emod_eq_of_lt q0 (by omega)
    rw [e]
  | q + 1 => by
    have ih := same_mul h hs q
    have e : s * ((q + 1 : Nat) : Int) = s * q + s := by push_cast; rw [Int.mul_add, Int.mul_one]
    rw [e, ← map_pm]
    exact (ih.map _).trans hs
/-- all ants are back only when the circle looks the same: at multiples of the first such time -/
theorem back_mul {L : Int} {l : List (Int × Int)} (h : ciB L l = true) : ∃ q : Nat, cbN L l = lsN L l * q ∧ 1 ≤ q := by
  obtain ⟨a1, _, a3, a4⟩ := ls_spec h
  obtain ⟨b1, _, b3, _⟩ := cb_spec h
  have hs : (l.map (mvK L (pmF ((2 * lsN L l : Nat) : Int)))).Perm l := (same_iff h _).1 (of_decide_eq_true a3)
  have hR : (runC L l (2 * cbN L l)).1 = l := of_decide_eq_true b3
  have hc : (l.map (mvK L (pmF ((2 * cbN L l : Nat) : Int)))).Perm l := by
    have h1 := (run_ok (circ_of h) (2 * cbN L l)).1
    rw [hR] at h1
    exact h1.symm
  have hdm := Nat.div_add_mod (cbN L l) (lsN L l)
  generalize hq : cbN L l / lsN L l = q at *
  have hm := Nat.mod_lt (cbN L l) (show 0 < lsN L l by omega)
  generalize hr : cbN L l % lsN L l = r at *
  have e : ((2 * cbN L l : Nat) : Int) = ((2 * lsN L l : Nat) : Int) * q + ((2 * r : Nat) : Int) := by
    rw [← hdm]
    push_cast
    rw [Int.mul_add, Int.mul_assoc]
  have hp : (l.map (mvK L (pmF ((2 * r : Nat) : Int)))).Perm l := by
    rw [e, ← map_pm] at hc
    exact ((same_mul h hs q).map _).symm.trans hc
  have hr0 : r = 0 := by
    refine Classical.byContradiction fun h0 => ?_
    have := a4 r (by omega) hm
    unfold sameP at this
    rw [decide_eq_false_iff_not] at this
    exact this ((same_iff h _).2 hp)
  refine ⟨q, by omega, ?_⟩
  refine Nat.one_le_iff_ne_zero.2 fun hq0 => ?_
  rw [hq0, hr0] at hdm
  omega
end Go.Proofs.Ytdoikeglaolipaa
