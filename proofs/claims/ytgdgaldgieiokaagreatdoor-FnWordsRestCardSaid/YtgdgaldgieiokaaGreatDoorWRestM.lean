/- FnWordsRest: what the law says, in plain words, and each call as the walk meets it. -/
import Derived.Test.YtgdgaldgieiokaaGreatDoorDrawW
import Derived.Test.YtgdgaldgieiokaaGreatDoorLawG
import Derived.Test.YtgdgaldgieiokaaGreatDoorWoK
import Derived.Test.YtgdgaldgieiokaaGreatDoorWoZ
import Derived.Test.YtgdgaldgieiokaaGreatDoorWrdB
namespace Go.Proofs.YtgdgaldgieiokaaGreatDoor
open Go.RowKit

theorem okW_isLr {l : List UInt8} (h : okW l = true) : l.all isLr = true := by unfold okW at h; rw [Bool.and_eq_true] at h; exact h.2
theorem okW_of {l : List UInt8} (h1 : l.length ≤ 14) (h2 : l.all isLr = true) : okW l = true := by unfold okW; rw [h2, decide_eq_true h1]; rfl
theorem aft_true {l : List UInt8} (h : okW l = true) {t : Int} (h0 : 0 ≤ t) (h1 : t ≤ 20) : aftB l t = true := by unfold aftB; rw [h, decide_eq_true h0, decide_eq_true h1]; rfl
theorem met_elems {l : List UInt8} (h14 : l.length ≤ 14) : ∀ x ∈ natI (metL l), 0 ≤ x ∧ x ≤ 1000 := by
  have hm : ∀ f l, l.length ≤ 14 → ∀ x ∈ metF f l, x ≤ 14 := by
    intro f
    induction f with
    | zero => intro l _ x hx; cases hx
    | succ f ih =>
      intro l hl x hx
      rw [metF] at hx
      split at hx
      · cases hx
      · rcases List.mem_cons.1 hx with rfl | hx
        · have := count_two_le l; omega
        · exact ih (stp l) (by rw [stp_len]; exact hl) x hx
  intro x hx
  obtain ⟨n, hn, rfl⟩ := List.mem_map.1 hx
  have := hm _ l h14 n hn
  omega
/-- what each word keeps -/
structure RestF (l : List UInt8) (R : List UInt8) (k F M M1 : Nat) : Prop where
  len14 : l.length ≤ 14
  k_eq : (metL l).length = k
  f_eq : (facP l l.length).length = F
  m1 : (M : Int) - F = M1
  inv1 : invW (stp l) = M1
  sum : (natI (metL l)).sum = M
  invM : invW l = M
  Rl : stpN 20 l = R
  Rr : rst (l.count 108) (l.count 114) = R
  k_lt : k ≠ 0 → k < l.length
  k_le : k ≤ 13
  k0 : k = 0 ↔ F = 0
  kR : k = 0 ↔ l = R
  F14 : F ≤ 14
  before : k ≠ 0 → stpN (k - 1) l ≠ R
  by0 : k ≠ 0 → (natI (metL l))[0]? = some (F : Int)
  Mb : M ≤ 14000
theorem natI_sum (l : List Nat) : (natI l).sum = (l.sum : Nat) := by
  induction l with
  | nil => rfl
  | cons x l ih =>
    show (x : Int) + (natI l).sum = _
    rw [ih, List.sum_cons]; omega
theorem rest_facts {l : List UInt8} (h : okW l = true) : ∃ R k F M M1, RestF l R k F M M1 := by
  have ha := okW_isLr h
  have h14 := okW_len h
  have hf := facP_fc l
  have hi := inv_stp l
  have hs := steps_lt ha
  have hml := met_len_le
  have hrest : fcR (stpN 20 l) = 0 := rest_late ha (by omega)
  have hR : stpN 20 l = rst (l.count 108) (l.count 114) := by
    have := rest_shape (stpN 20 l) (stpN_all 20 ha) hrest
    rwa [stpN_count, stpN_count] at this
  have hk0 : (metL l).length = 0 ↔ fcR l = 0 := by
    constructor
    · intro e
      by_cases h0 : fcR l = 0
      · exact h0
      · rw [metL_step h0] at e; simp at e
    · intro e; rw [metL_rest e]; rfl
  have hkR : (metL l).length = 0 ↔ l = rst (l.count 108) (l.count 114) := hk0.trans (rest_iff ha)
  refine ⟨rst (l.count 108) (l.count 114), (metL l).length, (facP l l.length).length, invW l, invW (stp l), h14, rfl, rfl, by omega, rfl, by rw [natI_sum, met_sum ha], rfl, hR, rfl, fun hk => ?_, by omega, by rw [hf]; exact hk0, hkR, by have := facP_len_le l l.length; omega, fun hk e => ?_, fun hk => ?_, ?_⟩
  · have : l.length ≠ 0 := by
      intro e
      have := List.eq_nil_of_length_eq_zero e
      subst this
      exact hk rfl
    omega
  · have h1 := met_len_gt ((metL l).length - 1) l (by omega)
    rw [e] at h1
    exact h1 (fcR_rst _ _)
  · have h0 : fcR l ≠ 0 := fun e => hk (hk0.2 e)
    rw [metL_step h0, hf]; rfl
  · have h1 := (gsum_bd (natI (metL l)) (met_elems h14)).2
    rw [natI_sum, met_sum ha] at h1
    have h2 : (natI (metL l)).length = (metL l).length := by unfold natI; simp
    rw [h2] at h1
    omega
theorem bytesLess_of {s t : List UInt8} (h : ltW s t) : Op.bytesLess s t = true := by
  induction s generalizing t with
  | nil =>
    cases t with
    | nil => exact absurd h id
    | cons y t => rfl
  | cons x s ih =>
    cases t with
    | nil => exact absurd h id
    | cons y t =>
      rcases h with h | ⟨h1, h2⟩
      · show (decide (x < y) || _) = true; rw [decide_eq_true h]; rfl
      · show (decide (x < y) || (x == y && Op.bytesLess s t)) = true
        rw [ih h2, h1]; simp
theorem bytesLess_mk {s t : List UInt8} (h : ltW s t) : Op.bytesLess (mkB s).toList (mkB t).toList = true := by
  rw [Lib.toList_data, Lib.toList_data]; exact bytesLess_of h
/-- of the words before: each is a word that becomes it, and they come in order -/
theorem bf_at {v p : List UInt8} {j : Nat} (hv : bfOk v = true) (h : (bfW v)[j]? = some p) : stp p = v ∧ okW p = true ∧ p.length ≤ 14 := by
  have hm := List.mem_of_getElem? h
  unfold bfW at hm
  obtain ⟨h1, h2⟩ := List.mem_filter.1 hm
  have h3 := allW_mem _ _ _ (Nat.le_refl _) p h1
  unfold bfOk at hv
  rw [Bool.and_eq_true] at hv
  have h4 := count_lr v (okW_isLr hv.1)
  have h5 := of_decide_eq_true hv.2
  have h6 : p.length ≤ 14 := by rw [h3.2.2.1]; omega
  exact ⟨of_decide_eq_true h2, okW_of h6 h3.2.2.2, h6⟩
theorem bf_up {v p q : List UInt8} {j : Nat} (h1 : (bfW v)[j]? = some p) (h2 : (bfW v)[j + 1]? = some q) : ltW p q := by
  have hp : (bfW v).Pairwise ltW := (allW_up _ _ _ (Nat.le_refl _)).filter _
  obtain ⟨a1, rfl⟩ := List.getElem?_eq_some_iff.1 h1
  obtain ⟨a2, rfl⟩ := List.getElem?_eq_some_iff.1 h2
  exact List.pairwise_iff_getElem.1 hp j (j + 1) a1 a2 (by omega)
theorem bf_own {l : List UInt8} (h : okW l = true) : l ∈ bfW (stp l) := by
  unfold bfW
  rw [stp_count, stp_count]
  exact List.mem_filter.2 ⟨allW_all l (okW_isLr h), decide_eq_true rfl⟩
theorem bf_ok {l : List UInt8} (h : okW l = true) (h10 : l.length ≤ 10) : bfOk (stp l) = true := by
  unfold bfOk
  rw [stp_ok h, stp_len, decide_eq_true h10]; rfl
theorem face_slices {l : List UInt8} {i : Nat} (h : faceAt l i = true) : (mkB l).extract i (i + 2) = ⟨#[114, 108]⟩ ∧ (mkB (stp l)).extract i (i + 2) = ⟨#[108, 114]⟩ ∧ i + 2 ≤ l.length := by
  have h1 : l[i]? = some 114 ∧ l[i + 1]? = some 108 := by
    unfold faceAt at h
    rw [Bool.and_eq_true] at h
    exact ⟨of_decide_eq_true h.1, of_decide_eq_true h.2⟩
  have h2 := face_turn l i h
  have hx : ∀ (m : List UInt8) (x y : UInt8), m[i]? = some x → m[i + 1]? = some y → (mkB m).extract i (i + 2) = mkB [x, y] := by
    intro m x y e1 e2
    rw [extract_mk, mkB_data, List.drop_take]
    congr 1
    obtain ⟨k1, rfl⟩ := List.getElem?_eq_some_iff.1 e1
    obtain ⟨k2, rfl⟩ := List.getElem?_eq_some_iff.1 e2
    rw [List.drop_eq_getElem_cons k1, List.drop_eq_getElem_cons k2, show i + 2 - i = 2 by omega]
    rfl
  refine ⟨hx l 114 108 h1.1 h1.2, hx (stp l) 108 114 h2.1 h2.2, ?_⟩
  have := (List.getElem?_eq_some_iff.1 h1.2).1
  omega
theorem fac_at {l : List UInt8} {j : Nat} {x : Int} (h : (natI (facP l l.length))[j]? = some x) : ∃ i : Nat, x = i ∧ faceAt l i = true := by
  unfold natI at h
  rw [List.getElem?_map] at h
  obtain ⟨i, hi, rfl⟩ := Option.map_eq_some_iff.1 h
  exact ⟨i, rfl, fac_mem (List.mem_of_getElem? hi)⟩
end Go.Proofs.YtgdgaldgieiokaaGreatDoor
