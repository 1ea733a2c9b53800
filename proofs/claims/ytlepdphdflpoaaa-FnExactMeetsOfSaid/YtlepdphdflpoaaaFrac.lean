/- The order of fractions in lowest terms; times put in one by one, and times sorted, each once: mathematics only; no dump is read here. -/
import Derived.Test.YtlepdphdflpoaaaRnn
namespace Go.Proofs.Ytlepdphdflpoaaa

theorem mem_getD {s : List (Int × Int)} {k : Nat} (hk : k < s.length) : s.getD k (0, 0) ∈ s := by
  rw [getDp hk]; exact List.getElem_mem hk

def fLt (x y : Int × Int) : Bool := decide (x.1 * y.2 < y.1 * x.2)
/-- a fraction in lowest terms -/
def FP (x : Int × Int) : Prop := 0 < x.2 ∧ gcdN x.1 x.2 = 1
theorem fLt_iff (x y : Int × Int) : fLt x y = true ↔ x.1 * y.2 < y.1 * x.2 := by simp [fLt]
theorem fLt_no (x y : Int × Int) : fLt x y = false ↔ ¬ x.1 * y.2 < y.1 * x.2 := by rw [← Bool.not_eq_true, fLt_iff]
theorem fLt_irrefl (x : Int × Int) : fLt x x = false := by rw [fLt_no]; omega
theorem fLt_trans {x y z : Int × Int} (hx : 0 < x.2) (hy : 0 < y.2) (hz : 0 < z.2) (h1 : fLt x y = true) (h2 : fLt y z = true) : fLt x z = true := by
  rw [fLt_iff] at *
  have e1 : x.1 * y.2 * z.2 < y.1 * x.2 * z.2 := (mul_lt_right hz).2 h1
  have e2 : y.1 * z.2 * x.2 < z.1 * y.2 * x.2 := (mul_lt_right hx).2 h2
  have a1 : x.1 * y.2 * z.2 = x.1 * z.2 * y.2 := by simp only [Int.mul_comm, Int.mul_left_comm]
  have a2 : y.1 * x.2 * z.2 = y.1 * z.2 * x.2 := by simp only [Int.mul_comm, Int.mul_left_comm]
  have a3 : z.1 * y.2 * x.2 = z.1 * x.2 * y.2 := by simp only [Int.mul_comm, Int.mul_left_comm]
  refine (mul_lt_right hy).1 ?_
  omega
theorem fLt_ntrans {x y z : Int × Int} (hx : 0 < x.2) (hy : 0 < y.2) (hz : 0 < z.2) (h1 : fLt x y = false) (h2 : fLt y z = false) : fLt x z = false := by
  rw [fLt_no] at *
  have e1 : y.1 * x.2 * z.2 ≤ x.1 * y.2 * z.2 := Int.mul_le_mul_of_nonneg_right (by omega) (by omega)
  have e2 : z.1 * y.2 * x.2 ≤ y.1 * z.2 * x.2 := Int.mul_le_mul_of_nonneg_right (by omega) (by omega)
  have a1 : x.1 * y.2 * z.2 = x.1 * z.2 * y.2 := by simp only [Int.mul_comm, Int.mul_left_comm]
  have a2 : y.1 * x.2 * z.2 = y.1 * z.2 * x.2 := by simp only [Int.mul_comm, Int.mul_left_comm]
  have a3 : z.1 * y.2 * x.2 = z.1 * x.2 * y.2 := by simp only [Int.mul_comm, Int.mul_left_comm]
  intro h
  have := (mul_lt_right hy).2 h
  omega
theorem fLt_anti {x y : Int × Int} (hx : FP x) (hy : FP y) (h1 : fLt x y = false) (h2 : fLt y x = false) : x = y := by
  rw [fLt_no] at *
  have := frac_anti hx.1 hy.1 hx.2 hy.2 (by omega)
  exact Prod.ext this.1 this.2

def FSrt (l : List (Int × Int)) : Prop := l.Pairwise fun a b => fLt a b = true
theorem FSrt.nodup {l : List (Int × Int)} (h : FSrt l) : l.Nodup := by
  unfold List.Nodup
  refine List.Pairwise.imp (fun {a b} h e => ?_) h
  subst e
  rw [fLt_irrefl] at h
  cases h
theorem FSrt.weak {l : List (Int × Int)} (h : FSrt l) : l.Pairwise fun a b => fLt b a = false := by
  rw [List.pairwise_iff_getElem] at *
  intro i j hi hj hij
  have h1 := (List.pairwise_iff_getElem.1 h) i j hi hj hij
  rw [fLt_iff] at h1
  rw [fLt_no]; omega
/-- two sorted lists of the same fractions, each once, are one -/
theorem frac_unique {m k : List (Int × Int)} (hm : ∀ x, x ∈ m → FP x) (h1 : m.Nodup) (h2 : k.Nodup) (hs1 : m.Pairwise fun a b => fLt b a = false) (hs2 : k.Pairwise fun a b => fLt b a = false) (hmem : ∀ x, x ∈ m ↔ x ∈ k) : m = k := by
  have hp : m.Perm k := (List.perm_ext_iff_of_nodup h1 h2).2 hmem
  exact List.Perm.eq_of_pairwise (le := fun a b => fLt b a = false) (fun a b ha hb h3 h4 => fLt_anti (hm a ha) (hm b ((hmem b).2 hb)) h4 h3) hs1 hs2 hp

/-! ### one put in -/
/-- how many lie ahead -/
def kF (out : List (Int × Int)) (m : Int × Int) : Nat := out.findIdx fun x => !fLt x m
theorem kF_le (out : List (Int × Int)) (m : Int × Int) : kF out m ≤ out.length := List.findIdx_le_length
theorem kF_lt {out : List (Int × Int)} {m : Int × Int} {i : Nat} (h : i < kF out m) : fLt (out.getD i (0, 0)) m = true := by
  have := List.not_of_lt_findIdx h
  rw [getDp (Nat.lt_of_lt_of_le h (kF_le out m))]
  simpa using this
theorem kF_at {out : List (Int × Int)} {m : Int × Int} (h : kF out m < out.length) : fLt (out.getD (kF out m) (0, 0)) m = false := by
  have := List.findIdx_getElem (w := h)
  rw [getDp h]
  have h2 : (!fLt out[kF out m] m) = true := this
  simpa using h2
theorem kF_stop {out : List (Int × Int)} {m : Int × Int} {k : Nat} (hk : k ≤ out.length) (h1 : ∀ i, i < k → fLt (out.getD i (0, 0)) m = true) (h2 : k < out.length → fLt (out.getD k (0, 0)) m = false) : kF out m = k := by
  have a := kF_le out m
  rcases Nat.lt_trichotomy (kF out m) k with h | h | h
  · have b := kF_at (out := out) (m := m) (by omega)
    rw [h1 _ h] at b
    cases b
  · exact h
  · have b := kF_lt h
    rw [h2 (by omega)] at b
    cases b
def insF (out : List (Int × Int)) (m : Int × Int) : List (Int × Int) := if kF out m < out.length ∧ out.getD (kF out m) (0, 0) = m then out else out.take (kF out m) ++ [m] ++ out.drop (kF out m)
theorem insF_mem {out : List (Int × Int)} {m x : Int × Int} : x ∈ insF out m ↔ x ∈ out ∨ x = m := by
  unfold insF
  split
  · rename_i h
    constructor
    · exact .inl
    · rintro (h2 | rfl)
      · exact h2
      · have h3 := h.2
        rw [getDp h.1] at h3
        exact h3 ▸ List.getElem_mem h.1
  · rw [List.mem_append, List.mem_append, List.mem_singleton]
    have e : x ∈ out ↔ x ∈ out.take (kF out m) ∨ x ∈ out.drop (kF out m) := by
      rw [← List.mem_append, List.take_append_drop]
    rw [e]
    constructor
    · rintro ((h | h) | h)
      · exact .inl (.inl h)
      · exact .inr h
      · exact .inl (.inr h)
    · rintro ((h | h) | h)
      · exact .inl (.inl h)
      · exact .inr h
      · exact .inl (.inr h)
theorem insF_srt {out : List (Int × Int)} {m : Int × Int} (hp : ∀ x, x ∈ out → FP x) (hm : FP m) (hs : FSrt out) : FSrt (insF out m) := by
  unfold insF
  split
  · exact hs
  · rename_i hne
    have hk := kF_le out m
    have hl := fun i (h : i < kF out m) => kF_lt h
    have ha := fun h => kF_at (out := out) (m := m) h
    generalize kF out m = K at *
    have hi := List.pairwise_iff_getElem.1 hs
    have up : ∀ j (hj : j < out.length), K ≤ j → fLt m out[j] = true := by
      intro j hj hKj
      have hKl : K < out.length := by omega
      have h1 := ha hKl
      rw [getDp hKl] at h1
      have hKm : fLt m out[K] = true := by
        cases h : fLt m out[K] with
        | true => rfl
        | false =>
          exfalso
          have := fLt_anti (hp _ (List.getElem_mem hKl)) hm h1 h
          exact hne ⟨hKl, by rw [getDp hKl]; exact this⟩
      by_cases e : j = K
      · subst e; exact hKm
      · exact fLt_trans hm.1 (hp _ (List.getElem_mem hKl)).1 (hp _ (List.getElem_mem hj)).1 hKm (hi K j hKl hj (by omega))
    unfold FSrt
    rw [List.append_assoc, List.pairwise_append]
    refine ⟨hs.sublist (List.take_sublist K out), ?_, ?_⟩
    · rw [List.singleton_append, List.pairwise_cons]
      refine ⟨fun a h => ?_, hs.sublist (List.drop_sublist K out)⟩
      obtain ⟨i, h1, rfl⟩ := List.mem_iff_getElem.1 h
      rw [List.length_drop] at h1
      rw [List.getElem_drop]
      exact up _ _ (by omega)
    · intro a h b hb
      obtain ⟨i, h1, rfl⟩ := List.mem_iff_getElem.1 h
      rw [List.length_take] at h1
      rw [List.getElem_take]
      have hiK : i < K := by omega
      rw [List.singleton_append, List.mem_cons] at hb
      rcases hb with rfl | hb
      · have := hl i hiK
        rwa [getDp (by omega)] at this
      · obtain ⟨j, h2, rfl⟩ := List.mem_iff_getElem.1 hb
        rw [List.length_drop] at h2
        rw [List.getElem_drop]
        exact hi i (K + j) (by omega) (by omega) (by omega)
theorem insF_len (out : List (Int × Int)) (m : Int × Int) : (insF out m).length ≤ out.length + 1 := by
  unfold insF
  split
  · omega
  · have := kF_le out m
    rw [List.length_append, List.length_append, List.length_take, List.length_drop, List.length_singleton]; omega

/-- all put in, one by one -/
def tmK (s : List (Int × Int)) (k : Nat) : List (Int × Int) := (s.take k).foldl insF []
theorem tmK_snoc (s : List (Int × Int)) (k : Nat) (hk : k < s.length) : tmK s (k + 1) = insF (tmK s k) (s.getD k (0, 0)) := by
  unfold tmK
  rw [List.take_succ_eq_append_getElem hk, List.foldl_append, getDp hk]
  rfl
theorem tmK_mem (s : List (Int × Int)) : ∀ k, k ≤ s.length → ∀ x, x ∈ tmK s k ↔ x ∈ s.take k
  | 0, _, x => by simp [tmK]
  | k + 1, hk, x => by
    rw [tmK_snoc s k (by omega), insF_mem, tmK_mem s k (by omega) x, List.take_succ_eq_append_getElem (by omega), List.mem_append, List.mem_singleton, getDp (by omega)]
theorem tmK_srt {s : List (Int × Int)} (hp : ∀ x, x ∈ s → FP x) : ∀ k, k ≤ s.length → FSrt (tmK s k)
  | 0, _ => by simp [tmK, FSrt]
  | k + 1, hk => by
    rw [tmK_snoc s k (by omega)]
    refine insF_srt (fun x hx => ?_) ?_ (tmK_srt hp k (by omega))
    · exact hp x (List.mem_of_mem_take ((tmK_mem s k (by omega) x).1 hx))
    · rw [getDp (by omega)]; exact hp _ (List.getElem_mem _)
theorem tmK_len (s : List (Int × Int)) : ∀ k, k ≤ s.length → (tmK s k).length ≤ k
  | 0, _ => by simp [tmK]
  | k + 1, hk => by
    rw [tmK_snoc s k (by omega)]
    have := insF_len (tmK s k) (s.getD k (0, 0))
    have := tmK_len s k (by omega)
    omega

/-! ### each once -/
def ddK (s : List (Int × Int)) : Nat → List (Int × Int)
  | 0 => []
  | k + 1 => if s.getD k (0, 0) ∈ ddK s k then ddK s k else ddK s k ++ [s.getD k (0, 0)]
theorem ddK_in {s : List (Int × Int)} {k : Nat} (h : s.getD k (0, 0) ∈ ddK s k) : ddK s (k + 1) = ddK s k := by rw [ddK, if_pos h]
theorem ddK_out {s : List (Int × Int)} {k : Nat} (h : ¬ s.getD k (0, 0) ∈ ddK s k) : ddK s (k + 1) = ddK s k ++ [s.getD k (0, 0)] := by rw [ddK, if_neg h]
theorem ddK_mem (s : List (Int × Int)) : ∀ k, k ≤ s.length → ∀ x, x ∈ ddK s k ↔ x ∈ s.take k
  | 0, _, x => by simp [ddK]
  | k + 1, hk, x => by
    rw [List.take_succ_eq_append_getElem (by omega), List.mem_append, List.mem_singleton, ← getDp (by omega), ← ddK_mem s k (by omega) x]
    by_cases h : s.getD k (0, 0) ∈ ddK s k
    · rw [ddK_in h]
      constructor
      · exact .inl
      · rintro (h2 | rfl)
        · exact h2
        · exact h
    · rw [ddK_out h, List.mem_append, List.mem_singleton]
theorem ddK_nodup (s : List (Int × Int)) : ∀ k, (ddK s k).Nodup
  | 0 => by simp [ddK]
  | k + 1 => by
    by_cases h : s.getD k (0, 0) ∈ ddK s k
    · rw [ddK_in h]; exact ddK_nodup s k
    · rw [ddK_out h, List.nodup_append]
      refine ⟨ddK_nodup s k, by simp, ?_⟩
      intro a ha b hb
      rw [List.mem_singleton] at hb
      subst hb
      intro e
      subst e
      exact h ha
theorem ddK_len (s : List (Int × Int)) : ∀ k, (ddK s k).length ≤ k
  | 0 => by simp [ddK]
  | k + 1 => by
    have := ddK_len s k
    by_cases h : s.getD k (0, 0) ∈ ddK s k
    · rw [ddK_in h]; omega
    · rw [ddK_out h, List.length_append, List.length_singleton]; omega

theorem fp_ti {l : List (Int × Int)} (h : rnnB l = true) {t : Int × Int} (ht : t ∈ tiL l) : FP t := by
  have := tiL_mem h ht
  exact ⟨by omega, this.2.2.2.2⟩
/-- all times at which some meet -/
def mmL (l : List (Int × Int)) : List (Int × Int) := tmK (tsL l) (tsL l).length
theorem mmL_mem {l : List (Int × Int)} {x : Int × Int} : x ∈ mmL l ↔ x ∈ tsL l := by
  unfold mmL
  rw [tmK_mem _ _ (Nat.le_refl _), List.take_length]
/-- the program's way: each once, then sorted -/
theorem mmL_of {l m : List (Int × Int)} (h : rnnB l = true) (hp : m.Perm (ddK (tiL l) (tiL l).length)) (hs : m.Pairwise fun a b => fLt b a = false) : m = mmL l := by
  have hd := ddK_mem (tiL l) (tiL l).length (Nat.le_refl _)
  rw [List.take_length] at hd
  have hf : ∀ x, x ∈ tsL l → FP x := fun x hx => fp_ti h ((ti_ts l).mem_iff.2 hx)
  have hm : ∀ x, x ∈ m ↔ x ∈ tiL l := fun x => hp.mem_iff.trans (hd x)
  refine frac_unique (fun x hx => fp_ti h ((hm x).1 hx)) (hp.nodup_iff.2 (ddK_nodup _ _)) ?_ hs ?_ ?_
  · exact (tmK_srt hf _ (Nat.le_refl _)).nodup
  · exact (tmK_srt hf _ (Nat.le_refl _)).weak
  · intro x
    rw [hm x, mmL_mem]
    exact (ti_ts l).mem_iff
theorem mmL_len {l : List (Int × Int)} (h : rnnB l = true) : (mmL l).length ≤ 144 := by
  have h1 := tmK_len (tsL l) (tsL l).length (Nat.le_refl _)
  have h2 : (tsL l).length ≤ 144 := tsK_144 (rnn_len h) (rnn_len h)
  unfold mmL; omega
end Go.Proofs.Ytlepdphdflpoaaa
