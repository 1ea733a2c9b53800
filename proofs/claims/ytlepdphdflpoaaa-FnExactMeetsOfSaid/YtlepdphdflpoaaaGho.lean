/- Ghosts at a time, in their order: mathematics only; no dump is read here. -/
import Derived.Test.YtlepdphdflpoaaaFrac
namespace Go.Proofs.Ytlepdphdflpoaaa

/-! ### one put in ahead of those that are not less -/
def kA (out : List (Int × Int)) (g : Int × Int) : Nat := out.findIdx fun x => !antLt x g
theorem kA_le (out : List (Int × Int)) (g : Int × Int) : kA out g ≤ out.length := List.findIdx_le_length
theorem kA_lt {out : List (Int × Int)} {g : Int × Int} {i : Nat} (h : i < kA out g) : antLt (out.getD i (0, 0)) g = true := by
  have := List.not_of_lt_findIdx h
  rw [getDp (Nat.lt_of_lt_of_le h (kA_le out g))]
  simpa using this
theorem kA_at {out : List (Int × Int)} {g : Int × Int} (h : kA out g < out.length) : antLt (out.getD (kA out g) (0, 0)) g = false := by
  have := List.findIdx_getElem (w := h)
  rw [getDp h]
  have h2 : (!antLt out[kA out g] g) = true := this
  simpa using h2
theorem kA_stop {out : List (Int × Int)} {g : Int × Int} {k : Nat} (hk : k ≤ out.length) (h1 : ∀ i, i < k → antLt (out.getD i (0, 0)) g = true) (h2 : k < out.length → antLt (out.getD k (0, 0)) g = false) : kA out g = k := by
  have a := kA_le out g
  rcases Nat.lt_trichotomy (kA out g) k with h | h | h
  · have b := kA_at (out := out) (g := g) (by omega)
    rw [h1 _ h] at b
    cases b
  · exact h
  · have b := kA_lt h
    rw [h2 (by omega)] at b
    cases b
def insA (out : List (Int × Int)) (g : Int × Int) : List (Int × Int) := out.take (kA out g) ++ [g] ++ out.drop (kA out g)
theorem insA_perm (out : List (Int × Int)) (g : Int × Int) : (insA out g).Perm (out ++ [g]) := by
  unfold insA
  rw [List.append_assoc, List.singleton_append]
  refine List.perm_middle.trans ?_
  rw [List.take_append_drop]
  exact (List.perm_append_singleton g out).symm
theorem le_of_lt {a b : Int × Int} (h : antLt a b = true) : antLe a b = true := by
  rw [antLt_iff] at h
  rw [antLe_iff]; omega
theorem insA_srt {out : List (Int × Int)} {g : Int × Int} (hs : Srt out) : Srt (insA out g) := by
  unfold insA
  have hk := kA_le out g
  have hl := fun i (h : i < kA out g) => kA_lt h
  have ha := fun h => kA_at (out := out) (g := g) h
  generalize kA out g = K at *
  have hi := List.pairwise_iff_getElem.1 hs
  have up : ∀ j (hj : j < out.length), K ≤ j → antLe g out[j] = true := by
    intro j hj hKj
    have hKl : K < out.length := by omega
    have h1 := ha hKl
    rw [getDp hKl] at h1
    have hKm : antLe g out[K] = true := by unfold antLe; rw [h1]; rfl
    by_cases e : j = K
    · subst e; exact hKm
    · exact antLe_trans _ _ _ hKm (hi K j hKl hj (by omega))
  unfold Srt
  rw [List.append_assoc, List.pairwise_append]
  refine ⟨hs.sublist (List.take_sublist K out), ?_, ?_⟩
  · rw [List.singleton_append, List.pairwise_cons]
    refine ⟨fun a h => ?_, hs.sublist (List.drop_sublist K out)⟩
    obtain ⟨i, h1, rfl⟩ := List.mem_iff_getElem.1 h
    rw [List.length_drop] at h1
    rw [List.getElem_drop]
    exact up _ _ (by omega)
  · intro a h b hb
    obtain ⟨i, h1, rfl⟩ := List.mem_iff_getElem.1 h
    rw [List.length_take] at h1
    rw [List.getElem_take]
    rw [List.singleton_append, List.mem_cons] at hb
    rcases hb with rfl | hb
    · have := hl i (by omega)
      rw [getDp (by omega)] at this
      exact le_of_lt this
    · obtain ⟨j, h2, rfl⟩ := List.mem_iff_getElem.1 hb
      rw [List.length_drop] at h2
      rw [List.getElem_drop]
      exact hi i (K + j) (by omega) (by omega) (by omega)
theorem insA_srtA (l : List (Int × Int)) (g : Int × Int) : insA (srtA l) g = srtA (l ++ [g]) :=
  srtA_unique (insA_srt (srtA_srt l)) ((insA_perm _ _).trans ((srtA_perm l).append_right [g]))

/-! ### the ghosts -/
def ghL (n d : Int) (l : List (Int × Int)) : List (Int × Int) := srtA (l.map (keyR n d))
theorem ghL_len (n d : Int) (l : List (Int × Int)) : (ghL n d l).length = l.length := by
  unfold ghL; rw [srtA_len, List.length_map]
theorem ghL_snoc (n d : Int) (l : List (Int × Int)) (k : Nat) (hk : k < l.length) : ghL n d (l.take (k + 1)) = insA (ghL n d (l.take k)) (keyR n d (l.getD k (0, 0))) := by
  unfold ghL
  rw [insA_srtA, List.take_succ_eq_append_getElem hk, List.map_append, getDp hk]
  rfl
theorem ghL_nil (n d : Int) : ghL n d [] = [] := srtA_nil
theorem ghL_mem {n d : Int} {l : List (Int × Int)} {q : Int × Int} (h : q ∈ ghL n d l) : ∃ x, x ∈ l ∧ keyR n d x = q := by
  have := (srtA_perm (l.map (keyR n d))).mem_iff.1 h
  exact List.mem_map.1 this
/-- the program's way: runners sorted by where their ghosts are, then by pace -/
theorem ghL_of {n d : Int} {l m : List (Int × Int)} (hp : m.Perm l) (hs : (m.map (keyR n d)).Pairwise fun a b => antLe a b = true) : m.map (keyR n d) = ghL n d l :=
  srtA_unique hs (hp.map _)
theorem ghL_key {n d : Int} {l : List (Int × Int)} (hg : rnnB l = true) (hn0 : 0 ≤ n) (hn1 : n ≤ 1000000) (hd0 : 1 ≤ d) (hd1 : d ≤ 1000) {q : Int × Int} (h : q ∈ ghL n d l) : -9000000 ≤ q.1 ∧ q.1 ≤ 10000000 := by
  obtain ⟨x, hx, rfl⟩ := ghL_mem h
  have := key_bound hn0 hn1 hd0 hd1 (rnn_mem hg hx)
  unfold keyR
  simp only
  omega
end Go.Proofs.Ytlepdphdflpoaaa
