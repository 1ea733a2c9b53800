/- Ants told anew place by place: those of each place sorted, the places ascending, are all of them sorted. No dump is read here. -/
import Derived.Test.YtdoikeglaolipaaSrt
namespace Go.Proofs.Ytdoikeglaolipaa

def atP (m : List (Int × Int)) (k : Int) : List (Int × Int) := m.filter fun x => x.1 == k
theorem atP_snoc (m : List (Int × Int)) (x : Int × Int) (k : Int) : atP (m ++ [x]) k = if x.1 = k then atP m k ++ [x] else atP m k := by
  unfold atP
  rw [List.filter_append]
  by_cases h : x.1 = k
  · rw [if_pos h, List.filter_cons, if_pos (by simpa using h)]; rfl
  · rw [if_neg h, List.filter_cons, if_neg (by simpa using h)]
    simp
theorem groups_perm (m : List (Int × Int)) : ∀ K : List Int, K.Nodup → (K.flatMap fun k => srtA (atP m k)).Perm (m.filter fun x => decide (x.1 ∈ K))
  | [], _ => by simp
  | k :: K, h => by
    obtain ⟨h1, h2⟩ := List.nodup_cons.1 h
    have ih := groups_perm m K h2
    rw [List.flatMap_cons]
    refine ((srtA_perm _).append ih).trans ?_
    have h3 := List.filter_append_perm (fun x : Int × Int => x.1 == k) (m.filter fun x => decide (x.1 ∈ k :: K))
    rw [List.filter_filter, List.filter_filter] at h3
    have e1 : (m.filter fun x => (x.1 == k) && decide (x.1 ∈ k :: K)) = atP m k := by
      unfold atP
      refine List.filter_congr fun x _ => ?_
      by_cases e : x.1 = k
      · simp [e]
      · simp [e]
    have e2 : (m.filter fun x => (!(x.1 == k)) && decide (x.1 ∈ k :: K)) = m.filter fun x => decide (x.1 ∈ K) := by
      refine List.filter_congr fun x _ => ?_
      by_cases e : x.1 = k
      · simp [e, h1]
      · simp [e]
    rw [e1, e2] at h3
    exact h3
theorem groups_srt (m : List (Int × Int)) (K : List Int) (hK : K.Pairwise (· < ·)) (hall : ∀ x ∈ m, x.1 ∈ K) : (K.flatMap fun k => srtA (atP m k)) = srtA m := by
  refine srtA_unique ?_ ?_
  · unfold Srt
    rw [List.pairwise_flatMap]
    refine ⟨fun k _ => srtA_srt _, hK.imp fun {a b} hab x hx y hy => ?_⟩
    have h1 := (List.mem_filter.1 ((srtA_perm _).mem_iff.1 hx)).2
    have h2 := (List.mem_filter.1 ((srtA_perm _).mem_iff.1 hy)).2
    simp only [beq_iff_eq] at h1 h2
    rw [antLe_iff]
    omega
  · have h := groups_perm m K (hK.imp fun {a b} (hab : a < b) => by omega)
    have e : (m.filter fun x => decide (x.1 ∈ K)) = m := List.filter_eq_self.2 fun x hx => by simpa using hall x hx
    rwa [e] at h
end Go.Proofs.Ytdoikeglaolipaa
