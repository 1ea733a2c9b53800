/- slices.SortFunc at ants: which block alone it turns. -/
import Derived.Test.YtdoikeglaolipaaCompare
namespace Go.Proofs.Ytdoikeglaolipaa
open Go.RowKit Go.Shelf Go.Lib Go.Sort

theorem sorted_grown (w : World) (g m : Nat) (d : Array (Int × Int)) (os : Array Obj) : w.grownBy (sortWorldK encP 2 w g 0 m d os) (some g) := by
  refine ⟨rfl, rfl, rfl, ?_, fun k hk hne => ?_⟩
  · show w.heap.size ≤ ((w.heap.modify g _) ++ os).size
    simp
  · rw [sorted_heap _ _ _ _ _ _ hk, if_neg (fun e => hne (by rw [e]))]

theorem sortG_any {w : World} {B n c : Nat} {A : Option Addr} {e : TypeId} {l : List (Int × Int)} (hll : l.length ≤ 65536) (h : SlOwn pairS w B e (.slice A n c) l) :
    Calls Try.prog 69 #[.slice A n c, .func (.func 70) #[] #[]] w fun e' w' => e' = .returned (.tuple #[]) ∧ SlOwn pairS w' B e (.slice A n c) (srtA l) ∧ w.grownBy w' (Value.slice A n c).ownBlock := by
  have hlt : l.length ≤ maxLen := by
    rcases h.2 with ⟨_, h0⟩ | ⟨g, cap, cur, hv, _, _, hnc, hm, _⟩
    · omega
    · exact Nat.le_trans hnc hm
  obtain ⟨A', c', hv, _, _⟩ := h.form
  injection hv with e1 e2 e3
  subst e1; subst e2; subst e3
  rcases h.2 with ⟨hv, h0⟩ | ⟨g, cap, cur, hv, _, hg, _⟩
  · injection hv with e1 e2 e3
    have hl : l = [] := List.eq_nil_of_length_eq_zero h0
    subst e1; subst hl; subst e3
    refine (AnyF.slices_SortFunc_none sortAnt none 0 _ w).mono ?_
    rintro e' w' ⟨rfl, rfl⟩
    exact ⟨rfl, by rw [srtA_nil]; exact h, ⟨rfl, rfl, rfl, Nat.le_refl _, fun _ _ _ => rfl⟩⟩
  · injection hv with e1 e2 e3
    subst e1
    obtain ⟨hH, hg2, hB, _⟩ := own_holds h
    have hs : l.toArray.size = l.length := by simp
    have eg : ∀ args w, (callFunc 70 args).run Try.prog w = .ok (.enter 70 args) w := enters_of Try.func70 (by kernel_rfl) rfl
    have hcon := AnyQ.slices_SortFunc_total sortAnt 2 Try.isAgg59 Try.sizeOf59 encP encP_len encP_one cmpA swoA 70 #[] g 0 c l.toArray w eg (cmpLays g 0 l.toArray.size w) hH hg2 (by rw [hs]; omega) (fun x y h1 h2 => by
      rw [ltOf_cmpA] at h1 h2
      exact antLe_anti x y (by unfold antLe; rw [h2]; rfl) (by unfold antLe; rw [h1]; rfl))
    rw [mergeA] at hcon
    rw [hs] at hcon
    refine Calls.mono hcon ?_
    rintro e' w' ⟨rfl, m, os, rfl⟩
    have := sorted_own h (srtA l).toArray (by simp [srtA_len]) m os
    exact ⟨rfl, by simpa using this.1, sorted_grown w g m _ os⟩

end Go.Proofs.Ytdoikeglaolipaa
