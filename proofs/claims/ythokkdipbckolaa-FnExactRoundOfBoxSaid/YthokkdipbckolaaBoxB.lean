/- What a box is, on both sides; counts of knocks in plain lists. -/
import Derived.Test.YthokkdipbckolaaBoxW
import Derived.Test.YthokkdipbckolaaBoxM
import Derived.Test.YthokkdipbckolaaGoodF
namespace Go.Proofs.Ythokkdipbckolaa

/-- an ant at a wall that goes towards it -/
def outB (L : Int) (x : Int × Int) : Bool := (x.1 == 0 && decide (x.2 < 0)) || (x.1 == L && decide (0 < x.2))
def boxB (L : Int) (l : List (Int × Int)) : Bool := goodB L l && !(l.any (outB L))
theorem boxB_good {L : Int} {l : List (Int × Int)} (h : boxB L l = true) : goodB L l = true := by
  unfold boxB at h
  rw [Bool.and_eq_true] at h
  exact h.1
theorem boxB_in {L : Int} {l : List (Int × Int)} (h : boxB L l = true) {x : Int × Int} (hx : x ∈ l) : ¬ (x.1 = 0 ∧ x.2 < 0) ∧ ¬ (x.1 = L ∧ 0 < x.2) := by
  unfold boxB at h
  rw [Bool.and_eq_true, Bool.not_eq_true', List.any_eq_false] at h
  have := h.2 x hx
  unfold outB at this
  simp only [Bool.or_eq_true, Bool.and_eq_true, beq_iff_eq, decide_eq_true_eq] at this
  omega
theorem box_of {L : Int} {l : List (Int × Int)} (h : boxB L l = true) : BoxL L l := by
  have hg := boxB_good h
  have hh := good_hdr hg
  refine ⟨hh.1, hh.2.2, fun x hx => ?_, fun i j x y hij hx hy => ?_⟩
  · obtain ⟨k, hk, rfl⟩ := List.mem_iff_getElem.1 hx
    have h1 := good_ant hg (List.getElem?_eq_getElem hk)
    have h2 := boxB_in h hx
    omega
  · have h1 := good_lt hg i j hij (List.getElem?_eq_some_iff.1 hy).1
    have h2 := good_ant hg hx
    have h3 := good_ant hg hy
    rw [getD_of hx, getD_of hy, antLt_iff] at h1
    omega
theorem boxB_len {L : Int} {l : List (Int × Int)} (h : boxB L l = true) : 2 ≤ L ∧ L ≤ 1000 ∧ L % 2 = 0 ∧ l.length ≤ 16 := by
  have h1 := good_hdr (boxB_good h)
  have h2 := good_len (boxB_good h)
  omega

/-! ### knocks, step by step -/
def leB (L : Int) (l : List (Int × Int)) : Nat → Nat
  | 0 => 0
  | t + 1 => leB L l t + atB 0 (runB L l t).1
def riB (L : Int) (l : List (Int × Int)) : Nat → Nat
  | 0 => 0
  | t + 1 => riB L l t + atB L (runB L l t).1
def knB (L : Int) (l : List (Int × Int)) : Nat → List Int
  | 0 => List.replicate l.length 0
  | t + 1 => stepK L (runB L l t).1 (knB L l t)
theorem leB_le {L : Int} {l : List (Int × Int)} (h : BoxL L l) (hl : l.length ≤ 16) : ∀ t, leB L l t ≤ 16 * t
  | 0 => Nat.le_refl _
  | t + 1 => by
    have h1 := leB_le h hl t
    have h2 := runB_len h t
    have h3 := atB_le 0 (runB L l t).1
    show leB L l t + atB 0 (runB L l t).1 ≤ _
    omega
theorem riB_le {L : Int} {l : List (Int × Int)} (h : BoxL L l) (hl : l.length ≤ 16) : ∀ t, riB L l t ≤ 16 * t
  | 0 => Nat.le_refl _
  | t + 1 => by
    have h1 := riB_le h hl t
    have h2 := runB_len h t
    have h3 := atB_le L (runB L l t).1
    show riB L l t + atB L (runB L l t).1 ≤ _
    omega
theorem stepK_inv {L : Int} {l : List (Int × Int)} {gl : List Int} {k : Nat} {g : Int} (h : (stepK L l gl)[k]? = some g) : ∃ x g0, l[k]? = some x ∧ gl[k]? = some g0 ∧ g = if wallB L x then g0 + 1 else g0 := by
  unfold stepK at h
  rw [List.getElem?_zipWith] at h
  cases hx : l[k]? with
  | none => rw [hx] at h; simp at h
  | some x =>
    cases hg : gl[k]? with
    | none => rw [hx, hg] at h; simp at h
    | some g0 =>
      rw [hx, hg] at h
      injection h with h
      exact ⟨x, g0, rfl, rfl, h.symm⟩
theorem knB_le (L : Int) (l : List (Int × Int)) : ∀ (t k : Nat) (g : Int), (knB L l t)[k]? = some g → 0 ≤ g ∧ g ≤ t
  | 0, k, g, hg => by
    have := List.mem_of_getElem? hg
    have : g = 0 := List.eq_of_mem_replicate this
    omega
  | t + 1, k, g, hg => by
    obtain ⟨x, g0, hx, hg0, rfl⟩ := stepK_inv hg
    have h1 := knB_le L l t k g0 hg0
    split <;> omega
theorem runB_wall {L : Int} {l : List (Int × Int)} (h : BoxL L l) (t k : Nat) (x : Int × Int) (hx : (runB L l t).1[k]? = some x) : ¬ (x.1 = 0 ∧ x.2 = -1) ∧ ¬ (x.1 = L ∧ x.2 = 1) := by
  have := (runB_ok h t).1.ant x (List.mem_of_getElem? hx)
  exact this.2.2.2.2
end Go.Proofs.Ythokkdipbckolaa
