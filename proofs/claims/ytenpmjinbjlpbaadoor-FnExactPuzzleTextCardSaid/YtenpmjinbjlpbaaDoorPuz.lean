/- What clues, places and puzzles are: mathematics. -/
import Derived.Test.YtenpmjinbjlpbaaDoorPlac
namespace Go.Proofs.YtenpmjinbjlpbaaDoor
open Go.RowKit

def inB (x lo hi : Int) : Bool := decide (lo ≤ x) && decide (x ≤ hi)
theorem inB_iff (x lo hi : Int) : inB x lo hi = true ↔ lo ≤ x ∧ x ≤ hi := by unfold inB; simp
/-- what a clue of a rod with n ants is -/
def clB (n k a b : Int) : Bool :=
  if k = 0 then inB a 0 (n - 1) && inB b 0 1
  else if k = 1 then inB a 0 n && b == 0
  else if k = 2 then inB a 0 100 && b == 0
  else if k = 3 then inB a 0 1000 && b == 0
  else if k = 4 then inB a 0 (n - 1) && inB b 0 1000
  else if k = 5 then inB a 0 1000 && a % 2 == 0 && inB b 0 n
  else false
def pclB (n : Int) (c : Int × Int × Int) : Bool := clB n c.1 c.2.1 c.2.2
/-- what IsClue reports -/
def iclB (L n k a b : Int) : Bool := hdr L 0 && inB n 1 8 && clB n k a b
/-- numbers of 0..L that increase -/
def risAt (L : Int) (l : List Int) (k : Nat) : Bool := inB (l.getD k 0) 0 L && (k == 0 || decide (l.getD (k - 1) 0 < l.getD k 0))
def risB (L : Int) (l : List Int) : Bool := (List.range l.length).all (risAt L l)
def evAt (l : List Int) (k : Nat) : Bool := l.getD k 0 % 2 == 0
def evB (l : List Int) : Bool := (List.range l.length).all (evAt l)
theorem rowB_parts (L : Int) (l : List Int) : rowB L l = (risB L l && evB l) := by
  unfold rowB risB evB
  rw [Bool.eq_iff_iff]
  simp only [List.all_eq_true, Bool.and_eq_true]
  constructor
  · intro h
    refine ⟨fun k hk => ?_, fun k hk => ?_⟩
    · have := h k hk
      unfold numAt at this
      unfold risAt inB
      simp only [Bool.and_eq_true] at this ⊢
      exact ⟨⟨this.1.1.1, this.1.1.2⟩, this.2⟩
    · have := h k hk
      unfold numAt at this
      simp only [Bool.and_eq_true] at this
      exact this.1.2
  · rintro ⟨h1, h2⟩ k hk
    have h3 := h1 k hk
    have h4 := h2 k hk
    unfold risAt inB at h3
    unfold evAt at h4
    unfold numAt
    simp only [Bool.and_eq_true] at h3 ⊢
    exact ⟨⟨⟨h3.1.1, h3.1.2⟩, h4⟩, h3.2⟩
/-- places of at most 8 ants -/
def hplB (L : Int) (l : List Int) : Bool := hdr L 0 && inB l.length 1 8 && risB L l && evB l
theorem hplB_plB {L : Int} {l : List Int} (h : hplB L l = true) : plB L l = true := by
  unfold hplB at h
  simp only [Bool.and_eq_true] at h
  obtain ⟨⟨⟨h1, h2⟩, h3⟩, h4⟩ := h
  rw [inB_iff] at h2
  unfold plB
  rw [rowB_parts, h1, h3, h4]
  simp
  omega
def cluesB (n : Int) (cs : List (Int × Int × Int)) : Bool := cs.all (pclB n)
/-- what a puzzle is -/
def puzB (L : Int) (l : List Int) (cs : List (Int × Int × Int)) : Bool := hplB L l && decide (cs.length ≤ 6) && cluesB l.length cs
end Go.Proofs.YtenpmjinbjlpbaaDoor
