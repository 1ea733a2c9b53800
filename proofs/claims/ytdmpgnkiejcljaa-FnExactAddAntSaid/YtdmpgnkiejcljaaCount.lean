/- CountMeetings: the contracts of the program's and of the model's, and of roMeetings. -/
import Derived.Test.YtdmpgnkiejcljaaGood
import Derived.Test.YtdmpgnkiejcljaaGhosts
namespace Go.Proofs.Ytdmpgnkiejcljaa
open Go.RowKit

def mStep (s : Int × Int) (y : Int) : Int × Int := if y = 1 then (s.1, s.2 + 1) else (s.1 + s.2, s.2)
def mAll (l : List (Int × Int)) : Int × Int := l.foldl (fun s p => mStep s p.2) (0, 0)
theorem mAll_snoc (l : List (Int × Int)) (k : Nat) (x : Int × Int) (hx : l[k]? = some x) : mAll (l.take (k + 1)) = mStep (mAll (l.take k)) x.2 := by
  obtain ⟨hk, rfl⟩ := List.getElem?_eq_some_iff.1 hx
  unfold mAll
  rw [List.take_succ_eq_append_getElem hk, List.foldl_append]
  rfl
theorem mAll_bounds (l : List (Int × Int)) : ∀ k, k ≤ l.length → k ≤ 16 → 0 ≤ (mAll (l.take k)).2 ∧ (mAll (l.take k)).2 ≤ k ∧ 0 ≤ (mAll (l.take k)).1 ∧ (mAll (l.take k)).1 ≤ 16 * k := by
  intro k
  induction k with
  | zero => intro _ _; simp [mAll]
  | succ k ih =>
    intro hk h16
    obtain ⟨h1, h2, h3, h4⟩ := ih (by omega) (by omega)
    rw [mAll_snoc l k _ (List.getElem?_eq_getElem hk)]
    unfold mStep
    split <;> refine ⟨?_, ?_, ?_, ?_⟩ <;> simp only <;> omega

theorem getD_of {α : Type} {l : List α} {k : Nat} {x d : α} (h : l[k]? = some x) : l.getD k d = x := by rw [List.getD_eq_getElem?_getD, h]; rfl
theorem good_len {L : Int} {l : List (Int × Int)} (h : goodB L l = true) : (l.length : Int) ≤ 16 := by
  simp only [goodB, Bool.and_eq_true] at h
  have := (hdr_iff _ _).1 h.1
  omega
theorem good_hdr {L : Int} {l : List (Int × Int)} (h : goodB L l = true) : 2 ≤ L ∧ L ≤ 1000 ∧ L % 2 = 0 := by
  simp only [goodB, Bool.and_eq_true] at h
  have := (hdr_iff _ _).1 h.1
  omega
theorem good_ant {L : Int} {l : List (Int × Int)} (h : goodB L l = true) {k : Nat} {x : Int × Int} (hx : l[k]? = some x) : 0 ≤ x.1 ∧ x.1 ≤ L ∧ x.1 % 2 = 0 ∧ (x.2 = -1 ∨ x.2 = 1) := by
  simp only [goodB, Bool.and_eq_true, List.all_eq_true] at h
  have h1 := h.2 k (List.mem_range.2 (List.getElem?_eq_some_iff.1 hx).1)
  simp only [okAt, Bool.and_eq_true, getD_of hx] at h1
  have h2 := h1.1
  simp only [isAntB, Bool.and_eq_true, Bool.or_eq_true, decide_eq_true_eq, beq_iff_eq] at h2
  obtain ⟨⟨⟨a, b⟩, c⟩, d⟩ := h2
  exact ⟨a, b, c, d⟩

/-- what CountMeetings returns -/
def cmV (L : Int) (l : List (Int × Int)) : Int := if goodB L l then (mAll l).1 else 0

theorem ret_ib {a b : Int} {x y : Bool} (h : a = b) (h' : x = y) : Ending.returned (.tuple #[.int .i64 a, .bool x]) = .returned (.tuple #[.int .i64 b, .bool y]) := by rw [h, h']

end Go.Proofs.Ytdmpgnkiejcljaa
