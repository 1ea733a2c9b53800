/- MakePuzzle: both sides at every argument. -/
import Derived.Test.YtenpmjinbjlpbaaMkC
import Derived.Test.YtenpmjinbjlpbaaMkD
namespace Go.Proofs.Ytenpmjinbjlpbaa
open Go.RowKit

theorem mkOk_parts {L m z : Int} {l : List (Int × Int)} (h : mkOk L l m z = true) : hidB L l = true ∧ (0 ≤ m ∧ m ≤ 6) ∧ (0 ≤ z ∧ z ≤ 9999) := by
  unfold mkOk at h
  simp only [Bool.and_eq_true, decide_eq_true_eq] at h
  exact ⟨h.1.1, h.1.2, h.2⟩
theorem specMake_any (L : Int) (A : Option Addr) (c : Nat) (l : List (Int × Int)) (m z : Int) (w : World) (_hn : (l.length : Int) ≤ 1048576) (hA : AntsAt w A l) :
    Calls Try.prog 14 #[.agg #[.int .i64 L, .slice A l.length c], .int .i64 m, .int .i64 z] w fun e w' => ∃ A' n' c' C' m' d', e = .returned (.tuple #[.agg #[.int .i64 (mkL L l m z), .slice A' n' c', .slice C' m' d'], .bool (mkOk L l m z)]) ∧ n' = (mkP L l m z).length ∧ m' = (mkC L l m z).length ∧ SlOwn intS w' w.heap.size 3 (.slice A' n' c') (mkP L l m z) ∧ SlOwn tripS w' w.heap.size 35 (.slice C' m' d') (mkC L l m z) ∧ Below w.heap.size w w' := by
  cases hok : mkOk L l m z with
  | false =>
    obtain ⟨e1, e2, e3, -⟩ := mk_no hok
    refine (specMake_no L m z A c l w hok hA).mono ?_
    rintro e w' ⟨rfl, hb⟩
    rw [e1, e2, e3]
    exact ⟨none, 0, 0, none, 0, 0, rfl, rfl, rfl, SlOwn.nil intS _ _ _, SlOwn.nil tripS _ _ _, hb⟩
  | true =>
    obtain ⟨e1, e2, e3, -⟩ := mk_yes hok
    obtain ⟨hh, hm, hz⟩ := mkOk_parts hok
    obtain ⟨M, rfl⟩ := Int.eq_ofNat_of_zero_le hm.1
    refine (specMake_yes L z M A c l w hh (by omega) hz hA).mono ?_
    rintro e w' ⟨A2, k2, A3, n3, c3, rfl, hn3, ho, hp, hb⟩
    rw [e1, e2, e3]
    exact ⟨A2, l.length, k2, A3, n3, c3, rfl, by simp, by rw [mkCs_len]; simpa using hn3, ho, hp, hb⟩
theorem implMake_any (L : Int) (A : Option Addr) (c : Nat) (l : List (Int × Int)) (m z : Int) (w : World) (hn : (l.length : Int) ≤ 1048576) (hA : AntsAt w A l) :
    Calls Try.prog 16 #[.agg #[.int .i64 L, .slice A l.length c], .int .i64 m, .int .i64 z] w fun e w' => ∃ A' n' c' C' m' d', e = .returned (.tuple #[.agg #[.int .i64 (mkL L l m z), .slice A' n' c', .slice C' m' d'], .bool (mkOk L l m z)]) ∧ n' = (mkP L l m z).length ∧ m' = (mkC L l m z).length ∧ SlOwn intS w' w.heap.size 3 (.slice A' n' c') (mkP L l m z) ∧ SlOwn tripS w' w.heap.size 35 (.slice C' m' d') (mkC L l m z) ∧ Below w.heap.size w w' := by
  cases hok : mkOk L l m z with
  | false =>
    obtain ⟨e1, e2, e3, -⟩ := mk_no hok
    refine (implMake_no L m z A c l w hok hn hA).mono ?_
    rintro e w' ⟨rfl, hb⟩
    rw [e1, e2, e3]
    exact ⟨none, 0, 0, none, 0, 0, rfl, rfl, rfl, SlOwn.nil intS _ _ _, SlOwn.nil tripS _ _ _, hb⟩
  | true =>
    obtain ⟨e1, e2, e3, -⟩ := mk_yes hok
    obtain ⟨hh, hm, hz⟩ := mkOk_parts hok
    obtain ⟨M, rfl⟩ := Int.eq_ofNat_of_zero_le hm.1
    refine (implMake_yes L z M A c l w hh (by omega) hz hA).mono ?_
    rintro e w' ⟨A2, k2, A3, n3, c3, rfl, hn3, ho, hp, hb⟩
    rw [e1, e2, e3]
    exact ⟨A2, l.length, k2, A3, n3, c3, rfl, by simp, by rw [mkCs_len]; simpa using hn3, ho, hp, hb⟩
end Go.Proofs.Ytenpmjinbjlpbaa
