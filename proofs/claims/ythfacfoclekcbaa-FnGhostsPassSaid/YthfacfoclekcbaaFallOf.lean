/- FallOf: the contracts of the program's and of the model's, and of roAnt, hasAnt, (ghost).end. -/
import Derived.Test.YthfacfoclekcbaaLast
namespace Go.Proofs.Ythfacfoclekcbaa
open Go.RowKit

def endOf (g : Int × Int × Int) : Int := if g.2.1 = -1 then 0 else g.2.2
def hasB (n : Nat) (ant : Int) : Bool := decide (0 ≤ ant) && decide (ant < n)
/-- what FallOf returns -/
def foOk (L : Int) (l : List (Int × Int)) (ant : Int) : Bool := goodB L l && hasB l.length ant
def foT (L : Int) (l : List (Int × Int)) (ant : Int) : Int := if foOk L l ant then ft ((fallAs L l).getD ant.toNat (0, 0, 0)) else 0
def foE (L : Int) (l : List (Int × Int)) (ant : Int) : Int := if foOk L l ant then endOf ((fallAs L l).getD ant.toNat (0, 0, 0)) else 0


theorem hasAnt_at (L : Int) (A : Option Addr) (n c : Nat) (ant : Int) (r : Bool) (hr : hasB n ant = r) (w : World) :
    Calls Try.prog 57 #[.agg #[.int .i64 L, .slice A n c], .int .i64 ant] w fun e w' => e = .returned (.bool r) ∧ Below w.heap.size w w' := by
  subst hr
  go_enter Try.func57, Try.ntmps57
  go_wp2
  all_goals go_ret
  all_goals (refine ⟨ret_bool ?_, (Below.refl _ _).alloc (Nat.le_refl _) _⟩)
  all_goals (unfold hasB; simp [*])
  all_goals omega

set_option maxHeartbeats 1000000 in
theorem roAnt_at (L : Int) (A : Option Addr) (c : Nat) (l : List (Int × Int)) (ant : Int) (r : Bool) (hr : foOk L l ant = r) (w : World) (hA : AntsAt w A l) :
    Calls Try.prog 41 #[.agg #[.int .i64 L, .slice A l.length c], .int .i64 ant] w fun e w' => e = .returned (.bool r) ∧ Below w.heap.size w w' := by
  have HA := Lib.hid (hA.alloc (Obj.cells #[Value.int IntKind.i64 L, Value.slice A l.length c] 26))
  clear hA
  cases hg : goodB L l with
  | false =>
    have HR : Hid (r = false) := by show _ = _; rw [← hr]; simp [foOk, hg]
    have HG : Hid (∀ w, AntsAt w A l → Calls Try.prog 27 #[.agg #[.int .i64 L, .slice A l.length c]] w fun e w' => e = .returned (.bool false) ∧ Below w.heap.size w w') := fun w h => by
      rw [← hg]; exact roGood_any L A c l w h
    clear hg hr
    go_enter Try.func41, Try.ntmps41
    go_wp2_with fail
    refine (HG.out _ HA.out).mono ?_
    rintro e w1 ⟨rfl, hb⟩
    go_wp2
    go_ret
    exact ⟨ret_bool HR.out.symm, ((Below.refl _ _).alloc (Nat.le_refl _) _).trans (hb.mono (by simp))⟩
  | true =>
    have hn := good_len hg
    have HG : Hid (∀ w, AntsAt w A l → Calls Try.prog 27 #[.agg #[.int .i64 L, .slice A l.length c]] w fun e w' => e = .returned (.bool true) ∧ Below w.heap.size w w') := fun w h => by
      rw [← hg]; exact roGood_any L A c l w h
    have hrr : (decide (0 ≤ ant) && decide (ant ≤ (l.length : Int) - 1)) = r := by
      rw [← hr]; simp only [foOk, hg, hasB, Bool.true_and]
      congr 1
      rw [decide_eq_decide]; omega
    have HIN : Hid (∀ X, Calls Try.prog 48 #[.int .i64 ant, .int .i64 0, .int .i64 ((l.length : Int) - 1)] X fun e w' => e = .returned (.bool r) ∧ X = w') := fun X => in_at _ _ _ r hrr X
    clear hg hr hrr
    go_enter Try.func41, Try.ntmps41
    go_wp2_with fail
    refine (HG.out _ HA.out).mono ?_
    rintro e w1 ⟨rfl, hb⟩
    have c0 : w1.cell? ⟨w.heap.size, 0, none⟩ = some (.int .i64 L) := by rw [hb.cell (p := ⟨w.heap.size, 0, none⟩) (by simp)]; simp
    have c1 : w1.cell? ⟨w.heap.size, 1, none⟩ = some (.slice A l.length c) := by rw [hb.cell (p := ⟨w.heap.size, 1, none⟩) (by simp)]; simp
    have HB := Lib.hid (((Below.refl _ w).alloc (Nat.le_refl _) _).trans (hb.mono (by simp)))
    clear hb
    go_wp2_with fail
    refine (HIN.out _).mono ?_
    rintro e w2 ⟨rfl, rfl⟩
    go_wp2
    go_ret
    exact ⟨ret_bool (by simp), HB.out⟩

theorem fallAs_left {L : Int} {l : List (Int × Int)} {k : Nat} (hk : k < nL L l) : ((fallAs L l).getD k (0, 0, 0)).2.1 = -1 := by
  unfold nL at hk
  unfold fallAs
  rw [List.getD_eq_getElem?_getD, List.getElem?_append_left hk, List.getElem?_eq_getElem hk]
  exact (way_mem (List.getElem_mem hk)).2
theorem fallAs_right {L : Int} {l : List (Int × Int)} {k : Nat} (hk : nL L l ≤ k) (hk2 : k < (fallAs L l).length) : ((fallAs L l).getD k (0, 0, 0)).2.1 = 1 := by
  unfold nL at hk
  unfold fallAs at *
  rw [List.length_append] at hk2
  have h2 : k - (way (-1) (gsOf L l)).length < (way 1 (gsOf L l)).length := by omega
  rw [List.getD_eq_getElem?_getD, List.getElem?_append_right hk, List.getElem?_eq_getElem h2]
  exact (way_mem (List.getElem_mem h2)).2


theorem fallTime_at (a y L t : Int) (hg : GoodGhost (a, y, L)) (ht : ft (a, y, L) = t) (w : World) :
    Calls Try.prog 38 #[.agg #[.int .i64 a, .int .i64 y, .int .i64 L]] w fun e w' => e = .returned (.int .i64 t) ∧ Below w.heap.size w w' := by
  subst ht; exact fallTime_any a y L hg w



end Go.Proofs.Ythfacfoclekcbaa
