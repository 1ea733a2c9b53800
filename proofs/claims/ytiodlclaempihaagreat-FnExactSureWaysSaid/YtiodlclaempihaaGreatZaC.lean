/- PzA, PzB, PzC, PzD, PzE in one text. -/
import Derived.Test.YtiodlclaempihaaGreatZaB
import Derived.Defers
import Derived.Recover
import Derived.Test.YtiodlclaempihaaGreatZaA
import Derived.Laws.StructEq
/- PzA -/
namespace Go.Proofs.YtiodlclaempihaaGreat
open Go.RowKit

/-- how great the two numbers of a clue may be -/
def mostA (n k : Int) : Int := if k = 0 then n - 1 else if k = 1 then n else if k = 2 then 100 else if k = 3 then 1000 else if k = 4 then n - 1 else 1000
def mostB (n k : Int) : Int := if k = 0 then 1 else if k = 1 then 0 else if k = 2 then 0 else if k = 3 then 0 else if k = 4 then 1000 else n
theorem clB_most (n k a b : Int) (hk : 0 ≤ k ∧ k ≤ 5) : clB n k a b = (decide (0 ≤ a) && decide (a ≤ mostA n k) && decide (0 ≤ b) && decide (b ≤ mostB n k) && !(k == 5 && a.tmod 2 != 0)) := by
  have h6 : k = 0 ∨ k = 1 ∨ k = 2 ∨ k = 3 ∨ k = 4 ∨ k = 5 := by omega
  rcases h6 with rfl | rfl | rfl | rfl | rfl | rfl <;> simp only [clB, mostA, mostB, inB] <;> rw [Bool.eq_iff_iff] <;> simp <;> try omega
  by_cases h1 : 0 ≤ a
  · rw [Int.tmod_eq_emod_of_nonneg h1]
    constructor
    · rintro ⟨⟨h3, h4⟩, h5⟩; exact ⟨⟨⟨h3, h5.1⟩, h5.2⟩, h4⟩
    · rintro ⟨⟨⟨h3, h4⟩, h5⟩, h6⟩; exact ⟨⟨h3, h6⟩, h4, h5⟩
  · constructor
    · rintro ⟨⟨h3, _⟩, _⟩; exact absurd h3.1 h1
    · rintro ⟨⟨⟨h3, _⟩, _⟩, _⟩; exact absurd h3.1 h1
theorem clB_out {n k a b : Int} (hk : ¬ (0 ≤ k ∧ k ≤ 5)) : clB n k a b = false := by
  unfold clB
  rw [if_neg (by omega), if_neg (by omega), if_neg (by omega), if_neg (by omega), if_neg (by omega), if_neg (by omega)]

/-- a clue that is raised -/
def raisedClue (k a b : Int) : Ending := .panicked [{ v := .iface 67 (.agg #[.int .i64 k, .int .i64 a, .int .i64 b]), recovered := false }]

set_option maxRecDepth 100000 in
set_option maxHeartbeats 1000000 in
theorem mostOf_in (n k a b : Int) (w : World) (hk : 0 ≤ k ∧ k ≤ 5) (hn : 0 ≤ n ∧ n ≤ 1048576) :
    Calls Tryz.prog 100 #[.agg #[.int .i64 k, .int .i64 a, .int .i64 b], .int .i64 n] w fun e w' => e = .returned (.tuple #[.int .i64 (mostA n k), .int .i64 (mostB n k)]) ∧ Below w.heap.size w w' := by
  have h6 : k = 0 ∨ k = 1 ∨ k = 2 ∨ k = 3 ∨ k = 4 ∨ k = 5 := by omega
  have h9 : IntKind.i64.wrap (n - 1) = n - 1 := IntWalk.i64_in _ (by omega)
  rcases h6 with rfl | rfl | rfl | rfl | rfl | rfl
  all_goals
    go_enter Tryz.func100, Tryz.ntmps100
    go_wp2
    go_ret2
    exact ⟨rfl, (Below.refl _ _).alloc (Nat.le_refl _) _⟩
set_option maxRecDepth 100000 in
set_option maxHeartbeats 1000000 in
theorem mostOf_out (n k a b : Int) (w : World) (hk : ¬ (0 ≤ k ∧ k ≤ 5)) :
    Calls Tryz.prog 100 #[.agg #[.int .i64 k, .int .i64 a, .int .i64 b], .int .i64 n] w fun e w' => e = raisedClue k a b ∧ Below w.heap.size w w' := by
  have k0 : (k == 0) = false := by simp; omega
  have k1 : (k == 1) = false := by simp; omega
  have k2 : (k == 2) = false := by simp; omega
  have k3 : (k == 3) = false := by simp; omega
  have k4 : (k == 4) = false := by simp; omega
  have k5 : (k == 5) = false := by simp; omega
  go_enter Tryz.func100, Tryz.ntmps100
  go_wp2
  refine ⟨rfl, rfl, ?_⟩
  exact (Below.refl _ _).alloc (Nat.le_refl _) _

theorem clB_range {n k a b : Int} (h : clB n k a b = true) : 0 ≤ k ∧ k ≤ 5 := by
  by_cases hk : 0 ≤ k ∧ k ≤ 5
  · exact hk
  · rw [clB_out hk] at h; cases h

/-- demandClue: a clue goes through -/
theorem demand_out (n k a b : Int) (w : World) (hk : ¬ (0 ≤ k ∧ k ≤ 5)) :
    Calls Tryz.prog 87 #[.agg #[.int .i64 k, .int .i64 a, .int .i64 b], .int .i64 n] w fun e w' => e = raisedClue k a b ∧ Below w.heap.size w w' := by
  have HM := Lib.hid (fun w => mostOf_out n k a b w hk)
  clear hk
  go_enter Tryz.func87, Tryz.ntmps87
  go_wp2_with fail
  refine (HM.out _).mono ?_
  rintro e w1 ⟨rfl, hb⟩
  unfold raisedClue
  refine ⟨rfl, rfl, ?_⟩
  exact ((Below.refl _ _).alloc (Nat.le_refl _) _).trans (hb.mono (by simp))

set_option maxRecDepth 100000 in
set_option maxHeartbeats 4000000 in
theorem demand_in (n k a b p q : Int) (o : Bool) (w : World) (hp : mostA n k = p) (hq : mostB n k = q) (ho : (k == 5 && a.tmod 2 != 0) = o) (hk : 0 ≤ k ∧ k ≤ 5) (hn : 0 ≤ n ∧ n ≤ 1048576) :
    Calls Tryz.prog 87 #[.agg #[.int .i64 k, .int .i64 a, .int .i64 b], .int .i64 n] w fun e w' => e = (if (decide (0 ≤ a) && decide (a ≤ p) && decide (0 ≤ b) && decide (b ≤ q) && !o) = true then .returned (.tuple #[]) else raisedClue k a b) ∧ Below w.heap.size w w' := by
  have HM : Hid (∀ w, Calls Tryz.prog 100 #[.agg #[.int .i64 k, .int .i64 a, .int .i64 b], .int .i64 n] w fun e w' => e = .returned (.tuple #[.int .i64 p, .int .i64 q]) ∧ Below w.heap.size w w') := fun w => by
    subst hp; subst hq; exact mostOf_in n k a b w hk hn
  clear hp hq hn
  by_cases hk5 : k = 5
  · subst hk5
    have ho2 : (a.tmod 2 != 0) = o := by simpa using ho
    have ho3 : 0 ≤ a → (a % 2 != 0) = o := fun h => by rw [← ho2, Int.tmod_eq_emod_of_nonneg h]
    have HO3 := Lib.hid ho3
    clear ho ho3
    cases o with
    | true =>
      by_cases h1 : a < 0
      · have e1 : (decide (0 ≤ a) && decide (a ≤ p) && decide (0 ≤ b) && decide (b ≤ q) && !true) = false := by (first | (simp; done) | (simp; omega))
        rw [e1]
        clear e1
        have qh1 : decide (a < 0) = true := by simp; omega
        go_enter Tryz.func87, Tryz.ntmps87
        go_wp2_with fail
        refine (HM.out _).mono ?_
        rintro e w1 ⟨rfl, hb⟩
        have k0 : w1.cell? ⟨w.heap.size, 0, none⟩ = some (.int .i64 5) := by rw [hb.cell (p := ⟨w.heap.size, 0, none⟩) (by simp)]; simp
        have k1 : w1.cell? ⟨w.heap.size, 1, none⟩ = some (.int .i64 a) := by rw [hb.cell (p := ⟨w.heap.size, 1, none⟩) (by simp)]; simp
        have k2 : w1.cell? ⟨w.heap.size, 2, none⟩ = some (.int .i64 b) := by rw [hb.cell (p := ⟨w.heap.size, 2, none⟩) (by simp)]; simp
        have HB := Lib.hid (((Below.refl _ w).alloc (Nat.le_refl _) (Obj.cells #[Value.int IntKind.i64 5, Value.int IntKind.i64 a, Value.int IntKind.i64 b] 67)).trans (hb.mono (by simp)))
        clear hb
        go_wp2
        exact ⟨rfl, rfl, HB.out⟩
      · skip
        by_cases h2 : p < a
        · have e1 : (decide (0 ≤ a) && decide (a ≤ p) && decide (0 ≤ b) && decide (b ≤ q) && !true) = false := by (first | (simp; done) | (simp; omega))
          rw [e1]
          clear e1
          have qh1 : decide (a < 0) = false := by simp; omega
          have ho4 := HO3.out (by omega)
          have qh2 : decide (p < a) = true := by simp; omega
          go_enter Tryz.func87, Tryz.ntmps87
          go_wp2_with fail
          refine (HM.out _).mono ?_
          rintro e w1 ⟨rfl, hb⟩
          have k0 : w1.cell? ⟨w.heap.size, 0, none⟩ = some (.int .i64 5) := by rw [hb.cell (p := ⟨w.heap.size, 0, none⟩) (by simp)]; simp
          have k1 : w1.cell? ⟨w.heap.size, 1, none⟩ = some (.int .i64 a) := by rw [hb.cell (p := ⟨w.heap.size, 1, none⟩) (by simp)]; simp
          have k2 : w1.cell? ⟨w.heap.size, 2, none⟩ = some (.int .i64 b) := by rw [hb.cell (p := ⟨w.heap.size, 2, none⟩) (by simp)]; simp
          have HB := Lib.hid (((Below.refl _ w).alloc (Nat.le_refl _) (Obj.cells #[Value.int IntKind.i64 5, Value.int IntKind.i64 a, Value.int IntKind.i64 b] 67)).trans (hb.mono (by simp)))
          clear hb
          go_wp2
          exact ⟨rfl, rfl, HB.out⟩
        · skip
          by_cases h3 : b < 0
          · have e1 : (decide (0 ≤ a) && decide (a ≤ p) && decide (0 ≤ b) && decide (b ≤ q) && !true) = false := by (first | (simp; done) | (simp; omega))
            rw [e1]
            clear e1
            have qh1 : decide (a < 0) = false := by simp; omega
            have ho4 := HO3.out (by omega)
            have qh2 : decide (p < a) = false := by simp; omega
            have qh3 : decide (b < 0) = true := by simp; omega
            go_enter Tryz.func87, Tryz.ntmps87
            go_wp2_with fail
            refine (HM.out _).mono ?_
            rintro e w1 ⟨rfl, hb⟩
            have k0 : w1.cell? ⟨w.heap.size, 0, none⟩ = some (.int .i64 5) := by rw [hb.cell (p := ⟨w.heap.size, 0, none⟩) (by simp)]; simp
            have k1 : w1.cell? ⟨w.heap.size, 1, none⟩ = some (.int .i64 a) := by rw [hb.cell (p := ⟨w.heap.size, 1, none⟩) (by simp)]; simp
            have k2 : w1.cell? ⟨w.heap.size, 2, none⟩ = some (.int .i64 b) := by rw [hb.cell (p := ⟨w.heap.size, 2, none⟩) (by simp)]; simp
            have HB := Lib.hid (((Below.refl _ w).alloc (Nat.le_refl _) (Obj.cells #[Value.int IntKind.i64 5, Value.int IntKind.i64 a, Value.int IntKind.i64 b] 67)).trans (hb.mono (by simp)))
            clear hb
            go_wp2
            exact ⟨rfl, rfl, HB.out⟩
          · skip
            by_cases h4 : q < b
            · have e1 : (decide (0 ≤ a) && decide (a ≤ p) && decide (0 ≤ b) && decide (b ≤ q) && !true) = false := by (first | (simp; done) | (simp; omega))
              rw [e1]
              clear e1
              have qh1 : decide (a < 0) = false := by simp; omega
              have ho4 := HO3.out (by omega)
              have qh2 : decide (p < a) = false := by simp; omega
              have qh3 : decide (b < 0) = false := by simp; omega
              have qh4 : decide (q < b) = true := by simp; omega
              go_enter Tryz.func87, Tryz.ntmps87
              go_wp2_with fail
              refine (HM.out _).mono ?_
              rintro e w1 ⟨rfl, hb⟩
              have k0 : w1.cell? ⟨w.heap.size, 0, none⟩ = some (.int .i64 5) := by rw [hb.cell (p := ⟨w.heap.size, 0, none⟩) (by simp)]; simp
              have k1 : w1.cell? ⟨w.heap.size, 1, none⟩ = some (.int .i64 a) := by rw [hb.cell (p := ⟨w.heap.size, 1, none⟩) (by simp)]; simp
              have k2 : w1.cell? ⟨w.heap.size, 2, none⟩ = some (.int .i64 b) := by rw [hb.cell (p := ⟨w.heap.size, 2, none⟩) (by simp)]; simp
              have HB := Lib.hid (((Below.refl _ w).alloc (Nat.le_refl _) (Obj.cells #[Value.int IntKind.i64 5, Value.int IntKind.i64 a, Value.int IntKind.i64 b] 67)).trans (hb.mono (by simp)))
              clear hb
              go_wp2
              exact ⟨rfl, rfl, HB.out⟩
            · skip
              have e1 : (decide (0 ≤ a) && decide (a ≤ p) && decide (0 ≤ b) && decide (b ≤ q) && !true) = false := by (first | (simp; done) | (simp; omega))
              rw [e1]
              clear e1
              have qh1 : decide (a < 0) = false := by simp; omega
              have ho4 := HO3.out (by omega)
              have qh2 : decide (p < a) = false := by simp; omega
              have qh3 : decide (b < 0) = false := by simp; omega
              have qh4 : decide (q < b) = false := by simp; omega
              go_enter Tryz.func87, Tryz.ntmps87
              go_wp2_with fail
              refine (HM.out _).mono ?_
              rintro e w1 ⟨rfl, hb⟩
              have k0 : w1.cell? ⟨w.heap.size, 0, none⟩ = some (.int .i64 5) := by rw [hb.cell (p := ⟨w.heap.size, 0, none⟩) (by simp)]; simp
              have k1 : w1.cell? ⟨w.heap.size, 1, none⟩ = some (.int .i64 a) := by rw [hb.cell (p := ⟨w.heap.size, 1, none⟩) (by simp)]; simp
              have k2 : w1.cell? ⟨w.heap.size, 2, none⟩ = some (.int .i64 b) := by rw [hb.cell (p := ⟨w.heap.size, 2, none⟩) (by simp)]; simp
              have HB := Lib.hid (((Below.refl _ w).alloc (Nat.le_refl _) (Obj.cells #[Value.int IntKind.i64 5, Value.int IntKind.i64 a, Value.int IntKind.i64 b] 67)).trans (hb.mono (by simp)))
              clear hb
              go_wp2
              exact ⟨rfl, rfl, HB.out⟩
    | false =>
      by_cases h1 : a < 0
      · have e1 : (decide (0 ≤ a) && decide (a ≤ p) && decide (0 ≤ b) && decide (b ≤ q) && !false) = false := by (first | (simp; done) | (simp; omega))
        rw [e1]
        clear e1
        have qh1 : decide (a < 0) = true := by simp; omega
        go_enter Tryz.func87, Tryz.ntmps87
        go_wp2_with fail
        refine (HM.out _).mono ?_
        rintro e w1 ⟨rfl, hb⟩
        have k0 : w1.cell? ⟨w.heap.size, 0, none⟩ = some (.int .i64 5) := by rw [hb.cell (p := ⟨w.heap.size, 0, none⟩) (by simp)]; simp
        have k1 : w1.cell? ⟨w.heap.size, 1, none⟩ = some (.int .i64 a) := by rw [hb.cell (p := ⟨w.heap.size, 1, none⟩) (by simp)]; simp
        have k2 : w1.cell? ⟨w.heap.size, 2, none⟩ = some (.int .i64 b) := by rw [hb.cell (p := ⟨w.heap.size, 2, none⟩) (by simp)]; simp
        have HB := Lib.hid (((Below.refl _ w).alloc (Nat.le_refl _) (Obj.cells #[Value.int IntKind.i64 5, Value.int IntKind.i64 a, Value.int IntKind.i64 b] 67)).trans (hb.mono (by simp)))
        clear hb
        go_wp2
        exact ⟨rfl, rfl, HB.out⟩
      · skip
        by_cases h2 : p < a
        · have e1 : (decide (0 ≤ a) && decide (a ≤ p) && decide (0 ≤ b) && decide (b ≤ q) && !false) = false := by (first | (simp; done) | (simp; omega))
          rw [e1]
          clear e1
          have qh1 : decide (a < 0) = false := by simp; omega
          have ho4 := HO3.out (by omega)
          have qh2 : decide (p < a) = true := by simp; omega
          go_enter Tryz.func87, Tryz.ntmps87
          go_wp2_with fail
          refine (HM.out _).mono ?_
          rintro e w1 ⟨rfl, hb⟩
          have k0 : w1.cell? ⟨w.heap.size, 0, none⟩ = some (.int .i64 5) := by rw [hb.cell (p := ⟨w.heap.size, 0, none⟩) (by simp)]; simp
          have k1 : w1.cell? ⟨w.heap.size, 1, none⟩ = some (.int .i64 a) := by rw [hb.cell (p := ⟨w.heap.size, 1, none⟩) (by simp)]; simp
          have k2 : w1.cell? ⟨w.heap.size, 2, none⟩ = some (.int .i64 b) := by rw [hb.cell (p := ⟨w.heap.size, 2, none⟩) (by simp)]; simp
          have HB := Lib.hid (((Below.refl _ w).alloc (Nat.le_refl _) (Obj.cells #[Value.int IntKind.i64 5, Value.int IntKind.i64 a, Value.int IntKind.i64 b] 67)).trans (hb.mono (by simp)))
          clear hb
          go_wp2
          exact ⟨rfl, rfl, HB.out⟩
        · skip
          by_cases h3 : b < 0
          · have e1 : (decide (0 ≤ a) && decide (a ≤ p) && decide (0 ≤ b) && decide (b ≤ q) && !false) = false := by (first | (simp; done) | (simp; omega))
            rw [e1]
            clear e1
            have qh1 : decide (a < 0) = false := by simp; omega
            have ho4 := HO3.out (by omega)
            have qh2 : decide (p < a) = false := by simp; omega
            have qh3 : decide (b < 0) = true := by simp; omega
            go_enter Tryz.func87, Tryz.ntmps87
            go_wp2_with fail
            refine (HM.out _).mono ?_
            rintro e w1 ⟨rfl, hb⟩
            have k0 : w1.cell? ⟨w.heap.size, 0, none⟩ = some (.int .i64 5) := by rw [hb.cell (p := ⟨w.heap.size, 0, none⟩) (by simp)]; simp
            have k1 : w1.cell? ⟨w.heap.size, 1, none⟩ = some (.int .i64 a) := by rw [hb.cell (p := ⟨w.heap.size, 1, none⟩) (by simp)]; simp
            have k2 : w1.cell? ⟨w.heap.size, 2, none⟩ = some (.int .i64 b) := by rw [hb.cell (p := ⟨w.heap.size, 2, none⟩) (by simp)]; simp
            have HB := Lib.hid (((Below.refl _ w).alloc (Nat.le_refl _) (Obj.cells #[Value.int IntKind.i64 5, Value.int IntKind.i64 a, Value.int IntKind.i64 b] 67)).trans (hb.mono (by simp)))
            clear hb
            go_wp2
            exact ⟨rfl, rfl, HB.out⟩
          · skip
            by_cases h4 : q < b
            · have e1 : (decide (0 ≤ a) && decide (a ≤ p) && decide (0 ≤ b) && decide (b ≤ q) && !false) = false := by (first | (simp; done) | (simp; omega))
              rw [e1]
              clear e1
              have qh1 : decide (a < 0) = false := by simp; omega
              have ho4 := HO3.out (by omega)
              have qh2 : decide (p < a) = false := by simp; omega
              have qh3 : decide (b < 0) = false := by simp; omega
              have qh4 : decide (q < b) = true := by simp; omega
              go_enter Tryz.func87, Tryz.ntmps87
              go_wp2_with fail
              refine (HM.out _).mono ?_
              rintro e w1 ⟨rfl, hb⟩
              have k0 : w1.cell? ⟨w.heap.size, 0, none⟩ = some (.int .i64 5) := by rw [hb.cell (p := ⟨w.heap.size, 0, none⟩) (by simp)]; simp
              have k1 : w1.cell? ⟨w.heap.size, 1, none⟩ = some (.int .i64 a) := by rw [hb.cell (p := ⟨w.heap.size, 1, none⟩) (by simp)]; simp
              have k2 : w1.cell? ⟨w.heap.size, 2, none⟩ = some (.int .i64 b) := by rw [hb.cell (p := ⟨w.heap.size, 2, none⟩) (by simp)]; simp
              have HB := Lib.hid (((Below.refl _ w).alloc (Nat.le_refl _) (Obj.cells #[Value.int IntKind.i64 5, Value.int IntKind.i64 a, Value.int IntKind.i64 b] 67)).trans (hb.mono (by simp)))
              clear hb
              go_wp2
              exact ⟨rfl, rfl, HB.out⟩
            · skip
              have e1 : (decide (0 ≤ a) && decide (a ≤ p) && decide (0 ≤ b) && decide (b ≤ q) && !false) = true := by simp; omega
              rw [e1]
              clear e1
              have qh1 : decide (a < 0) = false := by simp; omega
              have ho4 := HO3.out (by omega)
              have qh2 : decide (p < a) = false := by simp; omega
              have qh3 : decide (b < 0) = false := by simp; omega
              have qh4 : decide (q < b) = false := by simp; omega
              go_enter Tryz.func87, Tryz.ntmps87
              go_wp2_with fail
              refine (HM.out _).mono ?_
              rintro e w1 ⟨rfl, hb⟩
              have k0 : w1.cell? ⟨w.heap.size, 0, none⟩ = some (.int .i64 5) := by rw [hb.cell (p := ⟨w.heap.size, 0, none⟩) (by simp)]; simp
              have k1 : w1.cell? ⟨w.heap.size, 1, none⟩ = some (.int .i64 a) := by rw [hb.cell (p := ⟨w.heap.size, 1, none⟩) (by simp)]; simp
              have k2 : w1.cell? ⟨w.heap.size, 2, none⟩ = some (.int .i64 b) := by rw [hb.cell (p := ⟨w.heap.size, 2, none⟩) (by simp)]; simp
              have HB := Lib.hid (((Below.refl _ w).alloc (Nat.le_refl _) (Obj.cells #[Value.int IntKind.i64 5, Value.int IntKind.i64 a, Value.int IntKind.i64 b] 67)).trans (hb.mono (by simp)))
              clear hb
              go_wp2
              go_end0
              exact ⟨rfl, HB.out⟩
  · have hk6 : (k == 5) = false := by simpa using hk5
    obtain rfl : o = false := by rw [← ho, hk6]; rfl
    clear ho
    by_cases h1 : a < 0
    · have e1 : (decide (0 ≤ a) && decide (a ≤ p) && decide (0 ≤ b) && decide (b ≤ q) && !false) = false := by (first | (simp; done) | (simp; omega))
      rw [e1]
      clear e1
      have qh1 : decide (a < 0) = true := by simp; omega
      go_enter Tryz.func87, Tryz.ntmps87
      go_wp2_with fail
      refine (HM.out _).mono ?_
      rintro e w1 ⟨rfl, hb⟩
      have k0 : w1.cell? ⟨w.heap.size, 0, none⟩ = some (.int .i64 k) := by rw [hb.cell (p := ⟨w.heap.size, 0, none⟩) (by simp)]; simp
      have k1 : w1.cell? ⟨w.heap.size, 1, none⟩ = some (.int .i64 a) := by rw [hb.cell (p := ⟨w.heap.size, 1, none⟩) (by simp)]; simp
      have k2 : w1.cell? ⟨w.heap.size, 2, none⟩ = some (.int .i64 b) := by rw [hb.cell (p := ⟨w.heap.size, 2, none⟩) (by simp)]; simp
      have HB := Lib.hid (((Below.refl _ w).alloc (Nat.le_refl _) (Obj.cells #[Value.int IntKind.i64 k, Value.int IntKind.i64 a, Value.int IntKind.i64 b] 67)).trans (hb.mono (by simp)))
      clear hb
      go_wp2
      exact ⟨rfl, rfl, HB.out⟩
    · skip
      by_cases h2 : p < a
      · have e1 : (decide (0 ≤ a) && decide (a ≤ p) && decide (0 ≤ b) && decide (b ≤ q) && !false) = false := by (first | (simp; done) | (simp; omega))
        rw [e1]
        clear e1
        have qh1 : decide (a < 0) = false := by simp; omega
        have qh2 : decide (p < a) = true := by simp; omega
        go_enter Tryz.func87, Tryz.ntmps87
        go_wp2_with fail
        refine (HM.out _).mono ?_
        rintro e w1 ⟨rfl, hb⟩
        have k0 : w1.cell? ⟨w.heap.size, 0, none⟩ = some (.int .i64 k) := by rw [hb.cell (p := ⟨w.heap.size, 0, none⟩) (by simp)]; simp
        have k1 : w1.cell? ⟨w.heap.size, 1, none⟩ = some (.int .i64 a) := by rw [hb.cell (p := ⟨w.heap.size, 1, none⟩) (by simp)]; simp
        have k2 : w1.cell? ⟨w.heap.size, 2, none⟩ = some (.int .i64 b) := by rw [hb.cell (p := ⟨w.heap.size, 2, none⟩) (by simp)]; simp
        have HB := Lib.hid (((Below.refl _ w).alloc (Nat.le_refl _) (Obj.cells #[Value.int IntKind.i64 k, Value.int IntKind.i64 a, Value.int IntKind.i64 b] 67)).trans (hb.mono (by simp)))
        clear hb
        go_wp2
        exact ⟨rfl, rfl, HB.out⟩
      · skip
        by_cases h3 : b < 0
        · have e1 : (decide (0 ≤ a) && decide (a ≤ p) && decide (0 ≤ b) && decide (b ≤ q) && !false) = false := by (first | (simp; done) | (simp; omega))
          rw [e1]
          clear e1
          have qh1 : decide (a < 0) = false := by simp; omega
          have qh2 : decide (p < a) = false := by simp; omega
          have qh3 : decide (b < 0) = true := by simp; omega
          go_enter Tryz.func87, Tryz.ntmps87
          go_wp2_with fail
          refine (HM.out _).mono ?_
          rintro e w1 ⟨rfl, hb⟩
          have k0 : w1.cell? ⟨w.heap.size, 0, none⟩ = some (.int .i64 k) := by rw [hb.cell (p := ⟨w.heap.size, 0, none⟩) (by simp)]; simp
          have k1 : w1.cell? ⟨w.heap.size, 1, none⟩ = some (.int .i64 a) := by rw [hb.cell (p := ⟨w.heap.size, 1, none⟩) (by simp)]; simp
          have k2 : w1.cell? ⟨w.heap.size, 2, none⟩ = some (.int .i64 b) := by rw [hb.cell (p := ⟨w.heap.size, 2, none⟩) (by simp)]; simp
          have HB := Lib.hid (((Below.refl _ w).alloc (Nat.le_refl _) (Obj.cells #[Value.int IntKind.i64 k, Value.int IntKind.i64 a, Value.int IntKind.i64 b] 67)).trans (hb.mono (by simp)))
          clear hb
          go_wp2
          exact ⟨rfl, rfl, HB.out⟩
        · skip
          by_cases h4 : q < b
          · have e1 : (decide (0 ≤ a) && decide (a ≤ p) && decide (0 ≤ b) && decide (b ≤ q) && !false) = false := by (first | (simp; done) | (simp; omega))
            rw [e1]
            clear e1
            have qh1 : decide (a < 0) = false := by simp; omega
            have qh2 : decide (p < a) = false := by simp; omega
            have qh3 : decide (b < 0) = false := by simp; omega
            have qh4 : decide (q < b) = true := by simp; omega
            go_enter Tryz.func87, Tryz.ntmps87
            go_wp2_with fail
            refine (HM.out _).mono ?_
            rintro e w1 ⟨rfl, hb⟩
            have k0 : w1.cell? ⟨w.heap.size, 0, none⟩ = some (.int .i64 k) := by rw [hb.cell (p := ⟨w.heap.size, 0, none⟩) (by simp)]; simp
            have k1 : w1.cell? ⟨w.heap.size, 1, none⟩ = some (.int .i64 a) := by rw [hb.cell (p := ⟨w.heap.size, 1, none⟩) (by simp)]; simp
            have k2 : w1.cell? ⟨w.heap.size, 2, none⟩ = some (.int .i64 b) := by rw [hb.cell (p := ⟨w.heap.size, 2, none⟩) (by simp)]; simp
            have HB := Lib.hid (((Below.refl _ w).alloc (Nat.le_refl _) (Obj.cells #[Value.int IntKind.i64 k, Value.int IntKind.i64 a, Value.int IntKind.i64 b] 67)).trans (hb.mono (by simp)))
            clear hb
            go_wp2
            exact ⟨rfl, rfl, HB.out⟩
          · skip
            have e1 : (decide (0 ≤ a) && decide (a ≤ p) && decide (0 ≤ b) && decide (b ≤ q) && !false) = true := by simp; omega
            rw [e1]
            clear e1
            have qh1 : decide (a < 0) = false := by simp; omega
            have qh2 : decide (p < a) = false := by simp; omega
            have qh3 : decide (b < 0) = false := by simp; omega
            have qh4 : decide (q < b) = false := by simp; omega
            go_enter Tryz.func87, Tryz.ntmps87
            go_wp2_with fail
            refine (HM.out _).mono ?_
            rintro e w1 ⟨rfl, hb⟩
            have k0 : w1.cell? ⟨w.heap.size, 0, none⟩ = some (.int .i64 k) := by rw [hb.cell (p := ⟨w.heap.size, 0, none⟩) (by simp)]; simp
            have k1 : w1.cell? ⟨w.heap.size, 1, none⟩ = some (.int .i64 a) := by rw [hb.cell (p := ⟨w.heap.size, 1, none⟩) (by simp)]; simp
            have k2 : w1.cell? ⟨w.heap.size, 2, none⟩ = some (.int .i64 b) := by rw [hb.cell (p := ⟨w.heap.size, 2, none⟩) (by simp)]; simp
            have HB := Lib.hid (((Below.refl _ w).alloc (Nat.le_refl _) (Obj.cells #[Value.int IntKind.i64 k, Value.int IntKind.i64 a, Value.int IntKind.i64 b] 67)).trans (hb.mono (by simp)))
            clear hb
            go_wp2
            go_end0
            exact ⟨rfl, HB.out⟩

theorem demand_any (n k a b : Int) (r : Bool) (hr : clB n k a b = r) (w : World) (hn : 0 ≤ n ∧ n ≤ 1048576) :
    Calls Tryz.prog 87 #[.agg #[.int .i64 k, .int .i64 a, .int .i64 b], .int .i64 n] w fun e w' => e = (if r = true then .returned (.tuple #[]) else raisedClue k a b) ∧ Below w.heap.size w w' := by
  by_cases hk : 0 ≤ k ∧ k ≤ 5
  · have h := demand_in n k a b _ _ _ w rfl rfl rfl hk hn
    rw [← clB_most n k a b hk, hr] at h
    exact h
  · rw [clB_out hk] at hr
    subst hr
    exact demand_out n k a b w hk
theorem demand_yes (n k a b : Int) (hr : clB n k a b = true) (w : World) (hn : 0 ≤ n ∧ n ≤ 1048576) :
    Calls Tryz.prog 87 #[.agg #[.int .i64 k, .int .i64 a, .int .i64 b], .int .i64 n] w fun e w' => e = .returned (.tuple #[]) ∧ Below w.heap.size w w' :=
  (demand_any n k a b true hr w hn).mono fun e w' ⟨he, hb⟩ => ⟨by rw [he, if_pos rfl], hb⟩
theorem demand_no (n k a b : Int) (hr : clB n k a b = false) (w : World) (hn : 0 ≤ n ∧ n ≤ 1048576) :
    Calls Tryz.prog 87 #[.agg #[.int .i64 k, .int .i64 a, .int .i64 b], .int .i64 n] w fun e w' => e = .panicked [{ v := .iface 67 (.agg #[.int .i64 k, .int .i64 a, .int .i64 b]), recovered := false }] ∧ Below w.heap.size w w' :=
  (demand_any n k a b false hr w hn).mono fun e w' ⟨he, hb⟩ => ⟨by rw [he, if_neg (by decide)]; rfl, hb⟩
end Go.Proofs.YtiodlclaempihaaGreat

/- PzB -/
namespace Go.Proofs.YtiodlclaempihaaGreat
open Go.RowKit

set_option maxRecDepth 100000 in
set_option maxHeartbeats 1000000 in
theorem door_catch (p : Addr) (x : Bool) (k a b : Int) (older : List PanicEntry) (w : World) (hc : w.cell? p = some (.bool x)) (hz : w.frozen? p = false) :
    CallsD Tryz.prog 86 #[.pointer (some p)] (.panicking ({ v := .iface 67 (.agg #[.int .i64 k, .int .i64 a, .int .i64 b]), recovered := false } :: older)) w fun e u' w' =>
      e = .returned (.tuple #[]) ∧ u' = .panicking ({ v := .iface 67 (.agg #[.int .i64 k, .int .i64 a, .int .i64 b]), recovered := true } :: older) ∧ w'.cell? p = some (.bool false) ∧ Below p.block w w' := by
  have hta : ∀ w, (Instr.typeAssert (Value.iface 67 (Value.agg #[Value.int IntKind.i64 k, Value.int IntKind.i64 a, Value.int IntKind.i64 b])) 20 67 true).run Tryz.prog w = .ok (.tuple #[.agg #[.int .i64 k, .int .i64 a, .int .i64 b], .bool true]) w := fun w => by kernel_rfl
  refine callsD_of_wpS Tryz.func86 rfl fun c₀ cs hu => ?_
  apply wpS_seq
  apply wpS_region
  simp [wpOpsS, go_sem, recoverD, hu, hta, Tryz.ntmps86, Exit.thenS]
  apply wpS_seq
  apply wpS_region
  simp [wpOpsS, go_sem, Exit.thenS]
  refine wpS_cond (t := true) (by simp [Act.eval, Array.replicate]) ?_
  simp only [if_true]
  apply wpS_region
  have hc2 := alloc_some hc (Obj.cells #[Value.int IntKind.i64 k, Value.int IntKind.i64 a, Value.int IntKind.i64 b] 67)
  have hz2 : (w.alloc (Obj.cells #[Value.int IntKind.i64 k, Value.int IntKind.i64 a, Value.int IntKind.i64 b] 67)).frozen? p = false := by
    rw [((Below.refl w.heap.size w).alloc (Nat.le_refl _) _).frozen (p := p) (World.block_lt_of_cell? _ _ hc)]; exact hz
  simp [wpOpsS, go_sem, hc2, hz2, bodyPostS, results, Tryz.results86]
  have hlt := World.block_lt_of_cell? _ _ hc
  exact ((Below.refl p.block w).alloc (by omega) _).setCell (Nat.le_refl _) _

set_option maxRecDepth 100000 in
set_option maxHeartbeats 1000000 in
theorem door_idle (p : Addr) (w : World) :
    CallsD Tryz.prog 86 #[.pointer (some p)] .returning w fun e u' w' => e = .returned (.tuple #[]) ∧ u' = .returning ∧ Below w.heap.size w w' := by
  have hta : ∀ w, (Instr.typeAssert Value.nilIface 20 67 true).run Tryz.prog w = .ok (.tuple #[.agg #[.int .i64 0, .int .i64 0, .int .i64 0], .bool false]) w := fun w => by kernel_rfl
  refine callsD_of_wpS Tryz.func86 rfl fun c₀ cs hu => ?_
  apply wpS_seq
  apply wpS_region
  simp [wpOpsS, go_sem, recoverD, hu, hta, Tryz.ntmps86, Exit.thenS]
  apply wpS_seq
  apply wpS_region
  simp [wpOpsS, go_sem, Exit.thenS]
  refine wpS_cond (t := false) (by simp [Act.eval, Array.replicate]) ?_
  simp only [Bool.false_eq_true, if_false]
  refine wpS_of_wp (wp_skip ?_)
  cases c₀
  simp_all [bodyPostS, results, Tryz.results86]
  exact (Below.refl _ _).alloc (Nat.le_refl _) _

set_option maxRecDepth 100000 in
set_option maxHeartbeats 4000000 in
theorem areClues_any (n : Int) (A : Option Addr) (c : Nat) (cs : List (Int × Int × Int)) (w : World) (hn : 0 ≤ n ∧ n ≤ 1048576) (hcs : (cs.length : Int) ≤ 9223372036854775807) (hA : SlAt tripS w A cs) :
    Calls Tryz.prog 66 #[.slice A cs.length c, .int .i64 n] w fun e w' => e = .returned (.bool (cluesB n cs)) ∧ Below w.heap.size w w' := by
  have HA := Lib.hid hA
  clear hA
  have hmf : ∀ (fn : Fn) (first cap : Array Value) (w : World), (Instr.makeFunc fn first cap).run Tryz.prog w = .ok (.func fn first cap) w := fun _ _ _ _ => rfl
  go_enter_defers Tryz.func66, Tryz.ntmps66
  go_wp2
  go_loopw [10] (fun i wr => ∃ k : Nat, k ≤ cs.length ∧ i = .int .i64 k ∧ Below w.heap.size w wr ∧ w.heap.size < wr.heap.size ∧ wr.cell? ⟨w.heap.size, 0, none⟩ = some (.bool false) ∧ wr.frozen? ⟨w.heap.size, 0, none⟩ = false ∧ ∀ j, j < k → ∀ x, cs[j]? = some x → pclB n x = true)
    (fun i _ => cs.length - (intOf i).toNat)
  case atStart => exact ⟨0, Nat.zero_le _, rfl, (Below.refl _ _).alloc (Nat.le_refl _) _, by simp, by simp, by simp, fun j hj => absurd hj (by omega)⟩
  case round =>
    obtain ⟨k, hk, rfl, hb, hsz, z0, y0, hall⟩ := hrel
    have HB := Lib.hid hb
    have HALL := Lib.hid hall
    have HCS := Lib.hid (HA.out.below hb)
    clear hall hb
    by_cases hlt : k < cs.length
    · obtain ⟨b, off, rfl, l0, a0, a1, a2⟩ := trip_at HCS.out hlt
      have HT := Lib.hid (clues_take hlt HALL.out)
      have HN := Lib.hid (clues_no (n := n) hlt)
      generalize cs[k] = x at *
      obtain ⟨x1, x2, x3⟩ := x
      simp only at a0 a1 a2
      have hkl : (k : Int) < (cs.length : Int) := by omega
      cases hx : clB n x1 x2 x3 with
      | true =>
        have HX := Lib.hid (fun w => demand_yes n x1 x2 x3 hx w hn)
        have HTX : Hid (pclB n (x1, x2, x3) = true) := hx
        clear hx
        go_wp2_with fail
        refine (HX.out _).mono ?_
        rintro e w1 ⟨rfl, hb1⟩
        have HB1 : Hid (Below wr.heap.size wr w1) := ((Below.refl _ _).alloc (Nat.le_refl _) _).trans (hb1.mono (by simp))
        have z1 : w1.cell? ⟨w.heap.size, 0, none⟩ = some (.bool false) := (HB1.out.cell (p := ⟨w.heap.size, 0, none⟩) hsz).trans z0
        have y1 : w1.frozen? ⟨w.heap.size, 0, none⟩ = false := (HB1.out.frozen (p := ⟨w.heap.size, 0, none⟩) hsz).trans y0
        clear hb1
        go_wp2
        go_roundw
        case rel => exact ⟨k + 1, by omega, by go_num, HB.out.trans (HB1.out.mono (by omega)), by have := HB1.out.size; omega, z1, y1, HT.out HTX.out⟩
        case measure => simp [intOf]; omega
      | false =>
        have HX := Lib.hid (fun w => demand_no n x1 x2 x3 hx w hn)
        have HTX : Hid (cluesB n cs = false) := HN.out hx
        clear hx
        go_wp2_with fail
        refine (HX.out _).mono ?_
        rintro e w1 ⟨rfl, hb1⟩
        have HB1 : Hid (Below wr.heap.size wr w1) := ((Below.refl _ _).alloc (Nat.le_refl _) _).trans (hb1.mono (by simp))
        have z1 : w1.cell? ⟨w.heap.size, 0, none⟩ = some (.bool false) := (HB1.out.cell (p := ⟨w.heap.size, 0, none⟩) hsz).trans z0
        have y1 : w1.frozen? ⟨w.heap.size, 0, none⟩ = false := (HB1.out.frozen (p := ⟨w.heap.size, 0, none⟩) hsz).trans y0
        clear hb1
        refine leaves_cons (f := 86) (args := #[.pointer (some ⟨w.heap.size, 0, none⟩)]) (by simp) (by simp [go_sem]) ?_
        refine (door_catch ⟨w.heap.size, 0, none⟩ false x1 x2 x3 [] _ z1 y1).mono ?_
        rintro e u' w2 ⟨rfl, rfl, hc2, hb2⟩
        have hbz : Below w.heap.size w w2 := (HB.out.trans (HB1.out.mono (by omega))).trans hb2
        simp [Leaves, settle, results, Tryz.results66, go_sem, hc2]
        exact ⟨HTX.out, hbz⟩
    · have hkl : ¬ (k : Int) < (cs.length : Int) := by omega
      have HTX : Hid (cluesB n cs = true) := clues_yes (fun j hj => HALL.out j (by omega))
      go_wp2
      refine leaves_cons (f := 86) (args := #[.pointer (some ⟨w.heap.size, 0, none⟩)]) (by simp) (by simp [go_sem]) ?_
      refine (door_idle ⟨w.heap.size, 0, none⟩ _).mono ?_
      rintro e u' w2 ⟨rfl, rfl, hb2⟩
      have hc2 : w2.cell? ⟨w.heap.size, 0, none⟩ = some (.bool true) := Below.cell_some hb2 (World.cell?_setCell_same _ _ _ z0)
      have hbz : Below w.heap.size w w2 := (HB.out.setCell (Nat.le_refl _) _).trans (hb2.mono (by simp; omega))
      simp [Leaves, settle, results, Tryz.results66, go_sem, hc2]
      exact ⟨HTX.out, hbz⟩
theorem areClues_at (n : Int) (A : Option Addr) (c : Nat) (cs : List (Int × Int × Int)) (r : Bool) (hr : cluesB n cs = r) (w : World) (hn : 0 ≤ n ∧ n ≤ 1048576) (hcs : (cs.length : Int) ≤ 9223372036854775807) (hA : SlAt tripS w A cs) :
    Calls Tryz.prog 66 #[.slice A cs.length c, .int .i64 n] w fun e w' => e = .returned (.bool r) ∧ Below w.heap.size w w' := by
  subst hr; exact areClues_any n A c cs w hn hcs hA
end Go.Proofs.YtiodlclaempihaaGreat

/- PzC -/
namespace Go.Proofs.YtiodlclaempihaaGreat
open Go.RowKit

theorem hplB_pl (L : Int) (l : List Int) : hplB L l = (decide (l.length ≤ 8) && plB L l) := by
  unfold hplB plB
  rw [rowB_parts, Bool.eq_iff_iff]
  simp only [Bool.and_eq_true, decide_eq_true_eq, inB_iff]
  constructor
  · rintro ⟨⟨⟨h1, h2⟩, h3⟩, h4⟩; exact ⟨by omega, ⟨h1, by omega, by omega⟩, h3, h4⟩
  · rintro ⟨h0, ⟨h1, h2, h5⟩, h3, h4⟩; exact ⟨⟨⟨h1, by omega⟩, h3⟩, h4⟩
theorem slAt_trip1 {w : World} {g : Nat} {x y z : Int} {e : TypeId} {m : Nat × Nat} (h : w.heap[g]? = some (.cells #[.int .i64 x, .int .i64 y, .int .i64 z] e m)) : SlAt tripS w (some ⟨g, 0, none⟩) [(x, y, z)] := by
  refine .inr ⟨g, 0, rfl, (Array.getElem?_eq_some_iff.1 h).1, fun k u hk j hj => ?_⟩
  cases k with
  | succ k => simp at hk
  | zero =>
    simp only [List.getElem?_cons_zero, Option.some.injEq] at hk
    subst hk
    simp only [Nat.zero_mul, Nat.zero_add]
    rw [cell_of_row w g j _ _ _ h, ← Array.getElem?_toList]
    rfl

set_option maxHeartbeats 1000000 in
theorem placesP_any (L : Int) (A : Option Addr) (c : Nat) (l : List Int) (w : World) (hn : (l.length : Int) ≤ 9223372036854775807) (hA : SlAt intS w A l) :
    Calls Tryz.prog 65 #[.int .i64 L, .slice A l.length c] w fun e w' => e = .returned (.bool (hplB L l)) ∧ Below w.heap.size w w' := by
  by_cases h8 : l.length ≤ 8
  · have HV : Hid (hplB L l = plB L l) := by show _ = _; rw [hplB_pl]; simp [h8]
    have HP := Lib.hid (fun w h => arePlaces_any L A c l w hn h)
    have HA := Lib.hid hA
    have h9 : (l.length : Int) ≤ 8 := by omega
    clear hA
    rw [HV.out]
    go_enter Tryz.func65, Tryz.ntmps65
    go_wp2_with fail
    refine (HP.out _ HA.out).mono ?_
    rintro e w1 ⟨rfl, hb⟩
    go_wp2
    go_ret
    exact ⟨rfl, hb⟩
  · have HV : Hid (hplB L l = false) := by show _ = _; rw [hplB_pl]; simp [h8]
    have h9 : ¬ (l.length : Int) ≤ 8 := by omega
    have h10 : (8 : Int) < (l.length : Int) := by omega
    rw [HV.out]
    clear hA
    go_enter Tryz.func65, Tryz.ntmps65
    go_wp2
    go_ret
    exact ⟨rfl, Below.refl _ _⟩
theorem placesP_at (L : Int) (A : Option Addr) (c : Nat) (l : List Int) (r : Bool) (hr : hplB L l = r) (w : World) (hn : (l.length : Int) ≤ 9223372036854775807) (hA : SlAt intS w A l) :
    Calls Tryz.prog 65 #[.int .i64 L, .slice A l.length c] w fun e w' => e = .returned (.bool r) ∧ Below w.heap.size w w' := by
  subst hr; exact placesP_any L A c l w hn hA


set_option maxRecDepth 100000 in
set_option maxHeartbeats 1000000 in
theorem implIsPuzzle_any (L : Int) (A C : Option Addr) (c d : Nat) (l : List Int) (cs : List (Int × Int × Int)) (w : World) (hn : (l.length : Int) ≤ 9223372036854775807) (hm : (cs.length : Int) ≤ 9223372036854775807) (hA : SlAt intS w A l) (hC : SlAt tripS w C cs) :
    Calls Tryz.prog 47 #[.agg #[.int .i64 L, .slice A l.length c, .slice C cs.length d]] w fun e w' => e = .returned (.bool (puzB L l cs)) ∧ Below w.heap.size w w' := by
  have HA := Lib.hid (hA.alloc (Obj.cells #[Value.int IntKind.i64 L, Value.slice A l.length c, Value.slice C cs.length d] 32))
  have HCs := Lib.hid hC
  clear hA hC
  cases h1 : hplB L l with
  | false =>
    have HV : Hid (puzB L l cs = false) := by show _ = _; simp [puzB, h1]
    have HP := Lib.hid (fun w h => placesP_at L A c l false h1 w hn h)
    clear h1
    rw [HV.out]
    go_enter Tryz.func47, Tryz.ntmps47
    go_wp2_with fail
    refine (HP.out _ HA.out).mono ?_
    rintro e w1 ⟨rfl, hb⟩
    go_wp2
    go_ret
    exact ⟨rfl, ((Below.refl _ _).alloc (Nat.le_refl _) _).trans (hb.mono (by simp))⟩
  | true =>
    have hl := hplB_plB h1
    have HP := Lib.hid (fun w h => placesP_at L A c l true h1 w hn h)
    have hl2 := ((plB_iff L l).1 hl).2.1
    by_cases h2 : cs.length ≤ 6
    · have HV : Hid (puzB L l cs = cluesB l.length cs) := by show _ = _; simp [puzB, h1, h2]
      have HC := Lib.hid (fun w h => areClues_any l.length C d cs w (by omega) (by omega) h)
      have h6 : (cs.length : Int) ≤ 6 := by omega
      clear h1 hl
      rw [HV.out]
      go_enter Tryz.func47, Tryz.ntmps47
      go_wp2_with fail
      refine (HP.out _ HA.out).mono ?_
      rintro e w1 ⟨rfl, hb⟩
      have k1 : w1.cell? ⟨w.heap.size, 1, none⟩ = some (.slice A l.length c) := by rw [hb.cell (p := ⟨w.heap.size, 1, none⟩) (by simp)]; simp
      have k2 : w1.cell? ⟨w.heap.size, 2, none⟩ = some (.slice C cs.length d) := by rw [hb.cell (p := ⟨w.heap.size, 2, none⟩) (by simp)]; simp
      have HB := Lib.hid (((Below.refl _ w).alloc (Nat.le_refl _) (Obj.cells #[Value.int IntKind.i64 L, Value.slice A l.length c, Value.slice C cs.length d] 32)).trans (hb.mono (by simp)))
      clear hb
      go_wp2_with fail
      refine (HC.out _ (HCs.out.below HB.out)).mono ?_
      rintro e w2 ⟨rfl, hb2⟩
      have HB2 := Lib.hid (HB.out.trans (hb2.mono HB.out.size))
      clear hb2
      go_wp2
      go_ret
      exact ⟨rfl, HB2.out⟩
    · have HV : Hid (puzB L l cs = false) := by show _ = _; simp [puzB, h2]
      have h6 : ¬ (cs.length : Int) ≤ 6 := by omega
      have h7 : (6 : Int) < (cs.length : Int) := by omega
      clear h1 hl
      rw [HV.out]
      go_enter Tryz.func47, Tryz.ntmps47
      go_wp2_with fail
      refine (HP.out _ HA.out).mono ?_
      rintro e w1 ⟨rfl, hb⟩
      have k1 : w1.cell? ⟨w.heap.size, 1, none⟩ = some (.slice A l.length c) := by rw [hb.cell (p := ⟨w.heap.size, 1, none⟩) (by simp)]; simp
      have k2 : w1.cell? ⟨w.heap.size, 2, none⟩ = some (.slice C cs.length d) := by rw [hb.cell (p := ⟨w.heap.size, 2, none⟩) (by simp)]; simp
      have HB := Lib.hid (((Below.refl _ w).alloc (Nat.le_refl _) (Obj.cells #[Value.int IntKind.i64 L, Value.slice A l.length c, Value.slice C cs.length d] 32)).trans (hb.mono (by simp)))
      clear hb
      go_wp2
      go_ret
      exact ⟨rfl, HB.out⟩
theorem implIsPuzzle_at (L : Int) (A C : Option Addr) (c d : Nat) (l : List Int) (cs : List (Int × Int × Int)) (r : Bool) (hr : puzB L l cs = r) (w : World) (hn : (l.length : Int) ≤ 9223372036854775807) (hm : (cs.length : Int) ≤ 9223372036854775807) (hA : SlAt intS w A l) (hC : SlAt tripS w C cs) :
    Calls Tryz.prog 47 #[.agg #[.int .i64 L, .slice A l.length c, .slice C cs.length d]] w fun e w' => e = .returned (.bool r) ∧ Below w.heap.size w w' := by
  subst hr; exact implIsPuzzle_any L A C c d l cs w hn hm hA hC
end Go.Proofs.YtiodlclaempihaaGreat

/- PzD -/
namespace Go.Proofs.YtiodlclaempihaaGreat
open Go.RowKit

theorem on_ga {L : Int} {l : List (Int × Int)} {t : Int} (hg : goodB L l = true) (ht : timeB t = true) : (gaV L l t).length = onN (fallsOf L l) t := by
  have h1 := on_count hg t
  unfold gaV raOk
  rw [hg, ht]
  simp only [Bool.and_self, if_true, List.length_map]
  rw [h1]
  unfold befN onN
  rw [List.take_length, List.countP_eq_length_filter]
  congr 1
  apply List.filter_congr
  intro x _
  unfold leB
  rw [Bool.eq_iff_iff]
  simp
theorem at_antsD {w : World} {A : Option Addr} {l : List (Int × Int)} (h : AntsAt w A l) {a : Int} (ha : 0 ≤ a ∧ a < l.length) :
    ∃ b off, A = some ⟨b, off, none⟩ ∧ b < w.heap.size ∧ w.cell? ⟨b, off + a.toNat * 2 + 1, none⟩ = some (.int .i64 (l.getD a.toNat (0, 0)).2) := by
  obtain ⟨b, off, hA, hlt, hc⟩ := h.at_ (k := a.toNat) (by omega)
  exact ⟨b, off, hA, hlt, (hc a.toNat (by omega)).2⟩
/-- what may be asked of a rod with n ants -/
def askB (n k a : Int) : Bool := (decide (0 ≤ k) && decide (k ≤ 5)) && ((k != 0 && k != 4) || (decide (0 ≤ a) && decide (a < n))) && (k != 5 || timeB a)
theorem ask_clue {n k a b : Int} (h : clB n k a b = true) : askB n k a = true := by
  have h6 := clB_range h
  have h7 : k = 0 ∨ k = 1 ∨ k = 2 ∨ k = 3 ∨ k = 4 ∨ k = 5 := by omega
  unfold askB timeB
  unfold clB inB at h
  rcases h7 with rfl | rfl | rfl | rfl | rfl | rfl <;> simp at h ⊢ <;> omega
/-- the clue that a rod has -/
def hasA (L : Int) (l : List (Int × Int)) (k a : Int) : Int := if k = 1 then (nL L l : Int) else if k = 2 then (mAll l).1 else if k = 3 then maxOf (fallsOf L l) else a
def hasB' (L : Int) (l : List (Int × Int)) (k a b : Int) : Int := if k = 0 then (if (l.getD a.toNat (0, 0)).2 = 1 then 1 else 0) else if k = 4 then (fallsOf L l).getD a.toNat 0 else if k = 5 then (onN (fallsOf L l) a : Int) else b

set_option maxRecDepth 100000 in
set_option maxHeartbeats 2000000 in
theorem asRod_1 (L a b : Int) (A : Option Addr) (c : Nat) (l : List (Int × Int)) (w : World) (hg : goodB L l = true) (hA : AntsAt w A l) :
    Calls Tryz.prog 91 #[.agg #[.int .i64 1, .int .i64 a, .int .i64 b], .agg #[.int .i64 L, .slice A l.length c]] w fun e w' => e = .returned (.agg #[.int .i64 1, .int .i64 (hasA L l 1 a), .int .i64 (hasB' L l 1 a b)]) ∧ Below w.heap.size w w' := by
  obtain ⟨v, hv⟩ : ∃ v : Int, (nL L l : Int) = v := ⟨_, rfl⟩
  have e1 : hasA L l 1 a = v := by rw [← hv]; rfl
  have e2 : hasB' L l 1 a b = b := rfl
  rw [e1, e2]
  clear e1 e2
  obtain ⟨W, hW⟩ : ∃ W, W = ((w.alloc (Obj.cells #[Value.int IntKind.i64 1, Value.int IntKind.i64 a, Value.int IntKind.i64 b] 67)).alloc (Obj.cells #[Value.int IntKind.i64 L, Value.slice A l.length c] 71)).alloc (Obj.cells #[Value.int IntKind.i64 0, Value.int IntKind.i64 0, Value.int IntKind.i64 0] 67) := ⟨_, rfl⟩
  have HBW : Hid (Below w.heap.size w W) := by show Below _ _ _; rw [hW]; exact (((Below.refl _ _).alloc (Nat.le_refl _) _).alloc (by simp) _).alloc (by simp; omega) _
  have HA := Lib.hid (hA.below HBW.out)
  have k0 : W.cell? ⟨w.heap.size, 0, none⟩ = some (.int .i64 1) := by rw [hW]; simp [go_sem]
  have k1 : W.cell? ⟨w.heap.size, 1, none⟩ = some (.int .i64 a) := by rw [hW]; simp [go_sem]
  have k2 : W.cell? ⟨w.heap.size, 2, none⟩ = some (.int .i64 b) := by rw [hW]; simp [go_sem]
  have c0 : W.cell? ⟨w.heap.size + 1, 0, none⟩ = some (.int .i64 L) := by rw [hW]; simp [go_sem]
  have c1 : W.cell? ⟨w.heap.size + 1, 1, none⟩ = some (.slice A l.length c) := by rw [hW]; simp [go_sem]
  have r0 : W.cell? ⟨w.heap.size + 1 + 1, 0, none⟩ = some (.int .i64 0) := by rw [hW]; simp [go_sem]
  have r1 : W.cell? ⟨w.heap.size + 1 + 1, 1, none⟩ = some (.int .i64 0) := by rw [hW]; simp [go_sem]
  have r2 : W.cell? ⟨w.heap.size + 1 + 1, 2, none⟩ = some (.int .i64 0) := by rw [hW]; simp [go_sem]
  have f0 : ∀ o, W.frozen? ⟨w.heap.size, o, none⟩ = false := fun o => by rw [hW]; simp [go_sem]
  have g0 : ∀ o, W.frozen? ⟨w.heap.size + 1 + 1, o, none⟩ = false := fun o => by rw [hW]; simp [go_sem]
  have hsW : w.heap.size + 3 ≤ W.heap.size := by rw [hW]; simp
  clear hA
  have HR : Hid (∃ y : Int, ∀ W, AntsAt W A l → Calls Tryz.prog 106 #[.agg #[.int .i64 L, .slice A l.length c]] W fun e w' => e = .returned (.tuple #[.int .i64 v, .int .i64 y, .bool true]) ∧ Below W.heap.size W w') := ⟨cfR L l, fun W h => by
    have h1 := implCountFalls_any L A c l W h
    rw [hg] at h1
    have e : cfL L l = v := by unfold cfL; rw [hg, hv]; rfl
    rw [e] at h1
    exact h1⟩
  obtain ⟨y, hy⟩ := HR.out
  have HR := Lib.hid hy
  clear hy
  clear hg hv
  go_enter Tryz.func91, Tryz.ntmps91
  go_wp2_with fail
  try rw [← hW]
  refine (HR.out _ HA.out).mono ?_
  rintro e w1 ⟨rfl, hb⟩
  have k0 := Below.cell_some hb k0
  have k1 := Below.cell_some hb k1
  have k2 := Below.cell_some hb k2
  have r0 := Below.cell_some hb r0
  have r1 := Below.cell_some hb r1
  have r2 := Below.cell_some hb r2
  have f0 : ∀ o, w1.frozen? ⟨w.heap.size, o, none⟩ = false := fun o => (hb.frozen (p := ⟨w.heap.size, o, none⟩) (by simp only; omega)).trans (f0 o)
  have g0 : ∀ o, w1.frozen? ⟨w.heap.size + 1 + 1, o, none⟩ = false := fun o => (hb.frozen (p := ⟨w.heap.size + 1 + 1, o, none⟩) (by simp only; omega)).trans (g0 o)
  have HB1 := Lib.hid (HBW.out.trans (hb.mono HBW.out.size))
  have hs1 := hb.size
  clear hb
  go_wp2
  refine bodyPost_ret (v := .agg #[.int .i64 1, .int .i64 v, .int .i64 b]) (by simp [results, Tryz.results91, go_sem, r0, r1, r2]) rfl ⟨rfl, ?_⟩
  exact (((HB1.out.setCell (Nat.le_refl _) _).setCell (by simp only; omega) _).setCell (by simp only; omega) _).setCell (by simp only; omega) _

set_option maxRecDepth 100000 in
set_option maxHeartbeats 2000000 in
theorem asRod_2 (L a b : Int) (A : Option Addr) (c : Nat) (l : List (Int × Int)) (w : World) (hg : goodB L l = true) (hA : AntsAt w A l) :
    Calls Tryz.prog 91 #[.agg #[.int .i64 2, .int .i64 a, .int .i64 b], .agg #[.int .i64 L, .slice A l.length c]] w fun e w' => e = .returned (.agg #[.int .i64 2, .int .i64 (hasA L l 2 a), .int .i64 (hasB' L l 2 a b)]) ∧ Below w.heap.size w w' := by
  obtain ⟨v, hv⟩ : ∃ v : Int, (mAll l).1 = v := ⟨_, rfl⟩
  have e1 : hasA L l 2 a = v := by rw [← hv]; rfl
  have e2 : hasB' L l 2 a b = b := rfl
  rw [e1, e2]
  clear e1 e2
  obtain ⟨W, hW⟩ : ∃ W, W = ((w.alloc (Obj.cells #[Value.int IntKind.i64 2, Value.int IntKind.i64 a, Value.int IntKind.i64 b] 67)).alloc (Obj.cells #[Value.int IntKind.i64 L, Value.slice A l.length c] 71)).alloc (Obj.cells #[Value.int IntKind.i64 0, Value.int IntKind.i64 0, Value.int IntKind.i64 0] 67) := ⟨_, rfl⟩
  have HBW : Hid (Below w.heap.size w W) := by show Below _ _ _; rw [hW]; exact (((Below.refl _ _).alloc (Nat.le_refl _) _).alloc (by simp) _).alloc (by simp; omega) _
  have HA := Lib.hid (hA.below HBW.out)
  have k0 : W.cell? ⟨w.heap.size, 0, none⟩ = some (.int .i64 2) := by rw [hW]; simp [go_sem]
  have k1 : W.cell? ⟨w.heap.size, 1, none⟩ = some (.int .i64 a) := by rw [hW]; simp [go_sem]
  have k2 : W.cell? ⟨w.heap.size, 2, none⟩ = some (.int .i64 b) := by rw [hW]; simp [go_sem]
  have c0 : W.cell? ⟨w.heap.size + 1, 0, none⟩ = some (.int .i64 L) := by rw [hW]; simp [go_sem]
  have c1 : W.cell? ⟨w.heap.size + 1, 1, none⟩ = some (.slice A l.length c) := by rw [hW]; simp [go_sem]
  have r0 : W.cell? ⟨w.heap.size + 1 + 1, 0, none⟩ = some (.int .i64 0) := by rw [hW]; simp [go_sem]
  have r1 : W.cell? ⟨w.heap.size + 1 + 1, 1, none⟩ = some (.int .i64 0) := by rw [hW]; simp [go_sem]
  have r2 : W.cell? ⟨w.heap.size + 1 + 1, 2, none⟩ = some (.int .i64 0) := by rw [hW]; simp [go_sem]
  have f0 : ∀ o, W.frozen? ⟨w.heap.size, o, none⟩ = false := fun o => by rw [hW]; simp [go_sem]
  have g0 : ∀ o, W.frozen? ⟨w.heap.size + 1 + 1, o, none⟩ = false := fun o => by rw [hW]; simp [go_sem]
  have hsW : w.heap.size + 3 ≤ W.heap.size := by rw [hW]; simp
  clear hA
  have HR : Hid (∀ W, AntsAt W A l → Calls Tryz.prog 107 #[.agg #[.int .i64 L, .slice A l.length c]] W fun e w' => e = .returned (.tuple #[.int .i64 v, .bool true]) ∧ Below W.heap.size W w') := fun W h => by
    have h1 := implCountMeetings_any L A c l W h
    rw [hg] at h1
    have e : cmV L l = v := by unfold cmV; rw [hg, hv]; rfl
    rw [e] at h1
    exact h1
  clear hg hv
  go_enter Tryz.func91, Tryz.ntmps91
  go_wp2_with fail
  try rw [← hW]
  refine (HR.out _ HA.out).mono ?_
  rintro e w1 ⟨rfl, hb⟩
  have k0 := Below.cell_some hb k0
  have k1 := Below.cell_some hb k1
  have k2 := Below.cell_some hb k2
  have r0 := Below.cell_some hb r0
  have r1 := Below.cell_some hb r1
  have r2 := Below.cell_some hb r2
  have f0 : ∀ o, w1.frozen? ⟨w.heap.size, o, none⟩ = false := fun o => (hb.frozen (p := ⟨w.heap.size, o, none⟩) (by simp only; omega)).trans (f0 o)
  have g0 : ∀ o, w1.frozen? ⟨w.heap.size + 1 + 1, o, none⟩ = false := fun o => (hb.frozen (p := ⟨w.heap.size + 1 + 1, o, none⟩) (by simp only; omega)).trans (g0 o)
  have HB1 := Lib.hid (HBW.out.trans (hb.mono HBW.out.size))
  have hs1 := hb.size
  clear hb
  go_wp2
  refine bodyPost_ret (v := .agg #[.int .i64 2, .int .i64 v, .int .i64 b]) (by simp [results, Tryz.results91, go_sem, r0, r1, r2]) rfl ⟨rfl, ?_⟩
  exact (((HB1.out.setCell (Nat.le_refl _) _).setCell (by simp only; omega) _).setCell (by simp only; omega) _).setCell (by simp only; omega) _

set_option maxRecDepth 100000 in
set_option maxHeartbeats 2000000 in
theorem asRod_3 (L a b : Int) (A : Option Addr) (c : Nat) (l : List (Int × Int)) (w : World) (hg : goodB L l = true) (hA : AntsAt w A l) :
    Calls Tryz.prog 91 #[.agg #[.int .i64 3, .int .i64 a, .int .i64 b], .agg #[.int .i64 L, .slice A l.length c]] w fun e w' => e = .returned (.agg #[.int .i64 3, .int .i64 (hasA L l 3 a), .int .i64 (hasB' L l 3 a b)]) ∧ Below w.heap.size w w' := by
  obtain ⟨v, hv⟩ : ∃ v : Int, maxOf (fallsOf L l) = v := ⟨_, rfl⟩
  have e1 : hasA L l 3 a = v := by rw [← hv]; rfl
  have e2 : hasB' L l 3 a b = b := rfl
  rw [e1, e2]
  clear e1 e2
  obtain ⟨W, hW⟩ : ∃ W, W = ((w.alloc (Obj.cells #[Value.int IntKind.i64 3, Value.int IntKind.i64 a, Value.int IntKind.i64 b] 67)).alloc (Obj.cells #[Value.int IntKind.i64 L, Value.slice A l.length c] 71)).alloc (Obj.cells #[Value.int IntKind.i64 0, Value.int IntKind.i64 0, Value.int IntKind.i64 0] 67) := ⟨_, rfl⟩
  have HBW : Hid (Below w.heap.size w W) := by show Below _ _ _; rw [hW]; exact (((Below.refl _ _).alloc (Nat.le_refl _) _).alloc (by simp) _).alloc (by simp; omega) _
  have HA := Lib.hid (hA.below HBW.out)
  have k0 : W.cell? ⟨w.heap.size, 0, none⟩ = some (.int .i64 3) := by rw [hW]; simp [go_sem]
  have k1 : W.cell? ⟨w.heap.size, 1, none⟩ = some (.int .i64 a) := by rw [hW]; simp [go_sem]
  have k2 : W.cell? ⟨w.heap.size, 2, none⟩ = some (.int .i64 b) := by rw [hW]; simp [go_sem]
  have c0 : W.cell? ⟨w.heap.size + 1, 0, none⟩ = some (.int .i64 L) := by rw [hW]; simp [go_sem]
  have c1 : W.cell? ⟨w.heap.size + 1, 1, none⟩ = some (.slice A l.length c) := by rw [hW]; simp [go_sem]
  have r0 : W.cell? ⟨w.heap.size + 1 + 1, 0, none⟩ = some (.int .i64 0) := by rw [hW]; simp [go_sem]
  have r1 : W.cell? ⟨w.heap.size + 1 + 1, 1, none⟩ = some (.int .i64 0) := by rw [hW]; simp [go_sem]
  have r2 : W.cell? ⟨w.heap.size + 1 + 1, 2, none⟩ = some (.int .i64 0) := by rw [hW]; simp [go_sem]
  have f0 : ∀ o, W.frozen? ⟨w.heap.size, o, none⟩ = false := fun o => by rw [hW]; simp [go_sem]
  have g0 : ∀ o, W.frozen? ⟨w.heap.size + 1 + 1, o, none⟩ = false := fun o => by rw [hW]; simp [go_sem]
  have hsW : w.heap.size + 3 ≤ W.heap.size := by rw [hW]; simp
  clear hA
  have HR : Hid (∀ W, AntsAt W A l → Calls Tryz.prog 108 #[.agg #[.int .i64 L, .slice A l.length c]] W fun e w' => e = .returned (.tuple #[.int .i64 v, .bool true]) ∧ Below W.heap.size W w') := fun W h => by
    have h1 := implLastFall_any L A c l W h
    rw [hg] at h1
    have e : lfV L l = v := by unfold lfV ftV; rw [if_pos hg, hv]
    rw [e] at h1
    exact h1
  clear hg hv
  go_enter Tryz.func91, Tryz.ntmps91
  go_wp2_with fail
  try rw [← hW]
  refine (HR.out _ HA.out).mono ?_
  rintro e w1 ⟨rfl, hb⟩
  have k0 := Below.cell_some hb k0
  have k1 := Below.cell_some hb k1
  have k2 := Below.cell_some hb k2
  have r0 := Below.cell_some hb r0
  have r1 := Below.cell_some hb r1
  have r2 := Below.cell_some hb r2
  have f0 : ∀ o, w1.frozen? ⟨w.heap.size, o, none⟩ = false := fun o => (hb.frozen (p := ⟨w.heap.size, o, none⟩) (by simp only; omega)).trans (f0 o)
  have g0 : ∀ o, w1.frozen? ⟨w.heap.size + 1 + 1, o, none⟩ = false := fun o => (hb.frozen (p := ⟨w.heap.size + 1 + 1, o, none⟩) (by simp only; omega)).trans (g0 o)
  have HB1 := Lib.hid (HBW.out.trans (hb.mono HBW.out.size))
  have hs1 := hb.size
  clear hb
  go_wp2
  refine bodyPost_ret (v := .agg #[.int .i64 3, .int .i64 v, .int .i64 b]) (by simp [results, Tryz.results91, go_sem, r0, r1, r2]) rfl ⟨rfl, ?_⟩
  exact (((HB1.out.setCell (Nat.le_refl _) _).setCell (by simp only; omega) _).setCell (by simp only; omega) _).setCell (by simp only; omega) _

set_option maxRecDepth 100000 in
set_option maxHeartbeats 2000000 in
theorem asRod_4 (L a b : Int) (A : Option Addr) (c : Nat) (l : List (Int × Int)) (w : World) (hg : goodB L l = true) (ha : 0 ≤ a ∧ a < l.length) (hA : AntsAt w A l) :
    Calls Tryz.prog 91 #[.agg #[.int .i64 4, .int .i64 a, .int .i64 b], .agg #[.int .i64 L, .slice A l.length c]] w fun e w' => e = .returned (.agg #[.int .i64 4, .int .i64 (hasA L l 4 a), .int .i64 (hasB' L l 4 a b)]) ∧ Below w.heap.size w w' := by
  obtain ⟨v, hv⟩ : ∃ v : Int, (fallsOf L l).getD a.toNat 0 = v := ⟨_, rfl⟩
  have e1 : hasB' L l 4 a b = v := by rw [← hv]; rfl
  have e2 : hasA L l 4 a = a := rfl
  rw [e1, e2]
  clear e1 e2
  obtain ⟨W, hW⟩ : ∃ W, W = ((w.alloc (Obj.cells #[Value.int IntKind.i64 4, Value.int IntKind.i64 a, Value.int IntKind.i64 b] 67)).alloc (Obj.cells #[Value.int IntKind.i64 L, Value.slice A l.length c] 71)).alloc (Obj.cells #[Value.int IntKind.i64 0, Value.int IntKind.i64 0, Value.int IntKind.i64 0] 67) := ⟨_, rfl⟩
  have HBW : Hid (Below w.heap.size w W) := by show Below _ _ _; rw [hW]; exact (((Below.refl _ _).alloc (Nat.le_refl _) _).alloc (by simp) _).alloc (by simp; omega) _
  have HA := Lib.hid (hA.below HBW.out)
  have k0 : W.cell? ⟨w.heap.size, 0, none⟩ = some (.int .i64 4) := by rw [hW]; simp [go_sem]
  have k1 : W.cell? ⟨w.heap.size, 1, none⟩ = some (.int .i64 a) := by rw [hW]; simp [go_sem]
  have k2 : W.cell? ⟨w.heap.size, 2, none⟩ = some (.int .i64 b) := by rw [hW]; simp [go_sem]
  have c0 : W.cell? ⟨w.heap.size + 1, 0, none⟩ = some (.int .i64 L) := by rw [hW]; simp [go_sem]
  have c1 : W.cell? ⟨w.heap.size + 1, 1, none⟩ = some (.slice A l.length c) := by rw [hW]; simp [go_sem]
  have r0 : W.cell? ⟨w.heap.size + 1 + 1, 0, none⟩ = some (.int .i64 0) := by rw [hW]; simp [go_sem]
  have r1 : W.cell? ⟨w.heap.size + 1 + 1, 1, none⟩ = some (.int .i64 0) := by rw [hW]; simp [go_sem]
  have r2 : W.cell? ⟨w.heap.size + 1 + 1, 2, none⟩ = some (.int .i64 0) := by rw [hW]; simp [go_sem]
  have f0 : ∀ o, W.frozen? ⟨w.heap.size, o, none⟩ = false := fun o => by rw [hW]; simp [go_sem]
  have g0 : ∀ o, W.frozen? ⟨w.heap.size + 1 + 1, o, none⟩ = false := fun o => by rw [hW]; simp [go_sem]
  have hsW : w.heap.size + 3 ≤ W.heap.size := by rw [hW]; simp
  clear hA
  have HR : Hid (∃ y : Int, ∀ W, AntsAt W A l → Calls Tryz.prog 109 #[.agg #[.int .i64 L, .slice A l.length c], .int .i64 a] W fun e w' => e = .returned (.tuple #[.int .i64 v, .int .i64 y, .bool true]) ∧ Below W.heap.size W w') := ⟨foE L l a, fun W h => by
    have h1 := implFallOf_any L A c l a W h
    have e0 : foOk L l a = true := by unfold foOk hasB; rw [hg]; simp; omega
    have e : foT L l a = v := by
      unfold foT
      rw [e0, ← hv]
      show ft _ = _
      unfold fallsOf
      rw [List.getD_eq_getElem?_getD, List.getD_eq_getElem?_getD, List.getElem?_map]
      have hl : a.toNat < (fallAs L l).length := by rw [fallAs_len hg]; omega
      rw [List.getElem?_eq_getElem hl]
      rfl
    rw [e, e0] at h1
    exact h1⟩
  obtain ⟨y, hy⟩ := HR.out
  have HR := Lib.hid hy
  clear hy ha
  clear hg hv
  go_enter Tryz.func91, Tryz.ntmps91
  go_wp2_with fail
  try rw [← hW]
  refine (HR.out _ HA.out).mono ?_
  rintro e w1 ⟨rfl, hb⟩
  have k0 := Below.cell_some hb k0
  have k1 := Below.cell_some hb k1
  have k2 := Below.cell_some hb k2
  have r0 := Below.cell_some hb r0
  have r1 := Below.cell_some hb r1
  have r2 := Below.cell_some hb r2
  have f0 : ∀ o, w1.frozen? ⟨w.heap.size, o, none⟩ = false := fun o => (hb.frozen (p := ⟨w.heap.size, o, none⟩) (by simp only; omega)).trans (f0 o)
  have g0 : ∀ o, w1.frozen? ⟨w.heap.size + 1 + 1, o, none⟩ = false := fun o => (hb.frozen (p := ⟨w.heap.size + 1 + 1, o, none⟩) (by simp only; omega)).trans (g0 o)
  have HB1 := Lib.hid (HBW.out.trans (hb.mono HBW.out.size))
  have hs1 := hb.size
  clear hb
  go_wp2
  refine bodyPost_ret (v := .agg #[.int .i64 4, .int .i64 a, .int .i64 v]) (by simp [results, Tryz.results91, go_sem, r0, r1, r2]) rfl ⟨rfl, ?_⟩
  exact (((HB1.out.setCell (Nat.le_refl _) _).setCell (by simp only; omega) _).setCell (by simp only; omega) _).setCell (by simp only; omega) _

set_option maxRecDepth 100000 in
set_option maxHeartbeats 2000000 in
theorem asRod_5 (L a b : Int) (A : Option Addr) (c : Nat) (l : List (Int × Int)) (w : World) (hg : goodB L l = true) (ha : timeB a = true) (hA : AntsAt w A l) :
    Calls Tryz.prog 91 #[.agg #[.int .i64 5, .int .i64 a, .int .i64 b], .agg #[.int .i64 L, .slice A l.length c]] w fun e w' => e = .returned (.agg #[.int .i64 5, .int .i64 (hasA L l 5 a), .int .i64 (hasB' L l 5 a b)]) ∧ Below w.heap.size w w' := by
  obtain ⟨v, hv⟩ : ∃ v : Int, (onN (fallsOf L l) a : Int) = v := ⟨_, rfl⟩
  have e1 : hasB' L l 5 a b = v := by rw [← hv]; rfl
  have e2 : hasA L l 5 a = a := rfl
  rw [e1, e2]
  clear e1 e2
  obtain ⟨W, hW⟩ : ∃ W, W = ((w.alloc (Obj.cells #[Value.int IntKind.i64 5, Value.int IntKind.i64 a, Value.int IntKind.i64 b] 67)).alloc (Obj.cells #[Value.int IntKind.i64 L, Value.slice A l.length c] 71)).alloc (Obj.cells #[Value.int IntKind.i64 0, Value.int IntKind.i64 0, Value.int IntKind.i64 0] 67) := ⟨_, rfl⟩
  have HBW : Hid (Below w.heap.size w W) := by show Below _ _ _; rw [hW]; exact (((Below.refl _ _).alloc (Nat.le_refl _) _).alloc (by simp) _).alloc (by simp; omega) _
  have HA := Lib.hid (hA.below HBW.out)
  have k0 : W.cell? ⟨w.heap.size, 0, none⟩ = some (.int .i64 5) := by rw [hW]; simp [go_sem]
  have k1 : W.cell? ⟨w.heap.size, 1, none⟩ = some (.int .i64 a) := by rw [hW]; simp [go_sem]
  have k2 : W.cell? ⟨w.heap.size, 2, none⟩ = some (.int .i64 b) := by rw [hW]; simp [go_sem]
  have c0 : W.cell? ⟨w.heap.size + 1, 0, none⟩ = some (.int .i64 L) := by rw [hW]; simp [go_sem]
  have c1 : W.cell? ⟨w.heap.size + 1, 1, none⟩ = some (.slice A l.length c) := by rw [hW]; simp [go_sem]
  have r0 : W.cell? ⟨w.heap.size + 1 + 1, 0, none⟩ = some (.int .i64 0) := by rw [hW]; simp [go_sem]
  have r1 : W.cell? ⟨w.heap.size + 1 + 1, 1, none⟩ = some (.int .i64 0) := by rw [hW]; simp [go_sem]
  have r2 : W.cell? ⟨w.heap.size + 1 + 1, 2, none⟩ = some (.int .i64 0) := by rw [hW]; simp [go_sem]
  have f0 : ∀ o, W.frozen? ⟨w.heap.size, o, none⟩ = false := fun o => by rw [hW]; simp [go_sem]
  have g0 : ∀ o, W.frozen? ⟨w.heap.size + 1 + 1, o, none⟩ = false := fun o => by rw [hW]; simp [go_sem]
  have hsW : w.heap.size + 3 ≤ W.heap.size := by rw [hW]; simp
  clear hA
  have HR : Hid (∀ W, AntsAt W A l → Calls Tryz.prog 110 #[.agg #[.int .i64 L, .slice A l.length c], .int .i64 a] W fun e w' => e = .returned (.tuple #[.int .i64 v, .bool true]) ∧ Below W.heap.size W w') := fun W h => by
    have h1 := implOnRodAfter_any L A c l a W h
    have e : (((gaV L l a).length : Nat) : Int) = v := by rw [on_ga hg ha, hv]
    have e0 : raOk L l a = true := by unfold raOk; rw [hg, ha]; rfl
    rw [e, e0] at h1
    exact h1
  clear ha
  clear hg hv
  go_enter Tryz.func91, Tryz.ntmps91
  go_wp2_with fail
  try rw [← hW]
  refine (HR.out _ HA.out).mono ?_
  rintro e w1 ⟨rfl, hb⟩
  have k0 := Below.cell_some hb k0
  have k1 := Below.cell_some hb k1
  have k2 := Below.cell_some hb k2
  have r0 := Below.cell_some hb r0
  have r1 := Below.cell_some hb r1
  have r2 := Below.cell_some hb r2
  have f0 : ∀ o, w1.frozen? ⟨w.heap.size, o, none⟩ = false := fun o => (hb.frozen (p := ⟨w.heap.size, o, none⟩) (by simp only; omega)).trans (f0 o)
  have g0 : ∀ o, w1.frozen? ⟨w.heap.size + 1 + 1, o, none⟩ = false := fun o => (hb.frozen (p := ⟨w.heap.size + 1 + 1, o, none⟩) (by simp only; omega)).trans (g0 o)
  have HB1 := Lib.hid (HBW.out.trans (hb.mono HBW.out.size))
  have hs1 := hb.size
  clear hb
  go_wp2
  refine bodyPost_ret (v := .agg #[.int .i64 5, .int .i64 a, .int .i64 v]) (by simp [results, Tryz.results91, go_sem, r0, r1, r2]) rfl ⟨rfl, ?_⟩
  exact (((HB1.out.setCell (Nat.le_refl _) _).setCell (by simp only; omega) _).setCell (by simp only; omega) _).setCell (by simp only; omega) _

set_option maxRecDepth 100000 in
set_option maxHeartbeats 2000000 in
theorem asRod_0r (L a b : Int) (A : Option Addr) (c : Nat) (l : List (Int × Int)) (w : World) (ha : 0 ≤ a ∧ a < l.length) (hy : (l.getD a.toNat (0, 0)).2 = 1) (hA : AntsAt w A l) :
    Calls Tryz.prog 91 #[.agg #[.int .i64 0, .int .i64 a, .int .i64 b], .agg #[.int .i64 L, .slice A l.length c]] w fun e w' => e = .returned (.agg #[.int .i64 0, .int .i64 (hasA L l 0 a), .int .i64 (hasB' L l 0 a b)]) ∧ Below w.heap.size w w' := by
  have e1 : hasA L l 0 a = a := rfl
  have e2 : hasB' L l 0 a b = 1 := by unfold hasB'; rw [if_pos rfl, hy]; rfl
  rw [e1, e2]
  clear e1 e2
  obtain ⟨g, off, rfl, hlt, hc⟩ := at_antsD hA ha
  rw [hy] at hc
  obtain ⟨j, hj⟩ : ∃ j : Nat, a = j := ⟨a.toNat, by omega⟩
  subst hj
  rw [Int.toNat_natCast] at hc
  have hj2 : (j : Int) < (l.length : Int) := ha.2
  have hcc : ∀ (o1 o2 o3 : Obj), (((w.alloc o1).alloc o2).alloc o3).cell? ⟨g, off + j * 2 + 1, none⟩ = some (.int .i64 (1)) := fun o1 o2 o3 =>
    alloc_some (alloc_some (alloc_some hc _) _) _
  clear hy ha hA hc
  go_enter Tryz.func91, Tryz.ntmps91
  go_wp2
  refine bodyPost_ret (v := .agg #[.int .i64 0, .int .i64 j, .int .i64 1]) (by simp [results, Tryz.results91, go_sem]) rfl ⟨rfl, ?_⟩
  exact (((Below.refl _ _).alloc (Nat.le_refl _) _).alloc (by simp) _).alloc (by simp; omega) _

set_option maxRecDepth 100000 in
set_option maxHeartbeats 2000000 in
theorem asRod_0l (L a b : Int) (A : Option Addr) (c : Nat) (l : List (Int × Int)) (w : World) (ha : 0 ≤ a ∧ a < l.length) (hy : (l.getD a.toNat (0, 0)).2 = -1) (hA : AntsAt w A l) :
    Calls Tryz.prog 91 #[.agg #[.int .i64 0, .int .i64 a, .int .i64 b], .agg #[.int .i64 L, .slice A l.length c]] w fun e w' => e = .returned (.agg #[.int .i64 0, .int .i64 (hasA L l 0 a), .int .i64 (hasB' L l 0 a b)]) ∧ Below w.heap.size w w' := by
  have e1 : hasA L l 0 a = a := rfl
  have e2 : hasB' L l 0 a b = 0 := by unfold hasB'; rw [if_pos rfl, hy]; rfl
  rw [e1, e2]
  clear e1 e2
  obtain ⟨g, off, rfl, hlt, hc⟩ := at_antsD hA ha
  rw [hy] at hc
  obtain ⟨j, hj⟩ : ∃ j : Nat, a = j := ⟨a.toNat, by omega⟩
  subst hj
  rw [Int.toNat_natCast] at hc
  have hj2 : (j : Int) < (l.length : Int) := ha.2
  have hcc : ∀ (o1 o2 o3 : Obj), (((w.alloc o1).alloc o2).alloc o3).cell? ⟨g, off + j * 2 + 1, none⟩ = some (.int .i64 (-1)) := fun o1 o2 o3 =>
    alloc_some (alloc_some (alloc_some hc _) _) _
  clear hy ha hA hc
  go_enter Tryz.func91, Tryz.ntmps91
  go_wp2
  refine bodyPost_ret (v := .agg #[.int .i64 0, .int .i64 j, .int .i64 0]) (by simp [results, Tryz.results91, go_sem]) rfl ⟨rfl, ?_⟩
  exact (((Below.refl _ _).alloc (Nat.le_refl _) _).alloc (by simp) _).alloc (by simp; omega) _

theorem asRod_any (L k a b : Int) (A : Option Addr) (c : Nat) (l : List (Int × Int)) (w : World) (hk : askB l.length k a = true) (hg : goodB L l = true) (hA : AntsAt w A l) :
    Calls Tryz.prog 91 #[.agg #[.int .i64 k, .int .i64 a, .int .i64 b], .agg #[.int .i64 L, .slice A l.length c]] w fun e w' => e = .returned (.agg #[.int .i64 k, .int .i64 (hasA L l k a), .int .i64 (hasB' L l k a b)]) ∧ Below w.heap.size w w' := by
  unfold askB at hk
  simp only [Bool.and_eq_true, decide_eq_true_eq] at hk
  obtain ⟨⟨⟨h0, h5⟩, h1⟩, h2⟩ := hk
  have h7 : k = 0 ∨ k = 1 ∨ k = 2 ∨ k = 3 ∨ k = 4 ∨ k = 5 := by omega
  rcases h7 with rfl | rfl | rfl | rfl | rfl | rfl
  · have ha : 0 ≤ a ∧ a < l.length := by simpa using h1
    have hy : (l.getD a.toNat (0, 0)).2 = -1 ∨ (l.getD a.toNat (0, 0)).2 = 1 := by
      have hl : a.toNat < l.length := by omega
      obtain ⟨_, _, _, d⟩ := good_ant hg (List.getElem?_eq_getElem hl)
      rw [List.getD_eq_getElem?_getD, List.getElem?_eq_getElem hl]
      exact d
    rcases hy with hy | hy
    · exact asRod_0l L a b A c l w ha hy hA
    · exact asRod_0r L a b A c l w ha hy hA
  · exact asRod_1 L a b A c l w hg hA
  · exact asRod_2 L a b A c l w hg hA
  · exact asRod_3 L a b A c l w hg hA
  · exact asRod_4 L a b A c l w hg (by simpa using h1) hA
  · exact asRod_5 L a b A c l w hg (by simpa using h2) hA
theorem has_fit {L k a b : Int} {l : List (Int × Int)} (hc : clB l.length k a b = true) (hg : goodB L l = true) : (hasA L l k a == a && hasB' L l k a b == b) = fitB L l k a b := by
  have h6 := clB_range hc
  have h7 : k = 0 ∨ k = 1 ∨ k = 2 ∨ k = 3 ∨ k = 4 ∨ k = 5 := by omega
  rcases h7 with rfl | rfl | rfl | rfl | rfl | rfl
  · have h : (0 ≤ a ∧ a ≤ l.length - 1) ∧ (0 ≤ b ∧ b ≤ 1) := by simpa [clB, inB] using hc
    have hl : a.toNat < l.length := by omega
    obtain ⟨_, _, _, d⟩ := good_ant hg (List.getElem?_eq_getElem hl)
    have e : l.getD a.toNat (0, 0) = l[a.toNat] := by rw [List.getD_eq_getElem?_getD, List.getElem?_eq_getElem hl]; rfl
    unfold hasA hasB' fitB
    simp only [e]
    rcases d with d | d <;> rw [d] <;> rw [Bool.eq_iff_iff] <;> simp <;> omega
  all_goals simp [hasA, hasB', fitB]
end Go.Proofs.YtiodlclaempihaaGreat

/- PzE -/
namespace Go.Proofs.YtiodlclaempihaaGreat
open Go.RowKit

theorem eq_clue (a b x y z u : Int) (w : World) : (binOp .eql 67 (.agg #[.int .i64 a, .int .i64 b, .int .i64 x]) (.agg #[.int .i64 y, .int .i64 z, .int .i64 u])).run Tryz.prog w = .ok (.bool (a == y && b == z && x == u)) w := by
  rw [run_eql_struct]
  have h := run_equalIn_struct (P := Tryz.prog) w 9999 67 #[.int .i64 a, .int .i64 b, .int .i64 x] #[.int .i64 y, .int .i64 z, .int .i64 u] (by kernel_rfl) (by kernel_rfl)
  rw [h]
  clear h
  have hi : ∀ (w : World) (m n : Int), (Op.equalIn 9999 3 (.int .i64 m) (.int .i64 n)).run Tryz.prog w = .ok (m == n) w := fun w m n => run_equalIn_int w 9998 3 .i64 .i64 m n Tryz.underlying3
  simp only [Program.fieldsOf, Tryz.underlying67]
  generalize (9999 : Nat) = d at hi ⊢
  cases h1 : (a == y) <;> cases h2 : (b == z) <;> cases h3 : (x == u) <;> simp [go_sem, Op.eqFields, part, hi, h1, h2, h3]
set_option maxRecDepth 100000 in
set_option maxHeartbeats 2000000 in
theorem fits_any (L k a b : Int) (A : Option Addr) (c : Nat) (l : List (Int × Int)) (w : World) (hc : clB l.length k a b = true) (hg : goodB L l = true) (hA : AntsAt w A l) :
    Calls Tryz.prog 70 #[.agg #[.int .i64 k, .int .i64 a, .int .i64 b], .agg #[.int .i64 L, .slice A l.length c]] w fun e w' => e = .returned (.bool (fitB L l k a b)) ∧ Below w.heap.size w w' := by
  have HV := Lib.hid (has_fit hc hg)
  obtain ⟨W, hW⟩ : ∃ W, W = (w.alloc (Obj.cells #[Value.int IntKind.i64 k, Value.int IntKind.i64 a, Value.int IntKind.i64 b] 67)).alloc (Obj.cells #[Value.int IntKind.i64 L, Value.slice A l.length c] 71) := ⟨_, rfl⟩
  have HBW : Hid (Below w.heap.size w W) := by show Below _ _ _; rw [hW]; exact ((Below.refl _ _).alloc (Nat.le_refl _) _).alloc (by simp) _
  have HA := Lib.hid (hA.below HBW.out)
  have k0 : W.cell? ⟨w.heap.size, 0, none⟩ = some (.int .i64 k) := by rw [hW]; simp [go_sem]
  have k1 : W.cell? ⟨w.heap.size, 1, none⟩ = some (.int .i64 a) := by rw [hW]; simp [go_sem]
  have k2 : W.cell? ⟨w.heap.size, 2, none⟩ = some (.int .i64 b) := by rw [hW]; simp [go_sem]
  have c0 : W.cell? ⟨w.heap.size + 1, 0, none⟩ = some (.int .i64 L) := by rw [hW]; simp [go_sem]
  have c1 : W.cell? ⟨w.heap.size + 1, 1, none⟩ = some (.slice A l.length c) := by rw [hW]; simp [go_sem]
  have HR : Hid (∀ x : Ext W, Calls Tryz.prog 91 #[.agg #[.int .i64 k, .int .i64 a, .int .i64 b], .agg #[.int .i64 L, .slice A l.length c]] x.w fun e w' => e = .returned (.agg #[.int .i64 k, .int .i64 (hasA L l k a), .int .i64 (hasB' L l k a b)]) ∧ Below x.w.heap.size x.w w') :=
    fun x => asRod_any L k a b A c l x.w (ask_clue hc) hg (HA.out.below x.h)
  generalize hasA L l k a = ha at HV HR
  generalize hasB' L l k a b = hb at HV HR
  have HEQ : ∀ w, (binOp .eql 67 (.agg #[.int .i64 k, .int .i64 ha, .int .i64 hb]) (.agg #[.int .i64 k, .int .i64 a, .int .i64 b])).run Tryz.prog w = .ok (.bool (ha == a && hb == b)) w := fun w => by
    have h := eq_clue k ha hb k a b w
    simpa using h
  have f1 := Ext.cell k0
  have f2 := Ext.cell k1
  have f3 := Ext.cell k2
  have f4 := Ext.cell c0
  have f5 := Ext.cell c1
  clear k0 k1 k2 c0 c1 hA hc hg
  go_enter Tryz.func70, Tryz.ntmps70
  go_wp2
  rw [← hW]
  refine wp_region_ext (by kernel_rfl) (by kernel_rfl) ?_
  repeat (first | go_big_quiet_skip | (go_big_quiet_want; go_big_quiet_op; first | go_big_quiet_on | (apply Exists.intro; refine ⟨fun _ => ?_, ?_⟩; (go_at_call 91; exact Ext.call (HR.out _)); go_big_quiet_on)))
  refine wpQuiet_nil ?_
  rintro _ ⟨x, rfl⟩
  go_wp2
  go_ret
  exact ⟨ret_bool HV.out, HBW.out.trans (x.h.mono HBW.out.size)⟩
theorem fits_at (L k a b : Int) (A : Option Addr) (c : Nat) (l : List (Int × Int)) (r : Bool) (hr : fitB L l k a b = r) (w : World) (hc : clB l.length k a b = true) (hg : goodB L l = true) (hA : AntsAt w A l) :
    Calls Tryz.prog 70 #[.agg #[.int .i64 k, .int .i64 a, .int .i64 b], .agg #[.int .i64 L, .slice A l.length c]] w fun e w' => e = .returned (.bool r) ∧ Below w.heap.size w w' := by
  subst hr; exact fits_any L k a b A c l w hc hg hA
end Go.Proofs.YtiodlclaempihaaGreat
