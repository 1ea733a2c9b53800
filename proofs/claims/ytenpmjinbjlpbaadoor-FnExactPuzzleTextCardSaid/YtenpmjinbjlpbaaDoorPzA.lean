/- Puzzles, the program: what a clue is (a panic that comes to a recovered door). -/
import Derived.Test.YtenpmjinbjlpbaaDoorPuzC
import Derived.Defers
import Derived.Recover
namespace Go.Proofs.YtenpmjinbjlpbaaDoor
open Go.RowKit

/-- how great the two numbers of a clue may be -/
def mostA (n k : Int) : Int := if k = 0 then n - 1 else if k = 1 then n else if k = 2 then 100 else if k = 3 then 1000 else if k = 4 then n - 1 else 1000
def mostB (n k : Int) : Int := if k = 0 then 1 else if k = 1 then 0 else if k = 2 then 0 else if k = 3 then 0 else if k = 4 then 1000 else n
theorem clB_most (n k a b : Int) (hk : 0 ≤ k ∧ k ≤ 5) : clB n k a b = (decide (0 ≤ a) && decide (a ≤ mostA n k) && decide (0 ≤ b) && decide (b ≤ mostB n k) && !(k == 5 && a.tmod 2 != 0)) := by
  have h6 : k = 0 ∨ k = 1 ∨ k = 2 ∨ k = 3 ∨ k = 4 ∨ k = 5 := by omega
  rcases h6 with rfl | rfl | rfl | rfl | rfl | rfl <;> simp only [clB, mostA, mostB, inB] <;> rw [Bool.eq_iff_iff] <;> simp <;> try omega
  by_cases h1 : 0 ≤ a
  · rw [Int.tmod_eq_emod_of_nonneg h1]
    constructor
    · rintro ⟨⟨h3, h4⟩, h5⟩; exact ⟨⟨⟨h3, h5.1⟩, h5.2⟩, h4⟩
    · rintro ⟨⟨⟨h3, h4⟩, h5⟩, h6⟩; exact ⟨⟨h3, h6⟩, h4, h5⟩
  · constructor
    · rintro ⟨⟨h3, _⟩, _⟩; exact absurd h3.1 h1
    · rintro ⟨⟨⟨h3, _⟩, _⟩, _⟩; exact absurd h3.1 h1
theorem clB_out {n k a b : Int} (hk : ¬ (0 ≤ k ∧ k ≤ 5)) : clB n k a b = false := by
  unfold clB
  rw [if_neg (by omega), if_neg (by omega), if_neg (by omega), if_neg (by omega), if_neg (by omega), if_neg (by omega)]

/-- a clue that is raised -/
def raisedClue (k a b : Int) : Ending := .panicked [{ v := .iface 74 (.agg #[.int .i64 k, .int .i64 a, .int .i64 b]), recovered := false }]

set_option maxRecDepth 100000 in
set_option maxHeartbeats 1000000 in
theorem mostOf_in (n k a b : Int) (w : World) (hk : 0 ≤ k ∧ k ≤ 5) (hn : 0 ≤ n ∧ n ≤ 1048576) :
    Calls Tryd.prog 126 #[.agg #[.int .i64 k, .int .i64 a, .int .i64 b], .int .i64 n] w fun e w' => e = .returned (.tuple #[.int .i64 (mostA n k), .int .i64 (mostB n k)]) ∧ Below w.heap.size w w' := by
  have h6 : k = 0 ∨ k = 1 ∨ k = 2 ∨ k = 3 ∨ k = 4 ∨ k = 5 := by omega
  have h9 : IntKind.i64.wrap (n - 1) = n - 1 := IntWalk.i64_in _ (by omega)
  rcases h6 with rfl | rfl | rfl | rfl | rfl | rfl
  all_goals
    go_enter Tryd.func126, Tryd.ntmps126
    go_wp2
    go_ret2
    exact ⟨rfl, (Below.refl _ _).alloc (Nat.le_refl _) _⟩
set_option maxRecDepth 100000 in
set_option maxHeartbeats 1000000 in
theorem mostOf_out (n k a b : Int) (w : World) (hk : ¬ (0 ≤ k ∧ k ≤ 5)) :
    Calls Tryd.prog 126 #[.agg #[.int .i64 k, .int .i64 a, .int .i64 b], .int .i64 n] w fun e w' => e = raisedClue k a b ∧ Below w.heap.size w w' := by
  have k0 : (k == 0) = false := by simp; omega
  have k1 : (k == 1) = false := by simp; omega
  have k2 : (k == 2) = false := by simp; omega
  have k3 : (k == 3) = false := by simp; omega
  have k4 : (k == 4) = false := by simp; omega
  have k5 : (k == 5) = false := by simp; omega
  go_enter Tryd.func126, Tryd.ntmps126
  go_wp2
  refine ⟨rfl, rfl, ?_⟩
  exact (Below.refl _ _).alloc (Nat.le_refl _) _

theorem clB_range {n k a b : Int} (h : clB n k a b = true) : 0 ≤ k ∧ k ≤ 5 := by
  by_cases hk : 0 ≤ k ∧ k ≤ 5
  · exact hk
  · rw [clB_out hk] at h; cases h

/-- demandClue: a clue goes through -/
theorem demand_out (n k a b : Int) (w : World) (hk : ¬ (0 ≤ k ∧ k ≤ 5)) :
    Calls Tryd.prog 104 #[.agg #[.int .i64 k, .int .i64 a, .int .i64 b], .int .i64 n] w fun e w' => e = raisedClue k a b ∧ Below w.heap.size w w' := by
  have HM := Lib.hid (fun w => mostOf_out n k a b w hk)
  clear hk
  go_enter Tryd.func104, Tryd.ntmps104
  go_wp2_with fail
  refine (HM.out _).mono ?_
  rintro e w1 ⟨rfl, hb⟩
  unfold raisedClue
  refine ⟨rfl, rfl, ?_⟩
  exact ((Below.refl _ _).alloc (Nat.le_refl _) _).trans (hb.mono (by simp))

set_option maxRecDepth 100000 in
set_option maxHeartbeats 4000000 in
theorem demand_in (n k a b p q : Int) (o : Bool) (w : World) (hp : mostA n k = p) (hq : mostB n k = q) (ho : (k == 5 && a.tmod 2 != 0) = o) (hk : 0 ≤ k ∧ k ≤ 5) (hn : 0 ≤ n ∧ n ≤ 1048576) :
    Calls Tryd.prog 104 #[.agg #[.int .i64 k, .int .i64 a, .int .i64 b], .int .i64 n] w fun e w' => e = (if (decide (0 ≤ a) && decide (a ≤ p) && decide (0 ≤ b) && decide (b ≤ q) && !o) = true then .returned (.tuple #[]) else raisedClue k a b) ∧ Below w.heap.size w w' := by
  have HM : Hid (∀ w, Calls Tryd.prog 126 #[.agg #[.int .i64 k, .int .i64 a, .int .i64 b], .int .i64 n] w fun e w' => e = .returned (.tuple #[.int .i64 p, .int .i64 q]) ∧ Below w.heap.size w w') := fun w => by
    subst hp; subst hq; exact mostOf_in n k a b w hk hn
  clear hp hq hn
  by_cases hk5 : k = 5
  · subst hk5
    have ho2 : (a.tmod 2 != 0) = o := by simpa using ho
    have ho3 : 0 ≤ a → (a % 2 != 0) = o := fun h => by rw [← ho2, Int.tmod_eq_emod_of_nonneg h]
    have HO3 := Lib.hid ho3
    clear ho ho3
    cases o with
    | true =>
      by_cases h1 : a < 0
      · have e1 : (decide (0 ≤ a) && decide (a ≤ p) && decide (0 ≤ b) && decide (b ≤ q) && !true) = false := by (first | (simp; done) | (simp; omega))
        rw [e1]
        clear e1
        have qh1 : decide (a < 0) = true := by simp; omega
        go_enter Tryd.func104, Tryd.ntmps104
        go_wp2_with fail
        refine (HM.out _).mono ?_
        rintro e w1 ⟨rfl, hb⟩
        have k0 : w1.cell? ⟨w.heap.size, 0, none⟩ = some (.int .i64 5) := by rw [hb.cell (p := ⟨w.heap.size, 0, none⟩) (by simp)]; simp
        have k1 : w1.cell? ⟨w.heap.size, 1, none⟩ = some (.int .i64 a) := by rw [hb.cell (p := ⟨w.heap.size, 1, none⟩) (by simp)]; simp
        have k2 : w1.cell? ⟨w.heap.size, 2, none⟩ = some (.int .i64 b) := by rw [hb.cell (p := ⟨w.heap.size, 2, none⟩) (by simp)]; simp
        have HB := Lib.hid (((Below.refl _ w).alloc (Nat.le_refl _) (Obj.cells #[Value.int IntKind.i64 5, Value.int IntKind.i64 a, Value.int IntKind.i64 b] 74)).trans (hb.mono (by simp)))
        clear hb
        go_wp2
        exact ⟨rfl, rfl, HB.out⟩
      · skip
        by_cases h2 : p < a
        · have e1 : (decide (0 ≤ a) && decide (a ≤ p) && decide (0 ≤ b) && decide (b ≤ q) && !true) = false := by (first | (simp; done) | (simp; omega))
          rw [e1]
          clear e1
          have qh1 : decide (a < 0) = false := by simp; omega
          have ho4 := HO3.out (by omega)
          have qh2 : decide (p < a) = true := by simp; omega
          go_enter Tryd.func104, Tryd.ntmps104
          go_wp2_with fail
          refine (HM.out _).mono ?_
          rintro e w1 ⟨rfl, hb⟩
          have k0 : w1.cell? ⟨w.heap.size, 0, none⟩ = some (.int .i64 5) := by rw [hb.cell (p := ⟨w.heap.size, 0, none⟩) (by simp)]; simp
          have k1 : w1.cell? ⟨w.heap.size, 1, none⟩ = some (.int .i64 a) := by rw [hb.cell (p := ⟨w.heap.size, 1, none⟩) (by simp)]; simp
          have k2 : w1.cell? ⟨w.heap.size, 2, none⟩ = some (.int .i64 b) := by rw [hb.cell (p := ⟨w.heap.size, 2, none⟩) (by simp)]; simp
          have HB := Lib.hid (((Below.refl _ w).alloc (Nat.le_refl _) (Obj.cells #[Value.int IntKind.i64 5, Value.int IntKind.i64 a, Value.int IntKind.i64 b] 74)).trans (hb.mono (by simp)))
          clear hb
          go_wp2
          exact ⟨rfl, rfl, HB.out⟩
        · skip
          by_cases h3 : b < 0
          · have e1 : (decide (0 ≤ a) && decide (a ≤ p) && decide (0 ≤ b) && decide (b ≤ q) && !true) = false := by (first | (simp; done) | (simp; omega))
            rw [e1]
            clear e1
            have qh1 : decide (a < 0) = false := by simp; omega
            have ho4 := HO3.out (by omega)
            have qh2 : decide (p < a) = false := by simp; omega
            have qh3 : decide (b < 0) = true := by simp; omega
            go_enter Tryd.func104, Tryd.ntmps104
            go_wp2_with fail
            refine (HM.out _).mono ?_
            rintro e w1 ⟨rfl, hb⟩
            have k0 : w1.cell? ⟨w.heap.size, 0, none⟩ = some (.int .i64 5) := by rw [hb.cell (p := ⟨w.heap.size, 0, none⟩) (by simp)]; simp
            have k1 : w1.cell? ⟨w.heap.size, 1, none⟩ = some (.int .i64 a) := by rw [hb.cell (p := ⟨w.heap.size, 1, none⟩) (by simp)]; simp
            have k2 : w1.cell? ⟨w.heap.size, 2, none⟩ = some (.int .i64 b) := by rw [hb.cell (p := ⟨w.heap.size, 2, none⟩) (by simp)]; simp
            have HB := Lib.hid (((Below.refl _ w).alloc (Nat.le_refl _) (Obj.cells #[Value.int IntKind.i64 5, Value.int IntKind.i64 a, Value.int IntKind.i64 b] 74)).trans (hb.mono (by simp)))
            clear hb
            go_wp2
            exact ⟨rfl, rfl, HB.out⟩
          · skip
            by_cases h4 : q < b
            · have e1 : (decide (0 ≤ a) && decide (a ≤ p) && decide (0 ≤ b) && decide (b ≤ q) && !true) = false := by (first | (simp; done) | (simp; omega))
              rw [e1]
              clear e1
              have qh1 : decide (a < 0) = false := by simp; omega
              have ho4 := HO3.out (by omega)
              have qh2 : decide (p < a) = false := by simp; omega
              have qh3 : decide (b < 0) = false := by simp; omega
              have qh4 : decide (q < b) = true := by simp; omega
              go_enter Tryd.func104, Tryd.ntmps104
              go_wp2_with fail
              refine (HM.out _).mono ?_
              rintro e w1 ⟨rfl, hb⟩
              have k0 : w1.cell? ⟨w.heap.size, 0, none⟩ = some (.int .i64 5) := by rw [hb.cell (p := ⟨w.heap.size, 0, none⟩) (by simp)]; simp
              have k1 : w1.cell? ⟨w.heap.size, 1, none⟩ = some (.int .i64 a) := by rw [hb.cell (p := ⟨w.heap.size, 1, none⟩) (by simp)]; simp
              have k2 : w1.cell? ⟨w.heap.size, 2, none⟩ = some (.int .i64 b) := by rw [hb.cell (p := ⟨w.heap.size, 2, none⟩) (by simp)]; simp
              have HB := Lib.hid (((Below.refl _ w).alloc (Nat.le_refl _) (Obj.cells #[Value.int IntKind.i64 5, Value.int IntKind.i64 a, Value.int IntKind.i64 b] 74)).trans (hb.mono (by simp)))
              clear hb
              go_wp2
              exact ⟨rfl, rfl, HB.out⟩
            · skip
              have e1 : (decide (0 ≤ a) && decide (a ≤ p) && decide (0 ≤ b) && decide (b ≤ q) && !true) = false := by (first | (simp; done) | (simp; omega))
              rw [e1]
              clear e1
              have qh1 : decide (a < 0) = false := by simp; omega
              have ho4 := HO3.out (by omega)
              have qh2 : decide (p < a) = false := by simp; omega
              have qh3 : decide (b < 0) = false := by simp; omega
              have qh4 : decide (q < b) = false := by simp; omega
              go_enter Tryd.func104, Tryd.ntmps104
              go_wp2_with fail
              refine (HM.out _).mono ?_
              rintro e w1 ⟨rfl, hb⟩
              have k0 : w1.cell? ⟨w.heap.size, 0, none⟩ = some (.int .i64 5) := by rw [hb.cell (p := ⟨w.heap.size, 0, none⟩) (by simp)]; simp
              have k1 : w1.cell? ⟨w.heap.size, 1, none⟩ = some (.int .i64 a) := by rw [hb.cell (p := ⟨w.heap.size, 1, none⟩) (by simp)]; simp
              have k2 : w1.cell? ⟨w.heap.size, 2, none⟩ = some (.int .i64 b) := by rw [hb.cell (p := ⟨w.heap.size, 2, none⟩) (by simp)]; simp
              have HB := Lib.hid (((Below.refl _ w).alloc (Nat.le_refl _) (Obj.cells #[Value.int IntKind.i64 5, Value.int IntKind.i64 a, Value.int IntKind.i64 b] 74)).trans (hb.mono (by simp)))
              clear hb
              go_wp2
              exact ⟨rfl, rfl, HB.out⟩
    | false =>
      by_cases h1 : a < 0
      · have e1 : (decide (0 ≤ a) && decide (a ≤ p) && decide (0 ≤ b) && decide (b ≤ q) && !false) = false := by (first | (simp; done) | (simp; omega))
        rw [e1]
        clear e1
        have qh1 : decide (a < 0) = true := by simp; omega
        go_enter Tryd.func104, Tryd.ntmps104
        go_wp2_with fail
        refine (HM.out _).mono ?_
        rintro e w1 ⟨rfl, hb⟩
        have k0 : w1.cell? ⟨w.heap.size, 0, none⟩ = some (.int .i64 5) := by rw [hb.cell (p := ⟨w.heap.size, 0, none⟩) (by simp)]; simp
        have k1 : w1.cell? ⟨w.heap.size, 1, none⟩ = some (.int .i64 a) := by rw [hb.cell (p := ⟨w.heap.size, 1, none⟩) (by simp)]; simp
        have k2 : w1.cell? ⟨w.heap.size, 2, none⟩ = some (.int .i64 b) := by rw [hb.cell (p := ⟨w.heap.size, 2, none⟩) (by simp)]; simp
        have HB := Lib.hid (((Below.refl _ w).alloc (Nat.le_refl _) (Obj.cells #[Value.int IntKind.i64 5, Value.int IntKind.i64 a, Value.int IntKind.i64 b] 74)).trans (hb.mono (by simp)))
        clear hb
        go_wp2
        exact ⟨rfl, rfl, HB.out⟩
      · skip
        by_cases h2 : p < a
        · have e1 : (decide (0 ≤ a) && decide (a ≤ p) && decide (0 ≤ b) && decide (b ≤ q) && !false) = false := by (first | (simp; done) | (simp; omega))
          rw [e1]
          clear e1
          have qh1 : decide (a < 0) = false := by simp; omega
          have ho4 := HO3.out (by omega)
          have qh2 : decide (p < a) = true := by simp; omega
          go_enter Tryd.func104, Tryd.ntmps104
          go_wp2_with fail
          refine (HM.out _).mono ?_
          rintro e w1 ⟨rfl, hb⟩
          have k0 : w1.cell? ⟨w.heap.size, 0, none⟩ = some (.int .i64 5) := by rw [hb.cell (p := ⟨w.heap.size, 0, none⟩) (by simp)]; simp
          have k1 : w1.cell? ⟨w.heap.size, 1, none⟩ = some (.int .i64 a) := by rw [hb.cell (p := ⟨w.heap.size, 1, none⟩) (by simp)]; simp
          have k2 : w1.cell? ⟨w.heap.size, 2, none⟩ = some (.int .i64 b) := by rw [hb.cell (p := ⟨w.heap.size, 2, none⟩) (by simp)]; simp
          have HB := Lib.hid (((Below.refl _ w).alloc (Nat.le_refl _) (Obj.cells #[Value.int IntKind.i64 5, Value.int IntKind.i64 a, Value.int IntKind.i64 b] 74)).trans (hb.mono (by simp)))
          clear hb
          go_wp2
          exact ⟨rfl, rfl, HB.out⟩
        · skip
          by_cases h3 : b < 0
          · have e1 : (decide (0 ≤ a) && decide (a ≤ p) && decide (0 ≤ b) && decide (b ≤ q) && !false) = false := by (first | (simp; done) | (simp; omega))
            rw [e1]
            clear e1
            have qh1 : decide (a < 0) = false := by simp; omega
            have ho4 := HO3.out (by omega)
            have qh2 : decide (p < a) = false := by simp; omega
            have qh3 : decide (b < 0) = true := by simp; omega
            go_enter Tryd.func104, Tryd.ntmps104
            go_wp2_with fail
            refine (HM.out _).mono ?_
            rintro e w1 ⟨rfl, hb⟩
            have k0 : w1.cell? ⟨w.heap.size, 0, none⟩ = some (.int .i64 5) := by rw [hb.cell (p := ⟨w.heap.size, 0, none⟩) (by simp)]; simp
            have k1 : w1.cell? ⟨w.heap.size, 1, none⟩ = some (.int .i64 a) := by rw [hb.cell (p := ⟨w.heap.size, 1, none⟩) (by simp)]; simp
            have k2 : w1.cell? ⟨w.heap.size, 2, none⟩ = some (.int .i64 b) := by rw [hb.cell (p := ⟨w.heap.size, 2, none⟩) (by simp)]; simp
            have HB := Lib.hid (((Below.refl _ w).alloc (Nat.le_refl _) (Obj.cells #[Value.int IntKind.i64 5, Value.int IntKind.i64 a, Value.int IntKind.i64 b] 74)).trans (hb.mono (by simp)))
            clear hb
            go_wp2
            exact ⟨rfl, rfl, HB.out⟩
          · skip
            by_cases h4 : q < b
            · have e1 : (decide (0 ≤ a) && decide (a ≤ p) && decide (0 ≤ b) && decide (b ≤ q) && !false) = false := by (first | (simp; done) | (simp; omega))
              rw [e1]
              clear e1
              have qh1 : decide (a < 0) = false := by simp; omega
              have ho4 := HO3.out (by omega)
              have qh2 : decide (p < a) = false := by simp; omega
              have qh3 : decide (b < 0) = false := by simp; omega
              have qh4 : decide (q < b) = true := by simp; omega
              go_enter Tryd.func104, Tryd.ntmps104
              go_wp2_with fail
              refine (HM.out _).mono ?_
              rintro e w1 ⟨rfl, hb⟩
              have k0 : w1.cell? ⟨w.heap.size, 0, none⟩ = some (.int .i64 5) := by rw [hb.cell (p := ⟨w.heap.size, 0, none⟩) (by simp)]; simp
              have k1 : w1.cell? ⟨w.heap.size, 1, none⟩ = some (.int .i64 a) := by rw [hb.cell (p := ⟨w.heap.size, 1, none⟩) (by simp)]; simp
              have k2 : w1.cell? ⟨w.heap.size, 2, none⟩ = some (.int .i64 b) := by rw [hb.cell (p := ⟨w.heap.size, 2, none⟩) (by simp)]; simp
              have HB := Lib.hid (((Below.refl _ w).alloc (Nat.le_refl _) (Obj.cells #[Value.int IntKind.i64 5, Value.int IntKind.i64 a, Value.int IntKind.i64 b] 74)).trans (hb.mono (by simp)))
              clear hb
              go_wp2
              exact ⟨rfl, rfl, HB.out⟩
            · skip
              have e1 : (decide (0 ≤ a) && decide (a ≤ p) && decide (0 ≤ b) && decide (b ≤ q) && !false) = true := by simp; omega
              rw [e1]
              clear e1
              have qh1 : decide (a < 0) = false := by simp; omega
              have ho4 := HO3.out (by omega)
              have qh2 : decide (p < a) = false := by simp; omega
              have qh3 : decide (b < 0) = false := by simp; omega
              have qh4 : decide (q < b) = false := by simp; omega
              go_enter Tryd.func104, Tryd.ntmps104
              go_wp2_with fail
              refine (HM.out _).mono ?_
              rintro e w1 ⟨rfl, hb⟩
              have k0 : w1.cell? ⟨w.heap.size, 0, none⟩ = some (.int .i64 5) := by rw [hb.cell (p := ⟨w.heap.size, 0, none⟩) (by simp)]; simp
              have k1 : w1.cell? ⟨w.heap.size, 1, none⟩ = some (.int .i64 a) := by rw [hb.cell (p := ⟨w.heap.size, 1, none⟩) (by simp)]; simp
              have k2 : w1.cell? ⟨w.heap.size, 2, none⟩ = some (.int .i64 b) := by rw [hb.cell (p := ⟨w.heap.size, 2, none⟩) (by simp)]; simp
              have HB := Lib.hid (((Below.refl _ w).alloc (Nat.le_refl _) (Obj.cells #[Value.int IntKind.i64 5, Value.int IntKind.i64 a, Value.int IntKind.i64 b] 74)).trans (hb.mono (by simp)))
              clear hb
              go_wp2
              go_end0
              exact ⟨rfl, HB.out⟩
  · have hk6 : (k == 5) = false := by simpa using hk5
    obtain rfl : o = false := by rw [← ho, hk6]; rfl
    clear ho
    by_cases h1 : a < 0
    · have e1 : (decide (0 ≤ a) && decide (a ≤ p) && decide (0 ≤ b) && decide (b ≤ q) && !false) = false := by (first | (simp; done) | (simp; omega))
      rw [e1]
      clear e1
      have qh1 : decide (a < 0) = true := by simp; omega
      go_enter Tryd.func104, Tryd.ntmps104
      go_wp2_with fail
      refine (HM.out _).mono ?_
      rintro e w1 ⟨rfl, hb⟩
      have k0 : w1.cell? ⟨w.heap.size, 0, none⟩ = some (.int .i64 k) := by rw [hb.cell (p := ⟨w.heap.size, 0, none⟩) (by simp)]; simp
      have k1 : w1.cell? ⟨w.heap.size, 1, none⟩ = some (.int .i64 a) := by rw [hb.cell (p := ⟨w.heap.size, 1, none⟩) (by simp)]; simp
      have k2 : w1.cell? ⟨w.heap.size, 2, none⟩ = some (.int .i64 b) := by rw [hb.cell (p := ⟨w.heap.size, 2, none⟩) (by simp)]; simp
      have HB := Lib.hid (((Below.refl _ w).alloc (Nat.le_refl _) (Obj.cells #[Value.int IntKind.i64 k, Value.int IntKind.i64 a, Value.int IntKind.i64 b] 74)).trans (hb.mono (by simp)))
      clear hb
      go_wp2
      exact ⟨rfl, rfl, HB.out⟩
    · skip
      by_cases h2 : p < a
      · have e1 : (decide (0 ≤ a) && decide (a ≤ p) && decide (0 ≤ b) && decide (b ≤ q) && !false) = false := by (first | (simp; done) | (simp; omega))
        rw [e1]
        clear e1
        have qh1 : decide (a < 0) = false := by simp; omega
        have qh2 : decide (p < a) = true := by simp; omega
        go_enter Tryd.func104, Tryd.ntmps104
        go_wp2_with fail
        refine (HM.out _).mono ?_
        rintro e w1 ⟨rfl, hb⟩
        have k0 : w1.cell? ⟨w.heap.size, 0, none⟩ = some (.int .i64 k) := by rw [hb.cell (p := ⟨w.heap.size, 0, none⟩) (by simp)]; simp
        have k1 : w1.cell? ⟨w.heap.size, 1, none⟩ = some (.int .i64 a) := by rw [hb.cell (p := ⟨w.heap.size, 1, none⟩) (by simp)]; simp
        have k2 : w1.cell? ⟨w.heap.size, 2, none⟩ = some (.int .i64 b) := by rw [hb.cell (p := ⟨w.heap.size, 2, none⟩) (by simp)]; simp
        have HB := Lib.hid (((Below.refl _ w).alloc (Nat.le_refl _) (Obj.cells #[Value.int IntKind.i64 k, Value.int IntKind.i64 a, Value.int IntKind.i64 b] 74)).trans (hb.mono (by simp)))
        clear hb
        go_wp2
        exact ⟨rfl, rfl, HB.out⟩
      · skip
        by_cases h3 : b < 0
        · have e1 : (decide (0 ≤ a) && decide (a ≤ p) && decide (0 ≤ b) && decide (b ≤ q) && !false) = false := by (first | (simp; done) | (simp; omega))
          rw [e1]
          clear e1
          have qh1 : decide (a < 0) = false := by simp; omega
          have qh2 : decide (p < a) = false := by simp; omega
          have qh3 : decide (b < 0) = true := by simp; omega
          go_enter Tryd.func104, Tryd.ntmps104
          go_wp2_with fail
          refine (HM.out _).mono ?_
          rintro e w1 ⟨rfl, hb⟩
          have k0 : w1.cell? ⟨w.heap.size, 0, none⟩ = some (.int .i64 k) := by rw [hb.cell (p := ⟨w.heap.size, 0, none⟩) (by simp)]; simp
          have k1 : w1.cell? ⟨w.heap.size, 1, none⟩ = some (.int .i64 a) := by rw [hb.cell (p := ⟨w.heap.size, 1, none⟩) (by simp)]; simp
          have k2 : w1.cell? ⟨w.heap.size, 2, none⟩ = some (.int .i64 b) := by rw [hb.cell (p := ⟨w.heap.size, 2, none⟩) (by simp)]; simp
          have HB := Lib.hid (((Below.refl _ w).alloc (Nat.le_refl _) (Obj.cells #[Value.int IntKind.i64 k, Value.int IntKind.i64 a, Value.int IntKind.i64 b] 74)).trans (hb.mono (by simp)))
          clear hb
          go_wp2
          exact ⟨rfl, rfl, HB.out⟩
        · skip
          by_cases h4 : q < b
          · have e1 : (decide (0 ≤ a) && decide (a ≤ p) && decide (0 ≤ b) && decide (b ≤ q) && !false) = false := by (first | (simp; done) | (simp; omega))
            rw [e1]
            clear e1
            have qh1 : decide (a < 0) = false := by simp; omega
            have qh2 : decide (p < a) = false := by simp; omega
            have qh3 : decide (b < 0) = false := by simp; omega
            have qh4 : decide (q < b) = true := by simp; omega
            go_enter Tryd.func104, Tryd.ntmps104
            go_wp2_with fail
            refine (HM.out _).mono ?_
            rintro e w1 ⟨rfl, hb⟩
            have k0 : w1.cell? ⟨w.heap.size, 0, none⟩ = some (.int .i64 k) := by rw [hb.cell (p := ⟨w.heap.size, 0, none⟩) (by simp)]; simp
            have k1 : w1.cell? ⟨w.heap.size, 1, none⟩ = some (.int .i64 a) := by rw [hb.cell (p := ⟨w.heap.size, 1, none⟩) (by simp)]; simp
            have k2 : w1.cell? ⟨w.heap.size, 2, none⟩ = some (.int .i64 b) := by rw [hb.cell (p := ⟨w.heap.size, 2, none⟩) (by simp)]; simp
            have HB := Lib.hid (((Below.refl _ w).alloc (Nat.le_refl _) (Obj.cells #[Value.int IntKind.i64 k, Value.int IntKind.i64 a, Value.int IntKind.i64 b] 74)).trans (hb.mono (by simp)))
            clear hb
            go_wp2
            exact ⟨rfl, rfl, HB.out⟩
          · skip
            have e1 : (decide (0 ≤ a) && decide (a ≤ p) && decide (0 ≤ b) && decide (b ≤ q) && !false) = true := by simp; omega
            rw [e1]
            clear e1
            have qh1 : decide (a < 0) = false := by simp; omega
            have qh2 : decide (p < a) = false := by simp; omega
            have qh3 : decide (b < 0) = false := by simp; omega
            have qh4 : decide (q < b) = false := by simp; omega
            go_enter Tryd.func104, Tryd.ntmps104
            go_wp2_with fail
            refine (HM.out _).mono ?_
            rintro e w1 ⟨rfl, hb⟩
            have k0 : w1.cell? ⟨w.heap.size, 0, none⟩ = some (.int .i64 k) := by rw [hb.cell (p := ⟨w.heap.size, 0, none⟩) (by simp)]; simp
            have k1 : w1.cell? ⟨w.heap.size, 1, none⟩ = some (.int .i64 a) := by rw [hb.cell (p := ⟨w.heap.size, 1, none⟩) (by simp)]; simp
            have k2 : w1.cell? ⟨w.heap.size, 2, none⟩ = some (.int .i64 b) := by rw [hb.cell (p := ⟨w.heap.size, 2, none⟩) (by simp)]; simp
            have HB := Lib.hid (((Below.refl _ w).alloc (Nat.le_refl _) (Obj.cells #[Value.int IntKind.i64 k, Value.int IntKind.i64 a, Value.int IntKind.i64 b] 74)).trans (hb.mono (by simp)))
            clear hb
            go_wp2
            go_end0
            exact ⟨rfl, HB.out⟩

theorem demand_any (n k a b : Int) (r : Bool) (hr : clB n k a b = r) (w : World) (hn : 0 ≤ n ∧ n ≤ 1048576) :
    Calls Tryd.prog 104 #[.agg #[.int .i64 k, .int .i64 a, .int .i64 b], .int .i64 n] w fun e w' => e = (if r = true then .returned (.tuple #[]) else raisedClue k a b) ∧ Below w.heap.size w w' := by
  by_cases hk : 0 ≤ k ∧ k ≤ 5
  · have h := demand_in n k a b _ _ _ w rfl rfl rfl hk hn
    rw [← clB_most n k a b hk, hr] at h
    exact h
  · rw [clB_out hk] at hr
    subst hr
    exact demand_out n k a b w hk
theorem demand_yes (n k a b : Int) (hr : clB n k a b = true) (w : World) (hn : 0 ≤ n ∧ n ≤ 1048576) :
    Calls Tryd.prog 104 #[.agg #[.int .i64 k, .int .i64 a, .int .i64 b], .int .i64 n] w fun e w' => e = .returned (.tuple #[]) ∧ Below w.heap.size w w' :=
  (demand_any n k a b true hr w hn).mono fun e w' ⟨he, hb⟩ => ⟨by rw [he, if_pos rfl], hb⟩
theorem demand_no (n k a b : Int) (hr : clB n k a b = false) (w : World) (hn : 0 ≤ n ∧ n ≤ 1048576) :
    Calls Tryd.prog 104 #[.agg #[.int .i64 k, .int .i64 a, .int .i64 b], .int .i64 n] w fun e w' => e = .panicked [{ v := .iface 74 (.agg #[.int .i64 k, .int .i64 a, .int .i64 b]), recovered := false }] ∧ Below w.heap.size w w' :=
  (demand_any n k a b false hr w hn).mono fun e w' ⟨he, hb⟩ => ⟨by rw [he, if_neg (by decide)]; rfl, hb⟩
end Go.Proofs.YtenpmjinbjlpbaaDoor
