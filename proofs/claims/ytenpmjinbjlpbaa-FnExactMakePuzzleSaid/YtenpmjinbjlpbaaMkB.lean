/- MakePuzzle, the model. -/
import Derived.Test.YtenpmjinbjlpbaaMkA
import Derived.Test.YtenpmjinbjlpbaaPuzR
import Derived.Deep.RegionHeld3
namespace Go.Proofs.Ytenpmjinbjlpbaa
open Go.RowKit

theorem pzNext_any (z x : Int) (hx : nxZ z = x) (hz : 0 ≤ z ∧ z ≤ 10006) (w : World) :
    Calls Try.prog 38 #[.int .i64 z] w fun e w' => e = .returned (.int .i64 x) ∧ w = w' := by
  subst hx
  have h1 : IntKind.i64.wrap (181 * z) = 181 * z := IntWalk.i64_in _ (by omega)
  have h2 : IntKind.i64.wrap (181 * z + 3323) = 181 * z + 3323 := IntWalk.i64_in _ (by omega)
  have h3 : Int.tmod (181 * z + 3323) 10007 = nxZ z := by rw [Int.tmod_eq_emod_of_nonneg (by omega)]; unfold nxZ; rw [Int.mul_comm]
  generalize nxZ z = x at *
  go_enter Try.func38, Try.ntmps38
  go_wp2
  go_ret
  exact ⟨ret_int rfl, rfl⟩
theorem pzHidden_at (L : Int) (A : Option Addr) (c : Nat) (l : List (Int × Int)) (r : Bool) (hr : hidB L l = r) (w : World) (hA : AntsAt w A l) :
    Calls Try.prog 36 #[.agg #[.int .i64 L, .slice A l.length c]] w fun e w' => e = .returned (.bool r) ∧ Below w.heap.size w w' := by
  subst hr; exact pzHidden_any L A c l w hA

set_option maxRecDepth 100000 in
set_option maxHeartbeats 4000000 in
theorem specMake_no (L m z : Int) (A : Option Addr) (c : Nat) (l : List (Int × Int)) (w : World) (hok : mkOk L l m z = false) (hA : AntsAt w A l) :
    Calls Try.prog 14 #[.agg #[.int .i64 L, .slice A l.length c], .int .i64 m, .int .i64 z] w fun e w' => e = .returned (.tuple #[.agg #[.int .i64 0, .slice none 0 0, .slice none 0 0], .bool false]) ∧ Below w.heap.size w w' := by
  have HA := Lib.hid ((hA.alloc (Obj.cells #[Value.int IntKind.i64 L, Value.slice A l.length c] 47)).alloc (Obj.cells #[Value.int IntKind.i64 0, Value.slice none 0 0, Value.slice none 0 0] 31))
  clear hA
  obtain ⟨r1, h1⟩ : ∃ r, hidB L l = r := ⟨_, rfl⟩
  obtain ⟨r2, h2⟩ : ∃ r, (decide (0 ≤ m) && decide (m ≤ 6)) = r := ⟨_, rfl⟩
  obtain ⟨r3, h3⟩ : ∃ r, (decide (0 ≤ z) && decide (z ≤ 9999)) = r := ⟨_, rfl⟩
  have hor : r1 = false ∨ r1 = true ∧ r2 = false ∨ r1 = true ∧ r2 = true ∧ r3 = false := by
    unfold mkOk at hok
    rw [h1, h2, h3] at hok
    cases r1 <;> cases r2 <;> cases r3 <;> simp_all
  have HG := Lib.hid (fun w h => pzHidden_at L A c l r1 h1 w h)
  have HI := Lib.hid (in9_at m 0 6 r2 h2)
  have HJ := Lib.hid (in9_at z 0 9999 r3 h3)
  clear h1 h2 h3 hok
  rcases hor with rfl | ⟨rfl, rfl⟩ | ⟨rfl, rfl, rfl⟩
  all_goals
    go_enter Try.func14, Try.ntmps14
    go_wp2_with fail
    refine (HG.out _ HA.out).mono ?_
    rintro e w1 ⟨rfl, hb⟩
    have hs : w.heap.size + 2 ≤ w1.heap.size := by have := hb.size; simp at this; omega
    have r0 : w1.cell? ⟨w.heap.size + 1, 0, none⟩ = some (.int .i64 0) := by rw [hb.cell (p := ⟨w.heap.size + 1, 0, none⟩) (by simp)]; simp [go_sem]
    have r1 : w1.cell? ⟨w.heap.size + 1, 1, none⟩ = some (.slice none 0 0) := by rw [hb.cell (p := ⟨w.heap.size + 1, 1, none⟩) (by simp)]; simp [go_sem]
    have r2 : w1.cell? ⟨w.heap.size + 1, 2, none⟩ = some (.slice none 0 0) := by rw [hb.cell (p := ⟨w.heap.size + 1, 2, none⟩) (by simp)]; simp [go_sem]
    have ff : ∀ o, w1.frozen? ⟨w.heap.size + 1, o, none⟩ = false := fun o => by rw [hb.frozen (p := ⟨w.heap.size + 1, o, none⟩) (by simp)]; simp [go_sem]
    have f0 := ff 0
    have f1 := ff 1
    have f2 := ff 2
    have HB := Lib.hid (((Below.refl _ w).alloc (Nat.le_refl _) (Obj.cells #[Value.int IntKind.i64 L, Value.slice A l.length c] 47)).alloc (by simp) (Obj.cells #[Value.int IntKind.i64 0, Value.slice none 0 0, Value.slice none 0 0] 31) |>.trans (hb.mono (by simp; omega)))
    clear hb
    go_wp2_with (go_at_call 37; first | (with_reducible refine (HI.out _).mono ?_; rintro e w' ⟨rfl, rfl⟩) | (with_reducible refine (HJ.out _).mono ?_; rintro e w' ⟨rfl, rfl⟩))
    refine bodyPost_ret (v := .tuple #[.agg #[.int .i64 0, .slice none 0 0, .slice none 0 0], .bool false]) (by simp [results, Try.results14, go_sem, r0, r1, r2]) rfl ⟨rfl, ?_⟩
    exact ((HB.out.setCell (by simp) _).setCell (by simp) _).setCell (by simp) _
end Go.Proofs.Ytenpmjinbjlpbaa
