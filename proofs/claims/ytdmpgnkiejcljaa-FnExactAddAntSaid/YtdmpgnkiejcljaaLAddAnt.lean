/- The law FnExactAddAnt returns true at every input, and leaves its arguments as they were. No condition. -/
import Derived.Test.YtdmpgnkiejcljaaRows
import Derived.Test.YtdmpgnkiejcljaaOpen
import Derived.Test.YtdmpgnkiejcljaaFactA
import Derived.Test.YtdmpgnkiejcljaaFactB
import Derived.Test.YtdmpgnkiejcljaaFactC
import Derived.Test.YtdmpgnkiejcljaaAddAnt
import Derived.Test.YtdmpgnkiejcljaaHelp
import Derived.Test.YtdmpgnkiejcljaaMark
import Derived.Deep.RegionHeld3
import Derived.Deep.CutRange
import Derived.Test.YtdmpgnkiejcljaaOpenA
namespace Go.Proofs.Ytdmpgnkiejcljaa.lAddAnt
open Go.RowKit
open Go.ChangeShapes Go.WideShapes Go.ChangeAt
set_option linter.unusedVariables false

theorem frozen_at {W w1 : World} {b o : Nat} {v : Bool} (hb : Below W.heap.size W w1) (hc : W.frozen? ⟨b, o, none⟩ = v) (hlt : b < W.heap.size) : w1.frozen? ⟨b, o, none⟩ = v :=
  (hb.frozen (p := ⟨b, o, none⟩) hlt).trans hc
theorem aaA_17 (L : Int) (l : List (Int × Int)) (a y : Int) : (aaA L l a y).length ≤ 17 := by
  unfold aaA
  split
  · rename_i h
    simp only [aaOk, Bool.and_eq_true] at h
    have := good_len h.1
    rw [srtA_len, List.length_append]
    simp only [List.length_cons, List.length_nil]
    omega
  · exact Nat.zero_le _

set_option maxHeartbeats 1000000 in
theorem big (L : Int) (A : Option Addr) (c : Nat) (l : List (Int × Int)) (a y : Int) (w : World) (hn : (l.length : Int) ≤ 9223372036854775807) (h : (1048576 : Int) < l.length) :
    Calls Try.prog 10 #[.agg #[.int .i64 L, .slice A l.length c], .agg #[.int .i64 a, .int .i64 y]] w fun e w' => e = .returned (.bool true) ∧ Below w.heap.size w w' := by
  have H : Hid (∀ w, Calls Try.prog 15 #[.agg #[.int .i64 L, .slice A l.length c], .int .i64 1048576] w fun e w' => e = .returned (.int .i64 (-1)) ∧ Below w.heap.size w w') :=
    fun w => szRod_big L A l.length c 1048576 w (by omega) (by omega) hn h
  clear h hn
  go_enter Try.func10, Try.ntmps10
  go_wp2_with fail
  refine (H.out _).mono ?_
  rintro e w1 ⟨rfl, hb⟩
  go_wp2
  go_ret
  exact ⟨ret_bool rfl, (((Below.refl _ _).alloc (Nat.le_refl _) _).alloc (by simp) _).trans (hb.mono (by simp; omega))⟩

set_option maxRecDepth 100000 in
set_option maxHeartbeats 8000000 in
theorem fits (L : Int) (A : Option Addr) (c : Nat) (l : List (Int × Int)) (a y : Int) (w : World) (h : (l.length : Int) ≤ 1048576) (hA : AntsAt w A l) :
    Calls Try.prog 10 #[.agg #[.int .i64 L, .slice A l.length c], .agg #[.int .i64 a, .int .i64 y]] w fun e w' => e = .returned (.bool true) ∧ Below w.heap.size w w' := by
  have H : Hid (∀ w, Calls Try.prog 15 #[.agg #[.int .i64 L, .slice A l.length c], .int .i64 1048576] w fun e w' => e = .returned (.int .i64 (1048576 - l.length)) ∧ Below w.heap.size w w') :=
    fun w => szRod_fits L A l.length c 1048576 w (by omega) (by omega) (by omega) (by omega)
  have hz : ¬ (1048576 - (l.length : Int)) < 0 := by omega
  have hvb : ((((aaA L l a y).length : Nat) : Int)) ≤ 1048576 := by have := aaA_17 L l a y; omega
  have HVB := Lib.hid hvb
  have HA := Lib.hid hA
  clear hA
  go_enter Try.func10, Try.ntmps10
  go_wp2_with fail
  refine (H.out _).mono ?_
  rintro e w1 ⟨rfl, hb1⟩
  have HB1 := Lib.hid ((((Below.refl _ w).alloc (Nat.le_refl _) _).alloc (by simp) _).trans (hb1.mono (by simp; omega)))
  have s1 : w.heap.size + 1 < w1.heap.size := by have := hb1.size; simp at this; omega
  have c0 : w1.cell? ⟨w.heap.size, 0, none⟩ = some (.int .i64 L) := by rw [hb1.cell (p := ⟨w.heap.size, 0, none⟩) (by simp; omega)]; simp [go_sem]
  have c1 : w1.cell? ⟨w.heap.size, 1, none⟩ = some (.slice A l.length c) := by rw [hb1.cell (p := ⟨w.heap.size, 1, none⟩) (by simp; omega)]; simp [go_sem]
  have b0 : w1.cell? ⟨w.heap.size + 1, 0, none⟩ = some (.int .i64 a) := by rw [hb1.cell (p := ⟨w.heap.size + 1, 0, none⟩) (by simp)]; simp [go_sem]
  have b1 : w1.cell? ⟨w.heap.size + 1, 1, none⟩ = some (.int .i64 y) := by rw [hb1.cell (p := ⟨w.heap.size + 1, 1, none⟩) (by simp)]; simp [go_sem]
  clear hb1
  have HAQ := Lib.hid (HA.out.below HB1.out)
  go_upto_region 5 with fail
  go_cut [6, 7] from 21 to 28 (fun p q wx => ∃ (g : Nat) (AR : Option Addr) (kR : Nat), p = .pointer (some ⟨g, 0, none⟩) ∧ q = .bool (aaOk L l a y) ∧ w1.heap.size ≤ g ∧ g < wx.heap.size ∧ Below w1.heap.size w1 wx ∧ wx.cell? ⟨g, 0, none⟩ = some (.int .i64 (aaL L l a y)) ∧ wx.cell? ⟨g, 1, none⟩ = some (.slice AR (aaA L l a y).length kR) ∧ AntsOwn wx w1.heap.size 49 (.slice AR (aaA L l a y).length kR) (aaA L l a y) ∧ (∀ b, (Value.slice AR (aaA L l a y).length kR).ownBlock = some b → b ≠ g))
  case first =>
    have QB0 := Lib.hid (Below.refl w1.heap.size w1)
    go_region_held3 (fun w' => w'.cell? ⟨w.heap.size, 0, none⟩ = some (.int .i64 L) ∧ w'.cell? ⟨w.heap.size, 1, none⟩ = some (.slice A l.length c) ∧ w'.cell? ⟨w.heap.size + 1, 0, none⟩ = some (.int .i64 a) ∧ w'.cell? ⟨w.heap.size + 1, 1, none⟩ = some (.int .i64 y))
      (first | exact ⟨c0, c1, b0, b1⟩ | exact ⟨alloc_some c0 _, alloc_some c1 _, alloc_some b0 _, alloc_some b1 _⟩ | go_keep | (refine ⟨?_, ?_, ?_, ?_⟩ <;> (simp [go_sem, *]; done)))
      (first
        | (go_at_call 17; refine (toRod_any L A c l (w1.alloc (Obj.cells #[.int .i64 0, .slice none 0 0] 28)).drew h (HAQ.out.alloc _)).mono ?_; rintro e q1 ⟨AY, kY, rfl, hox, hbx⟩; have hbw := below_drew hbx; have bq : Below w1.heap.size w1 q1 := ((Below.refl _ _).alloc (Nat.le_refl _) (Obj.cells #[.int .i64 0, .slice none 0 0] 28)).trans (hbw.mono (by simp)); have z0 : q1.cell? ⟨w1.heap.size, 0, none⟩ = some (.int .i64 0) := Below.cell_some hbw (by simp [go_sem]); have z1 : q1.cell? ⟨w1.heap.size, 1, none⟩ = some (.slice none 0 0) := Below.cell_some hbw (by simp [go_sem]); have y0 : q1.frozen? ⟨w1.heap.size, 0, none⟩ = false := (hbw.frozen (p := ⟨w1.heap.size, 0, none⟩) (by simp)).trans (by simp [go_sem]); have y1 : q1.frozen? ⟨w1.heap.size, 1, none⟩ = false := (hbw.frozen (p := ⟨w1.heap.size, 1, none⟩) (by simp)).trans (by simp [go_sem]); have hz : w1.heap.size < q1.heap.size := Nat.lt_of_lt_of_le (by simp) hbw.size; have hG0 : w1.heap.size ≤ w1.heap.size := QB0.out.size; have hqs := QB0.out.size; have hne0 : ¬ w.heap.size = w1.heap.size := (by omega); have hnf0 : ¬ w1.heap.size = w.heap.size := (by omega); have hne1 : ¬ w.heap.size + 1 = w1.heap.size := (by omega); have hnf1 : ¬ w1.heap.size = w.heap.size + 1 := (by omega); have c0 := Below.cell_some bq c0; have c1 := Below.cell_some bq c1; have b0 := Below.cell_some bq b0; have b1 := Below.cell_some bq b1; have QB1 := Lib.hid (QB0.out.trans (bq.mono QB0.out.size)); have HRQ := Lib.hid hox; clear hbx hbw bq hox)
        | (go_at_call 17; refine (toRod_any L A c l w1.drew h (HAQ.out)).mono ?_; rintro e q1 ⟨AY, kY, rfl, hox, hbx⟩; have hbw := below_drew hbx; have bq := hbw; have c0 := Below.cell_some bq c0; have c1 := Below.cell_some bq c1; have b0 := Below.cell_some bq b0; have b1 := Below.cell_some bq b1; have QB1 := Lib.hid (QB0.out.trans (bq.mono QB0.out.size)); have HRQ := Lib.hid hox; clear hbx hbw bq hox)
        | (go_at_call 38; refine (toAnt_any a y (q1.alloc (Obj.cells #[.int .i64 0, .slice none 0 0] 28))).mono ?_; rintro e q2 ⟨rfl, hbx⟩; have hbw := hbx; have bq : Below q1.heap.size q1 q2 := ((Below.refl _ _).alloc (Nat.le_refl _) (Obj.cells #[.int .i64 0, .slice none 0 0] 28)).trans (hbw.mono (by simp)); have z0 : q2.cell? ⟨q1.heap.size, 0, none⟩ = some (.int .i64 0) := Below.cell_some hbw (by simp [go_sem]); have z1 : q2.cell? ⟨q1.heap.size, 1, none⟩ = some (.slice none 0 0) := Below.cell_some hbw (by simp [go_sem]); have y0 : q2.frozen? ⟨q1.heap.size, 0, none⟩ = false := (hbw.frozen (p := ⟨q1.heap.size, 0, none⟩) (by simp)).trans (by simp [go_sem]); have y1 : q2.frozen? ⟨q1.heap.size, 1, none⟩ = false := (hbw.frozen (p := ⟨q1.heap.size, 1, none⟩) (by simp)).trans (by simp [go_sem]); have hz : q1.heap.size < q2.heap.size := Nat.lt_of_lt_of_le (by simp) hbw.size; have hG0 : w1.heap.size ≤ q1.heap.size := QB1.out.size; have hqs := QB1.out.size; have hne0 : ¬ w.heap.size = q1.heap.size := (by omega); have hnf0 : ¬ q1.heap.size = w.heap.size := (by omega); have hne1 : ¬ w.heap.size + 1 = q1.heap.size := (by omega); have hnf1 : ¬ q1.heap.size = w.heap.size + 1 := (by omega); have c0 := Below.cell_some bq c0; have c1 := Below.cell_some bq c1; have b0 := Below.cell_some bq b0; have b1 := Below.cell_some bq b1; have QB2 := Lib.hid (QB1.out.trans (bq.mono QB1.out.size)); have HRQ := Lib.hid (HRQ.out.below bq); clear hbx hbw bq)
        | (go_at_call 38; (fail_if_success have hG9 := hG0); refine (toAnt_any a y q1).mono ?_; rintro e q2 ⟨rfl, hbx⟩; have hbw := hbx; have bq := hbw; have c0 := Below.cell_some bq c0; have c1 := Below.cell_some bq c1; have b0 := Below.cell_some bq b0; have b1 := Below.cell_some bq b1; have QB2 := Lib.hid (QB1.out.trans (bq.mono QB1.out.size)); have HRQ := Lib.hid (HRQ.out.below bq); clear hbx hbw bq)
        | (go_at_call 38; have hG9 := hG0; refine (toAnt_any a y q1).mono ?_; rintro e q2 ⟨rfl, hbx⟩; have hbw := hbx; have bq := hbw; have z0 := Below.cell_some bq z0; have z1 := Below.cell_some bq z1; have y0 := frozen_at bq y0 hz; have y1 := frozen_at bq y1 hz; have hz := Nat.lt_of_lt_of_le hz bq.size; have c0 := Below.cell_some bq c0; have c1 := Below.cell_some bq c1; have b0 := Below.cell_some bq b0; have b1 := Below.cell_some bq b1; have QB2 := Lib.hid (QB1.out.trans (bq.mono QB1.out.size)); have HRQ := Lib.hid (HRQ.out.below bq); clear hbx hbw bq)
        | (go_at_call 37; refine (specAddAnt_any L AY kY l a y (q2.alloc (Obj.cells #[.int .i64 0, .slice none 0 0] 28)) (own_cap (S := pairS) HRQ.out) (HRQ.out.ants.alloc _)).mono ?_; rintro e q3 ⟨AX, nX, kX, rfl, hnx, hox, hbx⟩; have hbw := hbx; have bq : Below q2.heap.size q2 q3 := ((Below.refl _ _).alloc (Nat.le_refl _) (Obj.cells #[.int .i64 0, .slice none 0 0] 28)).trans (hbw.mono (by simp)); have z0 : q3.cell? ⟨q2.heap.size, 0, none⟩ = some (.int .i64 0) := Below.cell_some hbw (by simp [go_sem]); have z1 : q3.cell? ⟨q2.heap.size, 1, none⟩ = some (.slice none 0 0) := Below.cell_some hbw (by simp [go_sem]); have y0 : q3.frozen? ⟨q2.heap.size, 0, none⟩ = false := (hbw.frozen (p := ⟨q2.heap.size, 0, none⟩) (by simp)).trans (by simp [go_sem]); have y1 : q3.frozen? ⟨q2.heap.size, 1, none⟩ = false := (hbw.frozen (p := ⟨q2.heap.size, 1, none⟩) (by simp)).trans (by simp [go_sem]); have hz : q2.heap.size < q3.heap.size := Nat.lt_of_lt_of_le (by simp) hbw.size; have hG0 : w1.heap.size ≤ q2.heap.size := QB2.out.size; have hqs := QB2.out.size; have hne0 : ¬ w.heap.size = q2.heap.size := (by omega); have hnf0 : ¬ q2.heap.size = w.heap.size := (by omega); have hne1 : ¬ w.heap.size + 1 = q2.heap.size := (by omega); have hnf1 : ¬ q2.heap.size = w.heap.size + 1 := (by omega); have hGB : q2.heap.size < (q2.alloc (Obj.cells #[.int .i64 0, .slice none 0 0] 28)).heap.size := (by simp); have hB0 : w1.heap.size ≤ (q2.alloc (Obj.cells #[.int .i64 0, .slice none 0 0] 28)).heap.size := Nat.le_trans hG0 (by simp); have c0 := Below.cell_some bq c0; have c1 := Below.cell_some bq c1; have b0 := Below.cell_some bq b0; have b1 := Below.cell_some bq b1; have QB3 := Lib.hid (QB2.out.trans (bq.mono QB2.out.size)); have HOX := Lib.hid hox; have HNX := Lib.hid hnx; clear hbx hbw bq hox hnx)
        | (go_at_call 37; (fail_if_success have hG9 := hG0); refine (specAddAnt_any L AY kY l a y q2 (own_cap (S := pairS) HRQ.out) (HRQ.out.ants)).mono ?_; rintro e q3 ⟨AX, nX, kX, rfl, hnx, hox, hbx⟩; have hbw := hbx; have bq := hbw; have hB0 : w1.heap.size ≤ q2.heap.size := QB2.out.size; have c0 := Below.cell_some bq c0; have c1 := Below.cell_some bq c1; have b0 := Below.cell_some bq b0; have b1 := Below.cell_some bq b1; have QB3 := Lib.hid (QB2.out.trans (bq.mono QB2.out.size)); have HOX := Lib.hid hox; have HNX := Lib.hid hnx; clear hbx hbw bq hox hnx)
        | (go_at_call 37; have hG9 := hG0; refine (specAddAnt_any L AY kY l a y q2 (own_cap (S := pairS) HRQ.out) (HRQ.out.ants)).mono ?_; rintro e q3 ⟨AX, nX, kX, rfl, hnx, hox, hbx⟩; have hbw := hbx; have bq := hbw; have z0 := Below.cell_some bq z0; have z1 := Below.cell_some bq z1; have y0 := frozen_at bq y0 hz; have y1 := frozen_at bq y1 hz; have hGB := hz; have hz := Nat.lt_of_lt_of_le hz bq.size; have hB0 : w1.heap.size ≤ q2.heap.size := QB2.out.size; have c0 := Below.cell_some bq c0; have c1 := Below.cell_some bq c1; have b0 := Below.cell_some bq b0; have b1 := Below.cell_some bq b1; have QB3 := Lib.hid (QB2.out.trans (bq.mono QB2.out.size)); have HOX := Lib.hid hox; have HNX := Lib.hid hnx; clear hbx hbw bq hox hnx))
    all_goals (
      have hnn := HNX.out
      subst hnn
      go_wp2_with fail
      go_meet
      case rel =>
        first
          | exact ⟨q3.heap.size, AX, kX, rfl, rfl, QB3.out.size, by simp, QB3.out.alloc QB3.out.size _, by simp, by simp, ownsRow_base (ownsRow_below HOX.out ((Below.refl _ _).alloc (Nat.le_refl _) _)) hB0, fun b hb e => by have := (World.ownsRow.lt HOX.out b hb).2; omega⟩
          | exact ⟨_, AX, kX, rfl, rfl, hG0, by simpa using hz, (QB3.out.setCell hG0 _).setCell hG0 _, by simp [go_sem, z0], by simp [go_sem, z1], ownsRow_base (ownsRow_setCell_below (ownsRow_setCell_below HOX.out hGB _) hGB _) hB0, fun b hb e => by have := (World.ownsRow.lt HOX.out b hb).1; omega⟩)
  case rest =>
    obtain ⟨g6, A3, k3, hp, hq, hg6, hg6', hbx, m0, m1, ho3, -⟩ := hcut
    subst hp
    subst hq
    obtain ⟨w3, rfl⟩ : ∃ w3, w3 = wc := ⟨_, rfl⟩
    have c0 := Below.cell_some hbx c0
    have c1 := Below.cell_some hbx c1
    have b0 := Below.cell_some hbx b0
    have b1 := Below.cell_some hbx b1
    have HB3 := Lib.hid (HB1.out.trans (hbx.mono HB1.out.size))
    have HW := Lib.hid ho3
    have IW := Lib.hid (World.ownsRow.lt ho3)
    have s3 : w1.heap.size ≤ w3.heap.size := hbx.size
    clear hbx ho3 HAQ
    go_wp2_with fail
    -- the copy for the program
    refine (toRod_any L A c l _ h (HA.out.below HB3.out)).mono ?_
    rintro e w4 ⟨A4, k4, rfl, ho4, hb4⟩
    have HX := Lib.hid ho4
    have IX := Lib.hid (World.ownsRow.lt ho4)
    have c0 := Below.cell_some hb4 c0
    have c1 := Below.cell_some hb4 c1
    have b0 := Below.cell_some hb4 b0
    have b1 := Below.cell_some hb4 b1
    have m0 := Below.cell_some hb4 m0
    have m1 := Below.cell_some hb4 m1
    have HB4 := Lib.hid (HB3.out.trans (hb4.mono HB3.out.size))
    have HW := Lib.hid (AntsOwn.below HW.out hb4)
    have s4 : w3.heap.size ≤ w4.heap.size := hb4.size
    clear hb4 ho4
    go_upto_region 7 with fail
    obtain ⟨w5, hw5⟩ : ∃ w5, w5 = w4.alloc (Obj.cells #[Value.int IntKind.i64 L, Value.slice A4 l.length k4] 28) := ⟨_, rfl⟩
    have hb5 : Below w4.heap.size w4 w5 := by rw [hw5]; exact (Below.refl _ _).alloc (Nat.le_refl _) _
    have d0 : w5.cell? ⟨w4.heap.size, 0, none⟩ = some (.int .i64 L) := by rw [hw5]; simp
    have d1 : w5.cell? ⟨w4.heap.size, 1, none⟩ = some (.slice A4 l.length k4) := by rw [hw5]; simp
    have s5 : w4.heap.size < w5.heap.size := by rw [hw5]; simp
    rw [← hw5]
    clear hw5
    have c0 := Below.cell_some hb5 c0
    have c1 := Below.cell_some hb5 c1
    have b0 := Below.cell_some hb5 b0
    have b1 := Below.cell_some hb5 b1
    have m0 := Below.cell_some hb5 m0
    have m1 := Below.cell_some hb5 m1
    have HB5 := Lib.hid (HB4.out.trans (hb5.mono HB4.out.size))
    have HW := Lib.hid (AntsOwn.below HW.out hb5)
    have HX := Lib.hid (AntsOwn.below HX.out hb5)
    clear hb5
    have HRQ := Lib.hid HX.out
    go_cut [9, 10] from 31 to 37 (fun p q wx => ∃ (g : Nat) (AR : Option Addr) (kR : Nat), p = .pointer (some ⟨g, 0, none⟩) ∧ q = .bool (aaOk L l a y) ∧ w5.heap.size ≤ g ∧ g < wx.heap.size ∧ Below w5.heap.size w5 wx ∧ wx.cell? ⟨g, 0, none⟩ = some (.int .i64 (aaL L l a y)) ∧ wx.cell? ⟨g, 1, none⟩ = some (.slice AR (aaA L l a y).length kR) ∧ AntsOwn wx w5.heap.size 49 (.slice AR (aaA L l a y).length kR) (aaA L l a y) ∧ (∀ b, (Value.slice AR (aaA L l a y).length kR).ownBlock = some b → b ≠ g))
    case first =>
      have QB0 := Lib.hid (Below.refl w5.heap.size w5)
      go_region_held3 (fun w' => w'.cell? ⟨w4.heap.size, 0, none⟩ = some (.int .i64 L) ∧ w'.cell? ⟨w4.heap.size, 1, none⟩ = some (.slice A4 l.length k4) ∧ w'.cell? ⟨w.heap.size + 1, 0, none⟩ = some (.int .i64 a) ∧ w'.cell? ⟨w.heap.size + 1, 1, none⟩ = some (.int .i64 y))
        (first | exact ⟨d0, d1, b0, b1⟩ | exact ⟨alloc_some d0 _, alloc_some d1 _, alloc_some b0 _, alloc_some b1 _⟩ | go_keep | (refine ⟨?_, ?_, ?_, ?_⟩ <;> (simp [go_sem, *]; done)))
        (first
          | (go_at_call 38; refine (toAnt_any a y (w5.alloc (Obj.cells #[.int .i64 0, .slice none 0 0] 28)).drew).mono ?_; rintro e q1 ⟨rfl, hbx⟩; have hbw := below_drew hbx; have bq : Below w5.heap.size w5 q1 := ((Below.refl _ _).alloc (Nat.le_refl _) (Obj.cells #[.int .i64 0, .slice none 0 0] 28)).trans (hbw.mono (by simp)); have z0 : q1.cell? ⟨w5.heap.size, 0, none⟩ = some (.int .i64 0) := Below.cell_some hbw (by simp [go_sem]); have z1 : q1.cell? ⟨w5.heap.size, 1, none⟩ = some (.slice none 0 0) := Below.cell_some hbw (by simp [go_sem]); have y0 : q1.frozen? ⟨w5.heap.size, 0, none⟩ = false := (hbw.frozen (p := ⟨w5.heap.size, 0, none⟩) (by simp)).trans (by simp [go_sem]); have y1 : q1.frozen? ⟨w5.heap.size, 1, none⟩ = false := (hbw.frozen (p := ⟨w5.heap.size, 1, none⟩) (by simp)).trans (by simp [go_sem]); have hz : w5.heap.size < q1.heap.size := Nat.lt_of_lt_of_le (by simp) hbw.size; have hG0 : w5.heap.size ≤ w5.heap.size := QB0.out.size; have hqs := QB0.out.size; have hne0 : ¬ w.heap.size + 1 = w5.heap.size := (by omega); have hnf0 : ¬ w5.heap.size = w.heap.size + 1 := (by omega); have hne1 : ¬ w4.heap.size = w5.heap.size := (by omega); have hnf1 : ¬ w5.heap.size = w4.heap.size := (by omega); have d0 := Below.cell_some bq d0; have d1 := Below.cell_some bq d1; have b0 := Below.cell_some bq b0; have b1 := Below.cell_some bq b1; have QB1 := Lib.hid (QB0.out.trans (bq.mono QB0.out.size)); have HRQ := Lib.hid (HRQ.out.below bq); clear hbx hbw bq)
          | (go_at_call 38; refine (toAnt_any a y w5.drew).mono ?_; rintro e q1 ⟨rfl, hbx⟩; have hbw := below_drew hbx; have bq := hbw; have d0 := Below.cell_some bq d0; have d1 := Below.cell_some bq d1; have b0 := Below.cell_some bq b0; have b1 := Below.cell_some bq b1; have QB1 := Lib.hid (QB0.out.trans (bq.mono QB0.out.size)); have HRQ := Lib.hid (HRQ.out.below bq); clear hbx hbw bq)
          | (go_at_call 39; refine (implAddAnt_any L A4 k4 l a y (q1.alloc (Obj.cells #[.int .i64 0, .slice none 0 0] 28)) (own_cap (S := pairS) HRQ.out) (HRQ.out.ants.alloc _)).mono ?_; rintro e q2 ⟨AX, nX, kX, rfl, hnx, hox, hbx⟩; have hbw := hbx; have bq : Below q1.heap.size q1 q2 := ((Below.refl _ _).alloc (Nat.le_refl _) (Obj.cells #[.int .i64 0, .slice none 0 0] 28)).trans (hbw.mono (by simp)); have z0 : q2.cell? ⟨q1.heap.size, 0, none⟩ = some (.int .i64 0) := Below.cell_some hbw (by simp [go_sem]); have z1 : q2.cell? ⟨q1.heap.size, 1, none⟩ = some (.slice none 0 0) := Below.cell_some hbw (by simp [go_sem]); have y0 : q2.frozen? ⟨q1.heap.size, 0, none⟩ = false := (hbw.frozen (p := ⟨q1.heap.size, 0, none⟩) (by simp)).trans (by simp [go_sem]); have y1 : q2.frozen? ⟨q1.heap.size, 1, none⟩ = false := (hbw.frozen (p := ⟨q1.heap.size, 1, none⟩) (by simp)).trans (by simp [go_sem]); have hz : q1.heap.size < q2.heap.size := Nat.lt_of_lt_of_le (by simp) hbw.size; have hG0 : w5.heap.size ≤ q1.heap.size := QB1.out.size; have hqs := QB1.out.size; have hne0 : ¬ w.heap.size + 1 = q1.heap.size := (by omega); have hnf0 : ¬ q1.heap.size = w.heap.size + 1 := (by omega); have hne1 : ¬ w4.heap.size = q1.heap.size := (by omega); have hnf1 : ¬ q1.heap.size = w4.heap.size := (by omega); have hGB : q1.heap.size < (q1.alloc (Obj.cells #[.int .i64 0, .slice none 0 0] 28)).heap.size := (by simp); have hB0 : w5.heap.size ≤ (q1.alloc (Obj.cells #[.int .i64 0, .slice none 0 0] 28)).heap.size := Nat.le_trans hG0 (by simp); have d0 := Below.cell_some bq d0; have d1 := Below.cell_some bq d1; have b0 := Below.cell_some bq b0; have b1 := Below.cell_some bq b1; have QB2 := Lib.hid (QB1.out.trans (bq.mono QB1.out.size)); have HOX := Lib.hid hox; have HNX := Lib.hid hnx; clear hbx hbw bq hox hnx)
          | (go_at_call 39; (fail_if_success have hG9 := hG0); refine (implAddAnt_any L A4 k4 l a y q1 (own_cap (S := pairS) HRQ.out) (HRQ.out.ants)).mono ?_; rintro e q2 ⟨AX, nX, kX, rfl, hnx, hox, hbx⟩; have hbw := hbx; have bq := hbw; have hB0 : w5.heap.size ≤ q1.heap.size := QB1.out.size; have d0 := Below.cell_some bq d0; have d1 := Below.cell_some bq d1; have b0 := Below.cell_some bq b0; have b1 := Below.cell_some bq b1; have QB2 := Lib.hid (QB1.out.trans (bq.mono QB1.out.size)); have HOX := Lib.hid hox; have HNX := Lib.hid hnx; clear hbx hbw bq hox hnx)
          | (go_at_call 39; have hG9 := hG0; refine (implAddAnt_any L A4 k4 l a y q1 (own_cap (S := pairS) HRQ.out) (HRQ.out.ants)).mono ?_; rintro e q2 ⟨AX, nX, kX, rfl, hnx, hox, hbx⟩; have hbw := hbx; have bq := hbw; have z0 := Below.cell_some bq z0; have z1 := Below.cell_some bq z1; have y0 := frozen_at bq y0 hz; have y1 := frozen_at bq y1 hz; have hGB := hz; have hz := Nat.lt_of_lt_of_le hz bq.size; have hB0 : w5.heap.size ≤ q1.heap.size := QB1.out.size; have d0 := Below.cell_some bq d0; have d1 := Below.cell_some bq d1; have b0 := Below.cell_some bq b0; have b1 := Below.cell_some bq b1; have QB2 := Lib.hid (QB1.out.trans (bq.mono QB1.out.size)); have HOX := Lib.hid hox; have HNX := Lib.hid hnx; clear hbx hbw bq hox hnx))
      all_goals (
        have hnn := HNX.out
        subst hnn
        go_wp2_with fail
        go_meet
        case rel =>
          first
            | exact ⟨q2.heap.size, AX, kX, rfl, rfl, QB2.out.size, by simp, QB2.out.alloc QB2.out.size _, by simp, by simp, ownsRow_base (ownsRow_below HOX.out ((Below.refl _ _).alloc (Nat.le_refl _) _)) hB0, fun b hb e => by have := (World.ownsRow.lt HOX.out b hb).2; omega⟩
            | exact ⟨_, AX, kX, rfl, rfl, hG0, by simpa using hz, (QB2.out.setCell hG0 _).setCell hG0 _, by simp [go_sem, z0], by simp [go_sem, z1], ownsRow_base (ownsRow_setCell_below (ownsRow_setCell_below HOX.out hGB _) hGB _) hB0, fun b hb e => by have := (World.ownsRow.lt HOX.out b hb).1; omega⟩)
    case rest =>
      obtain ⟨g9, A6, k6, hp, hq, hg9, hg9', hbx, n0, n1, ho6, hneG⟩ := hcut
      subst hp
      subst hq
      obtain ⟨w6, rfl⟩ : ∃ w6, w6 = wc := ⟨_, rfl⟩
      have c0 := Below.cell_some hbx c0
      have c1 := Below.cell_some hbx c1
      have b0 := Below.cell_some hbx b0
      have b1 := Below.cell_some hbx b1
      have m0 := Below.cell_some hbx m0
      have m1 := Below.cell_some hbx m1
      have d0 := Below.cell_some hbx d0
      have d1 := Below.cell_some hbx d1
      have HB := Lib.hid (HB5.out.trans (hbx.mono HB5.out.size))
      have HW := Lib.hid (AntsOwn.below HW.out hbx)
      have HX := Lib.hid (AntsOwn.below HX.out hbx)
      have HG := Lib.hid ho6
      have IG := Lib.hid (World.ownsRow.lt ho6)
      have HNE := Lib.hid hneG
      have s6 : w5.heap.size ≤ w6.heap.size := hbx.size
      clear hbx ho6 HRQ hneG
      go_wp2_with fail
      refine (eqRod_true (aaL L l a y) A6 A3 k6 k3 (aaA L l a y) _ HVB.out HG.out.ants HW.out.ants).mono ?_
      rintro e w7 ⟨rfl, hb7⟩
      have c0 := Below.cell_some hb7 c0
      have c1 := Below.cell_some hb7 c1
      have b0 := Below.cell_some hb7 b0
      have b1 := Below.cell_some hb7 b1
      have m0 := Below.cell_some hb7 m0
      have m1 := Below.cell_some hb7 m1
      have d0 := Below.cell_some hb7 d0
      have d1 := Below.cell_some hb7 d1
      have n0 := Below.cell_some hb7 n0
      have n1 := Below.cell_some hb7 n1
      have HB := Lib.hid (HB.out.trans (hb7.mono HB.out.size))
      have HW := Lib.hid (AntsOwn.below HW.out hb7)
      have HX := Lib.hid (AntsOwn.below HX.out hb7)
      have HXA := Lib.hid HX.out.ants
      have HG := Lib.hid (AntsOwn.below HG.out hb7)
      have HAA := Lib.hid (HA.out.below HB.out)
      have s7 : w6.heap.size ≤ w7.heap.size := hb7.size
      clear hb7
      go_wp2
      go_region_held3 (fun w' => w'.cell? ⟨w4.heap.size, 0, none⟩ = some (.int .i64 L) ∧ w'.cell? ⟨w4.heap.size, 1, none⟩ = some (.slice A4 l.length k4) ∧ w'.cell? ⟨w.heap.size, 0, none⟩ = some (.int .i64 L) ∧ w'.cell? ⟨w.heap.size, 1, none⟩ = some (.slice A l.length c))
        (first
          | go_keep
          | exact ⟨Below.cell_some hbx d0, Below.cell_some hbx d1, Below.cell_some hbx c0, Below.cell_some hbx c1⟩
          | exact ⟨Below.cell_some hby d0', Below.cell_some hby d1', Below.cell_some hby c0', Below.cell_some hby c1'⟩)
        (first
          | (go_at_call 17; refine (toRod_any L A c l w7.drew h HAA.out).mono ?_; rintro e w8 ⟨A8, k8, rfl, ho8, hbx0⟩; have hbx := below_drew hbx0; clear hbx0; have HA8 := Lib.hid ho8.ants; have HX8 := Lib.hid (HXA.out.below hbx); have d0' := Below.cell_some hbx d0; have d1' := Below.cell_some hbx d1; have c0' := Below.cell_some hbx c0; have c1' := Below.cell_some hbx c1)
          | (go_at_call 19; refine (eqRod_true L A4 A8 k4 k8 l _ h HX8.out HA8.out).mono ?_; rintro e w9 ⟨rfl, hby⟩))
      have hb9 : Below w7.heap.size w7 w9 := hbx.trans (hby.mono hbx.size)
      have c0 := Below.cell_some hb9 c0
      have c1 := Below.cell_some hb9 c1
      have b0 := Below.cell_some hb9 b0
      have b1 := Below.cell_some hb9 b1
      have m0 := Below.cell_some hb9 m0
      have m1 := Below.cell_some hb9 m1
      have d0 := Below.cell_some hb9 d0
      have d1 := Below.cell_some hb9 d1
      have n0 := Below.cell_some hb9 n0
      have n1 := Below.cell_some hb9 n1
      have HB := Lib.hid (HB.out.trans (hb9.mono HB.out.size))
      have HW := Lib.hid (AntsOwn.below HW.out hb9)
      have HX := Lib.hid (AntsOwn.below HX.out hb9)
      have HG := Lib.hid (AntsOwn.below HG.out hb9)
      have s9 : w7.heap.size ≤ w9.heap.size := hb9.size
      clear hb9 hbx hby ho8 c0' c1' d0' d1' HA8 HX8
      go_wp2_with fail
      -- marks on the copy
      refine (markRod_any L A4 k4 _ l 1 _ (by omega) (by omega) h HX.out).mono ?_
      rintro e w10 ⟨rfl, _, hg10⟩
      have c0 := grown_cell hg10 IX.out (.inl (by simp; omega)) c0
      have c1 := grown_cell hg10 IX.out (.inl (by simp; omega)) c1
      have b0 := grown_cell hg10 IX.out (.inl (by simp; omega)) b0
      have b1 := grown_cell hg10 IX.out (.inl (by simp; omega)) b1
      have m0 := grown_cell hg10 IX.out (.inl (hg6')) m0
      have m1 := grown_cell hg10 IX.out (.inl (hg6')) m1
      have n0 := grown_cell hg10 IX.out (.inr (Nat.le_trans (Nat.le_of_lt s5) hg9)) n0
      have n1 := grown_cell hg10 IX.out (.inr (Nat.le_trans (Nat.le_of_lt s5) hg9)) n1
      have HB := Lib.hid (HB.out.trans (grown_below hg10 IX.out HB3.out.size HB.out.size))
      have HW := Lib.hid (grown_own hg10 IX.out (S := pairS) HW.out (fun k hk => .inl (IW.out k hk).2))
      have HG := Lib.hid (grown_own hg10 IX.out (S := pairS) HG.out (fun k hk => .inr (Nat.le_trans (Nat.le_of_lt s5) (IG.out k hk).1)))
      clear hg10 d0 d1
      have hk9 : ¬ (1 + 2 * (l.length : Int)) < 0 := by omega
      go_wp2_with fail
      refine (eqRod_true (aaL L l a y) A6 A3 k6 k3 (aaA L l a y) _ HVB.out (AntsOwn.ants HG.out) (AntsOwn.ants HW.out)).mono ?_
      rintro e w11 ⟨rfl, hb11⟩
      have c0 := Below.cell_some hb11 c0
      have c1 := Below.cell_some hb11 c1
      have b0 := Below.cell_some hb11 b0
      have b1 := Below.cell_some hb11 b1
      have m0 := Below.cell_some hb11 m0
      have m1 := Below.cell_some hb11 m1
      have n0 := Below.cell_some hb11 n0
      have n1 := Below.cell_some hb11 n1
      have HB := Lib.hid (HB.out.trans (hb11.mono HB.out.size))
      have HW := Lib.hid (SlOwn.below (S := pairS) HW.out hb11)
      have HG := Lib.hid (SlOwn.below (S := pairS) HG.out hb11)
      clear hb11
      go_wp2_with fail
      -- marks on the result
      refine (markRod_any (aaL L l a y) A6 k6 _ (aaA L l a y) 1 _ (by omega) (by omega) HVB.out HG.out).mono ?_
      rintro e w12 ⟨rfl, ho12, hg12⟩
      have HGM := Lib.hid ho12
      have c0 := grown_cell hg12 IG.out (.inl (by simp; omega)) c0
      have c1 := grown_cell hg12 IG.out (.inl (by simp; omega)) c1
      have b0 := grown_cell hg12 IG.out (.inl (by simp; omega)) b0
      have b1 := grown_cell hg12 IG.out (.inl (by simp; omega)) b1
      have m0 := grown_cell hg12 IG.out (.inl (by have := hg6'; simp; omega)) m0
      have m1 := grown_cell hg12 IG.out (.inl (by have := hg6'; simp; omega)) m1
      have n0 := hg12.cell n0 (fun e => HNE.out g9 e.symm rfl)
      have n1 := hg12.cell n1 (fun e => HNE.out g9 e.symm rfl)
      have HB := Lib.hid (HB.out.trans (grown_below hg12 IG.out HB5.out.size HB.out.size))
      have HW := Lib.hid (grown_own hg12 IG.out (S := pairS) HW.out (fun k hk => .inl (by have := (IW.out k hk).2; omega)))
      clear hg12 ho12
      have hm1 : ¬ (1 + 2 * (((aaA L l a y).length : Nat) : Int)) < 0 := by omega
      go_wp2_with fail
      refine (heldRod_any (aaL L l a y) A6 k6 (aaA L l a y).length 1 _ (by omega) (by omega) HVB.out HGM.out.ants).mono ?_
      rintro e w13 ⟨rfl, hb13⟩
      have c0 := Below.cell_some hb13 c0
      have c1 := Below.cell_some hb13 c1
      have b0 := Below.cell_some hb13 b0
      have b1 := Below.cell_some hb13 b1
      have m0 := Below.cell_some hb13 m0
      have m1 := Below.cell_some hb13 m1
      have n0 := Below.cell_some hb13 n0
      have n1 := Below.cell_some hb13 n1
      have HB := Lib.hid (HB.out.trans (hb13.mono HB.out.size))
      have HW := Lib.hid (SlOwn.below (S := pairS) HW.out hb13)
      have HGM := Lib.hid (AntsOwn.below HGM.out hb13)
      have sH13 : w.heap.size + 1 < w13.heap.size := Nat.lt_of_lt_of_le (World.block_lt_of_cell? _ _ b0) (Nat.le_refl _)
      clear hb13
      have HAQ := Lib.hid (HA.out.below HB.out)
      go_upto_region 24 with fail
      go_cut [14, 15] from 79 to 86 (fun p q wx => ∃ (g : Nat) (AR : Option Addr) (kR : Nat), p = .pointer (some ⟨g, 0, none⟩) ∧ q = .bool (aaOk L l a y) ∧ w13.heap.size ≤ g ∧ g < wx.heap.size ∧ Below w13.heap.size w13 wx ∧ wx.cell? ⟨g, 0, none⟩ = some (.int .i64 (aaL L l a y)) ∧ wx.cell? ⟨g, 1, none⟩ = some (.slice AR (aaA L l a y).length kR) ∧ AntsOwn wx w13.heap.size 49 (.slice AR (aaA L l a y).length kR) (aaA L l a y) ∧ (∀ b, (Value.slice AR (aaA L l a y).length kR).ownBlock = some b → b ≠ g))
      case first =>
        have QB0 := Lib.hid (Below.refl w13.heap.size w13)
        go_region_held3 (fun w' => w'.cell? ⟨w.heap.size, 0, none⟩ = some (.int .i64 L) ∧ w'.cell? ⟨w.heap.size, 1, none⟩ = some (.slice A l.length c) ∧ w'.cell? ⟨w.heap.size + 1, 0, none⟩ = some (.int .i64 a) ∧ w'.cell? ⟨w.heap.size + 1, 1, none⟩ = some (.int .i64 y))
          (first | exact ⟨c0, c1, b0, b1⟩ | exact ⟨alloc_some c0 _, alloc_some c1 _, alloc_some b0 _, alloc_some b1 _⟩ | go_keep | (refine ⟨?_, ?_, ?_, ?_⟩ <;> (simp [go_sem, *]; done)))
          (first
            | (go_at_call 17; refine (toRod_any L A c l (w13.alloc (Obj.cells #[.int .i64 0, .slice none 0 0] 28)).drew h (HAQ.out.alloc _)).mono ?_; rintro e q1 ⟨AY, kY, rfl, hox, hbx⟩; have hbw := below_drew hbx; have bq : Below w13.heap.size w13 q1 := ((Below.refl _ _).alloc (Nat.le_refl _) (Obj.cells #[.int .i64 0, .slice none 0 0] 28)).trans (hbw.mono (by simp)); have z0 : q1.cell? ⟨w13.heap.size, 0, none⟩ = some (.int .i64 0) := Below.cell_some hbw (by simp [go_sem]); have z1 : q1.cell? ⟨w13.heap.size, 1, none⟩ = some (.slice none 0 0) := Below.cell_some hbw (by simp [go_sem]); have y0 : q1.frozen? ⟨w13.heap.size, 0, none⟩ = false := (hbw.frozen (p := ⟨w13.heap.size, 0, none⟩) (by simp)).trans (by simp [go_sem]); have y1 : q1.frozen? ⟨w13.heap.size, 1, none⟩ = false := (hbw.frozen (p := ⟨w13.heap.size, 1, none⟩) (by simp)).trans (by simp [go_sem]); have hz : w13.heap.size < q1.heap.size := Nat.lt_of_lt_of_le (by simp) hbw.size; have hG0 : w13.heap.size ≤ w13.heap.size := QB0.out.size; have hqs := QB0.out.size; have hne0 : ¬ w.heap.size = w13.heap.size := (by omega); have hnf0 : ¬ w13.heap.size = w.heap.size := (by omega); have hne1 : ¬ w.heap.size + 1 = w13.heap.size := (by omega); have hnf1 : ¬ w13.heap.size = w.heap.size + 1 := (by omega); have c0 := Below.cell_some bq c0; have c1 := Below.cell_some bq c1; have b0 := Below.cell_some bq b0; have b1 := Below.cell_some bq b1; have QB1 := Lib.hid (QB0.out.trans (bq.mono QB0.out.size)); have HRQ := Lib.hid hox; clear hbx hbw bq hox)
            | (go_at_call 17; refine (toRod_any L A c l w13.drew h (HAQ.out)).mono ?_; rintro e q1 ⟨AY, kY, rfl, hox, hbx⟩; have hbw := below_drew hbx; have bq := hbw; have c0 := Below.cell_some bq c0; have c1 := Below.cell_some bq c1; have b0 := Below.cell_some bq b0; have b1 := Below.cell_some bq b1; have QB1 := Lib.hid (QB0.out.trans (bq.mono QB0.out.size)); have HRQ := Lib.hid hox; clear hbx hbw bq hox)
            | (go_at_call 38; refine (toAnt_any a y (q1.alloc (Obj.cells #[.int .i64 0, .slice none 0 0] 28))).mono ?_; rintro e q2 ⟨rfl, hbx⟩; have hbw := hbx; have bq : Below q1.heap.size q1 q2 := ((Below.refl _ _).alloc (Nat.le_refl _) (Obj.cells #[.int .i64 0, .slice none 0 0] 28)).trans (hbw.mono (by simp)); have z0 : q2.cell? ⟨q1.heap.size, 0, none⟩ = some (.int .i64 0) := Below.cell_some hbw (by simp [go_sem]); have z1 : q2.cell? ⟨q1.heap.size, 1, none⟩ = some (.slice none 0 0) := Below.cell_some hbw (by simp [go_sem]); have y0 : q2.frozen? ⟨q1.heap.size, 0, none⟩ = false := (hbw.frozen (p := ⟨q1.heap.size, 0, none⟩) (by simp)).trans (by simp [go_sem]); have y1 : q2.frozen? ⟨q1.heap.size, 1, none⟩ = false := (hbw.frozen (p := ⟨q1.heap.size, 1, none⟩) (by simp)).trans (by simp [go_sem]); have hz : q1.heap.size < q2.heap.size := Nat.lt_of_lt_of_le (by simp) hbw.size; have hG0 : w13.heap.size ≤ q1.heap.size := QB1.out.size; have hqs := QB1.out.size; have hne0 : ¬ w.heap.size = q1.heap.size := (by omega); have hnf0 : ¬ q1.heap.size = w.heap.size := (by omega); have hne1 : ¬ w.heap.size + 1 = q1.heap.size := (by omega); have hnf1 : ¬ q1.heap.size = w.heap.size + 1 := (by omega); have c0 := Below.cell_some bq c0; have c1 := Below.cell_some bq c1; have b0 := Below.cell_some bq b0; have b1 := Below.cell_some bq b1; have QB2 := Lib.hid (QB1.out.trans (bq.mono QB1.out.size)); have HRQ := Lib.hid (HRQ.out.below bq); clear hbx hbw bq)
            | (go_at_call 38; (fail_if_success have hG9 := hG0); refine (toAnt_any a y q1).mono ?_; rintro e q2 ⟨rfl, hbx⟩; have hbw := hbx; have bq := hbw; have c0 := Below.cell_some bq c0; have c1 := Below.cell_some bq c1; have b0 := Below.cell_some bq b0; have b1 := Below.cell_some bq b1; have QB2 := Lib.hid (QB1.out.trans (bq.mono QB1.out.size)); have HRQ := Lib.hid (HRQ.out.below bq); clear hbx hbw bq)
            | (go_at_call 38; have hG9 := hG0; refine (toAnt_any a y q1).mono ?_; rintro e q2 ⟨rfl, hbx⟩; have hbw := hbx; have bq := hbw; have z0 := Below.cell_some bq z0; have z1 := Below.cell_some bq z1; have y0 := frozen_at bq y0 hz; have y1 := frozen_at bq y1 hz; have hz := Nat.lt_of_lt_of_le hz bq.size; have c0 := Below.cell_some bq c0; have c1 := Below.cell_some bq c1; have b0 := Below.cell_some bq b0; have b1 := Below.cell_some bq b1; have QB2 := Lib.hid (QB1.out.trans (bq.mono QB1.out.size)); have HRQ := Lib.hid (HRQ.out.below bq); clear hbx hbw bq)
            | (go_at_call 39; refine (implAddAnt_any L AY kY l a y (q2.alloc (Obj.cells #[.int .i64 0, .slice none 0 0] 28)) (own_cap (S := pairS) HRQ.out) (HRQ.out.ants.alloc _)).mono ?_; rintro e q3 ⟨AX, nX, kX, rfl, hnx, hox, hbx⟩; have hbw := hbx; have bq : Below q2.heap.size q2 q3 := ((Below.refl _ _).alloc (Nat.le_refl _) (Obj.cells #[.int .i64 0, .slice none 0 0] 28)).trans (hbw.mono (by simp)); have z0 : q3.cell? ⟨q2.heap.size, 0, none⟩ = some (.int .i64 0) := Below.cell_some hbw (by simp [go_sem]); have z1 : q3.cell? ⟨q2.heap.size, 1, none⟩ = some (.slice none 0 0) := Below.cell_some hbw (by simp [go_sem]); have y0 : q3.frozen? ⟨q2.heap.size, 0, none⟩ = false := (hbw.frozen (p := ⟨q2.heap.size, 0, none⟩) (by simp)).trans (by simp [go_sem]); have y1 : q3.frozen? ⟨q2.heap.size, 1, none⟩ = false := (hbw.frozen (p := ⟨q2.heap.size, 1, none⟩) (by simp)).trans (by simp [go_sem]); have hz : q2.heap.size < q3.heap.size := Nat.lt_of_lt_of_le (by simp) hbw.size; have hG0 : w13.heap.size ≤ q2.heap.size := QB2.out.size; have hqs := QB2.out.size; have hne0 : ¬ w.heap.size = q2.heap.size := (by omega); have hnf0 : ¬ q2.heap.size = w.heap.size := (by omega); have hne1 : ¬ w.heap.size + 1 = q2.heap.size := (by omega); have hnf1 : ¬ q2.heap.size = w.heap.size + 1 := (by omega); have hGB : q2.heap.size < (q2.alloc (Obj.cells #[.int .i64 0, .slice none 0 0] 28)).heap.size := (by simp); have hB0 : w13.heap.size ≤ (q2.alloc (Obj.cells #[.int .i64 0, .slice none 0 0] 28)).heap.size := Nat.le_trans hG0 (by simp); have c0 := Below.cell_some bq c0; have c1 := Below.cell_some bq c1; have b0 := Below.cell_some bq b0; have b1 := Below.cell_some bq b1; have QB3 := Lib.hid (QB2.out.trans (bq.mono QB2.out.size)); have HOX := Lib.hid hox; have HNX := Lib.hid hnx; clear hbx hbw bq hox hnx)
            | (go_at_call 39; (fail_if_success have hG9 := hG0); refine (implAddAnt_any L AY kY l a y q2 (own_cap (S := pairS) HRQ.out) (HRQ.out.ants)).mono ?_; rintro e q3 ⟨AX, nX, kX, rfl, hnx, hox, hbx⟩; have hbw := hbx; have bq := hbw; have hB0 : w13.heap.size ≤ q2.heap.size := QB2.out.size; have c0 := Below.cell_some bq c0; have c1 := Below.cell_some bq c1; have b0 := Below.cell_some bq b0; have b1 := Below.cell_some bq b1; have QB3 := Lib.hid (QB2.out.trans (bq.mono QB2.out.size)); have HOX := Lib.hid hox; have HNX := Lib.hid hnx; clear hbx hbw bq hox hnx)
            | (go_at_call 39; have hG9 := hG0; refine (implAddAnt_any L AY kY l a y q2 (own_cap (S := pairS) HRQ.out) (HRQ.out.ants)).mono ?_; rintro e q3 ⟨AX, nX, kX, rfl, hnx, hox, hbx⟩; have hbw := hbx; have bq := hbw; have z0 := Below.cell_some bq z0; have z1 := Below.cell_some bq z1; have y0 := frozen_at bq y0 hz; have y1 := frozen_at bq y1 hz; have hGB := hz; have hz := Nat.lt_of_lt_of_le hz bq.size; have hB0 : w13.heap.size ≤ q2.heap.size := QB2.out.size; have c0 := Below.cell_some bq c0; have c1 := Below.cell_some bq c1; have b0 := Below.cell_some bq b0; have b1 := Below.cell_some bq b1; have QB3 := Lib.hid (QB2.out.trans (bq.mono QB2.out.size)); have HOX := Lib.hid hox; have HNX := Lib.hid hnx; clear hbx hbw bq hox hnx))
        all_goals (
          have hnn := HNX.out
          subst hnn
          go_wp2_with fail
          go_meet
          case rel =>
            first
              | exact ⟨q3.heap.size, AX, kX, rfl, rfl, QB3.out.size, by simp, QB3.out.alloc QB3.out.size _, by simp, by simp, ownsRow_base (ownsRow_below HOX.out ((Below.refl _ _).alloc (Nat.le_refl _) _)) hB0, fun b hb e => by have := (World.ownsRow.lt HOX.out b hb).2; omega⟩
              | exact ⟨_, AX, kX, rfl, rfl, hG0, by simpa using hz, (QB3.out.setCell hG0 _).setCell hG0 _, by simp [go_sem, z0], by simp [go_sem, z1], ownsRow_base (ownsRow_setCell_below (ownsRow_setCell_below HOX.out hGB _) hGB _) hB0, fun b hb e => by have := (World.ownsRow.lt HOX.out b hb).1; omega⟩)
      case rest =>
        obtain ⟨g14, A14, k14, hp, hq, hg14, hg14', hbx, t0, t1, ho14, -⟩ := hcut
        subst hp
        subst hq
        obtain ⟨w14, rfl⟩ : ∃ w14, w14 = wc := ⟨_, rfl⟩
        have m0 := Below.cell_some hbx m0
        have m1 := Below.cell_some hbx m1
        have n0 := Below.cell_some hbx n0
        have n1 := Below.cell_some hbx n1
        have HB := Lib.hid (HB.out.trans (hbx.mono HB.out.size))
        have HW := Lib.hid (SlOwn.below (S := pairS) HW.out hbx)
        have HGM := Lib.hid (AntsOwn.below HGM.out hbx)
        have HH := Lib.hid ho14
        clear hbx ho14
        go_wp2_with fail
        refine (eqRod_true (aaL L l a y) A14 A3 k14 k3 (aaA L l a y) _ HVB.out HH.out.ants (AntsOwn.ants HW.out)).mono ?_
        rintro e w15 ⟨rfl, hb15⟩
        have n0 := Below.cell_some hb15 n0
        have n1 := Below.cell_some hb15 n1
        have HB := Lib.hid (HB.out.trans (hb15.mono HB.out.size))
        have HGM := Lib.hid (AntsOwn.below HGM.out hb15)
        clear hb15
        go_wp2_with fail
        refine (heldRod_any (aaL L l a y) A6 k6 (aaA L l a y).length 1 _ (by omega) (by omega) HVB.out HGM.out.ants).mono ?_
        rintro e w16 ⟨rfl, hb16⟩
        have HB := Lib.hid (HB.out.trans (hb16.mono HB.out.size))
        clear hb16
        go_wp2
        go_ret
        exact ⟨ret_bool rfl, HB.out⟩

theorem law (L : Int) (A : Option Addr) (c : Nat) (l : List (Int × Int)) (a y : Int) (w : World) (hn : (l.length : Int) ≤ 9223372036854775807) (hA : AntsAt w A l) :
    Calls Try.prog 10 #[.agg #[.int .i64 L, .slice A l.length c], .agg #[.int .i64 a, .int .i64 y]] w fun e w' => e = .returned (.bool true) ∧ Below w.heap.size w w' := by
  by_cases h : (l.length : Int) ≤ 1048576
  · exact fits L A c l a y w h hA
  · exact big L A c l a y w hn (by omega)

set_option maxRecDepth 100000 in
theorem lifted (os : Os) (started : os.Started) (H : Type) (enc : TypeId × Value → H) :
    ReturnsInHanded {} Try.checked os 10 .any (Rows.fnExactAddAntSpec.pre6 enc Try.prog Try.f10 Rows.fnExactAddAntRow.domain false) (Rows.fnExactAddAntSpec.post enc Try.prog Try.f10 false true false false) := by
  refine returnsInHanded_of_change (C := Try.checked) own started (by kernel_rfl) Try.func10
    (ChangeSpec.witness6 (enc := enc) (C := Try.checked) false ⟨#[], #[.agg #[.int .i64 0, .slice none 0 0], .agg #[.int .i64 0, .int .i64 0]], []⟩ 8 (by kernel_rfl) (by kernel_rfl) (by kernel_rfl) (by kernel_rfl)) ?_
  intro W base args ds gs before hval0 hW hcnd _
  have hval : ∀ (j : Nat) t v, Try.f10.params[j]? = some t → args[j]? = some v → Value.okWide Try.prog W .any base t v := hval0
  have hW' := hW
  obtain ⟨p, q, hA0, hV, rfl, hfz, hnd⟩ := hW
  have hA : DataW.TrodAll enc Try.prog W 0 (fun _ => true) true Try.f10.params.toList args.toList ds p := hA0
  rw [Try.params10] at hA hval
  obtain ⟨v0, vs0, d0, ds0, p0, q0, hargs, rfl, rfl, h0, r0⟩ := trodAll_cons hA
  obtain ⟨v1, vs1, d1, ds1, p1, q1, rfl, rfl, rfl, h1, r1⟩ := trodAll_cons r0
  obtain ⟨rfl, rfl, rfl⟩ := trodAll_nil r1
  obtain rfl : args = #[v0, v1] := by cases args; simp_all
  obtain ⟨rfl, rfl⟩ := trodVars_none hV
  have k0 := h0
  have lt0 : ∀ x ∈ p0, x.block < W.heap.size := by obtain ⟨m, hm⟩ := k0; exact DataW.trod_lt m _ _ _ hm
  obtain ⟨L, A, c, l, rfl, hAt, hlen⟩ := open_rod (hval 0 24 v0 rfl rfl) h0
  have k1 := h1
  have lt1 : ∀ x ∈ p1, x.block < W.heap.size := by obtain ⟨m, hm⟩ := k1; exact DataW.trod_lt m _ _ _ hm
  obtain ⟨a, y, rfl⟩ := open_ant (hval 1 47 v1 rfl rfl) h1
  clear hA0 hval0
  refine (law L A c l a y W hlen hAt).mono fun e W' ⟨he, bel⟩ => ?_
  subst he
  exact ⟨_, rfl, _, _, _, [], _, [], hW', trodAll_mk1 (shut_bool Try.underlying4 _), (trodAll_cons_mk (Below.trod laidOut (by kernel_rfl) (of_decide_eq_true (by kernel_rfl)) k0 bel lt0) (trodAll_cons_mk (Below.trod laidOut (by kernel_rfl) (of_decide_eq_true (by kernel_rfl)) k1 bel lt1) trodAll_mk0)), rfl, bel.frame _, fun h => by cases h⟩

theorem closed : joinedFacts Try.prog 10 Try.f10 Rows.fnExactAddAntSpec Rows.fnExactAddAntRow = true := by
  unfold joinedFacts
  repeat' with_reducible refine and_t ?_ ?_
  · kernel_rfl
  · kernel_rfl
  · kernel_rfl
  · kernel_rfl
  · kernel_rfl
  · kernel_rfl
  · kernel_rfl
  · kernel_rfl
  · kernel_rfl
  · kernel_rfl
  · kernel_rfl
  · kernel_rfl
  · kernel_rfl
  · kernel_rfl
  · kernel_rfl
  · kernel_rfl
  · kernel_rfl
  · kernel_rfl
  · kernel_rfl
  · kernel_rfl
  · kernel_rfl
  · kernel_rfl
  · kernel_rfl
  · kernel_rfl
  · kernel_rfl
  · exact factMayEnter
  · exact factLifts
  · exact factMake
  · kernel_rfl
  · kernel_rfl
  · kernel_rfl
  · kernel_rfl

theorem over : Rows.fnExactAddAntRow.holds Try.pinned (OpenSpec.ofChange Rows.fnExactAddAntSpec) :=
  OpenClaim.holds_of_wide 10 Try.f10 rfl rfl rfl rfl rfl rfl rfl ⟨rfl, rfl, rfl, rfl, rfl⟩ rfl rfl rfl rfl rfl (by kernel_rfl) Try.func10 closed
    (of_decide_eq_true (by kernel_rfl)) (by unfold Func.isWrapper; first | (rw [if_pos (by decide +kernel)]; kernel_rfl) | (rw [if_neg (by decide +kernel)]; exact ⟨rfl, rfl⟩))
    (fun os started H enc _ => lifted os started H enc)

/-- the statement -/
theorem proved : Rows.FnExactAddAntSaid := over
#print axioms proved

end Go.Proofs.Ytdmpgnkiejcljaa.lAddAnt
