/- The law FnExactAddClue returns true at every input, and leaves its arguments as they were. No condition. -/
import Derived.Test.YtenpmjinbjlpbaaRows
import Derived.Test.YtenpmjinbjlpbaaOpenZ
import Derived.Test.YtenpmjinbjlpbaaFactA
import Derived.Test.YtenpmjinbjlpbaaFactB
import Derived.Test.YtenpmjinbjlpbaaFactC
import Derived.Test.YtenpmjinbjlpbaaPuzW
import Derived.Test.YtenpmjinbjlpbaaPzQ
import Derived.Test.YtenpmjinbjlpbaaHelpZ
import Derived.Deep.RegionHeld3
import Derived.Deep.CutRange
namespace Go.Proofs.Ytenpmjinbjlpbaa.lAddClue
open Go.RowKit
open Go.ChangeShapes Go.WideShapes Go.ChangeAt
set_option linter.unusedVariables false

set_option maxHeartbeats 1000000 in
theorem big (L : Int) (A C : Option Addr) (c d : Nat) (l : List Int) (cs : List (Int × Int × Int)) (x1 : Int) (x2 : Int) (x3 : Int) (w : World) (hn : (l.length : Int) ≤ 9223372036854775807) (hm : (cs.length : Int) ≤ 9223372036854775807) (h : (1048576 : Int) < l.length + cs.length) :
    Calls Try.prog 3 #[.agg #[.int .i64 L, .slice A l.length c, .slice C cs.length d], .agg #[.int .i64 x1, .int .i64 x2, .int .i64 x3]] w fun e w' => e = .returned (.bool true) ∧ Below w.heap.size w w' := by
  have H : Hid (∀ w, Calls Try.prog 5 #[.agg #[.int .i64 L, .slice A l.length c, .slice C cs.length d], .int .i64 1048576] w fun e w' => e = .returned (.int .i64 (-1)) ∧ Below w.heap.size w w') :=
    fun w => szPuzzle_big L A C l.length c cs.length d w hn hm h
  clear h hn hm
  go_enter Try.func3, Try.ntmps3
  go_wp2_with fail
  refine (H.out _).mono ?_
  rintro e w1 ⟨rfl, hb⟩
  go_wp2
  go_ret
  exact ⟨ret_bool rfl, (((Below.refl _ _).alloc (Nat.le_refl _) _).alloc (by simp) _).trans (hb.mono (by simp <;> omega))⟩

theorem frozen_at {W w1 : World} {b o : Nat} {v : Bool} (hb : Below W.heap.size W w1) (hc : W.frozen? ⟨b, o, none⟩ = v) (hlt : b < W.heap.size) : w1.frozen? ⟨b, o, none⟩ = v := (hb.frozen (p := ⟨b, o, none⟩) hlt).trans hc
set_option maxRecDepth 100000 in
set_option maxHeartbeats 16000000 in
theorem fits (L : Int) (A C : Option Addr) (c d : Nat) (l : List Int) (cs : List (Int × Int × Int)) (x1 : Int) (x2 : Int) (x3 : Int) (w : World) (h : ¬ (1048576 : Int) < l.length + cs.length) (hA : SlAt intS w A l) (hC : SlAt tripS w C cs) :
    Calls Try.prog 3 #[.agg #[.int .i64 L, .slice A l.length c, .slice C cs.length d], .agg #[.int .i64 x1, .int .i64 x2, .int .i64 x3]] w fun e w' => e = .returned (.bool true) ∧ Below w.heap.size w w' := by
  obtain ⟨r, hr⟩ : ∃ r : Int, r = 1048576 - l.length - cs.length := ⟨_, rfl⟩
  have HSZ : Hid (∀ w, Calls Try.prog 5 #[.agg #[.int .i64 L, .slice A l.length c, .slice C cs.length d], .int .i64 1048576] w fun e w' => e = .returned (.int .i64 r) ∧ Below w.heap.size w w') :=
    fun w => by rw [hr]; exact szPuzzle_fits L A C l.length c cs.length d w h
  have hz : ¬ r < 0 := by omega
  have hl : (l.length : Int) ≤ 1048576 := by omega
  have hcs : (cs.length : Int) ≤ 1048576 := by omega
  have hl9 : (l.length : Int) ≤ 9223372036854775807 := by omega
  have hcs9 : (cs.length : Int) ≤ 9223372036854775807 := by omega
  have hvb : (((acP L l cs x1 x2 x3).length : Nat) : Int) ≤ 1048576 := (by have := acP_len L l cs x1 x2 x3; omega)
  have hvc : (((acC L l cs x1 x2 x3).length : Nat) : Int) ≤ 1048576 := (by have := acC_len L l cs x1 x2 x3; omega)
  have HVB := Lib.hid hvb
  have HVC := Lib.hid hvc
  clear hvb hvc
  have HA0 := Lib.hid hA
  have HC0 := Lib.hid hC
  clear hA hC h hr
  go_enter Try.func3, Try.ntmps3
  go_wp2_with fail
  refine (HSZ.out _).mono ?_
  rintro e w1 ⟨rfl, hb1⟩
  have HB1 : Hid (Below w.heap.size w w1) := (((Below.refl _ w).alloc (Nat.le_refl _) _).alloc (by simp) _).trans (hb1.mono (by simp <;> omega))
  have s1 : w.heap.size + 2 ≤ w1.heap.size := by have := hb1.size; simp at this; omega
  have c0 : w1.cell? ⟨w.heap.size, 0, none⟩ = some (.int .i64 L) := by rw [hb1.cell (p := ⟨w.heap.size, 0, none⟩) (by simp <;> omega)]; simp [go_sem]
  have c1 : w1.cell? ⟨w.heap.size, 1, none⟩ = some (.slice A l.length c) := by rw [hb1.cell (p := ⟨w.heap.size, 1, none⟩) (by simp <;> omega)]; simp [go_sem]
  have c2 : w1.cell? ⟨w.heap.size, 2, none⟩ = some (.slice C cs.length d) := by rw [hb1.cell (p := ⟨w.heap.size, 2, none⟩) (by simp <;> omega)]; simp [go_sem]
  have e0 : w1.cell? ⟨w.heap.size + 1, 0, none⟩ = some (.int .i64 x1) := by rw [hb1.cell (p := ⟨w.heap.size + 1, 0, none⟩) (by simp <;> omega)]; simp [go_sem]
  have e1 : w1.cell? ⟨w.heap.size + 1, 1, none⟩ = some (.int .i64 x2) := by rw [hb1.cell (p := ⟨w.heap.size + 1, 1, none⟩) (by simp <;> omega)]; simp [go_sem]
  have e2 : w1.cell? ⟨w.heap.size + 1, 2, none⟩ = some (.int .i64 x3) := by rw [hb1.cell (p := ⟨w.heap.size + 1, 2, none⟩) (by simp <;> omega)]; simp [go_sem]
  clear hb1
  go_upto_region 5 with fail
  have HAQ := Lib.hid (HA0.out.below HB1.out)
  have HCQ := Lib.hid (HC0.out.below HB1.out)
  go_cut [6, 7] from 21 to 28 (fun p q wx => ∃ (g lo hi : Nat) (AR : Option Addr) (kR : Nat) (CR : Option Addr) (jR : Nat), p = .pointer (some ⟨g, 0, none⟩) ∧ q = .bool (acOk L l cs x1 x2 x3) ∧ w1.heap.size ≤ g ∧ g < wx.heap.size ∧ (g < lo ∨ hi ≤ g) ∧ w1.heap.size ≤ lo ∧ hi ≤ wx.heap.size ∧ Below w1.heap.size w1 wx ∧ wx.cell? ⟨g, 0, none⟩ = some (.int .i64 (acL L l cs x1 x2 x3)) ∧ wx.cell? ⟨g, 1, none⟩ = some (.slice AR (acP L l cs x1 x2 x3).length kR) ∧ wx.cell? ⟨g, 2, none⟩ = some (.slice CR (acC L l cs x1 x2 x3).length jR) ∧ SlOwn intS wx w1.heap.size 3 (.slice AR (acP L l cs x1 x2 x3).length kR) (acP L l cs x1 x2 x3) ∧ SlOwn tripS wx w1.heap.size 35 (.slice CR (acC L l cs x1 x2 x3).length jR) (acC L l cs x1 x2 x3) ∧ (∀ b, (Value.slice AR (acP L l cs x1 x2 x3).length kR).ownBlock = some b → lo ≤ b ∧ b < hi) ∧ (∀ b, (Value.slice CR (acC L l cs x1 x2 x3).length jR).ownBlock = some b → lo ≤ b ∧ b < hi))
  case first =>
    have QB0 := Lib.hid (Below.refl w1.heap.size w1)
    go_region_held3 (fun w' => w'.cell? ⟨w.heap.size, 0, none⟩ = some (.int .i64 L) ∧ w'.cell? ⟨w.heap.size, 1, none⟩ = some (.slice A l.length c) ∧ w'.cell? ⟨w.heap.size, 2, none⟩ = some (.slice C cs.length d) ∧ w'.cell? ⟨w.heap.size + 1, 0, none⟩ = some (.int .i64 x1) ∧ w'.cell? ⟨w.heap.size + 1, 1, none⟩ = some (.int .i64 x2) ∧ w'.cell? ⟨w.heap.size + 1, 2, none⟩ = some (.int .i64 x3))
      (first | exact ⟨c0, c1, c2, e0, e1, e2⟩ | exact ⟨alloc_some c0 _, alloc_some c1 _, alloc_some c2 _, alloc_some e0 _, alloc_some e1 _, alloc_some e2 _⟩ | go_keep | (refine ⟨?_, ?_, ?_, ?_, ?_, ?_⟩ <;> (simp [go_sem, *]; done)))
      (first
        | (go_at_call 7; refine (toPuzzle_any L A C c d l cs (w1.alloc (Obj.cells #[.int .i64 0, .slice none 0 0, .slice none 0 0] 31)).drew hl hcs (HAQ.out.alloc _) (HCQ.out.alloc _)).mono ?_; rintro e q1 ⟨AY, kY, CY, jY, rfl, hox, hpx, hbx⟩; have hbw := below_drew hbx; have bq : Below w1.heap.size w1 q1 := ((Below.refl _ _).alloc (Nat.le_refl _) (Obj.cells #[.int .i64 0, .slice none 0 0, .slice none 0 0] 31)).trans (hbw.mono (by simp)); have z0 : q1.cell? ⟨w1.heap.size, 0, none⟩ = some (.int .i64 0) := Below.cell_some hbw (by simp [go_sem]); have y0 : q1.frozen? ⟨w1.heap.size, 0, none⟩ = false := (hbw.frozen (p := ⟨w1.heap.size, 0, none⟩) (by simp)).trans (by simp [go_sem]); have z1 : q1.cell? ⟨w1.heap.size, 1, none⟩ = some (.slice none 0 0) := Below.cell_some hbw (by simp [go_sem]); have y1 : q1.frozen? ⟨w1.heap.size, 1, none⟩ = false := (hbw.frozen (p := ⟨w1.heap.size, 1, none⟩) (by simp)).trans (by simp [go_sem]); have z2 : q1.cell? ⟨w1.heap.size, 2, none⟩ = some (.slice none 0 0) := Below.cell_some hbw (by simp [go_sem]); have y2 : q1.frozen? ⟨w1.heap.size, 2, none⟩ = false := (hbw.frozen (p := ⟨w1.heap.size, 2, none⟩) (by simp)).trans (by simp [go_sem]); have hz : w1.heap.size < q1.heap.size := Nat.lt_of_lt_of_le (by simp) hbw.size; have hG0 : w1.heap.size ≤ w1.heap.size := QB0.out.size; have hqs := QB0.out.size; have hne0 : ¬ w.heap.size = w1.heap.size := (by omega); have hnf0 : ¬ w1.heap.size = w.heap.size := (by omega); have hne1 : ¬ w.heap.size + 1 = w1.heap.size := (by omega); have hnf1 : ¬ w1.heap.size = w.heap.size + 1 := (by omega); have c0 := Below.cell_some bq c0; have c1 := Below.cell_some bq c1; have c2 := Below.cell_some bq c2; have e0 := Below.cell_some bq e0; have e1 := Below.cell_some bq e1; have e2 := Below.cell_some bq e2; have QB1 := Lib.hid (QB0.out.trans (bq.mono QB0.out.size)); have HRQ := Lib.hid hox; have HSQ := Lib.hid hpx; clear hbx hbw bq hox hpx)
        | (go_at_call 7; refine (toPuzzle_any L A C c d l cs w1.drew hl hcs (HAQ.out) (HCQ.out)).mono ?_; rintro e q1 ⟨AY, kY, CY, jY, rfl, hox, hpx, hbx⟩; have hbw := below_drew hbx; have bq := hbw; have c0 := Below.cell_some bq c0; have c1 := Below.cell_some bq c1; have c2 := Below.cell_some bq c2; have e0 := Below.cell_some bq e0; have e1 := Below.cell_some bq e1; have e2 := Below.cell_some bq e2; have QB1 := Lib.hid (QB0.out.trans (bq.mono QB0.out.size)); have HRQ := Lib.hid hox; have HSQ := Lib.hid hpx; clear hbx hbw bq hox hpx)
        | (go_at_call 8; refine (toClue_any x1 x2 x3 (q1.alloc (Obj.cells #[.int .i64 0, .slice none 0 0, .slice none 0 0] 31))).mono ?_; rintro e q2 ⟨rfl, hbx⟩; have hbw := hbx; have bq : Below q1.heap.size q1 q2 := ((Below.refl _ _).alloc (Nat.le_refl _) (Obj.cells #[.int .i64 0, .slice none 0 0, .slice none 0 0] 31)).trans (hbw.mono (by simp)); have z0 : q2.cell? ⟨q1.heap.size, 0, none⟩ = some (.int .i64 0) := Below.cell_some hbw (by simp [go_sem]); have y0 : q2.frozen? ⟨q1.heap.size, 0, none⟩ = false := (hbw.frozen (p := ⟨q1.heap.size, 0, none⟩) (by simp)).trans (by simp [go_sem]); have z1 : q2.cell? ⟨q1.heap.size, 1, none⟩ = some (.slice none 0 0) := Below.cell_some hbw (by simp [go_sem]); have y1 : q2.frozen? ⟨q1.heap.size, 1, none⟩ = false := (hbw.frozen (p := ⟨q1.heap.size, 1, none⟩) (by simp)).trans (by simp [go_sem]); have z2 : q2.cell? ⟨q1.heap.size, 2, none⟩ = some (.slice none 0 0) := Below.cell_some hbw (by simp [go_sem]); have y2 : q2.frozen? ⟨q1.heap.size, 2, none⟩ = false := (hbw.frozen (p := ⟨q1.heap.size, 2, none⟩) (by simp)).trans (by simp [go_sem]); have hz : q1.heap.size < q2.heap.size := Nat.lt_of_lt_of_le (by simp) hbw.size; have hG0 : w1.heap.size ≤ q1.heap.size := QB1.out.size; have hqs := QB1.out.size; have hne0 : ¬ w.heap.size = q1.heap.size := (by omega); have hnf0 : ¬ q1.heap.size = w.heap.size := (by omega); have hne1 : ¬ w.heap.size + 1 = q1.heap.size := (by omega); have hnf1 : ¬ q1.heap.size = w.heap.size + 1 := (by omega); have c0 := Below.cell_some bq c0; have c1 := Below.cell_some bq c1; have c2 := Below.cell_some bq c2; have e0 := Below.cell_some bq e0; have e1 := Below.cell_some bq e1; have e2 := Below.cell_some bq e2; have QB2 := Lib.hid (QB1.out.trans (bq.mono QB1.out.size)); have HRQ := Lib.hid (SlOwn.below HRQ.out bq); have HSQ := Lib.hid (SlOwn.below HSQ.out bq); clear hbx hbw bq)
        | (go_at_call 8; (fail_if_success have hG9 := hG0); refine (toClue_any x1 x2 x3 q1).mono ?_; rintro e q2 ⟨rfl, hbx⟩; have hbw := hbx; have bq := hbw; have c0 := Below.cell_some bq c0; have c1 := Below.cell_some bq c1; have c2 := Below.cell_some bq c2; have e0 := Below.cell_some bq e0; have e1 := Below.cell_some bq e1; have e2 := Below.cell_some bq e2; have QB2 := Lib.hid (QB1.out.trans (bq.mono QB1.out.size)); have HRQ := Lib.hid (SlOwn.below HRQ.out bq); have HSQ := Lib.hid (SlOwn.below HSQ.out bq); clear hbx hbw bq)
        | (go_at_call 8; have hG9 := hG0; refine (toClue_any x1 x2 x3 q1).mono ?_; rintro e q2 ⟨rfl, hbx⟩; have hbw := hbx; have bq := hbw; have z0 := Below.cell_some bq z0; have y0 := frozen_at bq y0 hz; have z1 := Below.cell_some bq z1; have y1 := frozen_at bq y1 hz; have z2 := Below.cell_some bq z2; have y2 := frozen_at bq y2 hz; have hz := Nat.lt_of_lt_of_le hz bq.size; have c0 := Below.cell_some bq c0; have c1 := Below.cell_some bq c1; have c2 := Below.cell_some bq c2; have e0 := Below.cell_some bq e0; have e1 := Below.cell_some bq e1; have e2 := Below.cell_some bq e2; have QB2 := Lib.hid (QB1.out.trans (bq.mono QB1.out.size)); have HRQ := Lib.hid (SlOwn.below HRQ.out bq); have HSQ := Lib.hid (SlOwn.below HSQ.out bq); clear hbx hbw bq)
        | (go_at_call 6; refine (specAddClue_any L AY CY kY jY l cs x1 x2 x3 (q2.alloc (Obj.cells #[.int .i64 0, .slice none 0 0, .slice none 0 0] 31)) (own_cap (S := tripS) HSQ.out) hl9 hcs9 (HRQ.out.sl.alloc _) (HSQ.out.sl.alloc _)).mono ?_; rintro e q3 ⟨AX, nX, kX, CX, mX, jX, rfl, hnx, hmx, hox, hpx, hbx⟩; have hbw := hbx; have bq : Below q2.heap.size q2 q3 := ((Below.refl _ _).alloc (Nat.le_refl _) (Obj.cells #[.int .i64 0, .slice none 0 0, .slice none 0 0] 31)).trans (hbw.mono (by simp)); have z0 : q3.cell? ⟨q2.heap.size, 0, none⟩ = some (.int .i64 0) := Below.cell_some hbw (by simp [go_sem]); have y0 : q3.frozen? ⟨q2.heap.size, 0, none⟩ = false := (hbw.frozen (p := ⟨q2.heap.size, 0, none⟩) (by simp)).trans (by simp [go_sem]); have z1 : q3.cell? ⟨q2.heap.size, 1, none⟩ = some (.slice none 0 0) := Below.cell_some hbw (by simp [go_sem]); have y1 : q3.frozen? ⟨q2.heap.size, 1, none⟩ = false := (hbw.frozen (p := ⟨q2.heap.size, 1, none⟩) (by simp)).trans (by simp [go_sem]); have z2 : q3.cell? ⟨q2.heap.size, 2, none⟩ = some (.slice none 0 0) := Below.cell_some hbw (by simp [go_sem]); have y2 : q3.frozen? ⟨q2.heap.size, 2, none⟩ = false := (hbw.frozen (p := ⟨q2.heap.size, 2, none⟩) (by simp)).trans (by simp [go_sem]); have hz : q2.heap.size < q3.heap.size := Nat.lt_of_lt_of_le (by simp) hbw.size; have hG0 : w1.heap.size ≤ q2.heap.size := QB2.out.size; have hqs := QB2.out.size; have hne0 : ¬ w.heap.size = q2.heap.size := (by omega); have hnf0 : ¬ q2.heap.size = w.heap.size := (by omega); have hne1 : ¬ w.heap.size + 1 = q2.heap.size := (by omega); have hnf1 : ¬ q2.heap.size = w.heap.size + 1 := (by omega); have hGB : q2.heap.size < (q2.alloc (Obj.cells #[.int .i64 0, .slice none 0 0, .slice none 0 0] 31)).heap.size := (by simp); have hB0 : w1.heap.size ≤ (q2.alloc (Obj.cells #[.int .i64 0, .slice none 0 0, .slice none 0 0] 31)).heap.size := Nat.le_trans hG0 (by simp); have c0 := Below.cell_some bq c0; have c1 := Below.cell_some bq c1; have c2 := Below.cell_some bq c2; have e0 := Below.cell_some bq e0; have e1 := Below.cell_some bq e1; have e2 := Below.cell_some bq e2; have QB3 := Lib.hid (QB2.out.trans (bq.mono QB2.out.size)); have HOX := Lib.hid hox; have HPX := Lib.hid hpx; have HNX := Lib.hid hnx; have HMX := Lib.hid hmx; clear hbx hbw bq hox hpx hnx hmx)
        | (go_at_call 6; (fail_if_success have hG9 := hG0); refine (specAddClue_any L AY CY kY jY l cs x1 x2 x3 q2 (own_cap (S := tripS) HSQ.out) hl9 hcs9 (HRQ.out.sl) (HSQ.out.sl)).mono ?_; rintro e q3 ⟨AX, nX, kX, CX, mX, jX, rfl, hnx, hmx, hox, hpx, hbx⟩; have hbw := hbx; have bq := hbw; have hB0 : w1.heap.size ≤ q2.heap.size := QB2.out.size; have c0 := Below.cell_some bq c0; have c1 := Below.cell_some bq c1; have c2 := Below.cell_some bq c2; have e0 := Below.cell_some bq e0; have e1 := Below.cell_some bq e1; have e2 := Below.cell_some bq e2; have QB3 := Lib.hid (QB2.out.trans (bq.mono QB2.out.size)); have HOX := Lib.hid hox; have HPX := Lib.hid hpx; have HNX := Lib.hid hnx; have HMX := Lib.hid hmx; clear hbx hbw bq hox hpx hnx hmx)
        | (go_at_call 6; have hG9 := hG0; refine (specAddClue_any L AY CY kY jY l cs x1 x2 x3 q2 (own_cap (S := tripS) HSQ.out) hl9 hcs9 (HRQ.out.sl) (HSQ.out.sl)).mono ?_; rintro e q3 ⟨AX, nX, kX, CX, mX, jX, rfl, hnx, hmx, hox, hpx, hbx⟩; have hbw := hbx; have bq := hbw; have z0 := Below.cell_some bq z0; have y0 := frozen_at bq y0 hz; have z1 := Below.cell_some bq z1; have y1 := frozen_at bq y1 hz; have z2 := Below.cell_some bq z2; have y2 := frozen_at bq y2 hz; have hGB := hz; have hz := Nat.lt_of_lt_of_le hz bq.size; have hB0 : w1.heap.size ≤ q2.heap.size := QB2.out.size; have c0 := Below.cell_some bq c0; have c1 := Below.cell_some bq c1; have c2 := Below.cell_some bq c2; have e0 := Below.cell_some bq e0; have e1 := Below.cell_some bq e1; have e2 := Below.cell_some bq e2; have QB3 := Lib.hid (QB2.out.trans (bq.mono QB2.out.size)); have HOX := Lib.hid hox; have HPX := Lib.hid hpx; have HNX := Lib.hid hnx; have HMX := Lib.hid hmx; clear hbx hbw bq hox hpx hnx hmx))
    all_goals (
      have hnn := HNX.out
      subst hnn
      have hmm := HMX.out
      subst hmm
      go_wp2_with fail
      go_meet
      case rel =>
        first
          | exact ⟨q3.heap.size, q2.heap.size, q3.heap.size, AX, kX, CX, jX, rfl, rfl, QB3.out.size, by simp, .inr (Nat.le_refl _), QB2.out.size, by simp, QB3.out.alloc QB3.out.size _, by simp, by simp, by simp, ownsRow_base (ownsRow_below HOX.out ((Below.refl _ _).alloc (Nat.le_refl _) _)) hB0, ownsRow_base (ownsRow_below HPX.out ((Below.refl _ _).alloc (Nat.le_refl _) _)) hB0, fun b hb => World.ownsRow.lt HOX.out b hb, fun b hb => World.ownsRow.lt HPX.out b hb⟩
          | exact ⟨_, _, q3.heap.size, AX, kX, CX, jX, rfl, rfl, hG0, by simpa using hz, .inl hGB, hB0, by simp, ((QB3.out.setCell hG0 _).setCell hG0 _).setCell hG0 _, by simp [go_sem, z0], by simp [go_sem, z1], by simp [go_sem, z2], ownsRow_base (ownsRow_setCell_below (ownsRow_setCell_below (ownsRow_setCell_below HOX.out hGB _) hGB _) hGB _) hB0, ownsRow_base (ownsRow_setCell_below (ownsRow_setCell_below (ownsRow_setCell_below HPX.out hGB _) hGB _) hGB _) hB0, fun b hb => World.ownsRow.lt HOX.out b hb, fun b hb => World.ownsRow.lt HPX.out b hb⟩)
  obtain ⟨g2, lo2, hi2, A2, k2, C2, j2, hp, hq, hga2, hgb2, hgc2, hlo2, hhi2, hb2, m0, m1, m2, ho2, hp2, hia2, hic2⟩ := hcut
  subst hp
  subst hq
  obtain ⟨w2, rfl⟩ : ∃ w2, w2 = wc := ⟨_, rfl⟩
  have s2 : w1.heap.size ≤ w2.heap.size := hb2.size
  have HB2 : Hid (Below w.heap.size w w2) := HB1.out.trans (hb2.mono HB1.out.size)
  have c0 := Below.cell_some hb2 c0
  have c1 := Below.cell_some hb2 c1
  have c2 := Below.cell_some hb2 c2
  have e0 := Below.cell_some hb2 e0
  have e1 := Below.cell_some hb2 e1
  have e2 := Below.cell_some hb2 e2
  have IWa := Lib.hid hia2
  have HWa2 := Lib.hid ho2
  have IWc := Lib.hid hic2
  have HWc2 := Lib.hid hp2
  clear hb2 ho2 hp2 hia2 hic2
  clear HAQ HCQ
  go_wp2_with fail
  refine (toPuzzle_any L A C c d l cs _ hl hcs (HA0.out.below HB2.out) (HC0.out.below HB2.out)).mono ?_
  rintro e w3 ⟨A3, k3, C3, j3, rfl, ho3, hp3, hb3⟩
  have s3 : w2.heap.size ≤ w3.heap.size := hb3.size
  have HB3 : Hid (Below w.heap.size w w3) := HB2.out.trans (hb3.mono HB2.out.size)
  have c0 := Below.cell_some hb3 c0
  have c1 := Below.cell_some hb3 c1
  have c2 := Below.cell_some hb3 c2
  have e0 := Below.cell_some hb3 e0
  have e1 := Below.cell_some hb3 e1
  have e2 := Below.cell_some hb3 e2
  have m0 := Below.cell_some hb3 m0
  have m1 := Below.cell_some hb3 m1
  have m2 := Below.cell_some hb3 m2
  have HWa3 := Lib.hid (SlOwn.below HWa2.out hb3)
  have HWc3 := Lib.hid (SlOwn.below HWc2.out hb3)
  have IXa : Hid (∀ b, (Value.slice A3 l.length k3).ownBlock = some b → w2.heap.size ≤ b ∧ b < w3.heap.size) := World.ownsRow.lt ho3
  have HXa3 := Lib.hid ho3
  have IXc : Hid (∀ b, (Value.slice C3 cs.length j3).ownBlock = some b → w2.heap.size ≤ b ∧ b < w3.heap.size) := World.ownsRow.lt hp3
  have HXc3 := Lib.hid hp3
  clear hb3 ho3 hp3
  obtain ⟨w4, hw4⟩ : ∃ W, W = w3.alloc (Obj.cells #[Value.int IntKind.i64 L, Value.slice A3 l.length k3, Value.slice C3 cs.length j3] 31) := ⟨_, rfl⟩
  have hb4 : Below w3.heap.size w3 w4 := by rw [hw4]; exact (Below.refl _ _).alloc (Nat.le_refl _) _
  have s4 : w3.heap.size + 1 ≤ w4.heap.size := by rw [hw4]; simp
  have HB4 : Hid (Below w.heap.size w w4) := HB3.out.trans (hb4.mono HB3.out.size)
  have yc0 := alloc_some c0 (Obj.cells #[Value.int IntKind.i64 L, Value.slice A3 l.length k3, Value.slice C3 cs.length j3] 31)
  have yc1 := alloc_some c1 (Obj.cells #[Value.int IntKind.i64 L, Value.slice A3 l.length k3, Value.slice C3 cs.length j3] 31)
  have yc2 := alloc_some c2 (Obj.cells #[Value.int IntKind.i64 L, Value.slice A3 l.length k3, Value.slice C3 cs.length j3] 31)
  have ye0 := alloc_some e0 (Obj.cells #[Value.int IntKind.i64 L, Value.slice A3 l.length k3, Value.slice C3 cs.length j3] 31)
  have ye1 := alloc_some e1 (Obj.cells #[Value.int IntKind.i64 L, Value.slice A3 l.length k3, Value.slice C3 cs.length j3] 31)
  have ye2 := alloc_some e2 (Obj.cells #[Value.int IntKind.i64 L, Value.slice A3 l.length k3, Value.slice C3 cs.length j3] 31)
  have ym0 := alloc_some m0 (Obj.cells #[Value.int IntKind.i64 L, Value.slice A3 l.length k3, Value.slice C3 cs.length j3] 31)
  have ym1 := alloc_some m1 (Obj.cells #[Value.int IntKind.i64 L, Value.slice A3 l.length k3, Value.slice C3 cs.length j3] 31)
  have ym2 := alloc_some m2 (Obj.cells #[Value.int IntKind.i64 L, Value.slice A3 l.length k3, Value.slice C3 cs.length j3] 31)
  have c0 := Below.cell_some hb4 c0
  have c1 := Below.cell_some hb4 c1
  have c2 := Below.cell_some hb4 c2
  have e0 := Below.cell_some hb4 e0
  have e1 := Below.cell_some hb4 e1
  have e2 := Below.cell_some hb4 e2
  have m0 := Below.cell_some hb4 m0
  have m1 := Below.cell_some hb4 m1
  have m2 := Below.cell_some hb4 m2
  have HWa4 := Lib.hid (SlOwn.below HWa3.out hb4)
  have HWc4 := Lib.hid (SlOwn.below HWc3.out hb4)
  have HXa4 := Lib.hid (SlOwn.below HXa3.out hb4)
  have HXc4 := Lib.hid (SlOwn.below HXc3.out hb4)
  have d0 : w4.cell? ⟨w3.heap.size, 0, none⟩ = some (.int .i64 L) := by rw [hw4]; simp [go_sem]
  have d1 : w4.cell? ⟨w3.heap.size, 1, none⟩ = some (.slice A3 l.length k3) := by rw [hw4]; simp [go_sem]
  have d2 : w4.cell? ⟨w3.heap.size, 2, none⟩ = some (.slice C3 cs.length j3) := by rw [hw4]; simp [go_sem]
  clear hb4
  go_upto_region 7 with fail
  try rw [← hw4]
  clear hw4 yc0 yc1 yc2 ye0 ye1 ye2 ym0 ym1 ym2
  have HRQ := Lib.hid HXa4.out
  have HSQ := Lib.hid HXc4.out
  go_cut [9, 10] from 31 to 37 (fun p q wx => ∃ (g lo hi : Nat) (AR : Option Addr) (kR : Nat) (CR : Option Addr) (jR : Nat), p = .pointer (some ⟨g, 0, none⟩) ∧ q = .bool (acOk L l cs x1 x2 x3) ∧ w4.heap.size ≤ g ∧ g < wx.heap.size ∧ (g < lo ∨ hi ≤ g) ∧ w4.heap.size ≤ lo ∧ hi ≤ wx.heap.size ∧ Below w4.heap.size w4 wx ∧ wx.cell? ⟨g, 0, none⟩ = some (.int .i64 (acL L l cs x1 x2 x3)) ∧ wx.cell? ⟨g, 1, none⟩ = some (.slice AR (acP L l cs x1 x2 x3).length kR) ∧ wx.cell? ⟨g, 2, none⟩ = some (.slice CR (acC L l cs x1 x2 x3).length jR) ∧ SlOwn intS wx w4.heap.size 3 (.slice AR (acP L l cs x1 x2 x3).length kR) (acP L l cs x1 x2 x3) ∧ SlOwn tripS wx w4.heap.size 35 (.slice CR (acC L l cs x1 x2 x3).length jR) (acC L l cs x1 x2 x3) ∧ (∀ b, (Value.slice AR (acP L l cs x1 x2 x3).length kR).ownBlock = some b → lo ≤ b ∧ b < hi) ∧ (∀ b, (Value.slice CR (acC L l cs x1 x2 x3).length jR).ownBlock = some b → lo ≤ b ∧ b < hi))
  case first =>
    have QB0 := Lib.hid (Below.refl w4.heap.size w4)
    go_region_held3 (fun w' => w'.cell? ⟨w3.heap.size, 0, none⟩ = some (.int .i64 L) ∧ w'.cell? ⟨w3.heap.size, 1, none⟩ = some (.slice A3 l.length k3) ∧ w'.cell? ⟨w3.heap.size, 2, none⟩ = some (.slice C3 cs.length j3) ∧ w'.cell? ⟨w.heap.size + 1, 0, none⟩ = some (.int .i64 x1) ∧ w'.cell? ⟨w.heap.size + 1, 1, none⟩ = some (.int .i64 x2) ∧ w'.cell? ⟨w.heap.size + 1, 2, none⟩ = some (.int .i64 x3))
      (first | exact ⟨d0, d1, d2, e0, e1, e2⟩ | exact ⟨alloc_some d0 _, alloc_some d1 _, alloc_some d2 _, alloc_some e0 _, alloc_some e1 _, alloc_some e2 _⟩ | go_keep | (refine ⟨?_, ?_, ?_, ?_, ?_, ?_⟩ <;> (simp [go_sem, *]; done)))
      (first
        | (go_at_call 8; refine (toClue_any x1 x2 x3 (w4.alloc (Obj.cells #[.int .i64 0, .slice none 0 0, .slice none 0 0] 31)).drew).mono ?_; rintro e q1 ⟨rfl, hbx⟩; have hbw := below_drew hbx; have bq : Below w4.heap.size w4 q1 := ((Below.refl _ _).alloc (Nat.le_refl _) (Obj.cells #[.int .i64 0, .slice none 0 0, .slice none 0 0] 31)).trans (hbw.mono (by simp)); have z0 : q1.cell? ⟨w4.heap.size, 0, none⟩ = some (.int .i64 0) := Below.cell_some hbw (by simp [go_sem]); have y0 : q1.frozen? ⟨w4.heap.size, 0, none⟩ = false := (hbw.frozen (p := ⟨w4.heap.size, 0, none⟩) (by simp)).trans (by simp [go_sem]); have z1 : q1.cell? ⟨w4.heap.size, 1, none⟩ = some (.slice none 0 0) := Below.cell_some hbw (by simp [go_sem]); have y1 : q1.frozen? ⟨w4.heap.size, 1, none⟩ = false := (hbw.frozen (p := ⟨w4.heap.size, 1, none⟩) (by simp)).trans (by simp [go_sem]); have z2 : q1.cell? ⟨w4.heap.size, 2, none⟩ = some (.slice none 0 0) := Below.cell_some hbw (by simp [go_sem]); have y2 : q1.frozen? ⟨w4.heap.size, 2, none⟩ = false := (hbw.frozen (p := ⟨w4.heap.size, 2, none⟩) (by simp)).trans (by simp [go_sem]); have hz : w4.heap.size < q1.heap.size := Nat.lt_of_lt_of_le (by simp) hbw.size; have hG0 : w4.heap.size ≤ w4.heap.size := QB0.out.size; have hqs := QB0.out.size; have hne0 : ¬ w.heap.size + 1 = w4.heap.size := (by omega); have hnf0 : ¬ w4.heap.size = w.heap.size + 1 := (by omega); have hne1 : ¬ w3.heap.size = w4.heap.size := (by omega); have hnf1 : ¬ w4.heap.size = w3.heap.size := (by omega); have d0 := Below.cell_some bq d0; have d1 := Below.cell_some bq d1; have d2 := Below.cell_some bq d2; have e0 := Below.cell_some bq e0; have e1 := Below.cell_some bq e1; have e2 := Below.cell_some bq e2; have QB1 := Lib.hid (QB0.out.trans (bq.mono QB0.out.size)); have HRQ := Lib.hid (SlOwn.below HRQ.out bq); have HSQ := Lib.hid (SlOwn.below HSQ.out bq); clear hbx hbw bq)
        | (go_at_call 8; refine (toClue_any x1 x2 x3 w4.drew).mono ?_; rintro e q1 ⟨rfl, hbx⟩; have hbw := below_drew hbx; have bq := hbw; have d0 := Below.cell_some bq d0; have d1 := Below.cell_some bq d1; have d2 := Below.cell_some bq d2; have e0 := Below.cell_some bq e0; have e1 := Below.cell_some bq e1; have e2 := Below.cell_some bq e2; have QB1 := Lib.hid (QB0.out.trans (bq.mono QB0.out.size)); have HRQ := Lib.hid (SlOwn.below HRQ.out bq); have HSQ := Lib.hid (SlOwn.below HSQ.out bq); clear hbx hbw bq)
        | (go_at_call 9; refine (implAddClue_any L A3 C3 k3 j3 l cs x1 x2 x3 (q1.alloc (Obj.cells #[.int .i64 0, .slice none 0 0, .slice none 0 0] 31)) (own_cap (S := tripS) HSQ.out) hl9 hcs9 (HRQ.out.sl.alloc _) (HSQ.out.sl.alloc _)).mono ?_; rintro e q2 ⟨AX, nX, kX, CX, mX, jX, rfl, hnx, hmx, hox, hpx, hbx⟩; have hbw := hbx; have bq : Below q1.heap.size q1 q2 := ((Below.refl _ _).alloc (Nat.le_refl _) (Obj.cells #[.int .i64 0, .slice none 0 0, .slice none 0 0] 31)).trans (hbw.mono (by simp)); have z0 : q2.cell? ⟨q1.heap.size, 0, none⟩ = some (.int .i64 0) := Below.cell_some hbw (by simp [go_sem]); have y0 : q2.frozen? ⟨q1.heap.size, 0, none⟩ = false := (hbw.frozen (p := ⟨q1.heap.size, 0, none⟩) (by simp)).trans (by simp [go_sem]); have z1 : q2.cell? ⟨q1.heap.size, 1, none⟩ = some (.slice none 0 0) := Below.cell_some hbw (by simp [go_sem]); have y1 : q2.frozen? ⟨q1.heap.size, 1, none⟩ = false := (hbw.frozen (p := ⟨q1.heap.size, 1, none⟩) (by simp)).trans (by simp [go_sem]); have z2 : q2.cell? ⟨q1.heap.size, 2, none⟩ = some (.slice none 0 0) := Below.cell_some hbw (by simp [go_sem]); have y2 : q2.frozen? ⟨q1.heap.size, 2, none⟩ = false := (hbw.frozen (p := ⟨q1.heap.size, 2, none⟩) (by simp)).trans (by simp [go_sem]); have hz : q1.heap.size < q2.heap.size := Nat.lt_of_lt_of_le (by simp) hbw.size; have hG0 : w4.heap.size ≤ q1.heap.size := QB1.out.size; have hqs := QB1.out.size; have hne0 : ¬ w.heap.size + 1 = q1.heap.size := (by omega); have hnf0 : ¬ q1.heap.size = w.heap.size + 1 := (by omega); have hne1 : ¬ w3.heap.size = q1.heap.size := (by omega); have hnf1 : ¬ q1.heap.size = w3.heap.size := (by omega); have hGB : q1.heap.size < (q1.alloc (Obj.cells #[.int .i64 0, .slice none 0 0, .slice none 0 0] 31)).heap.size := (by simp); have hB0 : w4.heap.size ≤ (q1.alloc (Obj.cells #[.int .i64 0, .slice none 0 0, .slice none 0 0] 31)).heap.size := Nat.le_trans hG0 (by simp); have d0 := Below.cell_some bq d0; have d1 := Below.cell_some bq d1; have d2 := Below.cell_some bq d2; have e0 := Below.cell_some bq e0; have e1 := Below.cell_some bq e1; have e2 := Below.cell_some bq e2; have QB2 := Lib.hid (QB1.out.trans (bq.mono QB1.out.size)); have HOX := Lib.hid hox; have HPX := Lib.hid hpx; have HNX := Lib.hid hnx; have HMX := Lib.hid hmx; clear hbx hbw bq hox hpx hnx hmx)
        | (go_at_call 9; (fail_if_success have hG9 := hG0); refine (implAddClue_any L A3 C3 k3 j3 l cs x1 x2 x3 q1 (own_cap (S := tripS) HSQ.out) hl9 hcs9 (HRQ.out.sl) (HSQ.out.sl)).mono ?_; rintro e q2 ⟨AX, nX, kX, CX, mX, jX, rfl, hnx, hmx, hox, hpx, hbx⟩; have hbw := hbx; have bq := hbw; have hB0 : w4.heap.size ≤ q1.heap.size := QB1.out.size; have d0 := Below.cell_some bq d0; have d1 := Below.cell_some bq d1; have d2 := Below.cell_some bq d2; have e0 := Below.cell_some bq e0; have e1 := Below.cell_some bq e1; have e2 := Below.cell_some bq e2; have QB2 := Lib.hid (QB1.out.trans (bq.mono QB1.out.size)); have HOX := Lib.hid hox; have HPX := Lib.hid hpx; have HNX := Lib.hid hnx; have HMX := Lib.hid hmx; clear hbx hbw bq hox hpx hnx hmx)
        | (go_at_call 9; have hG9 := hG0; refine (implAddClue_any L A3 C3 k3 j3 l cs x1 x2 x3 q1 (own_cap (S := tripS) HSQ.out) hl9 hcs9 (HRQ.out.sl) (HSQ.out.sl)).mono ?_; rintro e q2 ⟨AX, nX, kX, CX, mX, jX, rfl, hnx, hmx, hox, hpx, hbx⟩; have hbw := hbx; have bq := hbw; have z0 := Below.cell_some bq z0; have y0 := frozen_at bq y0 hz; have z1 := Below.cell_some bq z1; have y1 := frozen_at bq y1 hz; have z2 := Below.cell_some bq z2; have y2 := frozen_at bq y2 hz; have hGB := hz; have hz := Nat.lt_of_lt_of_le hz bq.size; have hB0 : w4.heap.size ≤ q1.heap.size := QB1.out.size; have d0 := Below.cell_some bq d0; have d1 := Below.cell_some bq d1; have d2 := Below.cell_some bq d2; have e0 := Below.cell_some bq e0; have e1 := Below.cell_some bq e1; have e2 := Below.cell_some bq e2; have QB2 := Lib.hid (QB1.out.trans (bq.mono QB1.out.size)); have HOX := Lib.hid hox; have HPX := Lib.hid hpx; have HNX := Lib.hid hnx; have HMX := Lib.hid hmx; clear hbx hbw bq hox hpx hnx hmx))
    all_goals (
      have hnn := HNX.out
      subst hnn
      have hmm := HMX.out
      subst hmm
      go_wp2_with fail
      go_meet
      case rel =>
        first
          | exact ⟨q2.heap.size, q1.heap.size, q2.heap.size, AX, kX, CX, jX, rfl, rfl, QB2.out.size, by simp, .inr (Nat.le_refl _), QB1.out.size, by simp, QB2.out.alloc QB2.out.size _, by simp, by simp, by simp, ownsRow_base (ownsRow_below HOX.out ((Below.refl _ _).alloc (Nat.le_refl _) _)) hB0, ownsRow_base (ownsRow_below HPX.out ((Below.refl _ _).alloc (Nat.le_refl _) _)) hB0, fun b hb => World.ownsRow.lt HOX.out b hb, fun b hb => World.ownsRow.lt HPX.out b hb⟩
          | exact ⟨_, _, q2.heap.size, AX, kX, CX, jX, rfl, rfl, hG0, by simpa using hz, .inl hGB, hB0, by simp, ((QB2.out.setCell hG0 _).setCell hG0 _).setCell hG0 _, by simp [go_sem, z0], by simp [go_sem, z1], by simp [go_sem, z2], ownsRow_base (ownsRow_setCell_below (ownsRow_setCell_below (ownsRow_setCell_below HOX.out hGB _) hGB _) hGB _) hB0, ownsRow_base (ownsRow_setCell_below (ownsRow_setCell_below (ownsRow_setCell_below HPX.out hGB _) hGB _) hGB _) hB0, fun b hb => World.ownsRow.lt HOX.out b hb, fun b hb => World.ownsRow.lt HPX.out b hb⟩)
  obtain ⟨g5, lo5, hi5, A5, k5, C5, j5, hp, hq, hga5, hgb5, hgc5, hlo5, hhi5, hb5, n0, n1, n2, ho5, hp5, hia5, hic5⟩ := hcut
  subst hp
  subst hq
  obtain ⟨w5, rfl⟩ : ∃ w5, w5 = wc := ⟨_, rfl⟩
  have s5 : w4.heap.size ≤ w5.heap.size := hb5.size
  have HB5 : Hid (Below w.heap.size w w5) := HB4.out.trans (hb5.mono HB4.out.size)
  have c0 := Below.cell_some hb5 c0
  have c1 := Below.cell_some hb5 c1
  have c2 := Below.cell_some hb5 c2
  have e0 := Below.cell_some hb5 e0
  have e1 := Below.cell_some hb5 e1
  have e2 := Below.cell_some hb5 e2
  have m0 := Below.cell_some hb5 m0
  have m1 := Below.cell_some hb5 m1
  have m2 := Below.cell_some hb5 m2
  have d0 := Below.cell_some hb5 d0
  have d1 := Below.cell_some hb5 d1
  have d2 := Below.cell_some hb5 d2
  have HWa5 := Lib.hid (SlOwn.below HWa4.out hb5)
  have HWc5 := Lib.hid (SlOwn.below HWc4.out hb5)
  have HXa5 := Lib.hid (SlOwn.below HXa4.out hb5)
  have HXc5 := Lib.hid (SlOwn.below HXc4.out hb5)
  have IGa := Lib.hid hia5
  have HGa5 := Lib.hid ho5
  have IGc := Lib.hid hic5
  have HGc5 := Lib.hid hp5
  clear hb5 ho5 hp5 hia5 hic5
  clear HRQ HSQ
  go_wp2_with fail
  refine (eqPuzzle_true (acL L l cs x1 x2 x3) A5 A2 C5 C2 k5 k2 j5 j2 (acP L l cs x1 x2 x3) (acC L l cs x1 x2 x3) _ HVB.out HVC.out HGa5.out.sl HWa5.out.sl HGc5.out.sl HWc5.out.sl).mono ?_
  rintro e w6 ⟨rfl, hb6⟩
  have s6 : w5.heap.size ≤ w6.heap.size := hb6.size
  have HB6 : Hid (Below w.heap.size w w6) := HB5.out.trans (hb6.mono HB5.out.size)
  have c0 := Below.cell_some hb6 c0
  have c1 := Below.cell_some hb6 c1
  have c2 := Below.cell_some hb6 c2
  have e0 := Below.cell_some hb6 e0
  have e1 := Below.cell_some hb6 e1
  have e2 := Below.cell_some hb6 e2
  have m0 := Below.cell_some hb6 m0
  have m1 := Below.cell_some hb6 m1
  have m2 := Below.cell_some hb6 m2
  have d0 := Below.cell_some hb6 d0
  have d1 := Below.cell_some hb6 d1
  have d2 := Below.cell_some hb6 d2
  have n0 := Below.cell_some hb6 n0
  have n1 := Below.cell_some hb6 n1
  have n2 := Below.cell_some hb6 n2
  have HWa6 := Lib.hid (SlOwn.below HWa5.out hb6)
  have HWc6 := Lib.hid (SlOwn.below HWc5.out hb6)
  have HXa6 := Lib.hid (SlOwn.below HXa5.out hb6)
  have HXc6 := Lib.hid (SlOwn.below HXc5.out hb6)
  have HGa6 := Lib.hid (SlOwn.below HGa5.out hb6)
  have HGc6 := Lib.hid (SlOwn.below HGc5.out hb6)
  clear hb6
  have HAA := Lib.hid (HA0.out.below HB6.out)
  have HCC := Lib.hid (HC0.out.below HB6.out)
  have HXA := Lib.hid (HXa6.out.sl)
  have HXC := Lib.hid (HXc6.out.sl)
  go_wp2
  go_region_held3 (fun w' => w'.cell? ⟨w3.heap.size, 0, none⟩ = some (.int .i64 L) ∧ w'.cell? ⟨w3.heap.size, 1, none⟩ = some (.slice A3 l.length k3) ∧ w'.cell? ⟨w3.heap.size, 2, none⟩ = some (.slice C3 cs.length j3) ∧ w'.cell? ⟨w.heap.size, 0, none⟩ = some (.int .i64 L) ∧ w'.cell? ⟨w.heap.size, 1, none⟩ = some (.slice A l.length c) ∧ w'.cell? ⟨w.heap.size, 2, none⟩ = some (.slice C cs.length d))
    (first
      | go_keep
      | exact ⟨Below.cell_some hbx d0, Below.cell_some hbx d1, Below.cell_some hbx d2, Below.cell_some hbx c0, Below.cell_some hbx c1, Below.cell_some hbx c2⟩
      | exact ⟨Below.cell_some hby d0', Below.cell_some hby d1', Below.cell_some hby d2', Below.cell_some hby c0', Below.cell_some hby c1', Below.cell_some hby c2'⟩)
    (first
      | (go_at_call 7; refine (toPuzzle_any L A C c d l cs w6.drew hl hcs HAA.out HCC.out).mono ?_; rintro e w7 ⟨A7, k7, C7, j7, rfl, ho7, hp7, hbx0⟩; have hbx := below_drew hbx0; clear hbx0; have HYA := Lib.hid ho7.sl; have HYC := Lib.hid hp7.sl; have HXA' := Lib.hid (HXA.out.below hbx); have HXC' := Lib.hid (HXC.out.below hbx); have d0' := Below.cell_some hbx d0; have d1' := Below.cell_some hbx d1; have d2' := Below.cell_some hbx d2; have c0' := Below.cell_some hbx c0; have c1' := Below.cell_some hbx c1; have c2' := Below.cell_some hbx c2)
      | (go_at_call 10; refine (eqPuzzle_true L A3 A7 C3 C7 k3 k7 j3 j7 l cs _ hl hcs HXA'.out HYA.out HXC'.out HYC.out).mono ?_; rintro e w8 ⟨rfl, hby⟩))
  have hb8 : Below w6.heap.size w6 w8 := hbx.trans (hby.mono hbx.size)
  have HB8 := Lib.hid (HB6.out.trans (hb8.mono HB6.out.size))
  have s8 : w6.heap.size ≤ w8.heap.size := hb8.size
  have c0 := Below.cell_some hb8 c0
  have c1 := Below.cell_some hb8 c1
  have c2 := Below.cell_some hb8 c2
  have e0 := Below.cell_some hb8 e0
  have e1 := Below.cell_some hb8 e1
  have e2 := Below.cell_some hb8 e2
  have m0 := Below.cell_some hb8 m0
  have m1 := Below.cell_some hb8 m1
  have m2 := Below.cell_some hb8 m2
  have d0 := Below.cell_some hb8 d0
  have d1 := Below.cell_some hb8 d1
  have d2 := Below.cell_some hb8 d2
  have n0 := Below.cell_some hb8 n0
  have n1 := Below.cell_some hb8 n1
  have n2 := Below.cell_some hb8 n2
  have HWa8 := Lib.hid (SlOwn.below HWa6.out hb8)
  have HWc8 := Lib.hid (SlOwn.below HWc6.out hb8)
  have HXa8 := Lib.hid (SlOwn.below HXa6.out hb8)
  have HXc8 := Lib.hid (SlOwn.below HXc6.out hb8)
  have HGa8 := Lib.hid (SlOwn.below HGa6.out hb8)
  have HGc8 := Lib.hid (SlOwn.below HGc6.out hb8)
  clear hb8 hbx hby ho7 hp7 HYA HYC HXA' HXC' HXA HXC d0' d1' d2' c0' c1' c2'
  go_wp2_with fail
  -- marks on the copy
  refine (markPuzzle_any L A3 C3 k3 j3 _ (w2.heap.size) (w3.heap.size) l cs _ hl hcs HXa8.out HXc8.out IXa.out IXc.out (by omega)).mono ?_
  rintro e w9 ⟨rfl, _, _, hk9⟩
  have s9 : w8.heap.size ≤ w9.heap.size := hk9.size
  have c0 := hk9.cell (by simp only; omega) c0
  have c1 := hk9.cell (by simp only; omega) c1
  have c2 := hk9.cell (by simp only; omega) c2
  have e0 := hk9.cell (by simp only; omega) e0
  have e1 := hk9.cell (by simp only; omega) e1
  have e2 := hk9.cell (by simp only; omega) e2
  have m0 := hk9.cell (by simp only; omega) m0
  have m1 := hk9.cell (by simp only; omega) m1
  have m2 := hk9.cell (by simp only; omega) m2
  have d0 := hk9.cell (by simp only; omega) d0
  have d1 := hk9.cell (by simp only; omega) d1
  have d2 := hk9.cell (by simp only; omega) d2
  have n0 := hk9.cell (by simp only; omega) n0
  have n1 := hk9.cell (by simp only; omega) n1
  have n2 := hk9.cell (by simp only; omega) n2
  have HB9 : Hid (Below w.heap.size w w9) := HB8.out.trans (hk9.below (by omega) (by omega))
  have HWa9 := Lib.hid (hk9.own HWa8.out (fun b hb => by have := IWa.out b hb; omega))
  have HWc9 := Lib.hid (hk9.own HWc8.out (fun b hb => by have := IWc.out b hb; omega))
  have HGa9 := Lib.hid (hk9.own HGa8.out (fun b hb => by have := IGa.out b hb; omega))
  have HGc9 := Lib.hid (hk9.own HGc8.out (fun b hb => by have := IGc.out b hb; omega))
  have hk9 : ¬ (1 + (l.length : Int) + 3 * (cs.length : Int)) < 0 := by omega
  go_wp2_with fail
  refine (eqPuzzle_true (acL L l cs x1 x2 x3) A5 A2 C5 C2 k5 k2 j5 j2 (acP L l cs x1 x2 x3) (acC L l cs x1 x2 x3) _ HVB.out HVC.out HGa9.out.sl HWa9.out.sl HGc9.out.sl HWc9.out.sl).mono ?_
  rintro e w10 ⟨rfl, hb10⟩
  have s10 : w9.heap.size ≤ w10.heap.size := hb10.size
  have HB10 : Hid (Below w.heap.size w w10) := HB9.out.trans (hb10.mono HB9.out.size)
  have c0 := Below.cell_some hb10 c0
  have c1 := Below.cell_some hb10 c1
  have c2 := Below.cell_some hb10 c2
  have e0 := Below.cell_some hb10 e0
  have e1 := Below.cell_some hb10 e1
  have e2 := Below.cell_some hb10 e2
  have m0 := Below.cell_some hb10 m0
  have m1 := Below.cell_some hb10 m1
  have m2 := Below.cell_some hb10 m2
  have d0 := Below.cell_some hb10 d0
  have d1 := Below.cell_some hb10 d1
  have d2 := Below.cell_some hb10 d2
  have n0 := Below.cell_some hb10 n0
  have n1 := Below.cell_some hb10 n1
  have n2 := Below.cell_some hb10 n2
  have HWa10 := Lib.hid (SlOwn.below HWa9.out hb10)
  have HWc10 := Lib.hid (SlOwn.below HWc9.out hb10)
  have HGa10 := Lib.hid (SlOwn.below HGa9.out hb10)
  have HGc10 := Lib.hid (SlOwn.below HGc9.out hb10)
  clear hb10
  go_wp2_with fail
  -- marks on the result
  refine (markPuzzle_any (acL L l cs x1 x2 x3) A5 C5 k5 j5 _ (lo5) (hi5) (acP L l cs x1 x2 x3) (acC L l cs x1 x2 x3) _ HVB.out HVC.out HGa10.out HGc10.out IGa.out IGc.out (by omega)).mono ?_
  rintro e w11 ⟨rfl, ho11, hp11, hk11⟩
  have s11 : w10.heap.size ≤ w11.heap.size := hk11.size
  have c0 := hk11.cell (by simp only; omega) c0
  have c1 := hk11.cell (by simp only; omega) c1
  have c2 := hk11.cell (by simp only; omega) c2
  have e0 := hk11.cell (by simp only; omega) e0
  have e1 := hk11.cell (by simp only; omega) e1
  have e2 := hk11.cell (by simp only; omega) e2
  have m0 := hk11.cell (by simp only; omega) m0
  have m1 := hk11.cell (by simp only; omega) m1
  have m2 := hk11.cell (by simp only; omega) m2
  have d0 := hk11.cell (by simp only; omega) d0
  have d1 := hk11.cell (by simp only; omega) d1
  have d2 := hk11.cell (by simp only; omega) d2
  have n0 := hk11.cell (by simp only; omega) n0
  have n1 := hk11.cell (by simp only; omega) n1
  have n2 := hk11.cell (by simp only; omega) n2
  have HB11 : Hid (Below w.heap.size w w11) := HB10.out.trans (hk11.below (by omega) (by omega))
  have HWa11 := Lib.hid (hk11.own HWa10.out (fun b hb => by have := IWa.out b hb; omega))
  have HWc11 := Lib.hid (hk11.own HWc10.out (fun b hb => by have := IWc.out b hb; omega))
  have HGa11 := Lib.hid ho11
  have HGc11 := Lib.hid hp11
  have hm1 : ¬ (1 + (((acP L l cs x1 x2 x3).length : Nat) : Int) + 3 * (((acC L l cs x1 x2 x3).length : Nat) : Int)) < 0 := by have := HVB.out; have := HVC.out; omega
  go_wp2_with fail
  refine (heldPuzzle_any (acL L l cs x1 x2 x3) A5 C5 k5 j5 (acP L l cs x1 x2 x3).length (acC L l cs x1 x2 x3).length _ HVB.out HVC.out HGa11.out.sl HGc11.out.sl).mono ?_
  rintro e w12 ⟨rfl, hb12⟩
  have s12 : w11.heap.size ≤ w12.heap.size := hb12.size
  have HB12 : Hid (Below w.heap.size w w12) := HB11.out.trans (hb12.mono HB11.out.size)
  have c0 := Below.cell_some hb12 c0
  have c1 := Below.cell_some hb12 c1
  have c2 := Below.cell_some hb12 c2
  have e0 := Below.cell_some hb12 e0
  have e1 := Below.cell_some hb12 e1
  have e2 := Below.cell_some hb12 e2
  have m0 := Below.cell_some hb12 m0
  have m1 := Below.cell_some hb12 m1
  have m2 := Below.cell_some hb12 m2
  have d0 := Below.cell_some hb12 d0
  have d1 := Below.cell_some hb12 d1
  have d2 := Below.cell_some hb12 d2
  have n0 := Below.cell_some hb12 n0
  have n1 := Below.cell_some hb12 n1
  have n2 := Below.cell_some hb12 n2
  have HWa12 := Lib.hid (SlOwn.below HWa11.out hb12)
  have HWc12 := Lib.hid (SlOwn.below HWc11.out hb12)
  have HGa12 := Lib.hid (SlOwn.below HGa11.out hb12)
  have HGc12 := Lib.hid (SlOwn.below HGc11.out hb12)
  clear hb12
  go_wp2_with fail
  -- once more
  go_upto_region 24 with fail
  have HAQ := Lib.hid (HA0.out.below HB12.out)
  have HCQ := Lib.hid (HC0.out.below HB12.out)
  go_cut [14, 15] from 79 to 86 (fun p q wx => ∃ (g lo hi : Nat) (AR : Option Addr) (kR : Nat) (CR : Option Addr) (jR : Nat), p = .pointer (some ⟨g, 0, none⟩) ∧ q = .bool (acOk L l cs x1 x2 x3) ∧ w12.heap.size ≤ g ∧ g < wx.heap.size ∧ (g < lo ∨ hi ≤ g) ∧ w12.heap.size ≤ lo ∧ hi ≤ wx.heap.size ∧ Below w12.heap.size w12 wx ∧ wx.cell? ⟨g, 0, none⟩ = some (.int .i64 (acL L l cs x1 x2 x3)) ∧ wx.cell? ⟨g, 1, none⟩ = some (.slice AR (acP L l cs x1 x2 x3).length kR) ∧ wx.cell? ⟨g, 2, none⟩ = some (.slice CR (acC L l cs x1 x2 x3).length jR) ∧ SlOwn intS wx w12.heap.size 3 (.slice AR (acP L l cs x1 x2 x3).length kR) (acP L l cs x1 x2 x3) ∧ SlOwn tripS wx w12.heap.size 35 (.slice CR (acC L l cs x1 x2 x3).length jR) (acC L l cs x1 x2 x3) ∧ (∀ b, (Value.slice AR (acP L l cs x1 x2 x3).length kR).ownBlock = some b → lo ≤ b ∧ b < hi) ∧ (∀ b, (Value.slice CR (acC L l cs x1 x2 x3).length jR).ownBlock = some b → lo ≤ b ∧ b < hi))
  case first =>
    have QB0 := Lib.hid (Below.refl w12.heap.size w12)
    go_region_held3 (fun w' => w'.cell? ⟨w.heap.size, 0, none⟩ = some (.int .i64 L) ∧ w'.cell? ⟨w.heap.size, 1, none⟩ = some (.slice A l.length c) ∧ w'.cell? ⟨w.heap.size, 2, none⟩ = some (.slice C cs.length d) ∧ w'.cell? ⟨w.heap.size + 1, 0, none⟩ = some (.int .i64 x1) ∧ w'.cell? ⟨w.heap.size + 1, 1, none⟩ = some (.int .i64 x2) ∧ w'.cell? ⟨w.heap.size + 1, 2, none⟩ = some (.int .i64 x3))
      (first | exact ⟨c0, c1, c2, e0, e1, e2⟩ | exact ⟨alloc_some c0 _, alloc_some c1 _, alloc_some c2 _, alloc_some e0 _, alloc_some e1 _, alloc_some e2 _⟩ | go_keep | (refine ⟨?_, ?_, ?_, ?_, ?_, ?_⟩ <;> (simp [go_sem, *]; done)))
      (first
        | (go_at_call 7; refine (toPuzzle_any L A C c d l cs (w12.alloc (Obj.cells #[.int .i64 0, .slice none 0 0, .slice none 0 0] 31)).drew hl hcs (HAQ.out.alloc _) (HCQ.out.alloc _)).mono ?_; rintro e q1 ⟨AY, kY, CY, jY, rfl, hox, hpx, hbx⟩; have hbw := below_drew hbx; have bq : Below w12.heap.size w12 q1 := ((Below.refl _ _).alloc (Nat.le_refl _) (Obj.cells #[.int .i64 0, .slice none 0 0, .slice none 0 0] 31)).trans (hbw.mono (by simp)); have z0 : q1.cell? ⟨w12.heap.size, 0, none⟩ = some (.int .i64 0) := Below.cell_some hbw (by simp [go_sem]); have y0 : q1.frozen? ⟨w12.heap.size, 0, none⟩ = false := (hbw.frozen (p := ⟨w12.heap.size, 0, none⟩) (by simp)).trans (by simp [go_sem]); have z1 : q1.cell? ⟨w12.heap.size, 1, none⟩ = some (.slice none 0 0) := Below.cell_some hbw (by simp [go_sem]); have y1 : q1.frozen? ⟨w12.heap.size, 1, none⟩ = false := (hbw.frozen (p := ⟨w12.heap.size, 1, none⟩) (by simp)).trans (by simp [go_sem]); have z2 : q1.cell? ⟨w12.heap.size, 2, none⟩ = some (.slice none 0 0) := Below.cell_some hbw (by simp [go_sem]); have y2 : q1.frozen? ⟨w12.heap.size, 2, none⟩ = false := (hbw.frozen (p := ⟨w12.heap.size, 2, none⟩) (by simp)).trans (by simp [go_sem]); have hz : w12.heap.size < q1.heap.size := Nat.lt_of_lt_of_le (by simp) hbw.size; have hG0 : w12.heap.size ≤ w12.heap.size := QB0.out.size; have hqs := QB0.out.size; have hne0 : ¬ w.heap.size = w12.heap.size := (by omega); have hnf0 : ¬ w12.heap.size = w.heap.size := (by omega); have hne1 : ¬ w.heap.size + 1 = w12.heap.size := (by omega); have hnf1 : ¬ w12.heap.size = w.heap.size + 1 := (by omega); have c0 := Below.cell_some bq c0; have c1 := Below.cell_some bq c1; have c2 := Below.cell_some bq c2; have e0 := Below.cell_some bq e0; have e1 := Below.cell_some bq e1; have e2 := Below.cell_some bq e2; have QB1 := Lib.hid (QB0.out.trans (bq.mono QB0.out.size)); have HRQ := Lib.hid hox; have HSQ := Lib.hid hpx; clear hbx hbw bq hox hpx)
        | (go_at_call 7; refine (toPuzzle_any L A C c d l cs w12.drew hl hcs (HAQ.out) (HCQ.out)).mono ?_; rintro e q1 ⟨AY, kY, CY, jY, rfl, hox, hpx, hbx⟩; have hbw := below_drew hbx; have bq := hbw; have c0 := Below.cell_some bq c0; have c1 := Below.cell_some bq c1; have c2 := Below.cell_some bq c2; have e0 := Below.cell_some bq e0; have e1 := Below.cell_some bq e1; have e2 := Below.cell_some bq e2; have QB1 := Lib.hid (QB0.out.trans (bq.mono QB0.out.size)); have HRQ := Lib.hid hox; have HSQ := Lib.hid hpx; clear hbx hbw bq hox hpx)
        | (go_at_call 8; refine (toClue_any x1 x2 x3 (q1.alloc (Obj.cells #[.int .i64 0, .slice none 0 0, .slice none 0 0] 31))).mono ?_; rintro e q2 ⟨rfl, hbx⟩; have hbw := hbx; have bq : Below q1.heap.size q1 q2 := ((Below.refl _ _).alloc (Nat.le_refl _) (Obj.cells #[.int .i64 0, .slice none 0 0, .slice none 0 0] 31)).trans (hbw.mono (by simp)); have z0 : q2.cell? ⟨q1.heap.size, 0, none⟩ = some (.int .i64 0) := Below.cell_some hbw (by simp [go_sem]); have y0 : q2.frozen? ⟨q1.heap.size, 0, none⟩ = false := (hbw.frozen (p := ⟨q1.heap.size, 0, none⟩) (by simp)).trans (by simp [go_sem]); have z1 : q2.cell? ⟨q1.heap.size, 1, none⟩ = some (.slice none 0 0) := Below.cell_some hbw (by simp [go_sem]); have y1 : q2.frozen? ⟨q1.heap.size, 1, none⟩ = false := (hbw.frozen (p := ⟨q1.heap.size, 1, none⟩) (by simp)).trans (by simp [go_sem]); have z2 : q2.cell? ⟨q1.heap.size, 2, none⟩ = some (.slice none 0 0) := Below.cell_some hbw (by simp [go_sem]); have y2 : q2.frozen? ⟨q1.heap.size, 2, none⟩ = false := (hbw.frozen (p := ⟨q1.heap.size, 2, none⟩) (by simp)).trans (by simp [go_sem]); have hz : q1.heap.size < q2.heap.size := Nat.lt_of_lt_of_le (by simp) hbw.size; have hG0 : w12.heap.size ≤ q1.heap.size := QB1.out.size; have hqs := QB1.out.size; have hne0 : ¬ w.heap.size = q1.heap.size := (by omega); have hnf0 : ¬ q1.heap.size = w.heap.size := (by omega); have hne1 : ¬ w.heap.size + 1 = q1.heap.size := (by omega); have hnf1 : ¬ q1.heap.size = w.heap.size + 1 := (by omega); have c0 := Below.cell_some bq c0; have c1 := Below.cell_some bq c1; have c2 := Below.cell_some bq c2; have e0 := Below.cell_some bq e0; have e1 := Below.cell_some bq e1; have e2 := Below.cell_some bq e2; have QB2 := Lib.hid (QB1.out.trans (bq.mono QB1.out.size)); have HRQ := Lib.hid (SlOwn.below HRQ.out bq); have HSQ := Lib.hid (SlOwn.below HSQ.out bq); clear hbx hbw bq)
        | (go_at_call 8; (fail_if_success have hG9 := hG0); refine (toClue_any x1 x2 x3 q1).mono ?_; rintro e q2 ⟨rfl, hbx⟩; have hbw := hbx; have bq := hbw; have c0 := Below.cell_some bq c0; have c1 := Below.cell_some bq c1; have c2 := Below.cell_some bq c2; have e0 := Below.cell_some bq e0; have e1 := Below.cell_some bq e1; have e2 := Below.cell_some bq e2; have QB2 := Lib.hid (QB1.out.trans (bq.mono QB1.out.size)); have HRQ := Lib.hid (SlOwn.below HRQ.out bq); have HSQ := Lib.hid (SlOwn.below HSQ.out bq); clear hbx hbw bq)
        | (go_at_call 8; have hG9 := hG0; refine (toClue_any x1 x2 x3 q1).mono ?_; rintro e q2 ⟨rfl, hbx⟩; have hbw := hbx; have bq := hbw; have z0 := Below.cell_some bq z0; have y0 := frozen_at bq y0 hz; have z1 := Below.cell_some bq z1; have y1 := frozen_at bq y1 hz; have z2 := Below.cell_some bq z2; have y2 := frozen_at bq y2 hz; have hz := Nat.lt_of_lt_of_le hz bq.size; have c0 := Below.cell_some bq c0; have c1 := Below.cell_some bq c1; have c2 := Below.cell_some bq c2; have e0 := Below.cell_some bq e0; have e1 := Below.cell_some bq e1; have e2 := Below.cell_some bq e2; have QB2 := Lib.hid (QB1.out.trans (bq.mono QB1.out.size)); have HRQ := Lib.hid (SlOwn.below HRQ.out bq); have HSQ := Lib.hid (SlOwn.below HSQ.out bq); clear hbx hbw bq)
        | (go_at_call 9; refine (implAddClue_any L AY CY kY jY l cs x1 x2 x3 (q2.alloc (Obj.cells #[.int .i64 0, .slice none 0 0, .slice none 0 0] 31)) (own_cap (S := tripS) HSQ.out) hl9 hcs9 (HRQ.out.sl.alloc _) (HSQ.out.sl.alloc _)).mono ?_; rintro e q3 ⟨AX, nX, kX, CX, mX, jX, rfl, hnx, hmx, hox, hpx, hbx⟩; have hbw := hbx; have bq : Below q2.heap.size q2 q3 := ((Below.refl _ _).alloc (Nat.le_refl _) (Obj.cells #[.int .i64 0, .slice none 0 0, .slice none 0 0] 31)).trans (hbw.mono (by simp)); have z0 : q3.cell? ⟨q2.heap.size, 0, none⟩ = some (.int .i64 0) := Below.cell_some hbw (by simp [go_sem]); have y0 : q3.frozen? ⟨q2.heap.size, 0, none⟩ = false := (hbw.frozen (p := ⟨q2.heap.size, 0, none⟩) (by simp)).trans (by simp [go_sem]); have z1 : q3.cell? ⟨q2.heap.size, 1, none⟩ = some (.slice none 0 0) := Below.cell_some hbw (by simp [go_sem]); have y1 : q3.frozen? ⟨q2.heap.size, 1, none⟩ = false := (hbw.frozen (p := ⟨q2.heap.size, 1, none⟩) (by simp)).trans (by simp [go_sem]); have z2 : q3.cell? ⟨q2.heap.size, 2, none⟩ = some (.slice none 0 0) := Below.cell_some hbw (by simp [go_sem]); have y2 : q3.frozen? ⟨q2.heap.size, 2, none⟩ = false := (hbw.frozen (p := ⟨q2.heap.size, 2, none⟩) (by simp)).trans (by simp [go_sem]); have hz : q2.heap.size < q3.heap.size := Nat.lt_of_lt_of_le (by simp) hbw.size; have hG0 : w12.heap.size ≤ q2.heap.size := QB2.out.size; have hqs := QB2.out.size; have hne0 : ¬ w.heap.size = q2.heap.size := (by omega); have hnf0 : ¬ q2.heap.size = w.heap.size := (by omega); have hne1 : ¬ w.heap.size + 1 = q2.heap.size := (by omega); have hnf1 : ¬ q2.heap.size = w.heap.size + 1 := (by omega); have hGB : q2.heap.size < (q2.alloc (Obj.cells #[.int .i64 0, .slice none 0 0, .slice none 0 0] 31)).heap.size := (by simp); have hB0 : w12.heap.size ≤ (q2.alloc (Obj.cells #[.int .i64 0, .slice none 0 0, .slice none 0 0] 31)).heap.size := Nat.le_trans hG0 (by simp); have c0 := Below.cell_some bq c0; have c1 := Below.cell_some bq c1; have c2 := Below.cell_some bq c2; have e0 := Below.cell_some bq e0; have e1 := Below.cell_some bq e1; have e2 := Below.cell_some bq e2; have QB3 := Lib.hid (QB2.out.trans (bq.mono QB2.out.size)); have HOX := Lib.hid hox; have HPX := Lib.hid hpx; have HNX := Lib.hid hnx; have HMX := Lib.hid hmx; clear hbx hbw bq hox hpx hnx hmx)
        | (go_at_call 9; (fail_if_success have hG9 := hG0); refine (implAddClue_any L AY CY kY jY l cs x1 x2 x3 q2 (own_cap (S := tripS) HSQ.out) hl9 hcs9 (HRQ.out.sl) (HSQ.out.sl)).mono ?_; rintro e q3 ⟨AX, nX, kX, CX, mX, jX, rfl, hnx, hmx, hox, hpx, hbx⟩; have hbw := hbx; have bq := hbw; have hB0 : w12.heap.size ≤ q2.heap.size := QB2.out.size; have c0 := Below.cell_some bq c0; have c1 := Below.cell_some bq c1; have c2 := Below.cell_some bq c2; have e0 := Below.cell_some bq e0; have e1 := Below.cell_some bq e1; have e2 := Below.cell_some bq e2; have QB3 := Lib.hid (QB2.out.trans (bq.mono QB2.out.size)); have HOX := Lib.hid hox; have HPX := Lib.hid hpx; have HNX := Lib.hid hnx; have HMX := Lib.hid hmx; clear hbx hbw bq hox hpx hnx hmx)
        | (go_at_call 9; have hG9 := hG0; refine (implAddClue_any L AY CY kY jY l cs x1 x2 x3 q2 (own_cap (S := tripS) HSQ.out) hl9 hcs9 (HRQ.out.sl) (HSQ.out.sl)).mono ?_; rintro e q3 ⟨AX, nX, kX, CX, mX, jX, rfl, hnx, hmx, hox, hpx, hbx⟩; have hbw := hbx; have bq := hbw; have z0 := Below.cell_some bq z0; have y0 := frozen_at bq y0 hz; have z1 := Below.cell_some bq z1; have y1 := frozen_at bq y1 hz; have z2 := Below.cell_some bq z2; have y2 := frozen_at bq y2 hz; have hGB := hz; have hz := Nat.lt_of_lt_of_le hz bq.size; have hB0 : w12.heap.size ≤ q2.heap.size := QB2.out.size; have c0 := Below.cell_some bq c0; have c1 := Below.cell_some bq c1; have c2 := Below.cell_some bq c2; have e0 := Below.cell_some bq e0; have e1 := Below.cell_some bq e1; have e2 := Below.cell_some bq e2; have QB3 := Lib.hid (QB2.out.trans (bq.mono QB2.out.size)); have HOX := Lib.hid hox; have HPX := Lib.hid hpx; have HNX := Lib.hid hnx; have HMX := Lib.hid hmx; clear hbx hbw bq hox hpx hnx hmx))
    all_goals (
      have hnn := HNX.out
      subst hnn
      have hmm := HMX.out
      subst hmm
      go_wp2_with fail
      go_meet
      case rel =>
        first
          | exact ⟨q3.heap.size, q2.heap.size, q3.heap.size, AX, kX, CX, jX, rfl, rfl, QB3.out.size, by simp, .inr (Nat.le_refl _), QB2.out.size, by simp, QB3.out.alloc QB3.out.size _, by simp, by simp, by simp, ownsRow_base (ownsRow_below HOX.out ((Below.refl _ _).alloc (Nat.le_refl _) _)) hB0, ownsRow_base (ownsRow_below HPX.out ((Below.refl _ _).alloc (Nat.le_refl _) _)) hB0, fun b hb => World.ownsRow.lt HOX.out b hb, fun b hb => World.ownsRow.lt HPX.out b hb⟩
          | exact ⟨_, _, q3.heap.size, AX, kX, CX, jX, rfl, rfl, hG0, by simpa using hz, .inl hGB, hB0, by simp, ((QB3.out.setCell hG0 _).setCell hG0 _).setCell hG0 _, by simp [go_sem, z0], by simp [go_sem, z1], by simp [go_sem, z2], ownsRow_base (ownsRow_setCell_below (ownsRow_setCell_below (ownsRow_setCell_below HOX.out hGB _) hGB _) hGB _) hB0, ownsRow_base (ownsRow_setCell_below (ownsRow_setCell_below (ownsRow_setCell_below HPX.out hGB _) hGB _) hGB _) hB0, fun b hb => World.ownsRow.lt HOX.out b hb, fun b hb => World.ownsRow.lt HPX.out b hb⟩)
  obtain ⟨g13, lo13, hi13, A13, k13, C13, j13, hp, hq, hga13, hgb13, hgc13, hlo13, hhi13, hb13, r0, r1, r2, ho13, hp13, hia13, hic13⟩ := hcut
  subst hp
  subst hq
  obtain ⟨w13, rfl⟩ : ∃ w13, w13 = wc := ⟨_, rfl⟩
  have s13 : w12.heap.size ≤ w13.heap.size := hb13.size
  have HB13 : Hid (Below w.heap.size w w13) := HB12.out.trans (hb13.mono HB12.out.size)
  have c0 := Below.cell_some hb13 c0
  have c1 := Below.cell_some hb13 c1
  have c2 := Below.cell_some hb13 c2
  have e0 := Below.cell_some hb13 e0
  have e1 := Below.cell_some hb13 e1
  have e2 := Below.cell_some hb13 e2
  have m0 := Below.cell_some hb13 m0
  have m1 := Below.cell_some hb13 m1
  have m2 := Below.cell_some hb13 m2
  have d0 := Below.cell_some hb13 d0
  have d1 := Below.cell_some hb13 d1
  have d2 := Below.cell_some hb13 d2
  have n0 := Below.cell_some hb13 n0
  have n1 := Below.cell_some hb13 n1
  have n2 := Below.cell_some hb13 n2
  have HWa13 := Lib.hid (SlOwn.below HWa12.out hb13)
  have HWc13 := Lib.hid (SlOwn.below HWc12.out hb13)
  have HGa13 := Lib.hid (SlOwn.below HGa12.out hb13)
  have HGc13 := Lib.hid (SlOwn.below HGc12.out hb13)
  have INa := Lib.hid hia13
  have HNa13 := Lib.hid ho13
  have INc := Lib.hid hic13
  have HNc13 := Lib.hid hp13
  clear hb13 ho13 hp13 hia13 hic13
  clear HAQ HCQ
  go_wp2_with fail
  refine (eqPuzzle_true (acL L l cs x1 x2 x3) A13 A2 C13 C2 k13 k2 j13 j2 (acP L l cs x1 x2 x3) (acC L l cs x1 x2 x3) _ HVB.out HVC.out HNa13.out.sl HWa13.out.sl HNc13.out.sl HWc13.out.sl).mono ?_
  rintro e w14 ⟨rfl, hb14⟩
  have s14 : w13.heap.size ≤ w14.heap.size := hb14.size
  have HB14 : Hid (Below w.heap.size w w14) := HB13.out.trans (hb14.mono HB13.out.size)
  have c0 := Below.cell_some hb14 c0
  have c1 := Below.cell_some hb14 c1
  have c2 := Below.cell_some hb14 c2
  have e0 := Below.cell_some hb14 e0
  have e1 := Below.cell_some hb14 e1
  have e2 := Below.cell_some hb14 e2
  have m0 := Below.cell_some hb14 m0
  have m1 := Below.cell_some hb14 m1
  have m2 := Below.cell_some hb14 m2
  have d0 := Below.cell_some hb14 d0
  have d1 := Below.cell_some hb14 d1
  have d2 := Below.cell_some hb14 d2
  have n0 := Below.cell_some hb14 n0
  have n1 := Below.cell_some hb14 n1
  have n2 := Below.cell_some hb14 n2
  have r0 := Below.cell_some hb14 r0
  have r1 := Below.cell_some hb14 r1
  have r2 := Below.cell_some hb14 r2
  have HWa14 := Lib.hid (SlOwn.below HWa13.out hb14)
  have HWc14 := Lib.hid (SlOwn.below HWc13.out hb14)
  have HGa14 := Lib.hid (SlOwn.below HGa13.out hb14)
  have HGc14 := Lib.hid (SlOwn.below HGc13.out hb14)
  have HNa14 := Lib.hid (SlOwn.below HNa13.out hb14)
  have HNc14 := Lib.hid (SlOwn.below HNc13.out hb14)
  clear hb14
  go_wp2_with fail
  refine (heldPuzzle_any (acL L l cs x1 x2 x3) A5 C5 k5 j5 (acP L l cs x1 x2 x3).length (acC L l cs x1 x2 x3).length _ HVB.out HVC.out HGa14.out.sl HGc14.out.sl).mono ?_
  rintro e w15 ⟨rfl, hb15⟩
  have s15 : w14.heap.size ≤ w15.heap.size := hb15.size
  have HB15 : Hid (Below w.heap.size w w15) := HB14.out.trans (hb15.mono HB14.out.size)
  have c0 := Below.cell_some hb15 c0
  have c1 := Below.cell_some hb15 c1
  have c2 := Below.cell_some hb15 c2
  have e0 := Below.cell_some hb15 e0
  have e1 := Below.cell_some hb15 e1
  have e2 := Below.cell_some hb15 e2
  have m0 := Below.cell_some hb15 m0
  have m1 := Below.cell_some hb15 m1
  have m2 := Below.cell_some hb15 m2
  have d0 := Below.cell_some hb15 d0
  have d1 := Below.cell_some hb15 d1
  have d2 := Below.cell_some hb15 d2
  have n0 := Below.cell_some hb15 n0
  have n1 := Below.cell_some hb15 n1
  have n2 := Below.cell_some hb15 n2
  have r0 := Below.cell_some hb15 r0
  have r1 := Below.cell_some hb15 r1
  have r2 := Below.cell_some hb15 r2
  have HWa15 := Lib.hid (SlOwn.below HWa14.out hb15)
  have HWc15 := Lib.hid (SlOwn.below HWc14.out hb15)
  have HGa15 := Lib.hid (SlOwn.below HGa14.out hb15)
  have HGc15 := Lib.hid (SlOwn.below HGc14.out hb15)
  have HNa15 := Lib.hid (SlOwn.below HNa14.out hb15)
  have HNc15 := Lib.hid (SlOwn.below HNc14.out hb15)
  clear hb15
  go_wp2
  go_ret
  exact ⟨ret_bool rfl, HB15.out⟩

theorem law (L : Int) (A C : Option Addr) (c d : Nat) (l : List Int) (cs : List (Int × Int × Int)) (x1 : Int) (x2 : Int) (x3 : Int) (w : World) (hn : (l.length : Int) ≤ 9223372036854775807) (hm : (cs.length : Int) ≤ 9223372036854775807) (hA : SlAt intS w A l) (hC : SlAt tripS w C cs) :
    Calls Try.prog 3 #[.agg #[.int .i64 L, .slice A l.length c, .slice C cs.length d], .agg #[.int .i64 x1, .int .i64 x2, .int .i64 x3]] w fun e w' => e = .returned (.bool true) ∧ Below w.heap.size w w' := by
  by_cases h : (1048576 : Int) < l.length + cs.length
  · exact big L A C c d l cs x1 x2 x3 w hn hm h
  · exact fits L A C c d l cs x1 x2 x3 w h hA hC

set_option maxRecDepth 100000 in
theorem lifted (os : Os) (started : os.Started) (H : Type) (enc : TypeId × Value → H) :
    ReturnsInHanded {} Try.checked os 3 .any (Rows.fnExactAddClueSpec.pre6 enc Try.prog Try.f3 Rows.fnExactAddClueRow.domain false) (Rows.fnExactAddClueSpec.post enc Try.prog Try.f3 false true false false) := by
  refine returnsInHanded_of_change (C := Try.checked) own started (by kernel_rfl) Try.func3
    (ChangeSpec.witness6 (enc := enc) (C := Try.checked) false ⟨#[], #[.agg #[.int .i64 0, .slice none 0 0, .slice none 0 0], .agg #[.int .i64 0, .int .i64 0, .int .i64 0]], []⟩ 8 (by kernel_rfl) (by kernel_rfl) (by kernel_rfl) (by kernel_rfl)) ?_
  intro W base args ds gs before hval0 hW hcnd _
  have hval : ∀ (j : Nat) t v, Try.f3.params[j]? = some t → args[j]? = some v → Value.okWide Try.prog W .any base t v := hval0
  have hW' := hW
  obtain ⟨p, q, hA0, hV, rfl, hfz, hnd⟩ := hW
  have hA : DataW.TrodAll enc Try.prog W 0 (fun _ => true) true Try.f3.params.toList args.toList ds p := hA0
  rw [Try.params3] at hA hval
  obtain ⟨v0, vs0, d0, ds0, p0, q0, hargs, rfl, rfl, h0, r0⟩ := trodAll_cons hA
  obtain ⟨v1, vs1, d1, ds1, p1, q1, rfl, rfl, rfl, h1, r1⟩ := trodAll_cons r0
  obtain ⟨rfl, rfl, rfl⟩ := trodAll_nil r1
  obtain rfl : args = #[v0, v1] := by cases args; simp_all
  obtain ⟨rfl, rfl⟩ := trodVars_none hV
  have k0 := h0
  have lt0 : ∀ x ∈ p0, x.block < W.heap.size := by obtain ⟨m, hm⟩ := k0; exact DataW.trod_lt m _ _ _ hm
  obtain ⟨L, A, c, l, C, d, cs, rfl, hAt, hCt, hlen, hmen⟩ := open_puzzle (hval 0 25 v0 rfl rfl) h0
  have k1 := h1
  have lt1 : ∀ x ∈ p1, x.block < W.heap.size := by obtain ⟨m, hm⟩ := k1; exact DataW.trod_lt m _ _ _ hm
  obtain ⟨x1, x2, x3, rfl⟩ := open_clue (hval 1 27 v1 rfl rfl) h1
  clear hA0 hval0
  refine (law L A C c d l cs x1 x2 x3 W hlen hmen hAt hCt).mono fun e W' ⟨he, bel⟩ => ?_
  subst he
  exact ⟨_, rfl, _, _, _, [], _, [], hW', trodAll_mk1 (shut_bool Try.underlying4 _), (trodAll_cons_mk (Below.trod laidOut (by kernel_rfl) (of_decide_eq_true (by kernel_rfl)) k0 bel lt0) (trodAll_cons_mk (Below.trod laidOut (by kernel_rfl) (of_decide_eq_true (by kernel_rfl)) k1 bel lt1) trodAll_mk0)), rfl, bel.frame _, fun h => by cases h⟩

theorem closed : joinedFacts Try.prog 3 Try.f3 Rows.fnExactAddClueSpec Rows.fnExactAddClueRow = true := by
  unfold joinedFacts
  repeat' with_reducible refine and_t ?_ ?_
  · kernel_rfl
  · kernel_rfl
  · kernel_rfl
  · kernel_rfl
  · kernel_rfl
  · kernel_rfl
  · kernel_rfl
  · kernel_rfl
  · kernel_rfl
  · kernel_rfl
  · kernel_rfl
  · kernel_rfl
  · kernel_rfl
  · kernel_rfl
  · kernel_rfl
  · kernel_rfl
  · kernel_rfl
  · kernel_rfl
  · kernel_rfl
  · kernel_rfl
  · kernel_rfl
  · kernel_rfl
  · kernel_rfl
  · kernel_rfl
  · kernel_rfl
  · exact factMayEnter
  · exact factLifts
  · exact factMake
  · kernel_rfl
  · kernel_rfl
  · kernel_rfl
  · kernel_rfl

theorem over : Rows.fnExactAddClueRow.holds Try.pinned (OpenSpec.ofChange Rows.fnExactAddClueSpec) :=
  OpenClaim.holds_of_wide 3 Try.f3 rfl rfl rfl rfl rfl rfl rfl ⟨rfl, rfl, rfl, rfl, rfl⟩ rfl rfl rfl rfl rfl (by kernel_rfl) Try.func3 closed
    (of_decide_eq_true (by kernel_rfl)) (by unfold Func.isWrapper; first | (rw [if_pos (by decide +kernel)]; kernel_rfl) | (rw [if_neg (by decide +kernel)]; exact ⟨rfl, rfl⟩))
    (fun os started H enc _ => lifted os started H enc)

/-- the statement -/
theorem proved : Rows.FnExactAddClueSaid := over
#print axioms proved

end Go.Proofs.Ytenpmjinbjlpbaa.lAddClue
