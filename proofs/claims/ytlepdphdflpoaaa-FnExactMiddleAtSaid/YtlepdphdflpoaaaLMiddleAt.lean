/- The law FnExactMiddleAt returns true at every input, and leaves its arguments as they were. No condition. -/
import Derived.Test.YtlepdphdflpoaaaRows
import Derived.Test.YtlepdphdflpoaaaOpenR
import Derived.Test.YtlepdphdflpoaaaFactA
import Derived.Test.YtlepdphdflpoaaaFactB
import Derived.Test.YtlepdphdflpoaaaFactC
import Derived.Test.YtlepdphdflpoaaaMiddle
import Derived.Test.YtlepdphdflpoaaaHelpR
import Derived.Deep.RegionHeld3
import Derived.Deep.CutRange
namespace Go.Proofs.Ytlepdphdflpoaaa.lMiddleAt
open Go.RowKit
open Go.ChangeShapes Go.WideShapes Go.ChangeAt
set_option linter.unusedVariables false

set_option maxHeartbeats 1000000 in
theorem big (A : Option Addr) (c : Nat) (l : List (Int × Int)) (n : Int) (d : Int) (w : World) (hn : (l.length : Int) ≤ 9223372036854775807) (h : (1048576 : Int) < l.length) :
    Calls Try.prog 14 #[.slice A l.length c, .agg #[.int .i64 n, .int .i64 d]] w fun e w' => e = .returned (.bool true) ∧ Below w.heap.size w w' := by
  have H : Hid (∀ w, Calls Try.prog 18 #[.slice A l.length c, .int .i64 1048576] w fun e w' => e = .returned (.int .i64 (-1)) ∧ Below w.heap.size w w') :=
    fun w => (szRunnerS_any A l.length c 1048576 w (by omega) (by omega) hn).mono fun e w' ⟨he, hw⟩ => ⟨by rw [he, if_pos h], hw ▸ Below.refl _ _⟩
  clear h hn
  go_enter Try.func14, Try.ntmps14
  go_wp2_with fail
  refine (H.out _).mono ?_
  rintro e w1 ⟨rfl, hb⟩
  go_wp2
  go_ret
  exact ⟨ret_bool rfl, ((Below.refl _ _).alloc (Nat.le_refl _) _).trans (hb.mono (by simp))⟩

theorem frozen_at {W w1 : World} {b o : Nat} (hb : Below W.heap.size W w1) (h : W.frozen? ⟨b, o, none⟩ = false) (hlt : b < W.heap.size) : w1.frozen? ⟨b, o, none⟩ = false := (hb.frozen (p := ⟨b, o, none⟩) hlt).trans h
set_option maxHeartbeats 4000000 in
theorem fits (A : Option Addr) (c : Nat) (l : List (Int × Int)) (n : Int) (d : Int) (w : World) (h : (l.length : Int) ≤ 1048576) (hA : AntsAt w A l) :
    Calls Try.prog 14 #[.slice A l.length c, .agg #[.int .i64 n, .int .i64 d]] w fun e w' => e = .returned (.bool true) ∧ Below w.heap.size w w' := by
  have H : Hid (∀ w, Calls Try.prog 18 #[.slice A l.length c, .int .i64 1048576] w fun e w' => e = .returned (.int .i64 (1048576 - l.length)) ∧ Below w.heap.size w w') :=
    fun w => (szRunnerS_any A l.length c 1048576 w (by omega) (by omega) (by omega)).mono fun e w' ⟨he, hw⟩ => ⟨by rw [he, if_neg (by omega)], hw ▸ Below.refl _ _⟩
  have hz : ¬ (1048576 - (l.length : Int)) < 0 := by omega
  have HA := Lib.hid hA
  clear hA
  go_enter Try.func14, Try.ntmps14
  go_wp2_with fail
  refine (H.out _).mono ?_
  rintro e w1 ⟨rfl, hb1⟩
  have HB1 := Lib.hid (((Below.refl _ w).alloc (Nat.le_refl _) _).trans (hb1.mono (by simp)))
  have c0 : w1.cell? ⟨w.heap.size, 0, none⟩ = some (.int .i64 n) := by rw [hb1.cell (p := ⟨w.heap.size, 0, none⟩) (by simp)]; simp
  have c1 : w1.cell? ⟨w.heap.size, 1, none⟩ = some (.int .i64 d) := by rw [hb1.cell (p := ⟨w.heap.size, 1, none⟩) (by simp)]; simp
  have HA1 := Lib.hid (HA.out.below HB1.out)
  clear hb1
  have HAQ := Lib.hid HA1.out
  go_upto_region 5 with fail
  go_cut [6, 7] from 16 to 23 (fun p q wx => ∃ (g : Nat), p = .pointer (some ⟨g, 0, none⟩) ∧ q = .bool (mdB l n d) ∧ w1.heap.size ≤ g ∧ g < wx.heap.size ∧ Below w1.heap.size w1 wx ∧ wx.cell? ⟨g, 0, none⟩ = some (.int .i64 ((mdV l n d).1)) ∧ wx.cell? ⟨g, 1, none⟩ = some (.int .i64 ((mdV l n d).2)))
  case first =>
    have QB0 := Lib.hid (Below.refl w1.heap.size w1)
    have hw01 : w.heap.size < w1.heap.size := World.block_lt_of_cell? _ _ c0
    go_region_held3 (fun w' => w'.cell? ⟨w.heap.size, 0, none⟩ = some (.int .i64 n) ∧ w'.cell? ⟨w.heap.size, 1, none⟩ = some (.int .i64 d))
      (first | exact ⟨c0, c1⟩ | exact ⟨alloc_some c0 _, alloc_some c1 _⟩ | go_keep | (refine ⟨?_, ?_⟩ <;> (simp [go_sem, *]; done)))
      (first
        | (go_at_call 20; refine (toRunnerS_any A c l (w1.alloc (Obj.cells #[.int .i64 0, .int .i64 0] 32)).drew h (HAQ.out.alloc _)).mono ?_; rintro e q1 ⟨AY, kY, rfl, hox, hbx⟩; have hbw := below_drew hbx; have bq : Below w1.heap.size w1 q1 := ((Below.refl _ _).alloc (Nat.le_refl _) (Obj.cells #[.int .i64 0, .int .i64 0] 32)).trans (hbw.mono (by simp)); have z0 : q1.cell? ⟨w1.heap.size, 0, none⟩ = some (.int .i64 0) := Below.cell_some hbw (by simp [go_sem]); have z1 : q1.cell? ⟨w1.heap.size, 1, none⟩ = some (.int .i64 0) := Below.cell_some hbw (by simp [go_sem]); have y0 : q1.frozen? ⟨w1.heap.size, 0, none⟩ = false := (hbw.frozen (p := ⟨w1.heap.size, 0, none⟩) (by simp)).trans (by simp [go_sem]); have y1 : q1.frozen? ⟨w1.heap.size, 1, none⟩ = false := (hbw.frozen (p := ⟨w1.heap.size, 1, none⟩) (by simp)).trans (by simp [go_sem]); have hz : w1.heap.size < q1.heap.size := Nat.lt_of_lt_of_le (by simp) hbw.size; have hG0 : w1.heap.size ≤ w1.heap.size := QB0.out.size; have hqs := QB0.out.size; have hne0 : ¬ w.heap.size = w1.heap.size := (by omega); have hnf0 : ¬ w1.heap.size = w.heap.size := (by omega); have c0 := Below.cell_some bq c0; have c1 := Below.cell_some bq c1; have QB1 := Lib.hid (QB0.out.trans (bq.mono QB0.out.size)); have HRQ := Lib.hid hox; clear hbx hbw bq hox)
        | (go_at_call 20; refine (toRunnerS_any A c l w1.drew h (HAQ.out)).mono ?_; rintro e q1 ⟨AY, kY, rfl, hox, hbx⟩; have hbw := below_drew hbx; have bq := hbw; have c0 := Below.cell_some bq c0; have c1 := Below.cell_some bq c1; have QB1 := Lib.hid (QB0.out.trans (bq.mono QB0.out.size)); have HRQ := Lib.hid hox; clear hbx hbw bq hox)
        | (go_at_call 24; refine (toMoment_any n d (q1.alloc (Obj.cells #[.int .i64 0, .int .i64 0] 32))).mono ?_; rintro e q2 ⟨rfl, hbx⟩; have hbw := hbx; have bq : Below q1.heap.size q1 q2 := ((Below.refl _ _).alloc (Nat.le_refl _) (Obj.cells #[.int .i64 0, .int .i64 0] 32)).trans (hbw.mono (by simp)); have z0 : q2.cell? ⟨q1.heap.size, 0, none⟩ = some (.int .i64 0) := Below.cell_some hbw (by simp [go_sem]); have z1 : q2.cell? ⟨q1.heap.size, 1, none⟩ = some (.int .i64 0) := Below.cell_some hbw (by simp [go_sem]); have y0 : q2.frozen? ⟨q1.heap.size, 0, none⟩ = false := (hbw.frozen (p := ⟨q1.heap.size, 0, none⟩) (by simp)).trans (by simp [go_sem]); have y1 : q2.frozen? ⟨q1.heap.size, 1, none⟩ = false := (hbw.frozen (p := ⟨q1.heap.size, 1, none⟩) (by simp)).trans (by simp [go_sem]); have hz : q1.heap.size < q2.heap.size := Nat.lt_of_lt_of_le (by simp) hbw.size; have hG0 : w1.heap.size ≤ q1.heap.size := QB1.out.size; have hqs := QB1.out.size; have hne0 : ¬ w.heap.size = q1.heap.size := (by omega); have hnf0 : ¬ q1.heap.size = w.heap.size := (by omega); have c0 := Below.cell_some bq c0; have c1 := Below.cell_some bq c1; have QB2 := Lib.hid (QB1.out.trans (bq.mono QB1.out.size)); have HRQ := Lib.hid (AntsOwn.below HRQ.out bq); clear hbx hbw bq)
        | (go_at_call 24; (fail_if_success have hG9 := hG0); refine (toMoment_any n d q1).mono ?_; rintro e q2 ⟨rfl, hbx⟩; have hbw := hbx; have bq := hbw; have c0 := Below.cell_some bq c0; have c1 := Below.cell_some bq c1; have QB2 := Lib.hid (QB1.out.trans (bq.mono QB1.out.size)); have HRQ := Lib.hid (AntsOwn.below HRQ.out bq); clear hbx hbw bq)
        | (go_at_call 24; have hG9 := hG0; refine (toMoment_any n d q1).mono ?_; rintro e q2 ⟨rfl, hbx⟩; have hbw := hbx; have bq := hbw; have z0 := Below.cell_some bq z0; have z1 := Below.cell_some bq z1; have y0 := frozen_at bq y0 hz; have y1 := frozen_at bq y1 hz; have hz := Nat.lt_of_lt_of_le hz bq.size; have c0 := Below.cell_some bq c0; have c1 := Below.cell_some bq c1; have QB2 := Lib.hid (QB1.out.trans (bq.mono QB1.out.size)); have HRQ := Lib.hid (AntsOwn.below HRQ.out bq); clear hbx hbw bq)
        | (go_at_call 52; refine (specMiddleAt_any AY kY l n d (q2.alloc (Obj.cells #[.int .i64 0, .int .i64 0] 32)) (HRQ.out.ants.alloc _)).mono ?_; rintro e q3 ⟨rfl, hbx⟩; have hbw := hbx; have bq : Below q2.heap.size q2 q3 := ((Below.refl _ _).alloc (Nat.le_refl _) (Obj.cells #[.int .i64 0, .int .i64 0] 32)).trans (hbw.mono (by simp)); have z0 : q3.cell? ⟨q2.heap.size, 0, none⟩ = some (.int .i64 0) := Below.cell_some hbw (by simp [go_sem]); have z1 : q3.cell? ⟨q2.heap.size, 1, none⟩ = some (.int .i64 0) := Below.cell_some hbw (by simp [go_sem]); have y0 : q3.frozen? ⟨q2.heap.size, 0, none⟩ = false := (hbw.frozen (p := ⟨q2.heap.size, 0, none⟩) (by simp)).trans (by simp [go_sem]); have y1 : q3.frozen? ⟨q2.heap.size, 1, none⟩ = false := (hbw.frozen (p := ⟨q2.heap.size, 1, none⟩) (by simp)).trans (by simp [go_sem]); have hz : q2.heap.size < q3.heap.size := Nat.lt_of_lt_of_le (by simp) hbw.size; have hG0 : w1.heap.size ≤ q2.heap.size := QB2.out.size; have hqs := QB2.out.size; have hne0 : ¬ w.heap.size = q2.heap.size := (by omega); have hnf0 : ¬ q2.heap.size = w.heap.size := (by omega); have c0 := Below.cell_some bq c0; have c1 := Below.cell_some bq c1; have QB3 := Lib.hid (QB2.out.trans (bq.mono QB2.out.size)); clear hbx hbw bq)
        | (go_at_call 52; (fail_if_success have hG9 := hG0); refine (specMiddleAt_any AY kY l n d q2 (HRQ.out.ants)).mono ?_; rintro e q3 ⟨rfl, hbx⟩; have hbw := hbx; have bq := hbw; have c0 := Below.cell_some bq c0; have c1 := Below.cell_some bq c1; have QB3 := Lib.hid (QB2.out.trans (bq.mono QB2.out.size)); clear hbx hbw bq)
        | (go_at_call 52; have hG9 := hG0; refine (specMiddleAt_any AY kY l n d q2 (HRQ.out.ants)).mono ?_; rintro e q3 ⟨rfl, hbx⟩; have hbw := hbx; have bq := hbw; have z0 := Below.cell_some bq z0; have z1 := Below.cell_some bq z1; have y0 := frozen_at bq y0 hz; have y1 := frozen_at bq y1 hz; have hz := Nat.lt_of_lt_of_le hz bq.size; have c0 := Below.cell_some bq c0; have c1 := Below.cell_some bq c1; have QB3 := Lib.hid (QB2.out.trans (bq.mono QB2.out.size)); clear hbx hbw bq))
    all_goals (
      go_wp2_with fail
      go_meet
      case rel =>
        first
          | exact ⟨q3.heap.size, rfl, rfl, QB3.out.size, by simp, QB3.out.alloc QB3.out.size _, by simp, by simp⟩
          | exact ⟨_, rfl, rfl, hG0, by simpa using hz, (QB3.out.setCell hG0 _).setCell hG0 _, by simp [go_sem, z0], by simp [go_sem, z1]⟩)
  case rest =>
    obtain ⟨g3, hp, hq, hg3, hg3', hbx, m0, m1⟩ := hcut
    subst hp
    subst hq
    obtain ⟨w3, rfl⟩ : ∃ w3, w3 = wc := ⟨_, rfl⟩
    have c0 := Below.cell_some hbx c0
    have c1 := Below.cell_some hbx c1
    have HB3 := Lib.hid (HB1.out.trans (hbx.mono HB1.out.size))
    clear hbx HAQ hg3
    go_wp2_with fail
    -- the copy for the program
    refine (toRunnerS_any A c l _ h (HA.out.below HB3.out)).mono ?_
    rintro e w4 ⟨A4, k4, rfl, ho4, hb4⟩
    have HB4 := Lib.hid (HB3.out.trans (hb4.mono HB3.out.size))
    have c0 := Below.cell_some hb4 c0
    have c1 := Below.cell_some hb4 c1
    have m0 := Below.cell_some hb4 m0
    have m1 := Below.cell_some hb4 m1
    have HX4 := Lib.hid ho4
    have s3g : g3 < w4.heap.size := World.block_lt_of_cell? _ _ m0
    clear hb4 ho4
    go_wp2_with fail
    refine (toMoment_any n d _).mono ?_
    rintro e w4' ⟨rfl, hb4'⟩
    have HB4 := Lib.hid (HB4.out.trans (hb4'.mono HB4.out.size))
    have c0 := Below.cell_some hb4' c0
    have c1 := Below.cell_some hb4' c1
    have m0 := Below.cell_some hb4' m0
    have m1 := Below.cell_some hb4' m1
    have HX4 := Lib.hid (AntsOwn.below HX4.out hb4')
    clear hb4'
    go_wp2_with fail
    -- the program
    refine (implMiddleAt_any A4 k4 l n d _ HX4.out.ants).mono ?_
    rintro e w5 ⟨rfl, hb5⟩
    have HB5 := Lib.hid ((HB4.out.trans (hb5.mono HB4.out.size)).alloc (by have := HB4.out.size; have := hb5.size; omega) (Obj.cells #[Value.int IntKind.i64 ((mdV l n d).1), Value.int IntKind.i64 ((mdV l n d).2)] 32))
    have m0' := m0
    have m0 := alloc_some (Below.cell_some hb5 m0) (Obj.cells #[Value.int IntKind.i64 ((mdV l n d).1), Value.int IntKind.i64 ((mdV l n d).2)] 32)
    have m1 := alloc_some (Below.cell_some hb5 m1) (Obj.cells #[Value.int IntKind.i64 ((mdV l n d).1), Value.int IntKind.i64 ((mdV l n d).2)] 32)
    have n0 : (w5.alloc (Obj.cells #[Value.int IntKind.i64 ((mdV l n d).1), Value.int IntKind.i64 ((mdV l n d).2)] 32)).cell? ⟨w5.heap.size, 0, none⟩ = some (.int .i64 ((mdV l n d).1)) := by simp
    have n1 : (w5.alloc (Obj.cells #[Value.int IntKind.i64 ((mdV l n d).1), Value.int IntKind.i64 ((mdV l n d).2)] 32)).cell? ⟨w5.heap.size, 1, none⟩ = some (.int .i64 ((mdV l n d).2)) := by simp
    have sg : g3 < w5.heap.size := Nat.lt_of_lt_of_le (World.block_lt_of_cell? _ _ m0') hb5.size
    have HX5 := Lib.hid (AntsOwn.below HX4.out (hb5.alloc (by have := hb5.size; omega) (Obj.cells #[Value.int IntKind.i64 ((mdV l n d).1), Value.int IntKind.i64 ((mdV l n d).2)] 32)))
    clear hb5
    go_wp2_with fail
    refine (eqMoment_at ((mdV l n d).1) ((mdV l n d).2) ((mdV l n d).1) ((mdV l n d).2) true (by simp) _).mono ?_
    rintro e w6 ⟨rfl, hb6⟩
    have HB6 := Lib.hid (HB5.out.trans (hb6.mono HB5.out.size))
    have HX6 := Lib.hid (AntsOwn.below HX5.out hb6)
    clear hb6
    go_wp2_with fail
    refine (toRunnerS_any A c l _ h (HA.out.below HB6.out)).mono ?_
    rintro e w7 ⟨A7, k7, rfl, ho7, hb7⟩
    have HB7 := Lib.hid (HB6.out.trans (hb7.mono HB6.out.size))
    have HX7 := Lib.hid (AntsOwn.below HX6.out hb7)
    have HY7 := Lib.hid ho7
    clear hb7 ho7
    go_wp2_with fail
    refine (eqRunnerS_true A4 A7 k4 k7 l _ h HX7.out.ants HY7.out.ants).mono ?_
    rintro e w8 ⟨rfl, hb8⟩
    have HB8 := Lib.hid (HB7.out.trans (hb8.mono HB7.out.size))
    clear hb8
    go_wp2
    go_ret
    exact ⟨ret_bool rfl, HB8.out⟩

theorem law (A : Option Addr) (c : Nat) (l : List (Int × Int)) (n : Int) (d : Int) (w : World) (hn : (l.length : Int) ≤ 9223372036854775807) (hA : AntsAt w A l) :
    Calls Try.prog 14 #[.slice A l.length c, .agg #[.int .i64 n, .int .i64 d]] w fun e w' => e = .returned (.bool true) ∧ Below w.heap.size w w' := by
  by_cases h : (l.length : Int) ≤ 1048576
  · exact fits A c l n d w h hA
  · exact big A c l n d w hn (by omega)

set_option maxRecDepth 100000 in
theorem lifted (os : Os) (started : os.Started) (H : Type) (enc : TypeId × Value → H) :
    ReturnsInHanded {} Try.checked os 14 .any (Rows.fnExactMiddleAtSpec.pre6 enc Try.prog Try.f14 Rows.fnExactMiddleAtRow.domain false) (Rows.fnExactMiddleAtSpec.post enc Try.prog Try.f14 false true false false) := by
  refine returnsInHanded_of_change (C := Try.checked) own started (by kernel_rfl) Try.func14
    (ChangeSpec.witness6 (enc := enc) (C := Try.checked) false ⟨#[], #[.slice none 0 0, .agg #[.int .i64 0, .int .i64 0]], []⟩ 8 (by kernel_rfl) (by kernel_rfl) (by kernel_rfl) (by kernel_rfl)) ?_
  intro W base args ds gs before hval0 hW hcnd _
  have hval : ∀ (j : Nat) t v, Try.f14.params[j]? = some t → args[j]? = some v → Value.okWide Try.prog W .any base t v := hval0
  have hW' := hW
  obtain ⟨p, q, hA0, hV, rfl, hfz, hnd⟩ := hW
  have hA : DataW.TrodAll enc Try.prog W 0 (fun _ => true) true Try.f14.params.toList args.toList ds p := hA0
  rw [Try.params14] at hA hval
  obtain ⟨v0, vs0, d0, ds0, p0, q0, hargs, rfl, rfl, h0, r0⟩ := trodAll_cons hA
  obtain ⟨v1, vs1, d1, ds1, p1, q1, rfl, rfl, rfl, h1, r1⟩ := trodAll_cons r0
  obtain ⟨rfl, rfl, rfl⟩ := trodAll_nil r1
  obtain rfl : args = #[v0, v1] := by cases args; simp_all
  obtain ⟨rfl, rfl⟩ := trodVars_none hV
  have k0 := h0
  have lt0 : ∀ x ∈ p0, x.block < W.heap.size := by obtain ⟨m, hm⟩ := k0; exact DataW.trod_lt m _ _ _ hm
  obtain ⟨A, c, l, rfl, hAt, hlen⟩ := open_runners (hval 0 22 v0 rfl rfl) h0
  have k1 := h1
  have lt1 : ∀ x ∈ p1, x.block < W.heap.size := by obtain ⟨m, hm⟩ := k1; exact DataW.trod_lt m _ _ _ hm
  obtain ⟨n, d, rfl⟩ := open_moment (hval 1 30 v1 rfl rfl) h1
  clear hA0 hval0
  refine (law A c l n d W hlen hAt).mono fun e W' ⟨he, bel⟩ => ?_
  subst he
  exact ⟨_, rfl, _, _, _, [], _, [], hW', trodAll_mk1 (shut_bool Try.underlying4 _), (trodAll_cons_mk (Below.trod laidOut (by kernel_rfl) (of_decide_eq_true (by kernel_rfl)) k0 bel lt0) (trodAll_cons_mk (Below.trod laidOut (by kernel_rfl) (of_decide_eq_true (by kernel_rfl)) k1 bel lt1) trodAll_mk0)), rfl, bel.frame _, fun h => by cases h⟩

theorem closed : joinedFacts Try.prog 14 Try.f14 Rows.fnExactMiddleAtSpec Rows.fnExactMiddleAtRow = true := by
  unfold joinedFacts
  repeat' with_reducible refine and_t ?_ ?_
  · kernel_rfl
  · kernel_rfl
  · kernel_rfl
  · kernel_rfl
  · kernel_rfl
  · kernel_rfl
  · kernel_rfl
  · kernel_rfl
  · kernel_rfl
  · kernel_rfl
  · kernel_rfl
  · kernel_rfl
  · kernel_rfl
  · kernel_rfl
  · kernel_rfl
  · kernel_rfl
  · kernel_rfl
  · kernel_rfl
  · kernel_rfl
  · kernel_rfl
  · kernel_rfl
  · kernel_rfl
  · kernel_rfl
  · kernel_rfl
  · kernel_rfl
  · exact factMayEnter
  · exact factLifts
  · exact factMake
  · kernel_rfl
  · kernel_rfl
  · kernel_rfl
  · kernel_rfl

theorem over : Rows.fnExactMiddleAtRow.holds Try.pinned (OpenSpec.ofChange Rows.fnExactMiddleAtSpec) :=
  OpenClaim.holds_of_wide 14 Try.f14 rfl rfl rfl rfl rfl rfl rfl ⟨rfl, rfl, rfl, rfl, rfl⟩ rfl rfl rfl rfl rfl (by kernel_rfl) Try.func14 closed
    (of_decide_eq_true (by kernel_rfl)) (by unfold Func.isWrapper; first | (rw [if_pos (by decide +kernel)]; kernel_rfl) | (rw [if_neg (by decide +kernel)]; exact ⟨rfl, rfl⟩))
    (fun os started H enc _ => lifted os started H enc)

/-- the statement -/
theorem proved : Rows.FnExactMiddleAtSaid := over
#print axioms proved

end Go.Proofs.Ytlepdphdflpoaaa.lMiddleAt
