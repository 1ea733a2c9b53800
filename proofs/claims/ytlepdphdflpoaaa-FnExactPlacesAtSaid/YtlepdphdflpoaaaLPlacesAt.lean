/- The law FnExactPlacesAt returns true at every input, and leaves its arguments as they were. No condition. -/
import Derived.Test.YtlepdphdflpoaaaRows
import Derived.Test.YtlepdphdflpoaaaOpenR
import Derived.Test.YtlepdphdflpoaaaFactA
import Derived.Test.YtlepdphdflpoaaaFactB
import Derived.Test.YtlepdphdflpoaaaFactC
import Derived.Test.YtlepdphdflpoaaaPla
import Derived.Test.YtlepdphdflpoaaaHelpR
import Derived.Deep.RegionHeld3
namespace Go.Proofs.Ytlepdphdflpoaaa.lPlacesAt
open Go.RowKit
open Go.ChangeShapes Go.WideShapes Go.ChangeAt
set_option linter.unusedVariables false

set_option maxHeartbeats 1000000 in
theorem big (A : Option Addr) (c : Nat) (l : List (Int × Int)) (n : Int) (d : Int) (w : World) (hn : (l.length : Int) ≤ 9223372036854775807) (h : (1048576 : Int) < l.length) :
    Calls Try.prog 5 #[.slice A l.length c, .agg #[.int .i64 n, .int .i64 d]] w fun e w' => e = .returned (.bool true) ∧ Below w.heap.size w w' := by
  have H : Hid (∀ w, Calls Try.prog 18 #[.slice A l.length c, .int .i64 1048576] w fun e w' => e = .returned (.int .i64 (-1)) ∧ Below w.heap.size w w') :=
    fun w => (szRunnerS_any A l.length c 1048576 w (by omega) (by omega) hn).mono fun e w' ⟨he, hw⟩ => ⟨by rw [he, if_pos h], hw ▸ Below.refl _ _⟩
  clear h hn
  go_enter Try.func5, Try.ntmps5
  go_wp2_with fail
  refine (H.out _).mono ?_
  rintro e w1 ⟨rfl, hb⟩
  go_wp2
  go_ret
  exact ⟨ret_bool rfl, ((Below.refl _ _).alloc (Nat.le_refl _) _).trans (hb.mono (by simp))⟩

set_option maxHeartbeats 4000000 in
theorem fits (A : Option Addr) (c : Nat) (l : List (Int × Int)) (n : Int) (d : Int) (w : World) (h : (l.length : Int) ≤ 1048576) (hA : AntsAt w A l) :
    Calls Try.prog 5 #[.slice A l.length c, .agg #[.int .i64 n, .int .i64 d]] w fun e w' => e = .returned (.bool true) ∧ Below w.heap.size w w' := by
  have H : Hid (∀ w, Calls Try.prog 18 #[.slice A l.length c, .int .i64 1048576] w fun e w' => e = .returned (.int .i64 (1048576 - l.length)) ∧ Below w.heap.size w w') :=
    fun w => (szRunnerS_any A l.length c 1048576 w (by omega) (by omega) (by omega)).mono fun e w' ⟨he, hw⟩ => ⟨by rw [he, if_neg (by omega)], hw ▸ Below.refl _ _⟩
  have hz : ¬ (1048576 - (l.length : Int)) < 0 := by omega
  have hvb : (((plV l n d).length : Nat) : Int) ≤ 1048576 := by have := plV_len l n d; omega
  have HVB := Lib.hid hvb
  clear hvb
  have HA := Lib.hid hA
  clear hA
  go_enter Try.func5, Try.ntmps5
  go_wp2_with fail
  refine (H.out _).mono ?_
  rintro e w1 ⟨rfl, hb1⟩
  have HB1 := Lib.hid (((Below.refl _ w).alloc (Nat.le_refl _) _).trans (hb1.mono (by simp)))
  have c0 : w1.cell? ⟨w.heap.size, 0, none⟩ = some (.int .i64 n) := by rw [hb1.cell (p := ⟨w.heap.size, 0, none⟩) (by simp)]; simp
  have c1 : w1.cell? ⟨w.heap.size, 1, none⟩ = some (.int .i64 d) := by rw [hb1.cell (p := ⟨w.heap.size, 1, none⟩) (by simp)]; simp
  have HA1 := Lib.hid (HA.out.below HB1.out)
  clear hb1
  go_wp2
  go_region_held3 (fun w' => w'.cell? ⟨w.heap.size, 0, none⟩ = some (.int .i64 n) ∧ w'.cell? ⟨w.heap.size, 1, none⟩ = some (.int .i64 d))
    (first
      | go_keep
      | exact ⟨Below.cell_some hbx c0, Below.cell_some hbx c1⟩
      | exact ⟨Below.cell_some hby c0', Below.cell_some hby c1'⟩
      | exact ⟨Below.cell_some hbz c0'', Below.cell_some hbz c1''⟩)
    (first
      | (go_at_call 20; refine (toRunnerS_any A c l w1.drew h HA1.out).mono ?_; rintro e x1 ⟨AX, kX, rfl, hox, hbx0⟩; have hbx := below_drew hbx0; clear hbx0; have HOX := Lib.hid hox; have c0' := Below.cell_some hbx c0; have c1' := Below.cell_some hbx c1)
      | (go_at_call 24; refine (toMoment_any n d _).mono ?_; rintro e x2 ⟨rfl, hby⟩; have HOY := Lib.hid (AntsOwn.below HOX.out hby); have c0'' := Below.cell_some hby c0'; have c1'' := Below.cell_some hby c1')
      | (go_at_call 26; refine (specPlacesAt_any AX kX l n d _ HOY.out.ants).mono ?_; rintro e x3 ⟨A3, n3, k3, rfl, hn3, ho3, hbz⟩))
  have hbr : Below w1.heap.size w1 x3 := (hbx.trans (hby.mono hbx.size)).trans (hbz.mono (by have := hbx.size; have := hby.size; omega))
  subst hn3
  have HB3 := Lib.hid (HB1.out.trans (hbr.mono HB1.out.size))
  have c0 := Below.cell_some hbr c0
  have c1 := Below.cell_some hbr c1
  have S13 : Hid (w.heap.size < x3.heap.size) := World.block_lt_of_cell? _ _ c0
  have HW3 := Lib.hid ho3
  have IW := Lib.hid (World.ownsRow.lt ho3)
  clear hbr hbx hby hbz hox HOX HOY c0' c1' c0'' c1'' ho3
  go_wp2_with fail
  -- the copy for the program
  refine (toRunnerS_any A c l _ h (HA.out.below HB3.out)).mono ?_
  rintro e w4 ⟨A4, k4, rfl, ho4, hb4⟩
  have HB4 := Lib.hid (HB3.out.trans (hb4.mono HB3.out.size))
  have c0 := Below.cell_some hb4 c0
  have c1 := Below.cell_some hb4 c1
  have S34 := Lib.hid hb4.size
  have HX4 := Lib.hid ho4
  have IX := Lib.hid (World.ownsRow.lt ho4)
  have HW4 := Lib.hid (AntsOwn.below HW3.out hb4)
  clear hb4 ho4
  go_wp2_with fail
  -- the program
  refine (toMoment_any n d _).mono ?_
  rintro e w4' ⟨rfl, hb4'⟩
  have HB4' := Lib.hid (HB4.out.trans (hb4'.mono HB4.out.size))
  have c0 := Below.cell_some hb4' c0
  have c1 := Below.cell_some hb4' c1
  have HX4' := Lib.hid (AntsOwn.below HX4.out hb4')
  have HW4' := Lib.hid (AntsOwn.below HW4.out hb4')
  have S4' := Lib.hid hb4'.size
  clear hb4'
  go_wp2_with fail
  refine (implPlacesAt_any A4 k4 l n d _ HX4'.out.ants).mono ?_
  rintro e w5 ⟨A5, n5, k5, rfl, hn5, ho5, hb5⟩
  subst hn5
  have HB5 := Lib.hid (HB4'.out.trans (hb5.mono HB4'.out.size))
  have c0 := Below.cell_some hb5 c0
  have c1 := Below.cell_some hb5 c1
  have HX5 := Lib.hid (AntsOwn.below HX4'.out hb5)
  have HW5 := Lib.hid (AntsOwn.below HW4'.out hb5)
  have HG5 := Lib.hid ho5
  have IG := Lib.hid (World.ownsRow.lt ho5)
  clear hb5 ho5
  go_wp2_with fail
  refine (eqMomentS_true A5 A3 k5 k3 (plV l n d) _ HVB.out (AntsOwn.ants HG5.out) (AntsOwn.ants HW5.out)).mono ?_
  rintro e w6 ⟨rfl, hb6⟩
  have HB6 := Lib.hid (HB5.out.trans (hb6.mono HB5.out.size))
  have c0 := Below.cell_some hb6 c0
  have c1 := Below.cell_some hb6 c1
  have HX6 := Lib.hid (AntsOwn.below HX5.out hb6)
  have HW6 := Lib.hid (AntsOwn.below HW5.out hb6)
  have HG6 := Lib.hid (AntsOwn.below HG5.out hb6)
  clear hb6
  go_wp2_with fail
  refine (toRunnerS_any A c l _ h (HA.out.below HB6.out)).mono ?_
  rintro e w7 ⟨A7, k7, rfl, ho7, hb7⟩
  have HB7 := Lib.hid (HB6.out.trans (hb7.mono HB6.out.size))
  have c0 := Below.cell_some hb7 c0
  have c1 := Below.cell_some hb7 c1
  have HX7 := Lib.hid (AntsOwn.below HX6.out hb7)
  have HW7 := Lib.hid (AntsOwn.below HW6.out hb7)
  have HG7 := Lib.hid (AntsOwn.below HG6.out hb7)
  have HY7 := Lib.hid ho7
  clear hb7 ho7
  go_wp2_with fail
  refine (eqRunnerS_true A4 A7 k4 k7 l _ h HX7.out.ants HY7.out.ants).mono ?_
  rintro e w8 ⟨rfl, hb8⟩
  have HB8 := Lib.hid (HB7.out.trans (hb8.mono HB7.out.size))
  have c0 := Below.cell_some hb8 c0
  have c1 := Below.cell_some hb8 c1
  have HX8 := Lib.hid (AntsOwn.below HX7.out hb8)
  have HW8 := Lib.hid (AntsOwn.below HW7.out hb8)
  have HG8 := Lib.hid (AntsOwn.below HG7.out hb8)
  clear hb8 HY7
  go_wp2_with fail
  -- marks on the copy
  refine (markRunnerS_any A4 k4 _ l 1 _ (by omega) (by omega) h HX8.out).mono ?_
  rintro e w9 ⟨rfl, _, hg9⟩
  have HB9 := Lib.hid (HB8.out.trans (grown_below hg9 IX.out HB3.out.size HB8.out.size))
  have c0 := grown_cell hg9 IX.out (.inl (by have := S13.out; simp; omega)) c0
  have c1 := grown_cell hg9 IX.out (.inl (by have := S13.out; simp; omega)) c1
  have HW9 := Lib.hid (grown_own (S := pairS) hg9 IX.out HW8.out (fun k hk => .inl (IW.out k hk).2))
  have HG9 := Lib.hid (grown_own (S := pairS) hg9 IX.out HG8.out (fun k hk => .inr (Nat.le_trans S4'.out (IG.out k hk).1)))
  clear hg9
  have hk9 : ¬ (1 + 2 * (l.length : Int)) < 0 := by omega
  go_wp2_with fail
  refine (eqMomentS_true A5 A3 k5 k3 (plV l n d) _ HVB.out (AntsOwn.ants HG9.out) (AntsOwn.ants HW9.out)).mono ?_
  rintro e w10 ⟨rfl, hb10⟩
  have HB10 := Lib.hid (HB9.out.trans (hb10.mono HB9.out.size))
  have c0 := Below.cell_some hb10 c0
  have c1 := Below.cell_some hb10 c1
  have HW10 := Lib.hid (AntsOwn.below HW9.out hb10)
  have HG10 := Lib.hid (AntsOwn.below HG9.out hb10)
  clear hb10
  go_wp2_with fail
  -- marks on the result
  refine (markMomentS_any A5 k5 _ (plV l n d) 1 _ (by omega) (by omega) HVB.out HG10.out).mono ?_
  rintro e w11 ⟨rfl, ho11, hg11⟩
  have HG11 := Lib.hid ho11
  have HB11 := Lib.hid (HB10.out.trans (grown_below hg11 IG.out HB4'.out.size HB10.out.size))
  have c0 := grown_cell hg11 IG.out (.inl (by have := S13.out; have := S34.out; have := S4'.out; simp; omega)) c0
  have c1 := grown_cell hg11 IG.out (.inl (by have := S13.out; have := S34.out; have := S4'.out; simp; omega)) c1
  have HW11 := Lib.hid (grown_own (S := pairS) hg11 IG.out HW10.out (fun k hk => .inl (by exact Nat.lt_of_lt_of_le (IW.out k hk).2 (Nat.le_trans S34.out S4'.out))))
  clear hg11 ho11
  have hm1 : ¬ (1 + 2 * (((plV l n d).length : Nat) : Int)) < 0 := by omega
  go_wp2_with fail
  refine (heldMomentS_any A5 k5 (plV l n d).length 1 _ (by omega) (by omega) HVB.out (AntsOwn.ants HG11.out)).mono ?_
  rintro e w11' ⟨rfl, rfl⟩
  have HA11 := Lib.hid (HA.out.below HB11.out)
  go_wp2
  go_region_held3 (fun w' => w'.cell? ⟨w.heap.size, 0, none⟩ = some (.int .i64 n) ∧ w'.cell? ⟨w.heap.size, 1, none⟩ = some (.int .i64 d))
    (first
      | go_keep
      | exact ⟨Below.cell_some hbx c0, Below.cell_some hbx c1⟩
      | exact ⟨Below.cell_some hby c0', Below.cell_some hby c1'⟩
      | exact ⟨Below.cell_some hbz c0'', Below.cell_some hbz c1''⟩)
    (first
      | (go_at_call 20; refine (toRunnerS_any A c l w11.drew h HA11.out).mono ?_; rintro e x1 ⟨AX, kX, rfl, hox, hbx0⟩; have hbx := below_drew hbx0; clear hbx0; have HOX := Lib.hid hox; have c0' := Below.cell_some hbx c0; have c1' := Below.cell_some hbx c1)
      | (go_at_call 24; refine (toMoment_any n d _).mono ?_; rintro e x2 ⟨rfl, hby⟩; have HOY := Lib.hid (AntsOwn.below HOX.out hby); have c0'' := Below.cell_some hby c0'; have c1'' := Below.cell_some hby c1')
      | (go_at_call 27; refine (implPlacesAt_any AX kX l n d _ HOY.out.ants).mono ?_; rintro e x3 ⟨A13, n13, k13, rfl, hn13, ho13, hbz⟩))
  have hbr : Below w11.heap.size w11 x3 := (hbx.trans (hby.mono hbx.size)).trans (hbz.mono (by have := hbx.size; have := hby.size; omega))
  subst hn13
  have HB13 := Lib.hid (HB11.out.trans (hbr.mono HB11.out.size))
  have HH13 := Lib.hid ho13
  have HW13 := Lib.hid (AntsOwn.below HW11.out hbr)
  have HG13 := Lib.hid (AntsOwn.below HG11.out hbr)
  clear hbr hbx hby hbz hox HOX HOY c0' c1' c0'' c1'' ho13 c0 c1
  go_wp2_with fail
  refine (eqMomentS_true A13 A3 k13 k3 (plV l n d) _ HVB.out (AntsOwn.ants HH13.out) (AntsOwn.ants HW13.out)).mono ?_
  rintro e w14 ⟨rfl, hb14⟩
  have HB14 := Lib.hid (HB13.out.trans (hb14.mono HB13.out.size))
  have HG14 := Lib.hid (AntsOwn.below HG13.out hb14)
  clear hb14
  go_wp2_with fail
  refine (heldMomentS_any A5 k5 (plV l n d).length 1 _ (by omega) (by omega) HVB.out (AntsOwn.ants HG14.out)).mono ?_
  rintro e w14' ⟨rfl, rfl⟩
  go_wp2
  go_ret
  exact ⟨ret_bool rfl, HB14.out⟩

theorem law (A : Option Addr) (c : Nat) (l : List (Int × Int)) (n : Int) (d : Int) (w : World) (hn : (l.length : Int) ≤ 9223372036854775807) (hA : AntsAt w A l) :
    Calls Try.prog 5 #[.slice A l.length c, .agg #[.int .i64 n, .int .i64 d]] w fun e w' => e = .returned (.bool true) ∧ Below w.heap.size w w' := by
  by_cases h : (l.length : Int) ≤ 1048576
  · exact fits A c l n d w h hA
  · exact big A c l n d w hn (by omega)

set_option maxRecDepth 100000 in
theorem lifted (os : Os) (started : os.Started) (H : Type) (enc : TypeId × Value → H) :
    ReturnsInHanded {} Try.checked os 5 .any (Rows.fnExactPlacesAtSpec.pre6 enc Try.prog Try.f5 Rows.fnExactPlacesAtRow.domain false) (Rows.fnExactPlacesAtSpec.post enc Try.prog Try.f5 false true false false) := by
  refine returnsInHanded_of_change (C := Try.checked) own started (by kernel_rfl) Try.func5
    (ChangeSpec.witness6 (enc := enc) (C := Try.checked) false ⟨#[], #[.slice none 0 0, .agg #[.int .i64 0, .int .i64 0]], []⟩ 8 (by kernel_rfl) (by kernel_rfl) (by kernel_rfl) (by kernel_rfl)) ?_
  intro W base args ds gs before hval0 hW hcnd _
  have hval : ∀ (j : Nat) t v, Try.f5.params[j]? = some t → args[j]? = some v → Value.okWide Try.prog W .any base t v := hval0
  have hW' := hW
  obtain ⟨p, q, hA0, hV, rfl, hfz, hnd⟩ := hW
  have hA : DataW.TrodAll enc Try.prog W 0 (fun _ => true) true Try.f5.params.toList args.toList ds p := hA0
  rw [Try.params5] at hA hval
  obtain ⟨v0, vs0, d0, ds0, p0, q0, hargs, rfl, rfl, h0, r0⟩ := trodAll_cons hA
  obtain ⟨v1, vs1, d1, ds1, p1, q1, rfl, rfl, rfl, h1, r1⟩ := trodAll_cons r0
  obtain ⟨rfl, rfl, rfl⟩ := trodAll_nil r1
  obtain rfl : args = #[v0, v1] := by cases args; simp_all
  obtain ⟨rfl, rfl⟩ := trodVars_none hV
  have k0 := h0
  have lt0 : ∀ x ∈ p0, x.block < W.heap.size := by obtain ⟨m, hm⟩ := k0; exact DataW.trod_lt m _ _ _ hm
  obtain ⟨A, c, l, rfl, hAt, hlen⟩ := open_runners (hval 0 22 v0 rfl rfl) h0
  have k1 := h1
  have lt1 : ∀ x ∈ p1, x.block < W.heap.size := by obtain ⟨m, hm⟩ := k1; exact DataW.trod_lt m _ _ _ hm
  obtain ⟨n, d, rfl⟩ := open_moment (hval 1 30 v1 rfl rfl) h1
  clear hA0 hval0
  refine (law A c l n d W hlen hAt).mono fun e W' ⟨he, bel⟩ => ?_
  subst he
  exact ⟨_, rfl, _, _, _, [], _, [], hW', trodAll_mk1 (shut_bool Try.underlying4 _), (trodAll_cons_mk (Below.trod laidOut (by kernel_rfl) (of_decide_eq_true (by kernel_rfl)) k0 bel lt0) (trodAll_cons_mk (Below.trod laidOut (by kernel_rfl) (of_decide_eq_true (by kernel_rfl)) k1 bel lt1) trodAll_mk0)), rfl, bel.frame _, fun h => by cases h⟩

theorem closed : joinedFacts Try.prog 5 Try.f5 Rows.fnExactPlacesAtSpec Rows.fnExactPlacesAtRow = true := by
  unfold joinedFacts
  repeat' with_reducible refine and_t ?_ ?_
  · kernel_rfl
  · kernel_rfl
  · kernel_rfl
  · kernel_rfl
  · kernel_rfl
  · kernel_rfl
  · kernel_rfl
  · kernel_rfl
  · kernel_rfl
  · kernel_rfl
  · kernel_rfl
  · kernel_rfl
  · kernel_rfl
  · kernel_rfl
  · kernel_rfl
  · kernel_rfl
  · kernel_rfl
  · kernel_rfl
  · kernel_rfl
  · kernel_rfl
  · kernel_rfl
  · kernel_rfl
  · kernel_rfl
  · kernel_rfl
  · kernel_rfl
  · exact factMayEnter
  · exact factLifts
  · exact factMake
  · kernel_rfl
  · kernel_rfl
  · kernel_rfl
  · kernel_rfl

theorem over : Rows.fnExactPlacesAtRow.holds Try.pinned (OpenSpec.ofChange Rows.fnExactPlacesAtSpec) :=
  OpenClaim.holds_of_wide 5 Try.f5 rfl rfl rfl rfl rfl rfl rfl ⟨rfl, rfl, rfl, rfl, rfl⟩ rfl rfl rfl rfl rfl (by kernel_rfl) Try.func5 closed
    (of_decide_eq_true (by kernel_rfl)) (by unfold Func.isWrapper; first | (rw [if_pos (by decide +kernel)]; kernel_rfl) | (rw [if_neg (by decide +kernel)]; exact ⟨rfl, rfl⟩))
    (fun os started H enc _ => lifted os started H enc)

/-- the statement -/
theorem proved : Rows.FnExactPlacesAtSaid := over
#print axioms proved

end Go.Proofs.Ytlepdphdflpoaaa.lPlacesAt
