/- The law FnExactWatchFrom returns true at every input, and leaves its arguments as they were. No condition. -/
import Derived.Test.YtlepdphdflpoaaaRows
import Derived.Test.YtlepdphdflpoaaaOpenR
import Derived.Test.YtlepdphdflpoaaaFactA
import Derived.Test.YtlepdphdflpoaaaFactB
import Derived.Test.YtlepdphdflpoaaaFactC
import Derived.Test.YtlepdphdflpoaaaWatch
import Derived.Test.YtlepdphdflpoaaaHelpR
namespace Go.Proofs.Ytlepdphdflpoaaa.lWatchFrom
open Go.RowKit
open Go.ChangeShapes Go.WideShapes Go.ChangeAt
set_option linter.unusedVariables false

set_option maxHeartbeats 1000000 in
theorem big (A : Option Addr) (c : Nat) (l : List (Int × Int)) (k : Int) (w : World) (hn : (l.length : Int) ≤ 9223372036854775807) (h : (1048576 : Int) < l.length) :
    Calls Try.prog 16 #[.slice A l.length c, .int .i64 k] w fun e w' => e = .returned (.bool true) ∧ Below w.heap.size w w' := by
  have H : Hid (∀ w, Calls Try.prog 18 #[.slice A l.length c, .int .i64 1048576] w fun e w' => e = .returned (.int .i64 (-1)) ∧ w = w') :=
    fun w => (szRunnerS_any A l.length c 1048576 w (by omega) (by omega) hn).mono fun e w' ⟨he, hw⟩ => ⟨by rw [he, if_pos h], hw⟩
  clear h hn
  go_enter Try.func16, Try.ntmps16
  go_wp2_with fail
  refine (H.out _).mono ?_
  rintro e w1 ⟨rfl, rfl⟩
  go_wp2
  go_ret
  exact ⟨ret_bool rfl, Below.refl _ _⟩

set_option maxHeartbeats 4000000 in
theorem fits (A : Option Addr) (c : Nat) (l : List (Int × Int)) (k : Int) (w : World) (hk : (Lit.int .i64 k).wf = true) (h : (l.length : Int) ≤ 1048576) (hA : AntsAt w A l) :
    Calls Try.prog 16 #[.slice A l.length c, .int .i64 k] w fun e w' => e = .returned (.bool true) ∧ Below w.heap.size w w' := by
  have H : Hid (∀ w, Calls Try.prog 18 #[.slice A l.length c, .int .i64 1048576] w fun e w' => e = .returned (.int .i64 (1048576 - l.length)) ∧ w = w') :=
    fun w => (szRunnerS_any A l.length c 1048576 w (by omega) (by omega) (by omega)).mono fun e w' ⟨he, hw⟩ => ⟨by rw [he, if_neg (by omega)], hw⟩
  have hz : ¬ (1048576 - (l.length : Int)) < 0 := by omega
  have hvb : (((wfV l k).length : Nat) : Int) ≤ 1048576 := (by have := wfV_len l k; omega)
  have HVB := Lib.hid hvb
  clear hvb
  have HA := Lib.hid hA
  clear hA
  go_enter Try.func16, Try.ntmps16
  go_wp2_with fail
  refine (H.out _).mono ?_
  rintro e w1 ⟨rfl, rfl⟩
  go_wp2_with fail
  -- the copy for the model
  refine (toRunnerS_any A c l _ h HA.out).mono ?_
  rintro e w2 ⟨A2, k2, rfl, ho2, hb2⟩
  have HB2 := Lib.hid hb2
  have HO2 := Lib.hid ho2
  clear hb2 ho2
  go_wp2_with fail
  -- the model
  refine (specWatchFrom_any A2 k2 l k _ HO2.out.ants).mono ?_
  rintro e w3 ⟨A3, n3, k3, rfl, hn3, ho3, hb3⟩
  subst hn3
  have HB3 := Lib.hid (HB2.out.trans (hb3.mono HB2.out.size))
  have HW3 := Lib.hid ho3
  have IW := Lib.hid (World.ownsRow.lt ho3)
  clear hb3 ho3
  go_wp2_with fail
  -- the copy for the program
  refine (toRunnerS_any A c l _ h (HA.out.below HB3.out)).mono ?_
  rintro e w4 ⟨A4, k4, rfl, ho4, hb4⟩
  have HB4 := Lib.hid (HB3.out.trans (hb4.mono HB3.out.size))
  have S34 := Lib.hid hb4.size
  have HX4 := Lib.hid ho4
  have IX := Lib.hid (World.ownsRow.lt ho4)
  have HW4 := Lib.hid (AntsOwn.below HW3.out hb4)
  clear hb4 ho4
  go_wp2_with fail
  -- the program
  refine (implWatchFrom_any A4 k4 l k _ HX4.out.ants).mono ?_
  rintro e w5 ⟨A5, n5, k5, rfl, hn5, ho5, hb5⟩
  subst hn5
  have HB5 := Lib.hid (HB4.out.trans (hb5.mono HB4.out.size))
  have HX5 := Lib.hid (AntsOwn.below HX4.out hb5)
  have HW5 := Lib.hid (AntsOwn.below HW4.out hb5)
  have HG5 := Lib.hid ho5
  have IG := Lib.hid (World.ownsRow.lt ho5)
  clear hb5 ho5
  go_wp2_with fail
  refine (eqRunnerS_true A5 A3 k5 k3 (wfV l k) _ HVB.out (AntsOwn.ants HG5.out) (AntsOwn.ants HW5.out)).mono ?_
  rintro e w6 ⟨rfl, hb6⟩
  have HB6 := Lib.hid (HB5.out.trans (hb6.mono HB5.out.size))
  have HX6 := Lib.hid (AntsOwn.below HX5.out hb6)
  have HW6 := Lib.hid (AntsOwn.below HW5.out hb6)
  have HG6 := Lib.hid (AntsOwn.below HG5.out hb6)
  clear hb6
  go_wp2_with fail
  refine (toRunnerS_any A c l _ h (HA.out.below HB6.out)).mono ?_
  rintro e w7 ⟨A7, k7, rfl, ho7, hb7⟩
  have HB7 := Lib.hid (HB6.out.trans (hb7.mono HB6.out.size))
  have HX7 := Lib.hid (AntsOwn.below HX6.out hb7)
  have HW7 := Lib.hid (AntsOwn.below HW6.out hb7)
  have HG7 := Lib.hid (AntsOwn.below HG6.out hb7)
  have HY7 := Lib.hid ho7
  clear hb7 ho7
  go_wp2_with fail
  refine (eqRunnerS_true A4 A7 k4 k7 l _ h HX7.out.ants HY7.out.ants).mono ?_
  rintro e w8 ⟨rfl, hb8⟩
  have HB8 := Lib.hid (HB7.out.trans (hb8.mono HB7.out.size))
  have HX8 := Lib.hid (AntsOwn.below HX7.out hb8)
  have HW8 := Lib.hid (AntsOwn.below HW7.out hb8)
  have HG8 := Lib.hid (AntsOwn.below HG7.out hb8)
  clear hb8 HY7
  go_wp2_with fail
  -- marks on the copy
  refine (markRunnerS_any A4 k4 _ l 1 _ (by omega) (by omega) h HX8.out).mono ?_
  rintro e w9 ⟨rfl, _, hg9⟩
  have HB9 := Lib.hid (HB8.out.trans (grown_below hg9 IX.out HB3.out.size HB8.out.size))
  have HW9 := Lib.hid (grown_own (S := pairS) hg9 IX.out HW8.out (fun k hk => .inl (IW.out k hk).2))
  have HG9 := Lib.hid (grown_own (S := pairS) hg9 IX.out HG8.out (fun k hk => .inr (IG.out k hk).1))
  clear hg9
  have hk9 : ¬ (1 + 2 * (l.length : Int)) < 0 := by omega
  go_wp2_with fail
  refine (eqRunnerS_true A5 A3 k5 k3 (wfV l k) _ HVB.out (AntsOwn.ants HG9.out) (AntsOwn.ants HW9.out)).mono ?_
  rintro e w10 ⟨rfl, hb10⟩
  have HB10 := Lib.hid (HB9.out.trans (hb10.mono HB9.out.size))
  have HW10 := Lib.hid (AntsOwn.below HW9.out hb10)
  have HG10 := Lib.hid (AntsOwn.below HG9.out hb10)
  clear hb10
  go_wp2_with fail
  -- marks on the result
  refine (markRunnerS_any A5 k5 _ (wfV l k) 1 _ (by omega) (by omega) HVB.out HG10.out).mono ?_
  rintro e w11 ⟨rfl, ho11, hg11⟩
  have HG11 := Lib.hid ho11
  have HB11 := Lib.hid (HB10.out.trans (grown_below hg11 IG.out HB4.out.size HB10.out.size))
  have HW11 := Lib.hid (grown_own (S := pairS) hg11 IG.out HW10.out (fun k hk => .inl (by exact Nat.lt_of_lt_of_le (IW.out k hk).2 S34.out)))
  clear hg11 ho11
  have hm1 : ¬ (1 + 2 * (((wfV l k).length : Nat) : Int)) < 0 := by omega
  go_wp2_with fail
  refine (heldRunnerS_any A5 k5 (wfV l k).length 1 _ (by omega) (by omega) HVB.out (AntsOwn.ants HG11.out)).mono ?_
  rintro e w11' ⟨rfl, rfl⟩
  go_wp2_with fail
  -- once more
  refine (toRunnerS_any A c l _ h (HA.out.below HB11.out)).mono ?_
  rintro e w12 ⟨A12, k12, rfl, ho12, hb12⟩
  have HB12 := Lib.hid (HB11.out.trans (hb12.mono HB11.out.size))
  have HX12 := Lib.hid ho12
  have HW12 := Lib.hid (AntsOwn.below HW11.out hb12)
  have HG12 := Lib.hid (AntsOwn.below HG11.out hb12)
  clear hb12 ho12
  go_wp2_with fail
  refine (implWatchFrom_any A12 k12 l k _ HX12.out.ants).mono ?_
  rintro e w13 ⟨A13, n13, k13, rfl, hn13, ho13, hb13⟩
  subst hn13
  have HB13 := Lib.hid (HB12.out.trans (hb13.mono HB12.out.size))
  have HH13 := Lib.hid ho13
  have HW13 := Lib.hid (AntsOwn.below HW12.out hb13)
  have HG13 := Lib.hid (AntsOwn.below HG12.out hb13)
  clear hb13 ho13
  go_wp2_with fail
  refine (eqRunnerS_true A13 A3 k13 k3 (wfV l k) _ HVB.out (AntsOwn.ants HH13.out) (AntsOwn.ants HW13.out)).mono ?_
  rintro e w14 ⟨rfl, hb14⟩
  have HB14 := Lib.hid (HB13.out.trans (hb14.mono HB13.out.size))
  have HG14 := Lib.hid (AntsOwn.below HG13.out hb14)
  clear hb14
  go_wp2_with fail
  refine (heldRunnerS_any A5 k5 (wfV l k).length 1 _ (by omega) (by omega) HVB.out (AntsOwn.ants HG14.out)).mono ?_
  rintro e w14' ⟨rfl, rfl⟩
  go_wp2
  go_ret
  exact ⟨ret_bool rfl, HB14.out⟩

theorem law (A : Option Addr) (c : Nat) (l : List (Int × Int)) (k : Int) (w : World) (hk : (Lit.int .i64 k).wf = true) (hn : (l.length : Int) ≤ 9223372036854775807) (hA : AntsAt w A l) :
    Calls Try.prog 16 #[.slice A l.length c, .int .i64 k] w fun e w' => e = .returned (.bool true) ∧ Below w.heap.size w w' := by
  by_cases h : (l.length : Int) ≤ 1048576
  · exact fits A c l k w hk h hA
  · exact big A c l k w hn (by omega)

set_option maxRecDepth 100000 in
theorem lifted (os : Os) (started : os.Started) (H : Type) (enc : TypeId × Value → H) :
    ReturnsInHanded {} Try.checked os 16 .any (Rows.fnExactWatchFromSpec.pre6 enc Try.prog Try.f16 Rows.fnExactWatchFromRow.domain false) (Rows.fnExactWatchFromSpec.post enc Try.prog Try.f16 false true false false) := by
  refine returnsInHanded_of_change (C := Try.checked) own started (by kernel_rfl) Try.func16
    (ChangeSpec.witness6 (enc := enc) (C := Try.checked) false ⟨#[], #[.slice none 0 0, .int .i64 0], []⟩ 8 (by kernel_rfl) (by kernel_rfl) (by kernel_rfl) (by kernel_rfl)) ?_
  intro W base args ds gs before hval0 hW hcnd _
  have hval : ∀ (j : Nat) t v, Try.f16.params[j]? = some t → args[j]? = some v → Value.okWide Try.prog W .any base t v := hval0
  have hW' := hW
  obtain ⟨p, q, hA0, hV, rfl, hfz, hnd⟩ := hW
  have hA : DataW.TrodAll enc Try.prog W 0 (fun _ => true) true Try.f16.params.toList args.toList ds p := hA0
  rw [Try.params16] at hA hval
  obtain ⟨v0, vs0, d0, ds0, p0, q0, hargs, rfl, rfl, h0, r0⟩ := trodAll_cons hA
  obtain ⟨v1, vs1, d1, ds1, p1, q1, rfl, rfl, rfl, h1, r1⟩ := trodAll_cons r0
  obtain ⟨rfl, rfl, rfl⟩ := trodAll_nil r1
  obtain rfl : args = #[v0, v1] := by cases args; simp_all
  obtain ⟨rfl, rfl⟩ := trodVars_none hV
  have k0 := h0
  have lt0 : ∀ x ∈ p0, x.block < W.heap.size := by obtain ⟨m, hm⟩ := k0; exact DataW.trod_lt m _ _ _ hm
  obtain ⟨A, c, l, rfl, hAt, hlen⟩ := open_runners (hval 0 22 v0 rfl rfl) h0
  obtain ⟨k, rfl, rfl, rfl, w1⟩ := open_int Try.underlying3 (hval 1 3 v1 rfl rfl) h1
  clear hA0 hval0
  refine (law A c l k W w1 hlen hAt).mono fun e W' ⟨he, bel⟩ => ?_
  subst he
  exact ⟨_, rfl, _, _, _, [], _, [], hW', trodAll_mk1 (shut_bool Try.underlying4 _), (trodAll_cons_mk (Below.trod laidOut (by kernel_rfl) (of_decide_eq_true (by kernel_rfl)) k0 bel lt0) (trodAll_cons_mk (shut_int Try.underlying3 w1) trodAll_mk0)), rfl, bel.frame _, fun h => by cases h⟩

theorem closed : joinedFacts Try.prog 16 Try.f16 Rows.fnExactWatchFromSpec Rows.fnExactWatchFromRow = true := by
  unfold joinedFacts
  repeat' with_reducible refine and_t ?_ ?_
  · kernel_rfl
  · kernel_rfl
  · kernel_rfl
  · kernel_rfl
  · kernel_rfl
  · kernel_rfl
  · kernel_rfl
  · kernel_rfl
  · kernel_rfl
  · kernel_rfl
  · kernel_rfl
  · kernel_rfl
  · kernel_rfl
  · kernel_rfl
  · kernel_rfl
  · kernel_rfl
  · kernel_rfl
  · kernel_rfl
  · kernel_rfl
  · kernel_rfl
  · kernel_rfl
  · kernel_rfl
  · kernel_rfl
  · kernel_rfl
  · kernel_rfl
  · exact factMayEnter
  · exact factLifts
  · exact factMake
  · kernel_rfl
  · kernel_rfl
  · kernel_rfl
  · kernel_rfl

theorem over : Rows.fnExactWatchFromRow.holds Try.pinned (OpenSpec.ofChange Rows.fnExactWatchFromSpec) :=
  OpenClaim.holds_of_wide 16 Try.f16 rfl rfl rfl rfl rfl rfl rfl ⟨rfl, rfl, rfl, rfl, rfl⟩ rfl rfl rfl rfl rfl (by kernel_rfl) Try.func16 closed
    (of_decide_eq_true (by kernel_rfl)) (by unfold Func.isWrapper; first | (rw [if_pos (by decide +kernel)]; kernel_rfl) | (rw [if_neg (by decide +kernel)]; exact ⟨rfl, rfl⟩))
    (fun os started H enc _ => lifted os started H enc)

/-- the statement -/
theorem proved : Rows.FnExactWatchFromSaid := over
#print axioms proved

end Go.Proofs.Ytlepdphdflpoaaa.lWatchFrom
