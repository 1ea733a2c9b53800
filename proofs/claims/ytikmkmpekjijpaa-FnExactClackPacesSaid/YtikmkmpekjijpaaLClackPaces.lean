/- The law FnExactClackPaces returns true at every input, and leaves its arguments as they were. No condition. -/
import Derived.Test.YtikmkmpekjijpaaRows
import Derived.Test.YtikmkmpekjijpaaOpenP
import Derived.Test.YtikmkmpekjijpaaFactA
import Derived.Test.YtikmkmpekjijpaaFactB
import Derived.Test.YtikmkmpekjijpaaFactC
import Derived.Test.YtikmkmpekjijpaaBalK
import Derived.Test.YtikmkmpekjijpaaPaX
import Derived.Test.YtikmkmpekjijpaaHelpP
namespace Go.Proofs.Ytikmkmpekjijpaa.lClackPaces
open Go.RowKit
open Go.ChangeShapes Go.WideShapes Go.ChangeAt
set_option linter.unusedVariables false

set_option maxHeartbeats 2000000 in
theorem fits (i1 i2 : Int) (w : World) (hi1 : (Lit.int .i64 i1).wf = true) (hi2 : (Lit.int .i64 i2).wf = true) :
    Calls Try.prog 9 #[.int .i64 i1, .int .i64 i2] w fun e w' => e = .returned (.bool true) ∧ Below w.heap.size w w' := by
  have HS := Lib.hid (fun W => specClackPaces_any i1 i2 W)
  have HI := Lib.hid (fun W => implClackPaces_any i1 i2 W)
  have hbU := cpU_bd i1 i2
  have hbV := cpV_bd i1 i2
  generalize cpU i1 i2 = X at *
  generalize cpV i1 i2 = Y at *
  generalize bmB i1 i2 = r at *
  have HBX : Hid ((X.length : Int) ≤ 1048576) := by show _ ≤ _; omega
  have HBY : Hid ((Y.length : Int) ≤ 1048576) := by show _ ≤ _; omega
  go_enter Try.func9, Try.ntmps9
  go_wp2_with fail
  -- the model
  refine (HS.out _).mono ?_
  rintro e w3 ⟨A3, n3, k3, B3, m3, l3, rfl, hn3, hm3, ha3, hb3', _, hb3⟩
  subst hn3
  subst hm3
  have HB3 := Lib.hid hb3
  have HWX := Lib.hid ha3
  have HWY := Lib.hid hb3'
  have IWX := Lib.hid (World.ownsRow.lt ha3)
  have IWY := Lib.hid (World.ownsRow.lt hb3')
  clear hb3 ha3 hb3'
  go_wp2_with fail
  -- the program
  refine (HI.out _).mono ?_
  rintro e w5 ⟨A5, n5, k5, B5, m5, l5, rfl, hn5, hm5, ha5, hb5', hd5, hb5⟩
  subst hn5
  subst hm5
  have HB5 := Lib.hid (HB3.out.trans (hb5.mono HB3.out.size))
  have HWX := Lib.hid (HWX.out.below hb5)
  have HWY := Lib.hid (HWY.out.below hb5)
  have HGX := Lib.hid ha5
  have HGY := Lib.hid hb5'
  have IGX := Lib.hid (World.ownsRow.lt ha5)
  have IGY := Lib.hid (World.ownsRow.lt hb5')
  have HD := Lib.hid hd5
  clear hb5 ha5 hb5' hd5
  go_wp2_with fail
  refine (eqPaceS_true A5 A3 k5 k3 X _ HBX.out (slAt_ants HGX.out.sl) (slAt_ants HWX.out.sl)).mono ?_
  rintro e w6 ⟨rfl, hb⟩
  have HB6 := Lib.hid (HB5.out.trans (hb.mono HB5.out.size))
  have HWX := Lib.hid (HWX.out.below hb)
  have HWY := Lib.hid (HWY.out.below hb)
  have HGX := Lib.hid (HGX.out.below hb)
  have HGY := Lib.hid (HGY.out.below hb)
  clear hb
  go_wp2_with fail
  refine (eqPaceS_true B5 B3 l5 l3 Y _ HBY.out (slAt_ants HGY.out.sl) (slAt_ants HWY.out.sl)).mono ?_
  rintro e w7 ⟨rfl, hb⟩
  have HB7 := Lib.hid (HB6.out.trans (hb.mono HB6.out.size))
  have HWX := Lib.hid (HWX.out.below hb)
  have HWY := Lib.hid (HWY.out.below hb)
  have HGX := Lib.hid (HGX.out.below hb)
  have HGY := Lib.hid (HGY.out.below hb)
  clear hb
  go_wp2_with fail
  -- marks on both results
  refine (markPaceS_any A5 k5 _ X 1 _ (by omega) (by omega) HBX.out (antsOwn_iff.2 HGX.out)).mono ?_
  rintro e w8 ⟨rfl, ho, hg⟩
  have HB8 := Lib.hid (HB7.out.trans (grown_below hg IGX.out HB3.out.size HB7.out.size))
  have HWX := Lib.hid (grown_own (S := pairS) hg IGX.out HWX.out (fun k hk => .inl (IWX.out k hk).2))
  have HWY := Lib.hid (grown_own (S := pairS) hg IGX.out HWY.out (fun k hk => .inl (IWY.out k hk).2))
  have HGY := Lib.hid (HGY.out.kept hg (apart_ne HD.out))
  have HGX := Lib.hid (antsOwn_iff.1 ho)
  clear ho hg
  go_wp2_with fail
  refine (markPaceS_any B5 l5 _ Y (1 + 2 * (X.length : Int)) _ (by omega) (by omega) HBY.out (antsOwn_iff.2 HGY.out)).mono ?_
  rintro e w9 ⟨rfl, ho, hg⟩
  have HB9 := Lib.hid (HB8.out.trans (grown_below hg IGY.out HB3.out.size HB8.out.size))
  have HWX := Lib.hid (grown_own (S := pairS) hg IGY.out HWX.out (fun k hk => .inl (IWX.out k hk).2))
  have HWY := Lib.hid (grown_own (S := pairS) hg IGY.out HWY.out (fun k hk => .inl (IWY.out k hk).2))
  have HGX : Hid (SlOwn pairS w9 w3.heap.size 25 (.slice A5 X.length k5) (antMarks 1 X.length)) := HGX.out.kept hg (apart_ne' HD.out)
  have HGY := Lib.hid (antsOwn_iff.1 ho)
  clear ho hg
  have hm1 : ¬ (1 + 2 * ((X.length : Nat) : Int)) < 0 := by omega
  have hm2 : ¬ (1 + 2 * ((X.length : Nat) : Int) + 2 * ((Y.length : Nat) : Int)) < 0 := by omega
  go_wp2_with fail
  refine (heldPaceS_any A5 k5 X.length 1 _ (by omega) (by omega) HBX.out (slAt_ants HGX.out.sl)).mono ?_
  rintro e w10 ⟨rfl, rfl⟩
  go_wp2_with fail
  refine (heldPaceS_any B5 l5 Y.length (1 + 2 * (X.length : Int)) _ (by omega) (by omega) HBY.out (slAt_ants HGY.out.sl)).mono ?_
  rintro e w10 ⟨rfl, rfl⟩
  go_wp2_with fail
  -- once more
  refine (HI.out _).mono ?_
  rintro e w13 ⟨A13, n13, k13, B13, m13, l13, rfl, hn13, hm13, ha13, hb13', _, hb13⟩
  subst hn13
  subst hm13
  have HB13 := Lib.hid (HB9.out.trans (hb13.mono HB9.out.size))
  have HHX := Lib.hid ha13
  have HHY := Lib.hid hb13'
  have HWX := Lib.hid (HWX.out.below hb13)
  have HWY := Lib.hid (HWY.out.below hb13)
  have HGX := Lib.hid (HGX.out.below hb13)
  have HGY := Lib.hid (HGY.out.below hb13)
  clear hb13 ha13 hb13'
  go_wp2_with fail
  refine (eqPaceS_true A13 A3 k13 k3 X _ HBX.out (slAt_ants HHX.out.sl) (slAt_ants HWX.out.sl)).mono ?_
  rintro e w14 ⟨rfl, hb⟩
  have HB14 := Lib.hid (HB13.out.trans (hb.mono HB13.out.size))
  have HWY := Lib.hid (HWY.out.below hb)
  have HHY := Lib.hid (HHY.out.below hb)
  have HGX := Lib.hid (HGX.out.below hb)
  have HGY := Lib.hid (HGY.out.below hb)
  clear hb
  go_wp2_with fail
  refine (eqPaceS_true B13 B3 l13 l3 Y _ HBY.out (slAt_ants HHY.out.sl) (slAt_ants HWY.out.sl)).mono ?_
  rintro e w15 ⟨rfl, hb⟩
  have HB15 := Lib.hid (HB14.out.trans (hb.mono HB14.out.size))
  have HGX := Lib.hid (HGX.out.below hb)
  have HGY := Lib.hid (HGY.out.below hb)
  clear hb
  go_wp2_with fail
  refine (heldPaceS_any A5 k5 X.length 1 _ (by omega) (by omega) HBX.out (slAt_ants HGX.out.sl)).mono ?_
  rintro e w16 ⟨rfl, rfl⟩
  go_wp2_with fail
  refine (heldPaceS_any B5 l5 Y.length (1 + 2 * (X.length : Int)) _ (by omega) (by omega) HBY.out (slAt_ants HGY.out.sl)).mono ?_
  rintro e w16 ⟨rfl, rfl⟩
  go_wp2
  go_ret
  exact ⟨ret_bool rfl, HB15.out⟩

theorem law (i1 i2 : Int) (w : World) (hi1 : (Lit.int .i64 i1).wf = true) (hi2 : (Lit.int .i64 i2).wf = true) :
    Calls Try.prog 9 #[.int .i64 i1, .int .i64 i2] w fun e w' => e = .returned (.bool true) ∧ Below w.heap.size w w' := fits i1 i2 w hi1 hi2 

set_option maxRecDepth 100000 in
theorem lifted (os : Os) (started : os.Started) (H : Type) (enc : TypeId × Value → H) :
    ReturnsInHanded {} Try.checked os 9 .any (Rows.fnExactClackPacesSpec.pre6 enc Try.prog Try.f9 Rows.fnExactClackPacesRow.domain false) (Rows.fnExactClackPacesSpec.post enc Try.prog Try.f9 false true false false) := by
  refine returnsInHanded_of_change (C := Try.checked) own started (by kernel_rfl) Try.func9
    (ChangeSpec.witness6 (enc := enc) (C := Try.checked) false ⟨#[], #[.int .i64 0, .int .i64 0], []⟩ 8 (by kernel_rfl) (by kernel_rfl) (by kernel_rfl) (by kernel_rfl)) ?_
  intro W base args ds gs before hval0 hW hcnd _
  have hval : ∀ (j : Nat) t v, Try.f9.params[j]? = some t → args[j]? = some v → Value.okWide Try.prog W .any base t v := hval0
  have hW' := hW
  obtain ⟨p, q, hA0, hV, rfl, hfz, hnd⟩ := hW
  have hA : DataW.TrodAll enc Try.prog W 0 (fun _ => true) true Try.f9.params.toList args.toList ds p := hA0
  rw [Try.params9] at hA hval
  obtain ⟨v0, vs0, d0, ds0, p0, q0, hargs, rfl, rfl, h0, r0⟩ := trodAll_cons hA
  obtain ⟨v1, vs1, d1, ds1, p1, q1, rfl, rfl, rfl, h1, r1⟩ := trodAll_cons r0
  obtain ⟨rfl, rfl, rfl⟩ := trodAll_nil r1
  obtain rfl : args = #[v0, v1] := by cases args; simp_all
  obtain ⟨rfl, rfl⟩ := trodVars_none hV
  obtain ⟨i1, rfl, rfl, rfl, hi1⟩ := open_int Try.underlying3 (hval 0 3 v0 rfl rfl) h0
  obtain ⟨i2, rfl, rfl, rfl, hi2⟩ := open_int Try.underlying3 (hval 1 3 v1 rfl rfl) h1
  clear hA0 hval0
  refine (law i1 i2 W hi1 hi2 ).mono fun e W' ⟨he, bel⟩ => ?_
  subst he
  exact ⟨_, rfl, _, _, _, [], _, [], hW', trodAll_mk1 (shut_bool Try.underlying4 _), (trodAll_cons_mk (shut_int Try.underlying3 hi1) (trodAll_cons_mk (shut_int Try.underlying3 hi2) trodAll_mk0)), rfl, bel.frame _, fun h => by cases h⟩

theorem closed : joinedFacts Try.prog 9 Try.f9 Rows.fnExactClackPacesSpec Rows.fnExactClackPacesRow = true := by
  unfold joinedFacts
  repeat' with_reducible refine and_t ?_ ?_
  · kernel_rfl
  · kernel_rfl
  · kernel_rfl
  · kernel_rfl
  · kernel_rfl
  · kernel_rfl
  · kernel_rfl
  · kernel_rfl
  · kernel_rfl
  · kernel_rfl
  · kernel_rfl
  · kernel_rfl
  · kernel_rfl
  · kernel_rfl
  · kernel_rfl
  · kernel_rfl
  · kernel_rfl
  · kernel_rfl
  · kernel_rfl
  · kernel_rfl
  · kernel_rfl
  · kernel_rfl
  · kernel_rfl
  · kernel_rfl
  · kernel_rfl
  · exact factMayEnter
  · exact factLifts
  · exact factMake
  · kernel_rfl
  · kernel_rfl
  · kernel_rfl
  · kernel_rfl

/-- the statement -/
theorem proved : Rows.FnExactClackPacesSaid :=
  OpenClaim.holds_of_wide 9 Try.f9 rfl rfl rfl rfl rfl rfl rfl ⟨rfl, rfl, rfl, rfl, rfl⟩ rfl rfl rfl rfl rfl (by kernel_rfl) Try.func9 closed
    (of_decide_eq_true (by kernel_rfl)) (by unfold Func.isWrapper; first | (rw [if_pos (by decide +kernel)]; kernel_rfl) | (rw [if_neg (by decide +kernel)]; exact ⟨rfl, rfl⟩))
    (fun os started H enc _ => lifted os started H enc)
#print axioms proved

end Go.Proofs.Ytikmkmpekjijpaa.lClackPaces
