/- The law FnExactCradleAfter returns true at every input, and leaves its arguments as they were. No condition. -/
import Derived.Test.YtikmkmpekjijpaaRows
import Derived.Test.YtikmkmpekjijpaaOpenP
import Derived.Test.YtikmkmpekjijpaaFactA
import Derived.Test.YtikmkmpekjijpaaFactB
import Derived.Test.YtikmkmpekjijpaaFactC
import Derived.Test.YtikmkmpekjijpaaPaW
namespace Go.Proofs.Ytikmkmpekjijpaa.lCradleAfter
open Go.RowKit
open Go.ChangeShapes Go.WideShapes Go.ChangeAt
set_option linter.unusedVariables false

set_option maxHeartbeats 2000000 in
theorem fits (i1 i2 : Int) (w : World) (hi1 : (Lit.int .i64 i1).wf = true) (hi2 : (Lit.int .i64 i2).wf = true) :
    Calls Try.prog 18 #[.int .i64 i1, .int .i64 i2] w fun e w' => e = .returned (.bool true) ∧ Below w.heap.size w w' := by
  have HS := Lib.hid (fun W => specCradleAfter_any i1 i2 W)
  have HI := Lib.hid (fun W => implCradleAfter_any i1 i2 W)
  have hvb : (((crW i1 i2).length : Nat) : Int) ≤ 1048576 := crW_bd i1 i2
  have HVB := Lib.hid hvb
  clear hvb
  generalize (crW i1 i2) = Y at *
  go_enter Try.func18, Try.ntmps18
  go_wp2_with fail
  refine (HS.out _).mono ?_
  rintro e w3 ⟨A3, n3, k3, rfl, hn3, ho3, hb3⟩
  subst hn3
  have HB3 := Lib.hid hb3
  have s3 := hb3.size
  have HW3 := Lib.hid ho3
  have IW := Lib.hid (World.ownsRow.lt ho3)
  clear hb3 ho3
  go_wp2_with fail
  refine (HI.out _).mono ?_
  rintro e w5 ⟨A5, n5, k5, rfl, hn5, ho5, hb5⟩
  subst hn5
  have s5 := hb5.size
  have HB5 := Lib.hid (HB3.out.trans (hb5.mono HB3.out.size))
  have HW5 := Lib.hid (HW3.out.below hb5)
  have HG5 := Lib.hid ho5
  have IG := Lib.hid (World.ownsRow.lt ho5)
  clear hb5 ho5
  go_wp2_with fail
  refine (eqBoolS_true A5 A3 k5 k3 Y _ HVB.out HG5.out.sl HW5.out.sl).mono ?_
  rintro e w6 ⟨rfl, hb6⟩
  have s6 := hb6.size
  have HB6 := Lib.hid (HB5.out.trans (hb6.mono HB5.out.size))
  have HW6 := Lib.hid (HW5.out.below hb6)
  have HG6 := Lib.hid (HG5.out.below hb6)
  clear hb6
  go_wp2_with fail
  -- marks on the result
  refine (markBoolS_one A5 k5 _ Y _ HVB.out HG6.out).mono ?_
  rintro e w11 ⟨rfl, ho11, hg11⟩
  have HG11 := Lib.hid ho11
  have s11 : w6.heap.size ≤ w11.heap.size := hg11.size
  have HB11 := Lib.hid (HB6.out.trans (grown_below hg11 IG.out (by omega) HB6.out.size))
  have HW11 := Lib.hid (grown_own hg11 IG.out (S := boolS) HW6.out (fun k hk => .inl (IW.out k hk).2))
  clear hg11 ho11
  have hm1 : ¬ (1 + ((Y.length : Nat) : Int)) < 0 := by omega
  go_wp2_with fail
  refine (heldBoolS_one A5 k5 Y.length _ HVB.out HG11.out.sl).mono ?_
  rintro e w12 ⟨rfl, rfl⟩
  have HB12 := HB11
  have HW12 := HW11
  have HG12 := HG11
  go_wp2_with fail
  -- once more
  refine (HI.out _).mono ?_
  rintro e w13 ⟨A13, n13, k13, rfl, hn13, ho13, hb13⟩
  subst hn13
  have HB13 := Lib.hid (HB12.out.trans (hb13.mono HB12.out.size))
  have HH13 := Lib.hid ho13
  have HW13 := Lib.hid (HW12.out.below hb13)
  have HG13 := Lib.hid (HG12.out.below hb13)
  clear hb13 ho13
  go_wp2_with fail
  refine (eqBoolS_true A13 A3 k13 k3 Y _ HVB.out HH13.out.sl HW13.out.sl).mono ?_
  rintro e w14 ⟨rfl, hb14⟩
  have HB14 := Lib.hid (HB13.out.trans (hb14.mono HB13.out.size))
  have HG14 := Lib.hid (HG13.out.below hb14)
  clear hb14
  go_wp2_with fail
  refine (heldBoolS_one A5 k5 Y.length _ HVB.out HG14.out.sl).mono ?_
  rintro e w15 ⟨rfl, rfl⟩
  have HB15 := HB14
  go_wp2
  go_ret
  exact ⟨ret_bool rfl, HB15.out⟩

theorem law (i1 i2 : Int) (w : World) (hi1 : (Lit.int .i64 i1).wf = true) (hi2 : (Lit.int .i64 i2).wf = true) :
    Calls Try.prog 18 #[.int .i64 i1, .int .i64 i2] w fun e w' => e = .returned (.bool true) ∧ Below w.heap.size w w' := fits i1 i2 w hi1 hi2 

set_option maxRecDepth 100000 in
theorem lifted (os : Os) (started : os.Started) (H : Type) (enc : TypeId × Value → H) :
    ReturnsInHanded {} Try.checked os 18 .any (Rows.fnExactCradleAfterSpec.pre6 enc Try.prog Try.f18 Rows.fnExactCradleAfterRow.domain false) (Rows.fnExactCradleAfterSpec.post enc Try.prog Try.f18 false true false false) := by
  refine returnsInHanded_of_change (C := Try.checked) own started (by kernel_rfl) Try.func18
    (ChangeSpec.witness6 (enc := enc) (C := Try.checked) false ⟨#[], #[.int .i64 0, .int .i64 0], []⟩ 8 (by kernel_rfl) (by kernel_rfl) (by kernel_rfl) (by kernel_rfl)) ?_
  intro W base args ds gs before hval0 hW hcnd _
  have hval : ∀ (j : Nat) t v, Try.f18.params[j]? = some t → args[j]? = some v → Value.okWide Try.prog W .any base t v := hval0
  have hW' := hW
  obtain ⟨p, q, hA0, hV, rfl, hfz, hnd⟩ := hW
  have hA : DataW.TrodAll enc Try.prog W 0 (fun _ => true) true Try.f18.params.toList args.toList ds p := hA0
  rw [Try.params18] at hA hval
  obtain ⟨v0, vs0, d0, ds0, p0, q0, hargs, rfl, rfl, h0, r0⟩ := trodAll_cons hA
  obtain ⟨v1, vs1, d1, ds1, p1, q1, rfl, rfl, rfl, h1, r1⟩ := trodAll_cons r0
  obtain ⟨rfl, rfl, rfl⟩ := trodAll_nil r1
  obtain rfl : args = #[v0, v1] := by cases args; simp_all
  obtain ⟨rfl, rfl⟩ := trodVars_none hV
  obtain ⟨i1, rfl, rfl, rfl, hi1⟩ := open_int Try.underlying3 (hval 0 3 v0 rfl rfl) h0
  obtain ⟨i2, rfl, rfl, rfl, hi2⟩ := open_int Try.underlying3 (hval 1 3 v1 rfl rfl) h1
  clear hA0 hval0
  refine (law i1 i2 W hi1 hi2 ).mono fun e W' ⟨he, bel⟩ => ?_
  subst he
  exact ⟨_, rfl, _, _, _, [], _, [], hW', trodAll_mk1 (shut_bool Try.underlying4 _), (trodAll_cons_mk (shut_int Try.underlying3 hi1) (trodAll_cons_mk (shut_int Try.underlying3 hi2) trodAll_mk0)), rfl, bel.frame _, fun h => by cases h⟩

theorem closed : joinedFacts Try.prog 18 Try.f18 Rows.fnExactCradleAfterSpec Rows.fnExactCradleAfterRow = true := by
  unfold joinedFacts
  repeat' with_reducible refine and_t ?_ ?_
  · kernel_rfl
  · kernel_rfl
  · kernel_rfl
  · kernel_rfl
  · kernel_rfl
  · kernel_rfl
  · kernel_rfl
  · kernel_rfl
  · kernel_rfl
  · kernel_rfl
  · kernel_rfl
  · kernel_rfl
  · kernel_rfl
  · kernel_rfl
  · kernel_rfl
  · kernel_rfl
  · kernel_rfl
  · kernel_rfl
  · kernel_rfl
  · kernel_rfl
  · kernel_rfl
  · kernel_rfl
  · kernel_rfl
  · kernel_rfl
  · kernel_rfl
  · exact factMayEnter
  · exact factLifts
  · exact factMake
  · kernel_rfl
  · kernel_rfl
  · kernel_rfl
  · kernel_rfl

/-- the statement -/
theorem proved : Rows.FnExactCradleAfterSaid :=
  OpenClaim.holds_of_wide 18 Try.f18 rfl rfl rfl rfl rfl rfl rfl ⟨rfl, rfl, rfl, rfl, rfl⟩ rfl rfl rfl rfl rfl (by kernel_rfl) Try.func18 closed
    (of_decide_eq_true (by kernel_rfl)) (by unfold Func.isWrapper; first | (rw [if_pos (by decide +kernel)]; kernel_rfl) | (rw [if_neg (by decide +kernel)]; exact ⟨rfl, rfl⟩))
    (fun os started H enc _ => lifted os started H enc)
#print axioms proved

end Go.Proofs.Ytikmkmpekjijpaa.lCradleAfter
