/- The law FnExactChainLeft returns true at every input, and leaves its arguments as they were. No condition. -/
import Derived.Test.YtikmkmpekjijpaaRows
import Derived.Test.YtikmkmpekjijpaaOpenJ
import Derived.Test.YtikmkmpekjijpaaFactA
import Derived.Test.YtikmkmpekjijpaaFactB
import Derived.Test.YtikmkmpekjijpaaFactC
import Derived.Test.YtikmkmpekjijpaaPaO
import Derived.Test.YtikmkmpekjijpaaHelpJ
namespace Go.Proofs.Ytikmkmpekjijpaa.lChainLeft
open Go.RowKit
open Go.ChangeShapes Go.WideShapes Go.ChangeAt
set_option linter.unusedVariables false

set_option maxHeartbeats 1000000 in
theorem big (A : Option Addr) (c : Nat) (l : List Int) (w : World) (hn : (l.length : Int) ≤ 9223372036854775807) (h : (1048576 : Int) < l.length) :
    Calls Try.prog 12 #[.slice A l.length c] w fun e w' => e = .returned (.bool true) ∧ Below w.heap.size w w' := by
  go_enter Try.func12, Try.ntmps12
  go_wp2
  go_ret
  exact ⟨ret_bool rfl, Below.refl _ _⟩

set_option maxHeartbeats 4000000 in
theorem fits (A : Option Addr) (c : Nat) (l : List Int) (w : World) (h : (l.length : Int) ≤ 1048576) (hA : SlAt intS w A l) :
    Calls Try.prog 12 #[.slice A l.length c] w fun e w' => e = .returned (.bool true) ∧ Below w.heap.size w w' := by
  have hz : ¬ (1048576 : Int) < (l.length : Int) := by omega
  have hbig : l.length ≤ 1048576 := by omega
  have HS := Lib.hid (fun A c w hA => specChainLeft_any A c l w hbig hA)
  have HI := Lib.hid (fun A c w hc hA => implChainLeft_any A c l w hbig hc hA)
  have hvb : (((clW l).length : Nat) : Int) ≤ 1048576 := clW_bd l
  have HVB := Lib.hid hvb
  clear hvb
  generalize chB l = r at *
  generalize clW l = Y at *
  have HA := Lib.hid hA
  clear hA
  go_enter Try.func12, Try.ntmps12
  go_wp2_with fail
  -- the copy for the model
  refine (toIntS_any A c l _ h HA.out).mono ?_
  rintro e w2 ⟨A2, k2, rfl, ho2, hb2⟩
  have HB2 := Lib.hid hb2
  have HO2 := Lib.hid ho2
  clear hb2 ho2
  go_wp2_with fail
  -- the model
  refine (HS.out A2 k2 _ HO2.out.sl).mono ?_
  rintro e w3 ⟨A3, n3, k3, rfl, hn3, ho3, hb3⟩
  subst hn3
  have HB3 := Lib.hid (HB2.out.trans (hb3.mono HB2.out.size))
  have HW3 := Lib.hid ho3
  have IW := Lib.hid (World.ownsRow.lt ho3)
  clear hb3 ho3
  go_wp2_with fail
  -- the copy for the program
  refine (toIntS_any A c l _ h (HA.out.below HB3.out)).mono ?_
  rintro e w4 ⟨A4, k4, rfl, ho4, hb4⟩
  have HB4 := Lib.hid (HB3.out.trans (hb4.mono HB3.out.size))
  have HX4 := Lib.hid ho4
  have IX := Lib.hid (World.ownsRow.lt ho4)
  have HW4 := Lib.hid (HW3.out.below hb4)
  have S34 := Lib.hid hb4.size
  clear hb4 ho4
  go_wp2_with fail
  -- the program
  refine (HI.out A4 k4 _ (own_cap (S := intS) HX4.out) HX4.out.sl).mono ?_
  rintro e w5 ⟨A5, n5, k5, rfl, hn5, ho5, hb5⟩
  subst hn5
  have HB5 := Lib.hid (HB4.out.trans (hb5.mono HB4.out.size))
  have HX5 := Lib.hid (HX4.out.below hb5)
  have HW5 := Lib.hid (HW4.out.below hb5)
  have HG5 := Lib.hid ho5
  have IG := Lib.hid (World.ownsRow.lt ho5)
  clear hb5 ho5
  go_wp2_with fail
  refine (eqPaceS_true A5 A3 k5 k3 Y _ HVB.out (slAt_ants HG5.out.sl) (slAt_ants HW5.out.sl)).mono ?_
  rintro e w6 ⟨rfl, hb6⟩
  have HB6 := Lib.hid (HB5.out.trans (hb6.mono HB5.out.size))
  have HX6 := Lib.hid (HX5.out.below hb6)
  have HW6 := Lib.hid (HW5.out.below hb6)
  have HG6 := Lib.hid (HG5.out.below hb6)
  clear hb6
  go_wp2_with fail
  refine (toIntS_any A c l _ h (HA.out.below HB6.out)).mono ?_
  rintro e w7 ⟨A7, k7, rfl, ho7, hb7⟩
  have HB7 := Lib.hid (HB6.out.trans (hb7.mono HB6.out.size))
  have HX7 := Lib.hid (HX6.out.below hb7)
  have HW7 := Lib.hid (HW6.out.below hb7)
  have HG7 := Lib.hid (HG6.out.below hb7)
  have HY7 := Lib.hid ho7
  clear hb7 ho7
  go_wp2_with fail
  refine (eqIntS_true A4 A7 k4 k7 l _ h HX7.out.sl HY7.out.sl).mono ?_
  rintro e w8 ⟨rfl, hb8⟩
  have HB8 := Lib.hid (HB7.out.trans (hb8.mono HB7.out.size))
  have HX8 := Lib.hid (HX7.out.below hb8)
  have HW8 := Lib.hid (HW7.out.below hb8)
  have HG8 := Lib.hid (HG7.out.below hb8)
  clear hb8 HY7
  go_wp2_with fail
  -- marks on the copy
  refine (markIntS_any A4 k4 _ l 1 _ (by omega) (by omega) h HX8.out).mono ?_
  rintro e w9 ⟨rfl, _, hg9⟩
  have HB9 := Lib.hid (HB8.out.trans (grown_below hg9 IX.out HB3.out.size HB8.out.size))
  have HW9 := Lib.hid (grown_own (S := pairS) hg9 IX.out HW8.out (fun k hk => .inl (IW.out k hk).2))
  have HG9 := Lib.hid (grown_own (S := pairS) hg9 IX.out HG8.out (fun k hk => .inr (IG.out k hk).1))
  clear hg9
  have hk9 : ¬ (1 + (l.length : Int)) < 0 := by omega
  go_wp2_with fail
  refine (eqPaceS_true A5 A3 k5 k3 Y _ HVB.out (slAt_ants HG9.out.sl) (slAt_ants HW9.out.sl)).mono ?_
  rintro e w10 ⟨rfl, hb10⟩
  have HB10 := Lib.hid (HB9.out.trans (hb10.mono HB9.out.size))
  have HW10 := Lib.hid (HW9.out.below hb10)
  have HG10 := Lib.hid (HG9.out.below hb10)
  clear hb10
  go_wp2_with fail
  -- marks on the result
  refine (markPaceS_any A5 k5 _ Y 1 _ (by omega) (by omega) HVB.out (antsOwn_iff.2 HG10.out)).mono ?_
  rintro e w11 ⟨rfl, ho11, hg11⟩
  have HG11 := Lib.hid (antsOwn_iff.1 ho11)
  have HB11 := Lib.hid (HB10.out.trans (grown_below hg11 IG.out HB4.out.size HB10.out.size))
  have HW11 := Lib.hid (grown_own (S := pairS) hg11 IG.out HW10.out (fun k hk => .inl (by have := (IW.out k hk).2; have := S34.out; omega)))
  clear hg11 ho11
  have hm1 : ¬ (1 + 2 * ((Y.length : Nat) : Int)) < 0 := by omega
  go_wp2_with fail
  refine (heldPaceS_any A5 k5 Y.length 1 _ (by omega) (by omega) HVB.out (slAt_ants HG11.out.sl)).mono ?_
  rintro e w12' ⟨rfl, rfl⟩
  go_wp2_with fail
  -- once more
  refine (toIntS_any A c l _ h (HA.out.below HB11.out)).mono ?_
  rintro e w12 ⟨A12, k12, rfl, ho12, hb12⟩
  have HB12 := Lib.hid (HB11.out.trans (hb12.mono HB11.out.size))
  have HX12 := Lib.hid ho12
  have HW12 := Lib.hid (HW11.out.below hb12)
  have HG12 := Lib.hid (HG11.out.below hb12)
  clear hb12 ho12
  go_wp2_with fail
  refine (HI.out A12 k12 _ (own_cap (S := intS) HX12.out) HX12.out.sl).mono ?_
  rintro e w13 ⟨A13, n13, k13, rfl, hn13, ho13, hb13⟩
  subst hn13
  have HB13 := Lib.hid (HB12.out.trans (hb13.mono HB12.out.size))
  have HH13 := Lib.hid ho13
  have HW13 := Lib.hid (HW12.out.below hb13)
  have HG13 := Lib.hid (HG12.out.below hb13)
  clear hb13 ho13
  go_wp2_with fail
  refine (eqPaceS_true A13 A3 k13 k3 Y _ HVB.out (slAt_ants HH13.out.sl) (slAt_ants HW13.out.sl)).mono ?_
  rintro e w14 ⟨rfl, hb14⟩
  have HB14 := Lib.hid (HB13.out.trans (hb14.mono HB13.out.size))
  have HG14 := Lib.hid (HG13.out.below hb14)
  clear hb14
  go_wp2_with fail
  refine (heldPaceS_any A5 k5 Y.length 1 _ (by omega) (by omega) HVB.out (slAt_ants HG14.out.sl)).mono ?_
  rintro e w15 ⟨rfl, rfl⟩
  go_wp2
  go_ret
  exact ⟨ret_bool rfl, HB14.out⟩

theorem law (A : Option Addr) (c : Nat) (l : List Int) (w : World) (hn : (l.length : Int) ≤ 9223372036854775807) (hA : SlAt intS w A l) :
    Calls Try.prog 12 #[.slice A l.length c] w fun e w' => e = .returned (.bool true) ∧ Below w.heap.size w w' := by
  by_cases h : (l.length : Int) ≤ 1048576
  · exact fits A c l w h hA
  · exact big A c l w hn (by omega)

set_option maxRecDepth 100000 in
theorem lifted (os : Os) (started : os.Started) (H : Type) (enc : TypeId × Value → H) :
    ReturnsInHanded {} Try.checked os 12 .any (Rows.fnExactChainLeftSpec.pre6 enc Try.prog Try.f12 Rows.fnExactChainLeftRow.domain false) (Rows.fnExactChainLeftSpec.post enc Try.prog Try.f12 false true false false) := by
  refine returnsInHanded_of_change (C := Try.checked) own started (by kernel_rfl) Try.func12
    (ChangeSpec.witness6 (enc := enc) (C := Try.checked) false ⟨#[], #[.slice none 0 0], []⟩ 8 (by kernel_rfl) (by kernel_rfl) (by kernel_rfl) (by kernel_rfl)) ?_
  intro W base args ds gs before hval0 hW hcnd _
  have hval : ∀ (j : Nat) t v, Try.f12.params[j]? = some t → args[j]? = some v → Value.okWide Try.prog W .any base t v := hval0
  have hW' := hW
  obtain ⟨p, q, hA0, hV, rfl, hfz, hnd⟩ := hW
  have hA : DataW.TrodAll enc Try.prog W 0 (fun _ => true) true Try.f12.params.toList args.toList ds p := hA0
  rw [Try.params12] at hA hval
  obtain ⟨v1, vs1, d1, ds1, p1, q1, hargs, rfl, rfl, h1, r1⟩ := trodAll_cons hA
  obtain ⟨rfl, rfl, rfl⟩ := trodAll_nil r1
  obtain rfl : args = #[v1] := by cases args; simp_all
  obtain ⟨rfl, rfl⟩ := trodVars_none hV
  have k1 := h1
  have lt1 : ∀ x ∈ p1, x.block < W.heap.size := by obtain ⟨m, hm⟩ := k1; exact DataW.trod_lt m _ _ _ hm
  obtain ⟨A, c, l, rfl, hAt, hlen⟩ := open_intS (hval 0 44 v1 rfl rfl) h1
  clear hA0 hval0
  refine (law A c l W hlen hAt).mono fun e W' ⟨he, bel⟩ => ?_
  subst he
  exact ⟨_, rfl, _, _, _, [], _, [], hW', trodAll_mk1 (shut_bool Try.underlying4 _), (trodAll_cons_mk (Below.trod laidOut (by kernel_rfl) (of_decide_eq_true (by kernel_rfl)) k1 bel lt1) trodAll_mk0), rfl, bel.frame _, fun h => by cases h⟩

theorem closed : joinedFacts Try.prog 12 Try.f12 Rows.fnExactChainLeftSpec Rows.fnExactChainLeftRow = true := by
  unfold joinedFacts
  repeat' with_reducible refine and_t ?_ ?_
  · kernel_rfl
  · kernel_rfl
  · kernel_rfl
  · kernel_rfl
  · kernel_rfl
  · kernel_rfl
  · kernel_rfl
  · kernel_rfl
  · kernel_rfl
  · kernel_rfl
  · kernel_rfl
  · kernel_rfl
  · kernel_rfl
  · kernel_rfl
  · kernel_rfl
  · kernel_rfl
  · kernel_rfl
  · kernel_rfl
  · kernel_rfl
  · kernel_rfl
  · kernel_rfl
  · kernel_rfl
  · kernel_rfl
  · kernel_rfl
  · kernel_rfl
  · exact factMayEnter
  · exact factLifts
  · exact factMake
  · kernel_rfl
  · kernel_rfl
  · kernel_rfl
  · kernel_rfl

/-- the statement -/
theorem proved : Rows.FnExactChainLeftSaid :=
  OpenClaim.holds_of_wide 12 Try.f12 rfl rfl rfl rfl rfl rfl rfl ⟨rfl, rfl, rfl, rfl, rfl⟩ rfl rfl rfl rfl rfl (by kernel_rfl) Try.func12 closed
    (of_decide_eq_true (by kernel_rfl)) (by unfold Func.isWrapper; first | (rw [if_pos (by decide +kernel)]; kernel_rfl) | (rw [if_neg (by decide +kernel)]; exact ⟨rfl, rfl⟩))
    (fun os started H enc _ => lifted os started H enc)
#print axioms proved

end Go.Proofs.Ytikmkmpekjijpaa.lChainLeft
