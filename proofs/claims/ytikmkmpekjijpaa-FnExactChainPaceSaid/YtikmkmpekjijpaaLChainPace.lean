/- The law FnExactChainPace returns true at every input, and leaves its arguments as they were. No condition. -/
import Derived.Test.YtikmkmpekjijpaaRows
import Derived.Test.YtikmkmpekjijpaaOpenJ
import Derived.Test.YtikmkmpekjijpaaFactA
import Derived.Test.YtikmkmpekjijpaaFactB
import Derived.Test.YtikmkmpekjijpaaFactC
import Derived.Test.YtikmkmpekjijpaaPaO
import Derived.Test.YtikmkmpekjijpaaHelpJ
namespace Go.Proofs.Ytikmkmpekjijpaa.lChainPace
open Go.RowKit
open Go.ChangeShapes Go.WideShapes Go.ChangeAt
set_option linter.unusedVariables false

set_option maxHeartbeats 1000000 in
theorem big (A : Option Addr) (c : Nat) (l : List Int) (w : World) (hn : (l.length : Int) ≤ 9223372036854775807) (h : (1048576 : Int) < l.length) :
    Calls Try.prog 11 #[.slice A l.length c] w fun e w' => e = .returned (.bool true) ∧ Below w.heap.size w w' := by
  go_enter Try.func11, Try.ntmps11
  go_wp2
  go_ret
  exact ⟨ret_bool rfl, Below.refl _ _⟩

set_option maxHeartbeats 2000000 in
theorem fits (A : Option Addr) (c : Nat) (l : List Int) (w : World) (h : (l.length : Int) ≤ 1048576) (hA : SlAt intS w A l) :
    Calls Try.prog 11 #[.slice A l.length c] w fun e w' => e = .returned (.bool true) ∧ Below w.heap.size w w' := by
  have hz : ¬ (1048576 : Int) < (l.length : Int) := by omega
  have hbig : l.length ≤ 1048576 := by omega
  have HS := Lib.hid (fun A c w hA => specChainPace_any A c l w hbig hA)
  have HI := Lib.hid (fun A c w hc hA => implChainPace_any A c l w hbig hc hA)
  generalize chB l = r at *
  generalize clP l = X at *
  obtain ⟨x1, x2⟩ := X
  simp only at HS HI
  have HA := Lib.hid hA
  clear hA
  go_enter Try.func11, Try.ntmps11
  go_wp2_with fail
  -- the copy for the model
  refine (toIntS_any A c l _ h HA.out).mono ?_
  rintro e w2 ⟨A2, k2, rfl, ho2, hb2⟩
  have HB2 := Lib.hid hb2
  have HO2 := Lib.hid ho2
  clear hb2 ho2
  go_wp2_with fail
  -- the model
  refine (HS.out A2 k2 _ HO2.out.sl).mono ?_
  rintro e w3 ⟨rfl, hb3⟩
  have HB3 := Lib.hid ((HB2.out.trans (hb3.mono HB2.out.size)).alloc (HB2.out.trans (hb3.mono HB2.out.size)).size (Obj.cells #[Value.int IntKind.i64 x1, Value.int IntKind.i64 x2] 25))
  have HP3 := Lib.hid (PC.start w3 x1 x2 25)
  clear hb3
  go_wp2_with fail
  -- the copy for the program
  refine (toIntS_any A c l _ h (HA.out.below HB3.out)).mono ?_
  rintro e w4 ⟨A4, k4, rfl, ho4, hb4⟩
  have HB4 := Lib.hid (HB3.out.trans (hb4.mono HB3.out.size))
  have HP4 := Lib.hid (HP3.out.below hb4)
  have HX4 := Lib.hid ho4
  clear hb4 ho4
  go_wp2_with fail
  -- the program
  refine (HI.out A4 k4 _ (own_cap (S := intS) HX4.out) HX4.out.sl).mono ?_
  rintro e w5 ⟨rfl, hb5⟩
  have HB5 := Lib.hid ((HB4.out.trans (hb5.mono HB4.out.size)).alloc (HB4.out.trans (hb5.mono HB4.out.size)).size (Obj.cells #[Value.int IntKind.i64 x1, Value.int IntKind.i64 x2] 25))
  have HP5 := Lib.hid ((HP4.out.below hb5).grow (Obj.cells #[Value.int IntKind.i64 x1, Value.int IntKind.i64 x2] 25))
  have HQ5 := Lib.hid (PC.start w5 x1 x2 25)
  have HX5 := Lib.hid (own_alloc (SlOwn.below HX4.out hb5) (Obj.cells #[Value.int IntKind.i64 x1, Value.int IntKind.i64 x2] 25))
  clear hb5
  obtain ⟨_, c0, c1, _, _⟩ := HP5.out.parts
  obtain ⟨_, d0, d1, _, _⟩ := HQ5.out.parts
  simp only at c0 c1 d0 d1
  have HE1 := Lib.hid (eqPace_at x1 x2 x1 x2 true (by simp))
  go_wp2_with fail
  refine (HE1.out _).mono ?_
  rintro e w6' ⟨rfl, hb⟩
  have HB5' := Lib.hid (HB5.out.trans (hb.mono HB5.out.size))
  have HX5' := Lib.hid (HX5.out.below hb)
  clear hb
  go_wp2_with fail
  refine (toIntS_any A c l _ h (HA.out.below HB5'.out)).mono ?_
  rintro e w6 ⟨A6, k6, rfl, ho6, hb6⟩
  have HB6 := Lib.hid (HB5'.out.trans (hb6.mono HB5'.out.size))
  have HX6 := Lib.hid (SlOwn.below HX5'.out hb6)
  have HY6 := Lib.hid ho6
  clear hb6 ho6
  go_wp2_with fail
  refine (eqIntS_true A4 A6 k4 k6 l _ h HX6.out.sl HY6.out.sl).mono ?_
  rintro e w7 ⟨rfl, hb7⟩
  have HB7 := Lib.hid (HB6.out.trans (hb7.mono HB6.out.size))
  clear hb7
  go_wp2
  go_ret
  exact ⟨ret_bool rfl, HB7.out⟩

theorem law (A : Option Addr) (c : Nat) (l : List Int) (w : World) (hn : (l.length : Int) ≤ 9223372036854775807) (hA : SlAt intS w A l) :
    Calls Try.prog 11 #[.slice A l.length c] w fun e w' => e = .returned (.bool true) ∧ Below w.heap.size w w' := by
  by_cases h : (l.length : Int) ≤ 1048576
  · exact fits A c l w h hA
  · exact big A c l w hn (by omega)

set_option maxRecDepth 100000 in
theorem lifted (os : Os) (started : os.Started) (H : Type) (enc : TypeId × Value → H) :
    ReturnsInHanded {} Try.checked os 11 .any (Rows.fnExactChainPaceSpec.pre6 enc Try.prog Try.f11 Rows.fnExactChainPaceRow.domain false) (Rows.fnExactChainPaceSpec.post enc Try.prog Try.f11 false true false false) := by
  refine returnsInHanded_of_change (C := Try.checked) own started (by kernel_rfl) Try.func11
    (ChangeSpec.witness6 (enc := enc) (C := Try.checked) false ⟨#[], #[.slice none 0 0], []⟩ 8 (by kernel_rfl) (by kernel_rfl) (by kernel_rfl) (by kernel_rfl)) ?_
  intro W base args ds gs before hval0 hW hcnd _
  have hval : ∀ (j : Nat) t v, Try.f11.params[j]? = some t → args[j]? = some v → Value.okWide Try.prog W .any base t v := hval0
  have hW' := hW
  obtain ⟨p, q, hA0, hV, rfl, hfz, hnd⟩ := hW
  have hA : DataW.TrodAll enc Try.prog W 0 (fun _ => true) true Try.f11.params.toList args.toList ds p := hA0
  rw [Try.params11] at hA hval
  obtain ⟨v1, vs1, d1, ds1, p1, q1, hargs, rfl, rfl, h1, r1⟩ := trodAll_cons hA
  obtain ⟨rfl, rfl, rfl⟩ := trodAll_nil r1
  obtain rfl : args = #[v1] := by cases args; simp_all
  obtain ⟨rfl, rfl⟩ := trodVars_none hV
  have k1 := h1
  have lt1 : ∀ x ∈ p1, x.block < W.heap.size := by obtain ⟨m, hm⟩ := k1; exact DataW.trod_lt m _ _ _ hm
  obtain ⟨A, c, l, rfl, hAt, hlen⟩ := open_intS (hval 0 44 v1 rfl rfl) h1
  clear hA0 hval0
  refine (law A c l W hlen hAt).mono fun e W' ⟨he, bel⟩ => ?_
  subst he
  exact ⟨_, rfl, _, _, _, [], _, [], hW', trodAll_mk1 (shut_bool Try.underlying4 _), (trodAll_cons_mk (Below.trod laidOut (by kernel_rfl) (of_decide_eq_true (by kernel_rfl)) k1 bel lt1) trodAll_mk0), rfl, bel.frame _, fun h => by cases h⟩

theorem closed : joinedFacts Try.prog 11 Try.f11 Rows.fnExactChainPaceSpec Rows.fnExactChainPaceRow = true := by
  unfold joinedFacts
  repeat' with_reducible refine and_t ?_ ?_
  · kernel_rfl
  · kernel_rfl
  · kernel_rfl
  · kernel_rfl
  · kernel_rfl
  · kernel_rfl
  · kernel_rfl
  · kernel_rfl
  · kernel_rfl
  · kernel_rfl
  · kernel_rfl
  · kernel_rfl
  · kernel_rfl
  · kernel_rfl
  · kernel_rfl
  · kernel_rfl
  · kernel_rfl
  · kernel_rfl
  · kernel_rfl
  · kernel_rfl
  · kernel_rfl
  · kernel_rfl
  · kernel_rfl
  · kernel_rfl
  · kernel_rfl
  · exact factMayEnter
  · exact factLifts
  · exact factMake
  · kernel_rfl
  · kernel_rfl
  · kernel_rfl
  · kernel_rfl

/-- the statement -/
theorem proved : Rows.FnExactChainPaceSaid :=
  OpenClaim.holds_of_wide 11 Try.f11 rfl rfl rfl rfl rfl rfl rfl ⟨rfl, rfl, rfl, rfl, rfl⟩ rfl rfl rfl rfl rfl (by kernel_rfl) Try.func11 closed
    (of_decide_eq_true (by kernel_rfl)) (by unfold Func.isWrapper; first | (rw [if_pos (by decide +kernel)]; kernel_rfl) | (rw [if_neg (by decide +kernel)]; exact ⟨rfl, rfl⟩))
    (fun os started H enc _ => lifted os started H enc)
#print axioms proved

end Go.Proofs.Ytikmkmpekjijpaa.lChainPace
