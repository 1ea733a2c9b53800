/- The law FnExactLastMeet returns true at every input, and leaves its arguments as they were. No condition. -/
import Derived.Test.YtlepdphdflpoaaaRows
import Derived.Test.YtlepdphdflpoaaaOpenR
import Derived.Test.YtlepdphdflpoaaaFactA
import Derived.Test.YtlepdphdflpoaaaFactB
import Derived.Test.YtlepdphdflpoaaaFactC
import Derived.Test.YtlepdphdflpoaaaFirstL
import Derived.Test.YtlepdphdflpoaaaHelpR
namespace Go.Proofs.Ytlepdphdflpoaaa.lLastMeet
open Go.RowKit
open Go.ChangeShapes Go.WideShapes Go.ChangeAt
set_option linter.unusedVariables false

set_option maxHeartbeats 1000000 in
theorem big (A : Option Addr) (c : Nat) (l : List (Int × Int)) (w : World) (hn : (l.length : Int) ≤ 9223372036854775807) (h : (1048576 : Int) < l.length) :
    Calls Try.prog 10 #[.slice A l.length c] w fun e w' => e = .returned (.bool true) ∧ Below w.heap.size w w' := by
  have H : Hid (∀ w, Calls Try.prog 18 #[.slice A l.length c, .int .i64 1048576] w fun e w' => e = .returned (.int .i64 (-1)) ∧ w = w') :=
    fun w => (szRunnerS_any A l.length c 1048576 w (by omega) (by omega) hn).mono fun e w' ⟨he, hw⟩ => ⟨by rw [he, if_pos h], hw⟩
  clear h hn
  go_enter Try.func10, Try.ntmps10
  go_wp2_with fail
  refine (H.out _).mono ?_
  rintro e w1 ⟨rfl, rfl⟩
  go_wp2
  go_ret
  exact ⟨ret_bool rfl, Below.refl _ _⟩

set_option maxHeartbeats 1000000 in
theorem fits (A : Option Addr) (c : Nat) (l : List (Int × Int)) (w : World) (h : (l.length : Int) ≤ 1048576) (hA : AntsAt w A l) :
    Calls Try.prog 10 #[.slice A l.length c] w fun e w' => e = .returned (.bool true) ∧ Below w.heap.size w w' := by
  have H : Hid (∀ w, Calls Try.prog 18 #[.slice A l.length c, .int .i64 1048576] w fun e w' => e = .returned (.int .i64 (1048576 - l.length)) ∧ w = w') :=
    fun w => (szRunnerS_any A l.length c 1048576 w (by omega) (by omega) (by omega)).mono fun e w' ⟨he, hw⟩ => ⟨by rw [he, if_neg (by omega)], hw⟩
  have hz : ¬ (1048576 - (l.length : Int)) < 0 := by omega
  have HA := Lib.hid hA
  clear hA
  go_enter Try.func10, Try.ntmps10
  go_wp2_with fail
  refine (H.out _).mono ?_
  rintro e w1 ⟨rfl, rfl⟩
  go_wp2_with fail
  -- the copy for the model
  refine (toRunnerS_any A c l _ h HA.out).mono ?_
  rintro e w2 ⟨A2, k2, rfl, ho2, hb2⟩
  have HB2 := Lib.hid hb2
  have HO2 := Lib.hid ho2
  clear hb2 ho2
  go_wp2_with fail
  -- the model
  refine (specLastMeet_any A2 k2 l _ (own_cap (S := pairS) HO2.out) HO2.out.ants).mono ?_
  rintro e w3 ⟨rfl, hb3⟩
  have HB3 := Lib.hid ((HB2.out.trans (hb3.mono HB2.out.size)).alloc (by have := HB2.out.size; have := hb3.size; omega) (Obj.cells #[Value.int IntKind.i64 ((lmV l).1), Value.int IntKind.i64 ((lmV l).2)] 32))
  obtain ⟨g3, hg3⟩ : ∃ g, g = w3.heap.size := ⟨_, rfl⟩
  have m0 : (w3.alloc (Obj.cells #[Value.int IntKind.i64 ((lmV l).1), Value.int IntKind.i64 ((lmV l).2)] 32)).cell? ⟨g3, 0, none⟩ = some (.int .i64 ((lmV l).1)) := by rw [hg3]; simp
  have m1 : (w3.alloc (Obj.cells #[Value.int IntKind.i64 ((lmV l).1), Value.int IntKind.i64 ((lmV l).2)] 32)).cell? ⟨g3, 1, none⟩ = some (.int .i64 ((lmV l).2)) := by rw [hg3]; simp
  clear hb3
  go_wp2_with fail
  -- the copy for the program
  refine (toRunnerS_any A c l _ h (HA.out.below HB3.out)).mono ?_
  rintro e w4 ⟨A4, k4, rfl, ho4, hb4⟩
  have HB4 := Lib.hid (HB3.out.trans (hb4.mono HB3.out.size))
  have m0 := Below.cell_some hb4 m0
  have m1 := Below.cell_some hb4 m1
  have HX4 := Lib.hid ho4
  have s3g : g3 < w4.heap.size := World.block_lt_of_cell? _ _ m0
  rw [← hg3]
  clear hb4 ho4 hg3
  go_wp2_with fail
  -- the program
  refine (implLastMeet_any A4 k4 l _ (own_cap (S := pairS) HX4.out) HX4.out.ants).mono ?_
  rintro e w5 ⟨rfl, hb5⟩
  have HB5 := Lib.hid ((HB4.out.trans (hb5.mono HB4.out.size)).alloc (by have := HB4.out.size; have := hb5.size; omega) (Obj.cells #[Value.int IntKind.i64 ((lmV l).1), Value.int IntKind.i64 ((lmV l).2)] 32))
  have m0 := alloc_some (Below.cell_some hb5 m0) (Obj.cells #[Value.int IntKind.i64 ((lmV l).1), Value.int IntKind.i64 ((lmV l).2)] 32)
  have m1 := alloc_some (Below.cell_some hb5 m1) (Obj.cells #[Value.int IntKind.i64 ((lmV l).1), Value.int IntKind.i64 ((lmV l).2)] 32)
  have n0 : (w5.alloc (Obj.cells #[Value.int IntKind.i64 ((lmV l).1), Value.int IntKind.i64 ((lmV l).2)] 32)).cell? ⟨w5.heap.size, 0, none⟩ = some (.int .i64 ((lmV l).1)) := by simp
  have n1 : (w5.alloc (Obj.cells #[Value.int IntKind.i64 ((lmV l).1), Value.int IntKind.i64 ((lmV l).2)] 32)).cell? ⟨w5.heap.size, 1, none⟩ = some (.int .i64 ((lmV l).2)) := by simp
  have sg : g3 < w5.heap.size := Nat.lt_of_lt_of_le s3g hb5.size
  have HX5 := Lib.hid (AntsOwn.below HX4.out (hb5.alloc (by have := hb5.size; omega) (Obj.cells #[Value.int IntKind.i64 ((lmV l).1), Value.int IntKind.i64 ((lmV l).2)] 32)))
  clear hb5
  go_wp2_with fail
  refine (eqMoment_at ((lmV l).1) ((lmV l).2) ((lmV l).1) ((lmV l).2) true (by simp) _).mono ?_
  rintro e w6 ⟨rfl, hb6⟩
  have HB6 := Lib.hid (HB5.out.trans (hb6.mono HB5.out.size))
  have HX6 := Lib.hid (AntsOwn.below HX5.out hb6)
  clear hb6
  go_wp2_with fail
  refine (toRunnerS_any A c l _ h (HA.out.below HB6.out)).mono ?_
  rintro e w7 ⟨A7, k7, rfl, ho7, hb7⟩
  have HB7 := Lib.hid (HB6.out.trans (hb7.mono HB6.out.size))
  have HX7 := Lib.hid (AntsOwn.below HX6.out hb7)
  have HY7 := Lib.hid ho7
  clear hb7 ho7
  go_wp2_with fail
  refine (eqRunnerS_true A4 A7 k4 k7 l _ h HX7.out.ants HY7.out.ants).mono ?_
  rintro e w8 ⟨rfl, hb8⟩
  have HB8 := Lib.hid (HB7.out.trans (hb8.mono HB7.out.size))
  clear hb8
  go_wp2
  go_ret
  exact ⟨ret_bool rfl, HB8.out⟩

theorem law (A : Option Addr) (c : Nat) (l : List (Int × Int)) (w : World) (hn : (l.length : Int) ≤ 9223372036854775807) (hA : AntsAt w A l) :
    Calls Try.prog 10 #[.slice A l.length c] w fun e w' => e = .returned (.bool true) ∧ Below w.heap.size w w' := by
  by_cases h : (l.length : Int) ≤ 1048576
  · exact fits A c l w h hA
  · exact big A c l w hn (by omega)

set_option maxRecDepth 100000 in
theorem lifted (os : Os) (started : os.Started) (H : Type) (enc : TypeId × Value → H) :
    ReturnsInHanded {} Try.checked os 10 .any (Rows.fnExactLastMeetSpec.pre6 enc Try.prog Try.f10 Rows.fnExactLastMeetRow.domain false) (Rows.fnExactLastMeetSpec.post enc Try.prog Try.f10 false true false false) := by
  refine returnsInHanded_of_change (C := Try.checked) own started (by kernel_rfl) Try.func10
    (ChangeSpec.witness6 (enc := enc) (C := Try.checked) false ⟨#[], #[.slice none 0 0], []⟩ 8 (by kernel_rfl) (by kernel_rfl) (by kernel_rfl) (by kernel_rfl)) ?_
  intro W base args ds gs before hval0 hW hcnd _
  have hval : ∀ (j : Nat) t v, Try.f10.params[j]? = some t → args[j]? = some v → Value.okWide Try.prog W .any base t v := hval0
  have hW' := hW
  obtain ⟨p, q, hA0, hV, rfl, hfz, hnd⟩ := hW
  have hA : DataW.TrodAll enc Try.prog W 0 (fun _ => true) true Try.f10.params.toList args.toList ds p := hA0
  rw [Try.params10] at hA hval
  obtain ⟨v0, vs0, d0, ds0, p0, q0, hargs, rfl, rfl, h0, r0⟩ := trodAll_cons hA
  obtain ⟨rfl, rfl, rfl⟩ := trodAll_nil r0
  obtain rfl : args = #[v0] := by cases args; simp_all
  obtain ⟨rfl, rfl⟩ := trodVars_none hV
  have k0 := h0
  have lt0 : ∀ x ∈ p0, x.block < W.heap.size := by obtain ⟨m, hm⟩ := k0; exact DataW.trod_lt m _ _ _ hm
  obtain ⟨A, c, l, rfl, hAt, hlen⟩ := open_runners (hval 0 22 v0 rfl rfl) h0
  clear hA0 hval0
  refine (law A c l W hlen hAt).mono fun e W' ⟨he, bel⟩ => ?_
  subst he
  exact ⟨_, rfl, _, _, _, [], _, [], hW', trodAll_mk1 (shut_bool Try.underlying4 _), (trodAll_cons_mk (Below.trod laidOut (by kernel_rfl) (of_decide_eq_true (by kernel_rfl)) k0 bel lt0) trodAll_mk0), rfl, bel.frame _, fun h => by cases h⟩

theorem closed : joinedFacts Try.prog 10 Try.f10 Rows.fnExactLastMeetSpec Rows.fnExactLastMeetRow = true := by
  unfold joinedFacts
  repeat' with_reducible refine and_t ?_ ?_
  · kernel_rfl
  · kernel_rfl
  · kernel_rfl
  · kernel_rfl
  · kernel_rfl
  · kernel_rfl
  · kernel_rfl
  · kernel_rfl
  · kernel_rfl
  · kernel_rfl
  · kernel_rfl
  · kernel_rfl
  · kernel_rfl
  · kernel_rfl
  · kernel_rfl
  · kernel_rfl
  · kernel_rfl
  · kernel_rfl
  · kernel_rfl
  · kernel_rfl
  · kernel_rfl
  · kernel_rfl
  · kernel_rfl
  · kernel_rfl
  · kernel_rfl
  · exact factMayEnter
  · exact factLifts
  · exact factMake
  · kernel_rfl
  · kernel_rfl
  · kernel_rfl
  · kernel_rfl

theorem over : Rows.fnExactLastMeetRow.holds Try.pinned (OpenSpec.ofChange Rows.fnExactLastMeetSpec) :=
  OpenClaim.holds_of_wide 10 Try.f10 rfl rfl rfl rfl rfl rfl rfl ⟨rfl, rfl, rfl, rfl, rfl⟩ rfl rfl rfl rfl rfl (by kernel_rfl) Try.func10 closed
    (of_decide_eq_true (by kernel_rfl)) (by unfold Func.isWrapper; first | (rw [if_pos (by decide +kernel)]; kernel_rfl) | (rw [if_neg (by decide +kernel)]; exact ⟨rfl, rfl⟩))
    (fun os started H enc _ => lifted os started H enc)

/-- the statement -/
theorem proved : Rows.FnExactLastMeetSaid := over
#print axioms proved

end Go.Proofs.Ytlepdphdflpoaaa.lLastMeet
