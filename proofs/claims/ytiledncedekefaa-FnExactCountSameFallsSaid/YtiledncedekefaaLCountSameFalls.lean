/- The law FnExactCountSameFalls returns true at every input, and leaves its arguments as they were. No condition. -/
import Derived.Test.YtiledncedekefaaRows
import Derived.Test.YtiledncedekefaaOpenI
import Derived.Test.YtiledncedekefaaFactA
import Derived.Test.YtiledncedekefaaFactB
import Derived.Test.YtiledncedekefaaFactC
import Derived.Test.YtiledncedekefaaSameF
import Derived.Test.YtiledncedekefaaHelpI
import Derived.Test.YtiledncedekefaaMark
import Derived.ChangeMaps5
namespace Go.Proofs.Ytiledncedekefaa.lCountSameFalls
open Go.RowKit
open Go.ChangeShapes Go.WideShapes Go.ChangeAt
set_option linter.unusedVariables false

set_option maxHeartbeats 1000000 in
theorem big0 (L : Int) (Al : Option Addr) (cl : Nat) (l : List Int) (Am : Option Addr) (cm : Nat) (m : List Int) (w : World) (hb : (l.length : Int) ≤ 9223372036854775807) (h : (1048576 : Int) < (l.length : Int)) :
    Calls Try.prog 15 #[.int .i64 L, .slice Al l.length cl, .slice Am m.length cm] w fun e w' => e = .returned (.bool true) ∧ Below w.heap.size w w' := by
  go_enter Try.func15, Try.ntmps15
  go_wp2
  go_ret
  exact ⟨ret_bool rfl, Below.refl _ _⟩

set_option maxHeartbeats 1000000 in
theorem big1 (L : Int) (Al : Option Addr) (cl : Nat) (l : List Int) (Am : Option Addr) (cm : Nat) (m : List Int) (w : World) (hl : (l.length : Int) ≤ 1048576) (hb : (m.length : Int) ≤ 9223372036854775807) (h : (1048576 : Int) < (m.length : Int)) :
    Calls Try.prog 15 #[.int .i64 L, .slice Al l.length cl, .slice Am m.length cm] w fun e w' => e = .returned (.bool true) ∧ Below w.heap.size w w' := by
  have zl : ¬ (1048576 : Int) < (l.length : Int) := by omega
  go_enter Try.func15, Try.ntmps15
  go_wp2
  go_ret
  exact ⟨ret_bool rfl, Below.refl _ _⟩

set_option maxRecDepth 100000 in
set_option maxHeartbeats 8000000 in
theorem fits (L : Int) (Al : Option Addr) (cl : Nat) (l : List Int) (Am : Option Addr) (cm : Nat) (m : List Int) (w : World) (hl : (l.length : Int) ≤ 1048576) (hm : (m.length : Int) ≤ 1048576) (hAl : SlAt intS w Al l) (hAm : SlAt intS w Am m) :
    Calls Try.prog 15 #[.int .i64 L, .slice Al l.length cl, .slice Am m.length cm] w fun e w' => e = .returned (.bool true) ∧ Below w.heap.size w w' := by
  have zl : ¬ (1048576 : Int) < (l.length : Int) := by omega
  have zm : ¬ (1048576 : Int) < (m.length : Int) := by omega
  have hb0l : (l.length : Int) ≤ 9223372036854775807 := by omega
  have H0l := Lib.hid hAl
  clear hAl
  have hb0m : (m.length : Int) ≤ 9223372036854775807 := by omega
  have H0m := Lib.hid hAm
  clear hAm
  go_enter Try.func15, Try.ntmps15
  go_wp2_with fail
  -- the copies for the model
  refine (toIntS_any Al cl l _ hl H0l.out).mono ?_
  rintro e w1 ⟨A1, k1, rfl, ho1, hb1⟩
  have s1 : w.heap.size ≤ w1.heap.size := hb1.size
  have IOl : Hid (∀ b, (Value.slice A1 l.length k1).ownBlock = some b → w.heap.size ≤ b ∧ b < w1.heap.size) := World.ownsRow.lt ho1
  have HB1 : Hid (Below w.heap.size w w1) := hb1
  have HOl1 := Lib.hid ho1
  clear hb1 ho1
  go_wp2_with fail
  refine (toIntS_any Am cm m _ hm (H0m.out.below HB1.out)).mono ?_
  rintro e w2 ⟨A2, k2, rfl, ho2, hb2⟩
  have s2 : w1.heap.size ≤ w2.heap.size := hb2.size
  have IOm : Hid (∀ b, (Value.slice A2 m.length k2).ownBlock = some b → w1.heap.size ≤ b ∧ b < w2.heap.size) := World.ownsRow.lt ho2
  have HB2 : Hid (Below w.heap.size w w2) := HB1.out.trans (hb2.mono HB1.out.size)
  have HOl2 := Lib.hid (SlOwn.below HOl1.out hb2)
  have HOm2 := Lib.hid ho2
  clear hb2 ho2
  go_wp2_with fail
  -- the model
  refine (specCountSameFalls_any L A1 k1 l A2 k2 m _ (by omega) (by omega) HOl2.out.sl HOm2.out.sl).mono ?_
  rintro e w3 ⟨rfl, hb3⟩
  have s3 : w2.heap.size ≤ w3.heap.size := hb3.size
  have HB3 : Hid (Below w.heap.size w w3) := HB2.out.trans (hb3.mono HB2.out.size)
  have HOl3 := Lib.hid (SlOwn.below HOl2.out hb3)
  have HOm3 := Lib.hid (SlOwn.below HOm2.out hb3)
  clear hb3
  go_wp2_with fail
  -- the copies for the program
  refine (toIntS_any Al cl l _ hl (H0l.out.below HB3.out)).mono ?_
  rintro e w4 ⟨A4, k4, rfl, ho4, hb4⟩
  have s4 : w3.heap.size ≤ w4.heap.size := hb4.size
  have IXl : Hid (∀ b, (Value.slice A4 l.length k4).ownBlock = some b → w3.heap.size ≤ b ∧ b < w4.heap.size) := World.ownsRow.lt ho4
  have HB4 : Hid (Below w.heap.size w w4) := HB3.out.trans (hb4.mono HB3.out.size)
  have HXl4 := Lib.hid ho4
  clear hb4 ho4
  go_wp2_with fail
  refine (toIntS_any Am cm m _ hm (H0m.out.below HB4.out)).mono ?_
  rintro e w5 ⟨A5, k5, rfl, ho5, hb5⟩
  have s5 : w4.heap.size ≤ w5.heap.size := hb5.size
  have IXm : Hid (∀ b, (Value.slice A5 m.length k5).ownBlock = some b → w4.heap.size ≤ b ∧ b < w5.heap.size) := World.ownsRow.lt ho5
  have HB5 : Hid (Below w.heap.size w w5) := HB4.out.trans (hb5.mono HB4.out.size)
  have HXl5 := Lib.hid (SlOwn.below HXl4.out hb5)
  have HXm5 := Lib.hid ho5
  clear hb5 ho5
  go_wp2_with fail
  -- the program
  refine (implCountSameFalls_any L A4 k4 l A5 k5 m _ (by omega) (by omega) HXl5.out.sl HXm5.out.sl).mono ?_
  rintro e w6 ⟨rfl, hb6⟩
  have s6 : w5.heap.size ≤ w6.heap.size := hb6.size
  have HB6 : Hid (Below w.heap.size w w6) := HB5.out.trans (hb6.mono HB5.out.size)
  have HXl6 := Lib.hid (SlOwn.below HXl5.out hb6)
  have HXm6 := Lib.hid (SlOwn.below HXm5.out hb6)
  clear hb6
  go_wp2_with fail
  refine (toIntS_any Al cl l _ hl (H0l.out.below HB6.out)).mono ?_
  rintro e w7 ⟨A7, k7, rfl, ho7, hb7⟩
  have s7 : w6.heap.size ≤ w7.heap.size := hb7.size
  have IYl : Hid (∀ b, (Value.slice A7 l.length k7).ownBlock = some b → w6.heap.size ≤ b ∧ b < w7.heap.size) := World.ownsRow.lt ho7
  have HB7 : Hid (Below w.heap.size w w7) := HB6.out.trans (hb7.mono HB6.out.size)
  have HXl7 := Lib.hid (SlOwn.below HXl6.out hb7)
  have HXm7 := Lib.hid (SlOwn.below HXm6.out hb7)
  have HYl7 := Lib.hid ho7
  clear hb7 ho7
  go_wp2_with fail
  refine (eqIntS_true A4 A7 k4 k7 l _ hl HXl7.out.sl HYl7.out.sl).mono ?_
  rintro e w8 ⟨rfl, hb8⟩
  have s8 : w7.heap.size ≤ w8.heap.size := hb8.size
  have HB8 : Hid (Below w.heap.size w w8) := HB7.out.trans (hb8.mono HB7.out.size)
  have HXl8 := Lib.hid (SlOwn.below HXl7.out hb8)
  have HXm8 := Lib.hid (SlOwn.below HXm7.out hb8)
  have HYl8 := Lib.hid (SlOwn.below HYl7.out hb8)
  clear hb8
  go_wp2_with fail
  refine (toIntS_any Am cm m _ hm (H0m.out.below HB8.out)).mono ?_
  rintro e w9 ⟨A9, k9, rfl, ho9, hb9⟩
  have s9 : w8.heap.size ≤ w9.heap.size := hb9.size
  have IYm : Hid (∀ b, (Value.slice A9 m.length k9).ownBlock = some b → w8.heap.size ≤ b ∧ b < w9.heap.size) := World.ownsRow.lt ho9
  have HB9 : Hid (Below w.heap.size w w9) := HB8.out.trans (hb9.mono HB8.out.size)
  have HXl9 := Lib.hid (SlOwn.below HXl8.out hb9)
  have HXm9 := Lib.hid (SlOwn.below HXm8.out hb9)
  have HYm9 := Lib.hid ho9
  clear hb9 ho9
  go_wp2_with fail
  refine (eqIntS_true A5 A9 k5 k9 m _ hm HXm9.out.sl HYm9.out.sl).mono ?_
  rintro e w10 ⟨rfl, hb10⟩
  have s10 : w9.heap.size ≤ w10.heap.size := hb10.size
  have HB10 : Hid (Below w.heap.size w w10) := HB9.out.trans (hb10.mono HB9.out.size)
  have HXl10 := Lib.hid (SlOwn.below HXl9.out hb10)
  have HXm10 := Lib.hid (SlOwn.below HXm9.out hb10)
  have HYm10 := Lib.hid (SlOwn.below HYm9.out hb10)
  clear hb10
  go_wp2
  go_ret
  exact ⟨ret_bool rfl, HB10.out⟩

theorem law (L : Int) (Al : Option Addr) (cl : Nat) (l : List Int) (Am : Option Addr) (cm : Nat) (m : List Int) (w : World) (hnl : (l.length : Int) ≤ 9223372036854775807) (hnm : (m.length : Int) ≤ 9223372036854775807) (hAl : SlAt intS w Al l) (hAm : SlAt intS w Am m) :
    Calls Try.prog 15 #[.int .i64 L, .slice Al l.length cl, .slice Am m.length cm] w fun e w' => e = .returned (.bool true) ∧ Below w.heap.size w w' := by
  by_cases hl : (l.length : Int) ≤ 1048576
  rotate_left
  · exact big0 L Al cl l Am cm m w (by omega) (by omega)
  by_cases hm : (m.length : Int) ≤ 1048576
  rotate_left
  · exact big1 L Al cl l Am cm m w hl (by omega) (by omega)
  exact fits L Al cl l Am cm m w hl hm hAl hAm

set_option maxRecDepth 100000 in
theorem lifted (os : Os) (started : os.Started) (H : Type) (enc : TypeId × Value → H) :
    ReturnsInHanded {} Try.checked os 15 .any (Rows.fnExactCountSameFallsSpec.pre6 enc Try.prog Try.f15 Rows.fnExactCountSameFallsRow.domain false) (Rows.fnExactCountSameFallsSpec.post enc Try.prog Try.f15 false true false false) := by
  refine returnsInHanded_of_change (C := Try.checked) own started (by kernel_rfl) Try.func15
    (ChangeSpec.witness6 (enc := enc) (C := Try.checked) false ⟨#[], #[.int .i64 0, .slice none 0 0, .slice none 0 0], []⟩ 8 (by kernel_rfl) (by kernel_rfl) (by kernel_rfl) (by kernel_rfl)) ?_
  intro W base args ds gs before hval0 hW hcnd _
  have hval : ∀ (j : Nat) t v, Try.f15.params[j]? = some t → args[j]? = some v → Value.okWide Try.prog W .any base t v := hval0
  have hW' := hW
  obtain ⟨p, q, hA0, hV, rfl, hfz, hnd⟩ := hW
  have hA : DataW.TrodAll enc Try.prog W 0 (fun _ => true) true Try.f15.params.toList args.toList ds p := hA0
  rw [Try.params15] at hA hval
  obtain ⟨v0, vs0, d0, ds0, p0, q0, hargs, rfl, rfl, h0, r0⟩ := trodAll_cons hA
  obtain ⟨v1, vs1, d1, ds1, p1, q1, rfl, rfl, rfl, h1, r1⟩ := trodAll_cons r0
  obtain ⟨v2, vs2, d2, ds2, p2, q2, rfl, rfl, rfl, h2, r2⟩ := trodAll_cons r1
  obtain ⟨rfl, rfl, rfl⟩ := trodAll_nil r2
  obtain rfl : args = #[v0, v1, v2] := by cases args; simp_all
  obtain ⟨rfl, rfl⟩ := trodVars_none hV
  have k1 := h1
  have lt1 : ∀ x ∈ p1, x.block < W.heap.size := by obtain ⟨m, hm⟩ := k1; exact DataW.trod_lt m _ _ _ hm
  have k2 := h2
  have lt2 : ∀ x ∈ p2, x.block < W.heap.size := by obtain ⟨m, hm⟩ := k2; exact DataW.trod_lt m _ _ _ hm
  obtain ⟨L, rfl, rfl, rfl, w0⟩ := open_int Try.underlying3 (hval 0 3 v0 rfl rfl) h0
  obtain ⟨Al, cl, l, rfl, hAtl, hlenl⟩ := open_intS (hval 1 22 v1 rfl rfl) h1
  obtain ⟨Am, cm, m, rfl, hAtm, hlenm⟩ := open_intS (hval 2 22 v2 rfl rfl) h2
  clear hA0 hval0
  refine (law L Al cl l Am cm m W hlenl hlenm hAtl hAtm).mono fun e W' ⟨he, bel⟩ => ?_
  subst he
  exact ⟨_, rfl, _, _, _, [], _, [], hW', trodAll_mk1 (shut_bool Try.underlying4 _), (trodAll_cons_mk (shut_int Try.underlying3 w0) (trodAll_cons_mk (Below.trod laidOut (by kernel_rfl) (of_decide_eq_true (by kernel_rfl)) k1 bel lt1) (trodAll_cons_mk (Below.trod laidOut (by kernel_rfl) (of_decide_eq_true (by kernel_rfl)) k2 bel lt2) trodAll_mk0))), rfl, bel.frame _, fun h => by cases h⟩

theorem closed : joinedFacts Try.prog 15 Try.f15 Rows.fnExactCountSameFallsSpec Rows.fnExactCountSameFallsRow = true := by
  unfold joinedFacts
  repeat' with_reducible refine and_t ?_ ?_
  · kernel_rfl
  · kernel_rfl
  · kernel_rfl
  · kernel_rfl
  · kernel_rfl
  · kernel_rfl
  · kernel_rfl
  · kernel_rfl
  · kernel_rfl
  · kernel_rfl
  · kernel_rfl
  · kernel_rfl
  · kernel_rfl
  · kernel_rfl
  · kernel_rfl
  · kernel_rfl
  · kernel_rfl
  · kernel_rfl
  · kernel_rfl
  · kernel_rfl
  · kernel_rfl
  · kernel_rfl
  · kernel_rfl
  · kernel_rfl
  · kernel_rfl
  · exact factMayEnter
  · exact factLifts
  · exact factMake
  · kernel_rfl
  · kernel_rfl
  · kernel_rfl
  · kernel_rfl

theorem over : Rows.fnExactCountSameFallsRow.holds Try.pinned (OpenSpec.ofChange Rows.fnExactCountSameFallsSpec) :=
  OpenClaim.holds_of_wide 15 Try.f15 rfl rfl rfl rfl rfl rfl rfl ⟨rfl, rfl, rfl, rfl, rfl⟩ rfl rfl rfl rfl rfl (by kernel_rfl) Try.func15 closed
    (of_decide_eq_true (by kernel_rfl)) (by unfold Func.isWrapper; first | (rw [if_pos (by decide +kernel)]; kernel_rfl) | (rw [if_neg (by decide +kernel)]; exact ⟨rfl, rfl⟩))
    (fun os started H enc _ => lifted os started H enc)

/-- the statement -/
theorem proved : Rows.FnExactCountSameFallsSaid := over
#print axioms proved

end Go.Proofs.Ytiledncedekefaa.lCountSameFalls
