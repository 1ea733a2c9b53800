/- The law FnExactHiddenRod returns true at every input, and leaves its arguments as they were. No condition. -/
import Derived.Test.YtiodlclaempihaaRows
import Derived.Test.YtiodlclaempihaaOpenI
import Derived.Test.YtiodlclaempihaaFactA
import Derived.Test.YtiodlclaempihaaFactB
import Derived.Test.YtiodlclaempihaaFactC
import Derived.Test.YtiodlclaempihaaPuzJ
import Derived.Test.YtiodlclaempihaaHelpI
import Derived.Test.YtiodlclaempihaaMark
import Derived.ChangeMaps5
namespace Go.Proofs.Ytiodlclaempihaa.lHiddenRod
open Go.RowKit
open Go.ChangeShapes Go.WideShapes Go.ChangeAt
set_option linter.unusedVariables false

set_option maxHeartbeats 1000000 in
theorem big0 (L : Int) (Al : Option Addr) (cl : Nat) (l : List Int) (t : ByteArray) (w : World) (hb : (l.length : Int) ≤ 9223372036854775807) (h : (1048576 : Int) < (l.length : Int)) :
    Calls Try.prog 5 #[.int .i64 L, .slice Al l.length cl, .string t] w fun e w' => e = .returned (.bool true) ∧ Below w.heap.size w w' := by
  go_enter Try.func5, Try.ntmps5
  go_wp2
  go_ret
  exact ⟨ret_bool rfl, Below.refl _ _⟩

set_option maxHeartbeats 1000000 in
theorem big1 (L : Int) (Al : Option Addr) (cl : Nat) (l : List Int) (t : ByteArray) (w : World) (hl : (l.length : Int) ≤ 1048576) (hb : (t.size : Int) ≤ 9223372036854775807) (h : (1048576 : Int) < (t.size : Int)) :
    Calls Try.prog 5 #[.int .i64 L, .slice Al l.length cl, .string t] w fun e w' => e = .returned (.bool true) ∧ Below w.heap.size w w' := by
  have zl : ¬ (1048576 : Int) < (l.length : Int) := by omega
  go_enter Try.func5, Try.ntmps5
  go_wp2
  go_ret
  exact ⟨ret_bool rfl, Below.refl _ _⟩

set_option maxRecDepth 100000 in
set_option maxHeartbeats 8000000 in
theorem fits (L : Int) (Al : Option Addr) (cl : Nat) (l : List Int) (t : ByteArray) (w : World) (hl : (l.length : Int) ≤ 1048576) (ht : (t.size : Int) ≤ 1048576) (hAl : SlAt intS w Al l) :
    Calls Try.prog 5 #[.int .i64 L, .slice Al l.length cl, .string t] w fun e w' => e = .returned (.bool true) ∧ Below w.heap.size w w' := by
  have zl : ¬ (1048576 : Int) < (l.length : Int) := by omega
  have zt : ¬ (1048576 : Int) < (t.size : Int) := by omega
  have hb0l : (l.length : Int) ≤ 9223372036854775807 := by omega
  have H0l := Lib.hid hAl
  clear hAl
  have hvb : (((hwV L l t).length : Nat) : Int) ≤ 1048576 := (by have := hwV_len L l t; omega)
  have HVB := Lib.hid hvb
  go_enter Try.func5, Try.ntmps5
  go_wp2_with fail
  -- the copies for the model
  refine (toIntS_any Al cl l _ hl H0l.out).mono ?_
  rintro e w1 ⟨A1, k1, rfl, ho1, hb1⟩
  have s1 : w.heap.size ≤ w1.heap.size := hb1.size
  have IOl : Hid (∀ b, (Value.slice A1 l.length k1).ownBlock = some b → w.heap.size ≤ b ∧ b < w1.heap.size) := World.ownsRow.lt ho1
  have HB1 : Hid (Below w.heap.size w w1) := hb1
  have HOl1 := Lib.hid ho1
  clear hb1 ho1
  go_wp2_with fail
  -- the model
  refine (specHiddenRod_any L A1 k1 l t _ (by omega) HOl1.out.sl).mono ?_
  rintro e w2 ⟨A2, n2, k2, rfl, hn2, ho2, hb2⟩
  subst hn2
  have s2 : w1.heap.size ≤ w2.heap.size := hb2.size
  have IW : Hid (∀ b, (Value.slice A2 (hwV L l t).length k2).ownBlock = some b → w1.heap.size ≤ b ∧ b < w2.heap.size) := World.ownsRow.lt ho2
  have hz2 : Below w1.heap.size w1 (w2.alloc (Obj.cells #[Value.int IntKind.i64 (hwL L l t), Value.slice A2 (hwV L l t).length k2] 42)) := hb2.alloc hb2.size _
  have HB2 : Hid (Below w.heap.size w (w2.alloc (Obj.cells #[Value.int IntKind.i64 (hwL L l t), Value.slice A2 (hwV L l t).length k2] 42))) := HB1.out.trans (hz2.mono HB1.out.size)
  have HOl2 := Lib.hid (SlOwn.below HOl1.out hz2)
  have HW2 := Lib.hid (SlOwn.below ho2 ((Below.refl _ w2).alloc (Nat.le_refl _) (Obj.cells #[Value.int IntKind.i64 (hwL L l t), Value.slice A2 (hwV L l t).length k2] 42)))
  clear hb2 hz2 ho2
  have m0 : (w2.alloc (Obj.cells #[Value.int IntKind.i64 (hwL L l t), Value.slice A2 (hwV L l t).length k2] 42)).cell? ⟨w2.heap.size, 0, none⟩ = some (.int .i64 (hwL L l t)) := by simp
  have m1 : (w2.alloc (Obj.cells #[Value.int IntKind.i64 (hwL L l t), Value.slice A2 (hwV L l t).length k2] 42)).cell? ⟨w2.heap.size, 1, none⟩ = some (.slice A2 (hwV L l t).length k2) := by simp
  go_wp2_with fail
  -- the copies for the program
  refine (toIntS_any Al cl l _ hl (H0l.out.below HB2.out)).mono ?_
  rintro e w3 ⟨A3, k3, rfl, ho3, hb3⟩
  have s3 : w2.heap.size + 1 ≤ w3.heap.size := by have := hb3.size; simpa using this
  have IXl : Hid (∀ b, (Value.slice A3 l.length k3).ownBlock = some b → w2.heap.size + 1 ≤ b ∧ b < w3.heap.size) := fun b hb => by have h := World.ownsRow.lt ho3 b hb; rw [show (w2.alloc (Obj.cells #[Value.int IntKind.i64 (hwL L l t), Value.slice A2 (hwV L l t).length k2] 42)).heap.size = w2.heap.size + 1 by simp] at h; exact h
  have HB3 : Hid (Below w.heap.size w w3) := HB2.out.trans (hb3.mono HB2.out.size)
  have m0 := Below.cell_some hb3 m0
  have m1 := Below.cell_some hb3 m1
  have HW3 := Lib.hid (SlOwn.below HW2.out hb3)
  have HXl3 := Lib.hid ho3
  clear hb3 ho3
  go_wp2_with fail
  -- the program
  refine (implHiddenRod_any L A3 k3 l t _ (by omega) HXl3.out.sl).mono ?_
  rintro e w4 ⟨A4, n4, k4, rfl, hn4, ho4, hb4⟩
  subst hn4
  have s4 : w3.heap.size ≤ w4.heap.size := hb4.size
  have IG : Hid (∀ b, (Value.slice A4 (hwV L l t).length k4).ownBlock = some b → w3.heap.size ≤ b ∧ b < w4.heap.size) := World.ownsRow.lt ho4
  have hz4 : Below w3.heap.size w3 (w4.alloc (Obj.cells #[Value.int IntKind.i64 (hwL L l t), Value.slice A4 (hwV L l t).length k4] 42)) := hb4.alloc hb4.size _
  have HB4 : Hid (Below w.heap.size w (w4.alloc (Obj.cells #[Value.int IntKind.i64 (hwL L l t), Value.slice A4 (hwV L l t).length k4] 42))) := HB3.out.trans (hz4.mono HB3.out.size)
  have m0 := Below.cell_some hz4 m0
  have m1 := Below.cell_some hz4 m1
  have HW4 := Lib.hid (SlOwn.below HW3.out hz4)
  have HXl4 := Lib.hid (SlOwn.below HXl3.out hz4)
  have HG4 := Lib.hid (SlOwn.below ho4 ((Below.refl _ w4).alloc (Nat.le_refl _) (Obj.cells #[Value.int IntKind.i64 (hwL L l t), Value.slice A4 (hwV L l t).length k4] 42)))
  clear hb4 hz4 ho4
  have n0 : (w4.alloc (Obj.cells #[Value.int IntKind.i64 (hwL L l t), Value.slice A4 (hwV L l t).length k4] 42)).cell? ⟨w4.heap.size, 0, none⟩ = some (.int .i64 (hwL L l t)) := by simp
  have n1 : (w4.alloc (Obj.cells #[Value.int IntKind.i64 (hwL L l t), Value.slice A4 (hwV L l t).length k4] 42)).cell? ⟨w4.heap.size, 1, none⟩ = some (.slice A4 (hwV L l t).length k4) := by simp
  go_wp2_with fail
  refine (eqRod_true (hwL L l t) A4 A2 k4 k2 (hwV L l t) _ HVB.out (AntsOwn.ants HG4.out) (AntsOwn.ants HW4.out)).mono ?_
  rintro e w5 ⟨rfl, hb5⟩
  have s5 : w4.heap.size + 1 ≤ w5.heap.size := by have := hb5.size; simpa using this
  have HB5 : Hid (Below w.heap.size w w5) := HB4.out.trans (hb5.mono HB4.out.size)
  have m0 := Below.cell_some hb5 m0
  have m1 := Below.cell_some hb5 m1
  have n0 := Below.cell_some hb5 n0
  have n1 := Below.cell_some hb5 n1
  have HW5 := Lib.hid (SlOwn.below HW4.out hb5)
  have HXl5 := Lib.hid (SlOwn.below HXl4.out hb5)
  have HG5 := Lib.hid (SlOwn.below HG4.out hb5)
  clear hb5
  go_wp2_with fail
  refine (toIntS_any Al cl l _ hl (H0l.out.below HB5.out)).mono ?_
  rintro e w6 ⟨A6, k6, rfl, ho6, hb6⟩
  have s6 : w5.heap.size ≤ w6.heap.size := hb6.size
  have IYl : Hid (∀ b, (Value.slice A6 l.length k6).ownBlock = some b → w5.heap.size ≤ b ∧ b < w6.heap.size) := World.ownsRow.lt ho6
  have HB6 : Hid (Below w.heap.size w w6) := HB5.out.trans (hb6.mono HB5.out.size)
  have m0 := Below.cell_some hb6 m0
  have m1 := Below.cell_some hb6 m1
  have n0 := Below.cell_some hb6 n0
  have n1 := Below.cell_some hb6 n1
  have HW6 := Lib.hid (SlOwn.below HW5.out hb6)
  have HXl6 := Lib.hid (SlOwn.below HXl5.out hb6)
  have HG6 := Lib.hid (SlOwn.below HG5.out hb6)
  have HYl6 := Lib.hid ho6
  clear hb6 ho6
  go_wp2_with fail
  refine (eqIntS_true A3 A6 k3 k6 l _ hl HXl6.out.sl HYl6.out.sl).mono ?_
  rintro e w7 ⟨rfl, hb7⟩
  have s7 : w6.heap.size ≤ w7.heap.size := hb7.size
  have HB7 : Hid (Below w.heap.size w w7) := HB6.out.trans (hb7.mono HB6.out.size)
  have m0 := Below.cell_some hb7 m0
  have m1 := Below.cell_some hb7 m1
  have n0 := Below.cell_some hb7 n0
  have n1 := Below.cell_some hb7 n1
  have HW7 := Lib.hid (SlOwn.below HW6.out hb7)
  have HXl7 := Lib.hid (SlOwn.below HXl6.out hb7)
  have HG7 := Lib.hid (SlOwn.below HG6.out hb7)
  have HYl7 := Lib.hid (SlOwn.below HYl6.out hb7)
  clear hb7
  go_wp2_with fail
  -- marks on a copy
  refine (markIntS_any A3 k3 _ l (1) _ (by omega) (by omega) hl HXl7.out).mono ?_
  rintro e w8 ⟨rfl, _, hg8⟩
  have s8 : w7.heap.size ≤ w8.heap.size := hg8.size
  have m0 := grown_cell hg8 IXl.out (by simp <;> omega) m0
  have m1 := grown_cell hg8 IXl.out (by simp <;> omega) m1
  have n0 := grown_cell hg8 IXl.out (by simp <;> omega) n0
  have n1 := grown_cell hg8 IXl.out (by simp <;> omega) n1
  have HB8 : Hid (Below w.heap.size w w8) := HB7.out.trans (grown_below hg8 IXl.out (by omega) HB7.out.size)
  have HW8 := Lib.hid (grown_own hg8 IXl.out (S := pairS) HW7.out (fun b hb => by have := IW.out b hb; omega))
  have HG8 := Lib.hid (grown_own hg8 IXl.out (S := pairS) HG7.out (fun b hb => by have := IG.out b hb; omega))
  clear hg8
  have hk9 : ¬ (1 + (l.length : Int)) < 0 := by omega
  go_wp2_with fail
  refine (eqRod_true (hwL L l t) A4 A2 k4 k2 (hwV L l t) _ HVB.out (AntsOwn.ants HG8.out) (AntsOwn.ants HW8.out)).mono ?_
  rintro e w9 ⟨rfl, hb9⟩
  have s9 : w8.heap.size ≤ w9.heap.size := hb9.size
  have HB9 : Hid (Below w.heap.size w w9) := HB8.out.trans (hb9.mono HB8.out.size)
  have m0 := Below.cell_some hb9 m0
  have m1 := Below.cell_some hb9 m1
  have n0 := Below.cell_some hb9 n0
  have n1 := Below.cell_some hb9 n1
  have HW9 := Lib.hid (SlOwn.below HW8.out hb9)
  have HG9 := Lib.hid (SlOwn.below HG8.out hb9)
  clear hb9
  go_wp2_with fail
  -- marks on the result
  refine (markRod_any (hwL L l t) A4 k4 _ (hwV L l t) 1 _ (by omega) (by omega) HVB.out HG9.out).mono ?_
  rintro e w10 ⟨rfl, ho10, hg10⟩
  have s10 : w9.heap.size ≤ w10.heap.size := hg10.size
  have m0 := grown_cell hg10 IG.out (by simp <;> omega) m0
  have m1 := grown_cell hg10 IG.out (by simp <;> omega) m1
  have n0 := grown_cell hg10 IG.out (by simp <;> omega) n0
  have n1 := grown_cell hg10 IG.out (by simp <;> omega) n1
  have HB10 : Hid (Below w.heap.size w w10) := HB9.out.trans (grown_below hg10 IG.out (by omega) HB9.out.size)
  have HW10 := Lib.hid (grown_own hg10 IG.out (S := pairS) HW9.out (fun b hb => by have := IW.out b hb; omega))
  have HG10 := Lib.hid (antsOwn_iff.1 ho10)
  clear hg10 ho10
  have hm1 : ¬ (1 + 2 * (((hwV L l t).length : Nat) : Int)) < 0 := by omega
  go_wp2_with fail
  refine (heldRod_any (hwL L l t) A4 k4 (hwV L l t).length 1 _ (by omega) (by omega) HVB.out (AntsOwn.ants HG10.out)).mono ?_
  rintro e w11 ⟨rfl, hb11⟩
  have s11 : w10.heap.size ≤ w11.heap.size := hb11.size
  have HB11 : Hid (Below w.heap.size w w11) := HB10.out.trans (hb11.mono HB10.out.size)
  have m0 := Below.cell_some hb11 m0
  have m1 := Below.cell_some hb11 m1
  have n0 := Below.cell_some hb11 n0
  have n1 := Below.cell_some hb11 n1
  have HW11 := Lib.hid (SlOwn.below HW10.out hb11)
  have HG11 := Lib.hid (SlOwn.below HG10.out hb11)
  clear hb11
  go_wp2_with fail
  -- once more
  refine (toIntS_any Al cl l _ hl (H0l.out.below HB11.out)).mono ?_
  rintro e w12 ⟨A12, k12, rfl, ho12, hb12⟩
  have s12 : w11.heap.size ≤ w12.heap.size := hb12.size
  have IZl : Hid (∀ b, (Value.slice A12 l.length k12).ownBlock = some b → w11.heap.size ≤ b ∧ b < w12.heap.size) := World.ownsRow.lt ho12
  have HB12 : Hid (Below w.heap.size w w12) := HB11.out.trans (hb12.mono HB11.out.size)
  have m0 := Below.cell_some hb12 m0
  have m1 := Below.cell_some hb12 m1
  have n0 := Below.cell_some hb12 n0
  have n1 := Below.cell_some hb12 n1
  have HW12 := Lib.hid (SlOwn.below HW11.out hb12)
  have HG12 := Lib.hid (SlOwn.below HG11.out hb12)
  have HZl12 := Lib.hid ho12
  clear hb12 ho12
  go_wp2_with fail
  refine (implHiddenRod_any L A12 k12 l t _ (by omega) HZl12.out.sl).mono ?_
  rintro e w13 ⟨A13, n13, k13, rfl, hn13, ho13, hb13⟩
  subst hn13
  have s13 : w12.heap.size ≤ w13.heap.size := hb13.size
  have IN : Hid (∀ b, (Value.slice A13 (hwV L l t).length k13).ownBlock = some b → w12.heap.size ≤ b ∧ b < w13.heap.size) := World.ownsRow.lt ho13
  have hz13 : Below w12.heap.size w12 (w13.alloc (Obj.cells #[Value.int IntKind.i64 (hwL L l t), Value.slice A13 (hwV L l t).length k13] 42)) := hb13.alloc hb13.size _
  have HB13 : Hid (Below w.heap.size w (w13.alloc (Obj.cells #[Value.int IntKind.i64 (hwL L l t), Value.slice A13 (hwV L l t).length k13] 42))) := HB12.out.trans (hz13.mono HB12.out.size)
  have m0 := Below.cell_some hz13 m0
  have m1 := Below.cell_some hz13 m1
  have n0 := Below.cell_some hz13 n0
  have n1 := Below.cell_some hz13 n1
  have HW13 := Lib.hid (SlOwn.below HW12.out hz13)
  have HG13 := Lib.hid (SlOwn.below HG12.out hz13)
  have HZl13 := Lib.hid (SlOwn.below HZl12.out hz13)
  have HN13 := Lib.hid (SlOwn.below ho13 ((Below.refl _ w13).alloc (Nat.le_refl _) (Obj.cells #[Value.int IntKind.i64 (hwL L l t), Value.slice A13 (hwV L l t).length k13] 42)))
  clear hb13 hz13 ho13
  go_wp2_with fail
  refine (eqRod_true (hwL L l t) A13 A2 k13 k2 (hwV L l t) _ HVB.out (AntsOwn.ants HN13.out) (AntsOwn.ants HW13.out)).mono ?_
  rintro e w14 ⟨rfl, hb14⟩
  have s14 : w13.heap.size + 1 ≤ w14.heap.size := by have := hb14.size; simpa using this
  have HB14 : Hid (Below w.heap.size w w14) := HB13.out.trans (hb14.mono HB13.out.size)
  have m0 := Below.cell_some hb14 m0
  have m1 := Below.cell_some hb14 m1
  have n0 := Below.cell_some hb14 n0
  have n1 := Below.cell_some hb14 n1
  have HW14 := Lib.hid (SlOwn.below HW13.out hb14)
  have HG14 := Lib.hid (SlOwn.below HG13.out hb14)
  have HN14 := Lib.hid (SlOwn.below HN13.out hb14)
  clear hb14
  go_wp2_with fail
  refine (heldRod_any (hwL L l t) A4 k4 (hwV L l t).length 1 _ (by omega) (by omega) HVB.out (AntsOwn.ants HG14.out)).mono ?_
  rintro e w15 ⟨rfl, hb15⟩
  have s15 : w14.heap.size ≤ w15.heap.size := hb15.size
  have HB15 : Hid (Below w.heap.size w w15) := HB14.out.trans (hb15.mono HB14.out.size)
  have m0 := Below.cell_some hb15 m0
  have m1 := Below.cell_some hb15 m1
  have n0 := Below.cell_some hb15 n0
  have n1 := Below.cell_some hb15 n1
  have HW15 := Lib.hid (SlOwn.below HW14.out hb15)
  have HG15 := Lib.hid (SlOwn.below HG14.out hb15)
  have HN15 := Lib.hid (SlOwn.below HN14.out hb15)
  clear hb15
  go_wp2
  go_ret
  exact ⟨ret_bool rfl, HB15.out⟩

theorem law (L : Int) (Al : Option Addr) (cl : Nat) (l : List Int) (t : ByteArray) (w : World) (hnl : (l.length : Int) ≤ 9223372036854775807) (hnt : (t.size : Int) ≤ 9223372036854775807) (hAl : SlAt intS w Al l) :
    Calls Try.prog 5 #[.int .i64 L, .slice Al l.length cl, .string t] w fun e w' => e = .returned (.bool true) ∧ Below w.heap.size w w' := by
  by_cases hl : (l.length : Int) ≤ 1048576
  rotate_left
  · exact big0 L Al cl l t w (by omega) (by omega)
  by_cases ht : (t.size : Int) ≤ 1048576
  rotate_left
  · exact big1 L Al cl l t w hl (by omega) (by omega)
  exact fits L Al cl l t w hl ht hAl

set_option maxRecDepth 100000 in
theorem lifted (os : Os) (started : os.Started) (H : Type) (enc : TypeId × Value → H) :
    ReturnsInHanded {} Try.checked os 5 .any (Rows.fnExactHiddenRodSpec.pre6 enc Try.prog Try.f5 Rows.fnExactHiddenRodRow.domain false) (Rows.fnExactHiddenRodSpec.post enc Try.prog Try.f5 false true false false) := by
  refine returnsInHanded_of_change (C := Try.checked) own started (by kernel_rfl) Try.func5
    (ChangeSpec.witness6 (enc := enc) (C := Try.checked) false ⟨#[], #[.int .i64 0, .slice none 0 0, .string ⟨#[]⟩], []⟩ 8 (by kernel_rfl) (by kernel_rfl) (by kernel_rfl) (by kernel_rfl)) ?_
  intro W base args ds gs before hval0 hW hcnd _
  have hval : ∀ (j : Nat) t v, Try.f5.params[j]? = some t → args[j]? = some v → Value.okWide Try.prog W .any base t v := hval0
  have hW' := hW
  obtain ⟨p, q, hA0, hV, rfl, hfz, hnd⟩ := hW
  have hA : DataW.TrodAll enc Try.prog W 0 (fun _ => true) true Try.f5.params.toList args.toList ds p := hA0
  rw [Try.params5] at hA hval
  obtain ⟨v0, vs0, d0, ds0, p0, q0, hargs, rfl, rfl, h0, r0⟩ := trodAll_cons hA
  obtain ⟨v1, vs1, d1, ds1, p1, q1, rfl, rfl, rfl, h1, r1⟩ := trodAll_cons r0
  obtain ⟨v2, vs2, d2, ds2, p2, q2, rfl, rfl, rfl, h2, r2⟩ := trodAll_cons r1
  obtain ⟨rfl, rfl, rfl⟩ := trodAll_nil r2
  obtain rfl : args = #[v0, v1, v2] := by cases args; simp_all
  obtain ⟨rfl, rfl⟩ := trodVars_none hV
  have k1 := h1
  have lt1 : ∀ x ∈ p1, x.block < W.heap.size := by obtain ⟨m, hm⟩ := k1; exact DataW.trod_lt m _ _ _ hm
  obtain ⟨L, rfl, rfl, rfl, w0⟩ := open_int Try.underlying3 (hval 0 3 v0 rfl rfl) h0
  obtain ⟨Al, cl, l, rfl, hAtl, hlenl⟩ := open_intS (hval 1 28 v1 rfl rfl) h1
  obtain ⟨t, rfl, rfl, rfl, w2⟩ := Go.ChangeMaps.open_string Try.underlying9 (hval 2 9 v2 rfl rfl) h2
  clear hA0 hval0
  refine (law L Al cl l t W hlenl (by have := w2; unfold maxLen at this; omega) hAtl).mono fun e W' ⟨he, bel⟩ => ?_
  subst he
  exact ⟨_, rfl, _, _, _, [], _, [], hW', trodAll_mk1 (shut_bool Try.underlying4 _), (trodAll_cons_mk (shut_int Try.underlying3 w0) (trodAll_cons_mk (Below.trod laidOut (by kernel_rfl) (of_decide_eq_true (by kernel_rfl)) k1 bel lt1) (trodAll_cons_mk (Go.ChangeMaps.shut_string Try.underlying9 w2) trodAll_mk0))), rfl, bel.frame _, fun h => by cases h⟩

theorem closed : joinedFacts Try.prog 5 Try.f5 Rows.fnExactHiddenRodSpec Rows.fnExactHiddenRodRow = true := by
  unfold joinedFacts
  repeat' with_reducible refine and_t ?_ ?_
  · kernel_rfl
  · kernel_rfl
  · kernel_rfl
  · kernel_rfl
  · kernel_rfl
  · kernel_rfl
  · kernel_rfl
  · kernel_rfl
  · kernel_rfl
  · kernel_rfl
  · kernel_rfl
  · kernel_rfl
  · kernel_rfl
  · kernel_rfl
  · kernel_rfl
  · kernel_rfl
  · kernel_rfl
  · kernel_rfl
  · kernel_rfl
  · kernel_rfl
  · kernel_rfl
  · kernel_rfl
  · kernel_rfl
  · kernel_rfl
  · kernel_rfl
  · exact factMayEnter
  · exact factLifts
  · exact factMake
  · kernel_rfl
  · kernel_rfl
  · kernel_rfl
  · kernel_rfl

theorem over : Rows.fnExactHiddenRodRow.holds Try.pinned (OpenSpec.ofChange Rows.fnExactHiddenRodSpec) :=
  OpenClaim.holds_of_wide 5 Try.f5 rfl rfl rfl rfl rfl rfl rfl ⟨rfl, rfl, rfl, rfl, rfl⟩ rfl rfl rfl rfl rfl (by kernel_rfl) Try.func5 closed
    (of_decide_eq_true (by kernel_rfl)) (by unfold Func.isWrapper; first | (rw [if_pos (by decide +kernel)]; kernel_rfl) | (rw [if_neg (by decide +kernel)]; exact ⟨rfl, rfl⟩))
    (fun os started H enc _ => lifted os started H enc)

/-- the statement -/
theorem proved : Rows.FnExactHiddenRodSaid := over
#print axioms proved

end Go.Proofs.Ytiodlclaempihaa.lHiddenRod
