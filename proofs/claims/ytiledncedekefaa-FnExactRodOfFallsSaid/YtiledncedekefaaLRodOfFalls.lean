/- The law FnExactRodOfFalls returns true at every input, and leaves its arguments as they were. No condition. -/
import Derived.Test.YtiledncedekefaaRows
import Derived.Test.YtiledncedekefaaOpenI
import Derived.Test.YtiledncedekefaaFactA
import Derived.Test.YtiledncedekefaaFactB
import Derived.Test.YtiledncedekefaaFactC
import Derived.Test.YtiledncedekefaaFlsR
import Derived.Test.YtiledncedekefaaHelpI
import Derived.Test.YtiledncedekefaaMark
import Derived.ChangeMaps5
namespace Go.Proofs.Ytiledncedekefaa.lRodOfFalls
open Go.RowKit
open Go.ChangeShapes Go.WideShapes Go.ChangeAt
set_option linter.unusedVariables false

set_option maxHeartbeats 1000000 in
theorem big0 (L : Int) (Al : Option Addr) (cl : Nat) (l : List Int) (Am : Option Addr) (cm : Nat) (m : List Int) (w : World) (hb : (l.length : Int) ≤ 9223372036854775807) (h : (1048576 : Int) < (l.length : Int)) :
    Calls Try.prog 14 #[.int .i64 L, .slice Al l.length cl, .slice Am m.length cm] w fun e w' => e = .returned (.bool true) ∧ Below w.heap.size w w' := by
  go_enter Try.func14, Try.ntmps14
  go_wp2
  go_ret
  exact ⟨ret_bool rfl, Below.refl _ _⟩

set_option maxHeartbeats 1000000 in
theorem big1 (L : Int) (Al : Option Addr) (cl : Nat) (l : List Int) (Am : Option Addr) (cm : Nat) (m : List Int) (w : World) (hl : (l.length : Int) ≤ 1048576) (hb : (m.length : Int) ≤ 9223372036854775807) (h : (1048576 : Int) < (m.length : Int)) :
    Calls Try.prog 14 #[.int .i64 L, .slice Al l.length cl, .slice Am m.length cm] w fun e w' => e = .returned (.bool true) ∧ Below w.heap.size w w' := by
  have zl : ¬ (1048576 : Int) < (l.length : Int) := by omega
  go_enter Try.func14, Try.ntmps14
  go_wp2
  go_ret
  exact ⟨ret_bool rfl, Below.refl _ _⟩

set_option maxRecDepth 100000 in
set_option maxHeartbeats 8000000 in
theorem fits (L : Int) (Al : Option Addr) (cl : Nat) (l : List Int) (Am : Option Addr) (cm : Nat) (m : List Int) (w : World) (hl : (l.length : Int) ≤ 1048576) (hm : (m.length : Int) ≤ 1048576) (hAl : SlAt intS w Al l) (hAm : SlAt intS w Am m) :
    Calls Try.prog 14 #[.int .i64 L, .slice Al l.length cl, .slice Am m.length cm] w fun e w' => e = .returned (.bool true) ∧ Below w.heap.size w w' := by
  have zl : ¬ (1048576 : Int) < (l.length : Int) := by omega
  have zm : ¬ (1048576 : Int) < (m.length : Int) := by omega
  have hb0l : (l.length : Int) ≤ 9223372036854775807 := by omega
  have H0l := Lib.hid hAl
  clear hAl
  have hb0m : (m.length : Int) ≤ 9223372036854775807 := by omega
  have H0m := Lib.hid hAm
  clear hAm
  have hvb : (((rfV L l m).length : Nat) : Int) ≤ 1048576 := (by have := rfV_len L l m; omega)
  have HVB := Lib.hid hvb
  go_enter Try.func14, Try.ntmps14
  go_wp2_with fail
  -- the copies for the model
  refine (toIntS_any Al cl l _ hl H0l.out).mono ?_
  rintro e w1 ⟨A1, k1, rfl, ho1, hb1⟩
  have s1 : w.heap.size ≤ w1.heap.size := hb1.size
  have IOl : Hid (∀ b, (Value.slice A1 l.length k1).ownBlock = some b → w.heap.size ≤ b ∧ b < w1.heap.size) := World.ownsRow.lt ho1
  have HB1 : Hid (Below w.heap.size w w1) := hb1
  have HOl1 := Lib.hid ho1
  clear hb1 ho1
  go_wp2_with fail
  refine (toIntS_any Am cm m _ hm (H0m.out.below HB1.out)).mono ?_
  rintro e w2 ⟨A2, k2, rfl, ho2, hb2⟩
  have s2 : w1.heap.size ≤ w2.heap.size := hb2.size
  have IOm : Hid (∀ b, (Value.slice A2 m.length k2).ownBlock = some b → w1.heap.size ≤ b ∧ b < w2.heap.size) := World.ownsRow.lt ho2
  have HB2 : Hid (Below w.heap.size w w2) := HB1.out.trans (hb2.mono HB1.out.size)
  have HOl2 := Lib.hid (SlOwn.below HOl1.out hb2)
  have HOm2 := Lib.hid ho2
  clear hb2 ho2
  go_wp2_with fail
  -- the model
  refine (specRodOfFalls_any L A1 k1 l A2 k2 m _ (by omega) (by omega) HOl2.out.sl HOm2.out.sl).mono ?_
  rintro e w3 ⟨A3, n3, k3, rfl, hn3, ho3, hb3⟩
  subst hn3
  have s3 : w2.heap.size ≤ w3.heap.size := hb3.size
  have IW : Hid (∀ b, (Value.slice A3 (rfV L l m).length k3).ownBlock = some b → w2.heap.size ≤ b ∧ b < w3.heap.size) := World.ownsRow.lt ho3
  have hz3 : Below w2.heap.size w2 (w3.alloc (Obj.cells #[Value.int IntKind.i64 (rfL L l m), Value.slice A3 (rfV L l m).length k3] 28)) := hb3.alloc hb3.size _
  have HB3 : Hid (Below w.heap.size w (w3.alloc (Obj.cells #[Value.int IntKind.i64 (rfL L l m), Value.slice A3 (rfV L l m).length k3] 28))) := HB2.out.trans (hz3.mono HB2.out.size)
  have HOl3 := Lib.hid (SlOwn.below HOl2.out hz3)
  have HOm3 := Lib.hid (SlOwn.below HOm2.out hz3)
  have HW3 := Lib.hid (SlOwn.below ho3 ((Below.refl _ w3).alloc (Nat.le_refl _) (Obj.cells #[Value.int IntKind.i64 (rfL L l m), Value.slice A3 (rfV L l m).length k3] 28)))
  clear hb3 hz3 ho3
  have m0 : (w3.alloc (Obj.cells #[Value.int IntKind.i64 (rfL L l m), Value.slice A3 (rfV L l m).length k3] 28)).cell? ⟨w3.heap.size, 0, none⟩ = some (.int .i64 (rfL L l m)) := by simp
  have m1 : (w3.alloc (Obj.cells #[Value.int IntKind.i64 (rfL L l m), Value.slice A3 (rfV L l m).length k3] 28)).cell? ⟨w3.heap.size, 1, none⟩ = some (.slice A3 (rfV L l m).length k3) := by simp
  go_wp2_with fail
  -- the copies for the program
  refine (toIntS_any Al cl l _ hl (H0l.out.below HB3.out)).mono ?_
  rintro e w4 ⟨A4, k4, rfl, ho4, hb4⟩
  have s4 : w3.heap.size + 1 ≤ w4.heap.size := by have := hb4.size; simpa using this
  have IXl : Hid (∀ b, (Value.slice A4 l.length k4).ownBlock = some b → w3.heap.size + 1 ≤ b ∧ b < w4.heap.size) := fun b hb => by have h := World.ownsRow.lt ho4 b hb; rw [show (w3.alloc (Obj.cells #[Value.int IntKind.i64 (rfL L l m), Value.slice A3 (rfV L l m).length k3] 28)).heap.size = w3.heap.size + 1 by simp] at h; exact h
  have HB4 : Hid (Below w.heap.size w w4) := HB3.out.trans (hb4.mono HB3.out.size)
  have m0 := Below.cell_some hb4 m0
  have m1 := Below.cell_some hb4 m1
  have HW4 := Lib.hid (SlOwn.below HW3.out hb4)
  have HXl4 := Lib.hid ho4
  clear hb4 ho4
  go_wp2_with fail
  refine (toIntS_any Am cm m _ hm (H0m.out.below HB4.out)).mono ?_
  rintro e w5 ⟨A5, k5, rfl, ho5, hb5⟩
  have s5 : w4.heap.size ≤ w5.heap.size := hb5.size
  have IXm : Hid (∀ b, (Value.slice A5 m.length k5).ownBlock = some b → w4.heap.size ≤ b ∧ b < w5.heap.size) := World.ownsRow.lt ho5
  have HB5 : Hid (Below w.heap.size w w5) := HB4.out.trans (hb5.mono HB4.out.size)
  have m0 := Below.cell_some hb5 m0
  have m1 := Below.cell_some hb5 m1
  have HW5 := Lib.hid (SlOwn.below HW4.out hb5)
  have HXl5 := Lib.hid (SlOwn.below HXl4.out hb5)
  have HXm5 := Lib.hid ho5
  clear hb5 ho5
  go_wp2_with fail
  -- the program
  refine (implRodOfFalls_any L A4 k4 l A5 k5 m _ (by omega) (by omega) HXl5.out.sl HXm5.out.sl).mono ?_
  rintro e w6 ⟨A6, n6, k6, rfl, hn6, ho6, hb6⟩
  subst hn6
  have s6 : w5.heap.size ≤ w6.heap.size := hb6.size
  have IG : Hid (∀ b, (Value.slice A6 (rfV L l m).length k6).ownBlock = some b → w5.heap.size ≤ b ∧ b < w6.heap.size) := World.ownsRow.lt ho6
  have hz6 : Below w5.heap.size w5 (w6.alloc (Obj.cells #[Value.int IntKind.i64 (rfL L l m), Value.slice A6 (rfV L l m).length k6] 28)) := hb6.alloc hb6.size _
  have HB6 : Hid (Below w.heap.size w (w6.alloc (Obj.cells #[Value.int IntKind.i64 (rfL L l m), Value.slice A6 (rfV L l m).length k6] 28))) := HB5.out.trans (hz6.mono HB5.out.size)
  have m0 := Below.cell_some hz6 m0
  have m1 := Below.cell_some hz6 m1
  have HW6 := Lib.hid (SlOwn.below HW5.out hz6)
  have HXl6 := Lib.hid (SlOwn.below HXl5.out hz6)
  have HXm6 := Lib.hid (SlOwn.below HXm5.out hz6)
  have HG6 := Lib.hid (SlOwn.below ho6 ((Below.refl _ w6).alloc (Nat.le_refl _) (Obj.cells #[Value.int IntKind.i64 (rfL L l m), Value.slice A6 (rfV L l m).length k6] 28)))
  clear hb6 hz6 ho6
  have n0 : (w6.alloc (Obj.cells #[Value.int IntKind.i64 (rfL L l m), Value.slice A6 (rfV L l m).length k6] 28)).cell? ⟨w6.heap.size, 0, none⟩ = some (.int .i64 (rfL L l m)) := by simp
  have n1 : (w6.alloc (Obj.cells #[Value.int IntKind.i64 (rfL L l m), Value.slice A6 (rfV L l m).length k6] 28)).cell? ⟨w6.heap.size, 1, none⟩ = some (.slice A6 (rfV L l m).length k6) := by simp
  go_wp2_with fail
  refine (eqRod_true (rfL L l m) A6 A3 k6 k3 (rfV L l m) _ HVB.out (AntsOwn.ants HG6.out) (AntsOwn.ants HW6.out)).mono ?_
  rintro e w7 ⟨rfl, hb7⟩
  have s7 : w6.heap.size + 1 ≤ w7.heap.size := by have := hb7.size; simpa using this
  have HB7 : Hid (Below w.heap.size w w7) := HB6.out.trans (hb7.mono HB6.out.size)
  have m0 := Below.cell_some hb7 m0
  have m1 := Below.cell_some hb7 m1
  have n0 := Below.cell_some hb7 n0
  have n1 := Below.cell_some hb7 n1
  have HW7 := Lib.hid (SlOwn.below HW6.out hb7)
  have HXl7 := Lib.hid (SlOwn.below HXl6.out hb7)
  have HXm7 := Lib.hid (SlOwn.below HXm6.out hb7)
  have HG7 := Lib.hid (SlOwn.below HG6.out hb7)
  clear hb7
  go_wp2_with fail
  refine (toIntS_any Al cl l _ hl (H0l.out.below HB7.out)).mono ?_
  rintro e w8 ⟨A8, k8, rfl, ho8, hb8⟩
  have s8 : w7.heap.size ≤ w8.heap.size := hb8.size
  have IYl : Hid (∀ b, (Value.slice A8 l.length k8).ownBlock = some b → w7.heap.size ≤ b ∧ b < w8.heap.size) := World.ownsRow.lt ho8
  have HB8 : Hid (Below w.heap.size w w8) := HB7.out.trans (hb8.mono HB7.out.size)
  have m0 := Below.cell_some hb8 m0
  have m1 := Below.cell_some hb8 m1
  have n0 := Below.cell_some hb8 n0
  have n1 := Below.cell_some hb8 n1
  have HW8 := Lib.hid (SlOwn.below HW7.out hb8)
  have HXl8 := Lib.hid (SlOwn.below HXl7.out hb8)
  have HXm8 := Lib.hid (SlOwn.below HXm7.out hb8)
  have HG8 := Lib.hid (SlOwn.below HG7.out hb8)
  have HYl8 := Lib.hid ho8
  clear hb8 ho8
  go_wp2_with fail
  refine (eqIntS_true A4 A8 k4 k8 l _ hl HXl8.out.sl HYl8.out.sl).mono ?_
  rintro e w9 ⟨rfl, hb9⟩
  have s9 : w8.heap.size ≤ w9.heap.size := hb9.size
  have HB9 : Hid (Below w.heap.size w w9) := HB8.out.trans (hb9.mono HB8.out.size)
  have m0 := Below.cell_some hb9 m0
  have m1 := Below.cell_some hb9 m1
  have n0 := Below.cell_some hb9 n0
  have n1 := Below.cell_some hb9 n1
  have HW9 := Lib.hid (SlOwn.below HW8.out hb9)
  have HXl9 := Lib.hid (SlOwn.below HXl8.out hb9)
  have HXm9 := Lib.hid (SlOwn.below HXm8.out hb9)
  have HG9 := Lib.hid (SlOwn.below HG8.out hb9)
  have HYl9 := Lib.hid (SlOwn.below HYl8.out hb9)
  clear hb9
  go_wp2_with fail
  refine (toIntS_any Am cm m _ hm (H0m.out.below HB9.out)).mono ?_
  rintro e w10 ⟨A10, k10, rfl, ho10, hb10⟩
  have s10 : w9.heap.size ≤ w10.heap.size := hb10.size
  have IYm : Hid (∀ b, (Value.slice A10 m.length k10).ownBlock = some b → w9.heap.size ≤ b ∧ b < w10.heap.size) := World.ownsRow.lt ho10
  have HB10 : Hid (Below w.heap.size w w10) := HB9.out.trans (hb10.mono HB9.out.size)
  have m0 := Below.cell_some hb10 m0
  have m1 := Below.cell_some hb10 m1
  have n0 := Below.cell_some hb10 n0
  have n1 := Below.cell_some hb10 n1
  have HW10 := Lib.hid (SlOwn.below HW9.out hb10)
  have HXl10 := Lib.hid (SlOwn.below HXl9.out hb10)
  have HXm10 := Lib.hid (SlOwn.below HXm9.out hb10)
  have HG10 := Lib.hid (SlOwn.below HG9.out hb10)
  have HYm10 := Lib.hid ho10
  clear hb10 ho10
  go_wp2_with fail
  refine (eqIntS_true A5 A10 k5 k10 m _ hm HXm10.out.sl HYm10.out.sl).mono ?_
  rintro e w11 ⟨rfl, hb11⟩
  have s11 : w10.heap.size ≤ w11.heap.size := hb11.size
  have HB11 : Hid (Below w.heap.size w w11) := HB10.out.trans (hb11.mono HB10.out.size)
  have m0 := Below.cell_some hb11 m0
  have m1 := Below.cell_some hb11 m1
  have n0 := Below.cell_some hb11 n0
  have n1 := Below.cell_some hb11 n1
  have HW11 := Lib.hid (SlOwn.below HW10.out hb11)
  have HXl11 := Lib.hid (SlOwn.below HXl10.out hb11)
  have HXm11 := Lib.hid (SlOwn.below HXm10.out hb11)
  have HG11 := Lib.hid (SlOwn.below HG10.out hb11)
  have HYm11 := Lib.hid (SlOwn.below HYm10.out hb11)
  clear hb11
  go_wp2_with fail
  -- marks on a copy
  refine (markIntS_any A4 k4 _ l (1) _ (by omega) (by omega) hl HXl11.out).mono ?_
  rintro e w12 ⟨rfl, _, hg12⟩
  have s12 : w11.heap.size ≤ w12.heap.size := hg12.size
  have m0 := grown_cell hg12 IXl.out (by simp <;> omega) m0
  have m1 := grown_cell hg12 IXl.out (by simp <;> omega) m1
  have n0 := grown_cell hg12 IXl.out (by simp <;> omega) n0
  have n1 := grown_cell hg12 IXl.out (by simp <;> omega) n1
  have HB12 : Hid (Below w.heap.size w w12) := HB11.out.trans (grown_below hg12 IXl.out (by omega) HB11.out.size)
  have HW12 := Lib.hid (grown_own hg12 IXl.out (S := pairS) HW11.out (fun b hb => by have := IW.out b hb; omega))
  have HXm12 := Lib.hid (grown_own hg12 IXl.out (S := intS) HXm11.out (fun b hb => by have := IXm.out b hb; omega))
  have HG12 := Lib.hid (grown_own hg12 IXl.out (S := pairS) HG11.out (fun b hb => by have := IG.out b hb; omega))
  clear hg12
  go_wp2_with fail
  -- marks on a copy
  refine (markIntS_any A5 k5 _ m (1 + (l.length : Int)) _ (by omega) (by omega) hm HXm12.out).mono ?_
  rintro e w13 ⟨rfl, _, hg13⟩
  have s13 : w12.heap.size ≤ w13.heap.size := hg13.size
  have m0 := grown_cell hg13 IXm.out (by simp <;> omega) m0
  have m1 := grown_cell hg13 IXm.out (by simp <;> omega) m1
  have n0 := grown_cell hg13 IXm.out (by simp <;> omega) n0
  have n1 := grown_cell hg13 IXm.out (by simp <;> omega) n1
  have HB13 : Hid (Below w.heap.size w w13) := HB12.out.trans (grown_below hg13 IXm.out (by omega) HB12.out.size)
  have HW13 := Lib.hid (grown_own hg13 IXm.out (S := pairS) HW12.out (fun b hb => by have := IW.out b hb; omega))
  have HG13 := Lib.hid (grown_own hg13 IXm.out (S := pairS) HG12.out (fun b hb => by have := IG.out b hb; omega))
  clear hg13
  have hk9 : ¬ (1 + (l.length : Int) + (m.length : Int)) < 0 := by omega
  go_wp2_with fail
  refine (eqRod_true (rfL L l m) A6 A3 k6 k3 (rfV L l m) _ HVB.out (AntsOwn.ants HG13.out) (AntsOwn.ants HW13.out)).mono ?_
  rintro e w14 ⟨rfl, hb14⟩
  have s14 : w13.heap.size ≤ w14.heap.size := hb14.size
  have HB14 : Hid (Below w.heap.size w w14) := HB13.out.trans (hb14.mono HB13.out.size)
  have m0 := Below.cell_some hb14 m0
  have m1 := Below.cell_some hb14 m1
  have n0 := Below.cell_some hb14 n0
  have n1 := Below.cell_some hb14 n1
  have HW14 := Lib.hid (SlOwn.below HW13.out hb14)
  have HG14 := Lib.hid (SlOwn.below HG13.out hb14)
  clear hb14
  go_wp2_with fail
  -- marks on the result
  refine (markRod_any (rfL L l m) A6 k6 _ (rfV L l m) 1 _ (by omega) (by omega) HVB.out HG14.out).mono ?_
  rintro e w15 ⟨rfl, ho15, hg15⟩
  have s15 : w14.heap.size ≤ w15.heap.size := hg15.size
  have m0 := grown_cell hg15 IG.out (by simp <;> omega) m0
  have m1 := grown_cell hg15 IG.out (by simp <;> omega) m1
  have n0 := grown_cell hg15 IG.out (by simp <;> omega) n0
  have n1 := grown_cell hg15 IG.out (by simp <;> omega) n1
  have HB15 : Hid (Below w.heap.size w w15) := HB14.out.trans (grown_below hg15 IG.out (by omega) HB14.out.size)
  have HW15 := Lib.hid (grown_own hg15 IG.out (S := pairS) HW14.out (fun b hb => by have := IW.out b hb; omega))
  have HG15 := Lib.hid (antsOwn_iff.1 ho15)
  clear hg15 ho15
  have hm1 : ¬ (1 + 2 * (((rfV L l m).length : Nat) : Int)) < 0 := by omega
  go_wp2_with fail
  refine (heldRod_any (rfL L l m) A6 k6 (rfV L l m).length 1 _ (by omega) (by omega) HVB.out (AntsOwn.ants HG15.out)).mono ?_
  rintro e w16 ⟨rfl, hb16⟩
  have s16 : w15.heap.size ≤ w16.heap.size := hb16.size
  have HB16 : Hid (Below w.heap.size w w16) := HB15.out.trans (hb16.mono HB15.out.size)
  have m0 := Below.cell_some hb16 m0
  have m1 := Below.cell_some hb16 m1
  have n0 := Below.cell_some hb16 n0
  have n1 := Below.cell_some hb16 n1
  have HW16 := Lib.hid (SlOwn.below HW15.out hb16)
  have HG16 := Lib.hid (SlOwn.below HG15.out hb16)
  clear hb16
  go_wp2_with fail
  -- once more
  refine (toIntS_any Al cl l _ hl (H0l.out.below HB16.out)).mono ?_
  rintro e w17 ⟨A17, k17, rfl, ho17, hb17⟩
  have s17 : w16.heap.size ≤ w17.heap.size := hb17.size
  have IZl : Hid (∀ b, (Value.slice A17 l.length k17).ownBlock = some b → w16.heap.size ≤ b ∧ b < w17.heap.size) := World.ownsRow.lt ho17
  have HB17 : Hid (Below w.heap.size w w17) := HB16.out.trans (hb17.mono HB16.out.size)
  have m0 := Below.cell_some hb17 m0
  have m1 := Below.cell_some hb17 m1
  have n0 := Below.cell_some hb17 n0
  have n1 := Below.cell_some hb17 n1
  have HW17 := Lib.hid (SlOwn.below HW16.out hb17)
  have HG17 := Lib.hid (SlOwn.below HG16.out hb17)
  have HZl17 := Lib.hid ho17
  clear hb17 ho17
  go_wp2_with fail
  refine (toIntS_any Am cm m _ hm (H0m.out.below HB17.out)).mono ?_
  rintro e w18 ⟨A18, k18, rfl, ho18, hb18⟩
  have s18 : w17.heap.size ≤ w18.heap.size := hb18.size
  have IZm : Hid (∀ b, (Value.slice A18 m.length k18).ownBlock = some b → w17.heap.size ≤ b ∧ b < w18.heap.size) := World.ownsRow.lt ho18
  have HB18 : Hid (Below w.heap.size w w18) := HB17.out.trans (hb18.mono HB17.out.size)
  have m0 := Below.cell_some hb18 m0
  have m1 := Below.cell_some hb18 m1
  have n0 := Below.cell_some hb18 n0
  have n1 := Below.cell_some hb18 n1
  have HW18 := Lib.hid (SlOwn.below HW17.out hb18)
  have HG18 := Lib.hid (SlOwn.below HG17.out hb18)
  have HZl18 := Lib.hid (SlOwn.below HZl17.out hb18)
  have HZm18 := Lib.hid ho18
  clear hb18 ho18
  go_wp2_with fail
  refine (implRodOfFalls_any L A17 k17 l A18 k18 m _ (by omega) (by omega) HZl18.out.sl HZm18.out.sl).mono ?_
  rintro e w19 ⟨A19, n19, k19, rfl, hn19, ho19, hb19⟩
  subst hn19
  have s19 : w18.heap.size ≤ w19.heap.size := hb19.size
  have IN : Hid (∀ b, (Value.slice A19 (rfV L l m).length k19).ownBlock = some b → w18.heap.size ≤ b ∧ b < w19.heap.size) := World.ownsRow.lt ho19
  have hz19 : Below w18.heap.size w18 (w19.alloc (Obj.cells #[Value.int IntKind.i64 (rfL L l m), Value.slice A19 (rfV L l m).length k19] 28)) := hb19.alloc hb19.size _
  have HB19 : Hid (Below w.heap.size w (w19.alloc (Obj.cells #[Value.int IntKind.i64 (rfL L l m), Value.slice A19 (rfV L l m).length k19] 28))) := HB18.out.trans (hz19.mono HB18.out.size)
  have m0 := Below.cell_some hz19 m0
  have m1 := Below.cell_some hz19 m1
  have n0 := Below.cell_some hz19 n0
  have n1 := Below.cell_some hz19 n1
  have HW19 := Lib.hid (SlOwn.below HW18.out hz19)
  have HG19 := Lib.hid (SlOwn.below HG18.out hz19)
  have HZl19 := Lib.hid (SlOwn.below HZl18.out hz19)
  have HZm19 := Lib.hid (SlOwn.below HZm18.out hz19)
  have HN19 := Lib.hid (SlOwn.below ho19 ((Below.refl _ w19).alloc (Nat.le_refl _) (Obj.cells #[Value.int IntKind.i64 (rfL L l m), Value.slice A19 (rfV L l m).length k19] 28)))
  clear hb19 hz19 ho19
  go_wp2_with fail
  refine (eqRod_true (rfL L l m) A19 A3 k19 k3 (rfV L l m) _ HVB.out (AntsOwn.ants HN19.out) (AntsOwn.ants HW19.out)).mono ?_
  rintro e w20 ⟨rfl, hb20⟩
  have s20 : w19.heap.size + 1 ≤ w20.heap.size := by have := hb20.size; simpa using this
  have HB20 : Hid (Below w.heap.size w w20) := HB19.out.trans (hb20.mono HB19.out.size)
  have m0 := Below.cell_some hb20 m0
  have m1 := Below.cell_some hb20 m1
  have n0 := Below.cell_some hb20 n0
  have n1 := Below.cell_some hb20 n1
  have HW20 := Lib.hid (SlOwn.below HW19.out hb20)
  have HG20 := Lib.hid (SlOwn.below HG19.out hb20)
  have HN20 := Lib.hid (SlOwn.below HN19.out hb20)
  clear hb20
  go_wp2_with fail
  refine (heldRod_any (rfL L l m) A6 k6 (rfV L l m).length 1 _ (by omega) (by omega) HVB.out (AntsOwn.ants HG20.out)).mono ?_
  rintro e w21 ⟨rfl, hb21⟩
  have s21 : w20.heap.size ≤ w21.heap.size := hb21.size
  have HB21 : Hid (Below w.heap.size w w21) := HB20.out.trans (hb21.mono HB20.out.size)
  have m0 := Below.cell_some hb21 m0
  have m1 := Below.cell_some hb21 m1
  have n0 := Below.cell_some hb21 n0
  have n1 := Below.cell_some hb21 n1
  have HW21 := Lib.hid (SlOwn.below HW20.out hb21)
  have HG21 := Lib.hid (SlOwn.below HG20.out hb21)
  have HN21 := Lib.hid (SlOwn.below HN20.out hb21)
  clear hb21
  go_wp2
  go_ret
  exact ⟨ret_bool rfl, HB21.out⟩

theorem law (L : Int) (Al : Option Addr) (cl : Nat) (l : List Int) (Am : Option Addr) (cm : Nat) (m : List Int) (w : World) (hnl : (l.length : Int) ≤ 9223372036854775807) (hnm : (m.length : Int) ≤ 9223372036854775807) (hAl : SlAt intS w Al l) (hAm : SlAt intS w Am m) :
    Calls Try.prog 14 #[.int .i64 L, .slice Al l.length cl, .slice Am m.length cm] w fun e w' => e = .returned (.bool true) ∧ Below w.heap.size w w' := by
  by_cases hl : (l.length : Int) ≤ 1048576
  rotate_left
  · exact big0 L Al cl l Am cm m w (by omega) (by omega)
  by_cases hm : (m.length : Int) ≤ 1048576
  rotate_left
  · exact big1 L Al cl l Am cm m w hl (by omega) (by omega)
  exact fits L Al cl l Am cm m w hl hm hAl hAm

set_option maxRecDepth 100000 in
theorem lifted (os : Os) (started : os.Started) (H : Type) (enc : TypeId × Value → H) :
    ReturnsInHanded {} Try.checked os 14 .any (Rows.fnExactRodOfFallsSpec.pre6 enc Try.prog Try.f14 Rows.fnExactRodOfFallsRow.domain false) (Rows.fnExactRodOfFallsSpec.post enc Try.prog Try.f14 false true false false) := by
  refine returnsInHanded_of_change (C := Try.checked) own started (by kernel_rfl) Try.func14
    (ChangeSpec.witness6 (enc := enc) (C := Try.checked) false ⟨#[], #[.int .i64 0, .slice none 0 0, .slice none 0 0], []⟩ 8 (by kernel_rfl) (by kernel_rfl) (by kernel_rfl) (by kernel_rfl)) ?_
  intro W base args ds gs before hval0 hW hcnd _
  have hval : ∀ (j : Nat) t v, Try.f14.params[j]? = some t → args[j]? = some v → Value.okWide Try.prog W .any base t v := hval0
  have hW' := hW
  obtain ⟨p, q, hA0, hV, rfl, hfz, hnd⟩ := hW
  have hA : DataW.TrodAll enc Try.prog W 0 (fun _ => true) true Try.f14.params.toList args.toList ds p := hA0
  rw [Try.params14] at hA hval
  obtain ⟨v0, vs0, d0, ds0, p0, q0, hargs, rfl, rfl, h0, r0⟩ := trodAll_cons hA
  obtain ⟨v1, vs1, d1, ds1, p1, q1, rfl, rfl, rfl, h1, r1⟩ := trodAll_cons r0
  obtain ⟨v2, vs2, d2, ds2, p2, q2, rfl, rfl, rfl, h2, r2⟩ := trodAll_cons r1
  obtain ⟨rfl, rfl, rfl⟩ := trodAll_nil r2
  obtain rfl : args = #[v0, v1, v2] := by cases args; simp_all
  obtain ⟨rfl, rfl⟩ := trodVars_none hV
  have k1 := h1
  have lt1 : ∀ x ∈ p1, x.block < W.heap.size := by obtain ⟨m, hm⟩ := k1; exact DataW.trod_lt m _ _ _ hm
  have k2 := h2
  have lt2 : ∀ x ∈ p2, x.block < W.heap.size := by obtain ⟨m, hm⟩ := k2; exact DataW.trod_lt m _ _ _ hm
  obtain ⟨L, rfl, rfl, rfl, w0⟩ := open_int Try.underlying3 (hval 0 3 v0 rfl rfl) h0
  obtain ⟨Al, cl, l, rfl, hAtl, hlenl⟩ := open_intS (hval 1 22 v1 rfl rfl) h1
  obtain ⟨Am, cm, m, rfl, hAtm, hlenm⟩ := open_intS (hval 2 22 v2 rfl rfl) h2
  clear hA0 hval0
  refine (law L Al cl l Am cm m W hlenl hlenm hAtl hAtm).mono fun e W' ⟨he, bel⟩ => ?_
  subst he
  exact ⟨_, rfl, _, _, _, [], _, [], hW', trodAll_mk1 (shut_bool Try.underlying4 _), (trodAll_cons_mk (shut_int Try.underlying3 w0) (trodAll_cons_mk (Below.trod laidOut (by kernel_rfl) (of_decide_eq_true (by kernel_rfl)) k1 bel lt1) (trodAll_cons_mk (Below.trod laidOut (by kernel_rfl) (of_decide_eq_true (by kernel_rfl)) k2 bel lt2) trodAll_mk0))), rfl, bel.frame _, fun h => by cases h⟩

theorem closed : joinedFacts Try.prog 14 Try.f14 Rows.fnExactRodOfFallsSpec Rows.fnExactRodOfFallsRow = true := by
  unfold joinedFacts
  repeat' with_reducible refine and_t ?_ ?_
  · kernel_rfl
  · kernel_rfl
  · kernel_rfl
  · kernel_rfl
  · kernel_rfl
  · kernel_rfl
  · kernel_rfl
  · kernel_rfl
  · kernel_rfl
  · kernel_rfl
  · kernel_rfl
  · kernel_rfl
  · kernel_rfl
  · kernel_rfl
  · kernel_rfl
  · kernel_rfl
  · kernel_rfl
  · kernel_rfl
  · kernel_rfl
  · kernel_rfl
  · kernel_rfl
  · kernel_rfl
  · kernel_rfl
  · kernel_rfl
  · kernel_rfl
  · exact factMayEnter
  · exact factLifts
  · exact factMake
  · kernel_rfl
  · kernel_rfl
  · kernel_rfl
  · kernel_rfl

theorem over : Rows.fnExactRodOfFallsRow.holds Try.pinned (OpenSpec.ofChange Rows.fnExactRodOfFallsSpec) :=
  OpenClaim.holds_of_wide 14 Try.f14 rfl rfl rfl rfl rfl rfl rfl ⟨rfl, rfl, rfl, rfl, rfl⟩ rfl rfl rfl rfl rfl (by kernel_rfl) Try.func14 closed
    (of_decide_eq_true (by kernel_rfl)) (by unfold Func.isWrapper; first | (rw [if_pos (by decide +kernel)]; kernel_rfl) | (rw [if_neg (by decide +kernel)]; exact ⟨rfl, rfl⟩))
    (fun os started H enc _ => lifted os started H enc)

/-- the statement -/
theorem proved : Rows.FnExactRodOfFallsSaid := over
#print axioms proved

end Go.Proofs.Ytiledncedekefaa.lRodOfFalls
