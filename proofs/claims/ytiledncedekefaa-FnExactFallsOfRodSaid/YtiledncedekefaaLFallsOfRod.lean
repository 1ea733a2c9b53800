/- The law FnExactFallsOfRod returns true at every input, and leaves its arguments as they were. No condition. -/
import Derived.Test.YtiledncedekefaaRows
import Derived.Test.YtiledncedekefaaOpen
import Derived.Test.YtiledncedekefaaFactA
import Derived.Test.YtiledncedekefaaFactB
import Derived.Test.YtiledncedekefaaFactC
import Derived.Test.YtiledncedekefaaFallsR
import Derived.Test.YtiledncedekefaaHelp
import Derived.Test.YtiledncedekefaaMark
import Derived.Deep.RegionHeld3
namespace Go.Proofs.Ytiledncedekefaa.lFallsOfRod
open Go.RowKit
open Go.ChangeShapes Go.WideShapes Go.ChangeAt
set_option linter.unusedVariables false

set_option maxHeartbeats 1000000 in
theorem big (L : Int) (A : Option Addr) (c : Nat) (l : List (Int × Int)) (w : World) (hn : (l.length : Int) ≤ 9223372036854775807) (h : (1048576 : Int) < l.length) :
    Calls Try.prog 16 #[.agg #[.int .i64 L, .slice A l.length c]] w fun e w' => e = .returned (.bool true) ∧ Below w.heap.size w w' := by
  have H : Hid (∀ w, Calls Try.prog 28 #[.agg #[.int .i64 L, .slice A l.length c], .int .i64 1048576] w fun e w' => e = .returned (.int .i64 (-1)) ∧ Below w.heap.size w w') :=
    fun w => szRod_big L A l.length c 1048576 w (by omega) (by omega) hn h
  clear h hn
  go_enter Try.func16, Try.ntmps16
  go_wp2_with fail
  refine (H.out _).mono ?_
  rintro e w1 ⟨rfl, hb⟩
  go_wp2
  go_ret
  exact ⟨ret_bool rfl, ((Below.refl _ _).alloc (Nat.le_refl _) _).trans (hb.mono (by simp))⟩

set_option maxRecDepth 100000 in
set_option maxHeartbeats 8000000 in
theorem fits (L : Int) (A : Option Addr) (c : Nat) (l : List (Int × Int)) (w : World) (h : (l.length : Int) ≤ 1048576) (hA : AntsAt w A l) :
    Calls Try.prog 16 #[.agg #[.int .i64 L, .slice A l.length c]] w fun e w' => e = .returned (.bool true) ∧ Below w.heap.size w w' := by
  have H : Hid (∀ w, Calls Try.prog 28 #[.agg #[.int .i64 L, .slice A l.length c], .int .i64 1048576] w fun e w' => e = .returned (.int .i64 (1048576 - l.length)) ∧ Below w.heap.size w w') :=
    fun w => szRod_fits L A l.length c 1048576 w (by omega) (by omega) (by omega) (by omega)
  have hz : ¬ (1048576 - (l.length : Int)) < 0 := by omega
  have hvs : (((frL L l).length : Nat) : Int) + (((frR L l).length : Nat) : Int) ≤ 1000 := (by have := fr_len L l; omega)
  have HVB : Hid ((((frL L l).length : Nat) : Int) ≤ 1048576) := (by omega : (((frL L l).length : Nat) : Int) ≤ 1048576)
  have HVC : Hid ((((frR L l).length : Nat) : Int) ≤ 1048576) := (by omega : (((frR L l).length : Nat) : Int) ≤ 1048576)
  have HA := Lib.hid hA
  clear hA
  go_enter Try.func16, Try.ntmps16
  go_wp2_with fail
  refine (H.out _).mono ?_
  rintro e w1 ⟨rfl, hb1⟩
  have HB1 := Lib.hid (((Below.refl _ w).alloc (Nat.le_refl _) _).trans (hb1.mono (by simp)))
  have s1 : w.heap.size < w1.heap.size := by have := hb1.size; simp at this; omega
  have c0 : w1.cell? ⟨w.heap.size, 0, none⟩ = some (.int .i64 L) := by rw [hb1.cell (p := ⟨w.heap.size, 0, none⟩) (by simp)]; simp
  have c1 : w1.cell? ⟨w.heap.size, 1, none⟩ = some (.slice A l.length c) := by rw [hb1.cell (p := ⟨w.heap.size, 1, none⟩) (by simp)]; simp
  clear hb1
  go_wp2_with fail
  -- the copy for the model
  refine (toRod_any L A c l _ h (HA.out.below HB1.out)).mono ?_
  rintro e w2 ⟨A2, k2, rfl, ho2, hb2⟩
  have HB2 := Lib.hid (HB1.out.trans (hb2.mono HB1.out.size))
  have HA2 := Lib.hid (ho2.ants)
  have c0 := Below.cell_some hb2 c0
  have c1 := Below.cell_some hb2 c1
  have s2 : w.heap.size < w2.heap.size := by have := hb2.size; omega
  clear hb2 ho2
  go_wp2_with fail
  -- the model
  refine (specFallsOfRod_any L A2 k2 l _ HA2.out).mono ?_
  rintro e w3 ⟨A3, n3, k3, B3, m3, j3, rfl, hn3, hm3, ho3, hp3, hb3⟩
  subst hn3
  subst hm3
  have s3 : w.heap.size < w3.heap.size := by have := hb3.size; omega
  have HB3 := Lib.hid (HB2.out.trans (hb3.mono HB2.out.size))
  have c0 := Below.cell_some hb3 c0
  have c1 := Below.cell_some hb3 c1
  have HW3 := Lib.hid ho3
  have HV3 := Lib.hid hp3
  have IW := Lib.hid (World.ownsRow.lt ho3)
  have IV := Lib.hid (World.ownsRow.lt hp3)
  clear hb3 ho3 hp3
  go_wp2_with fail
  -- the copy for the program
  refine (toRod_any L A c l _ h (HA.out.below HB3.out)).mono ?_
  rintro e w4 ⟨A4, k4, rfl, ho4, hb4⟩
  have s4 : w3.heap.size ≤ w4.heap.size := hb4.size
  have HB4 := Lib.hid (HB3.out.trans (hb4.mono HB3.out.size))
  have c0 := Below.cell_some hb4 c0
  have c1 := Below.cell_some hb4 c1
  have HW4 := Lib.hid (SlOwn.below HW3.out hb4)
  have HV4 := Lib.hid (SlOwn.below HV3.out hb4)
  have HX4 := Lib.hid ho4
  have IX := Lib.hid (World.ownsRow.lt ho4)
  clear hb4 ho4
  go_wp2_with fail
  -- the program
  refine (implFallsOfRod_any L A4 k4 l _ (HX4.out.ants.alloc _)).mono ?_
  rintro e w5 ⟨A5, n5, k5, B5, m5, j5, M, rfl, hn5, hm5, ho5, hM, hM2, hp5, hb5⟩
  subst hn5
  subst hm5
  have s5 : w4.heap.size + 1 ≤ w5.heap.size := by have := hb5.size; simpa using this
  have hM1 : w4.heap.size + 1 ≤ M := by simpa using hM2
  have HB5 := Lib.hid (below_via HB4.out (by omega) hb5)
  have c0 := Below.cell_some hb5 (alloc_some c0 _)
  have c1 := Below.cell_some hb5 (alloc_some c1 _)
  have d0 : w5.cell? ⟨w4.heap.size, 0, none⟩ = some (.int .i64 L) := by rw [hb5.cell (p := ⟨w4.heap.size, 0, none⟩) (by simp)]; simp
  have d1 : w5.cell? ⟨w4.heap.size, 1, none⟩ = some (.slice A4 l.length k4) := by rw [hb5.cell (p := ⟨w4.heap.size, 1, none⟩) (by simp)]; simp
  have hba : Below w4.heap.size w4 w5 := below_via (Below.refl _ _) (Nat.le_refl _) hb5
  have HX5 := Lib.hid (AntsOwn.below HX4.out hba)
  have HW5 := Lib.hid (HW4.out.below hba)
  have HV5 := Lib.hid (HV4.out.below hba)
  have HG5 := Lib.hid ho5
  have HP5 := Lib.hid hp5
  have IG : Hid (∀ b, (Value.slice A5 (frL L l).length k5).ownBlock = some b → w4.heap.size + 1 ≤ b ∧ b < M) := fun b hb => ⟨by have h := (World.ownsRow.lt ho5 b hb).1; simpa using h, hM b hb⟩
  have IP := Lib.hid (World.ownsRow.lt hp5)
  clear hb5 ho5 hp5 hba hM hM2
  go_wp2_with fail
  refine (eqIntS_true A5 A3 k5 k3 (frL L l) _ HVB.out HG5.out.sl HW5.out.sl).mono ?_
  rintro e w6 ⟨rfl, hb6⟩
  have s6 : w5.heap.size ≤ w6.heap.size := hb6.size
  have HB6 := Lib.hid (HB5.out.trans (hb6.mono HB5.out.size))
  have c0 := Below.cell_some hb6 c0
  have c1 := Below.cell_some hb6 c1
  have d0 := Below.cell_some hb6 d0
  have d1 := Below.cell_some hb6 d1
  have HX6 := Lib.hid (AntsOwn.below HX5.out hb6)
  have HW6 := Lib.hid (SlOwn.below HW5.out hb6)
  have HV6 := Lib.hid (SlOwn.below HV5.out hb6)
  have HG6 := Lib.hid (SlOwn.below HG5.out hb6)
  have HP6 := Lib.hid (SlOwn.below HP5.out hb6)
  clear hb6
  go_wp2_with fail
  refine (eqIntS_true B5 B3 j5 j3 (frR L l) _ HVC.out HP6.out.sl HV6.out.sl).mono ?_
  rintro e w7 ⟨rfl, hb7⟩
  have s7 : w6.heap.size ≤ w7.heap.size := hb7.size
  have HB7 := Lib.hid (HB6.out.trans (hb7.mono HB6.out.size))
  have c0 := Below.cell_some hb7 c0
  have c1 := Below.cell_some hb7 c1
  have d0 := Below.cell_some hb7 d0
  have d1 := Below.cell_some hb7 d1
  have HX7 := Lib.hid (AntsOwn.below HX6.out hb7)
  have HW7 := Lib.hid (SlOwn.below HW6.out hb7)
  have HV7 := Lib.hid (SlOwn.below HV6.out hb7)
  have HG7 := Lib.hid (SlOwn.below HG6.out hb7)
  have HP7 := Lib.hid (SlOwn.below HP6.out hb7)
  clear hb7
  have HXA := Lib.hid (HX7.out.ants)
  have HAA := Lib.hid (HA.out.below HB7.out)
  go_wp2
  go_region_held3 (fun w' => w'.cell? ⟨w4.heap.size, 0, none⟩ = some (.int .i64 L) ∧ w'.cell? ⟨w4.heap.size, 1, none⟩ = some (.slice A4 l.length k4) ∧ w'.cell? ⟨w.heap.size, 0, none⟩ = some (.int .i64 L) ∧ w'.cell? ⟨w.heap.size, 1, none⟩ = some (.slice A l.length c))
    (first
      | go_keep
      | exact ⟨Below.cell_some hbx d0, Below.cell_some hbx d1, Below.cell_some hbx c0, Below.cell_some hbx c1⟩
      | exact ⟨Below.cell_some hby d0', Below.cell_some hby d1', Below.cell_some hby c0', Below.cell_some hby c1'⟩)
    (first
      | (go_at_call 30; refine (toRod_any L A c l w7.drew h HAA.out).mono ?_; rintro e wx ⟨AX, kX, rfl, hoX, hbx0⟩; have hbx := below_drew hbx0; clear hbx0; have HAX := Lib.hid hoX.ants; have HXX := Lib.hid (HXA.out.below hbx); have d0' := Below.cell_some hbx d0; have d1' := Below.cell_some hbx d1; have c0' := Below.cell_some hbx c0; have c1' := Below.cell_some hbx c1)
      | (go_at_call 24; refine (eqRod_true L A4 AX k4 kX l _ h HXX.out HAX.out).mono ?_; rintro e w8 ⟨rfl, hby⟩))
  have hb8 : Below w7.heap.size w7 w8 := hbx.trans (hby.mono hbx.size)
  have s8 : w7.heap.size ≤ w8.heap.size := hb8.size
  have HB8 := Lib.hid (HB7.out.trans (hb8.mono HB7.out.size))
  have c0 := Below.cell_some hb8 c0
  have c1 := Below.cell_some hb8 c1
  have d0 := Below.cell_some hb8 d0
  have d1 := Below.cell_some hb8 d1
  have HX8 := Lib.hid (AntsOwn.below HX7.out hb8)
  have HW8 := Lib.hid (SlOwn.below HW7.out hb8)
  have HV8 := Lib.hid (SlOwn.below HV7.out hb8)
  have HG8 := Lib.hid (SlOwn.below HG7.out hb8)
  have HP8 := Lib.hid (SlOwn.below HP7.out hb8)
  clear hb8 hbx hby hoX c0' c1' d0' d1' HAX HXX
  go_wp2_with fail
  -- marks on the copy
  refine (markRod_any L A4 k4 _ l 1 _ (by omega) (by omega) h HX8.out).mono ?_
  rintro e w9 ⟨rfl, _, hg9⟩
  have s9 : w8.heap.size ≤ w9.heap.size := hg9.size
  have c0 := grown_cell hg9 IX.out (by simp <;> omega) c0
  have c1 := grown_cell hg9 IX.out (by simp <;> omega) c1
  have HB9 := Lib.hid (HB8.out.trans (grown_below hg9 IX.out (by omega) HB8.out.size))
  have HW9 := Lib.hid (grown_own (S := intS) hg9 IX.out HW8.out (fun b hb => by have := IW.out b hb; omega))
  have HV9 := Lib.hid (grown_own (S := intS) hg9 IX.out HV8.out (fun b hb => by have := IV.out b hb; omega))
  have HG9 := Lib.hid (grown_own (S := intS) hg9 IX.out HG8.out (fun b hb => by have := IG.out b hb; omega))
  have HP9 := Lib.hid (grown_own (S := intS) hg9 IX.out HP8.out (fun b hb => by have := IP.out b hb; omega))
  clear hg9
  have hk9 : ¬ (1 + 2 * (l.length : Int)) < 0 := by omega
  go_wp2_with fail
  refine (eqIntS_true A5 A3 k5 k3 (frL L l) _ HVB.out HG9.out.sl HW9.out.sl).mono ?_
  rintro e w10 ⟨rfl, hb10⟩
  have s10 : w9.heap.size ≤ w10.heap.size := hb10.size
  have HB10 := Lib.hid (HB9.out.trans (hb10.mono HB9.out.size))
  have c0 := Below.cell_some hb10 c0
  have c1 := Below.cell_some hb10 c1
  have HW10 := Lib.hid (SlOwn.below HW9.out hb10)
  have HV10 := Lib.hid (SlOwn.below HV9.out hb10)
  have HG10 := Lib.hid (SlOwn.below HG9.out hb10)
  have HP10 := Lib.hid (SlOwn.below HP9.out hb10)
  clear hb10
  go_wp2_with fail
  refine (eqIntS_true B5 B3 j5 j3 (frR L l) _ HVC.out HP10.out.sl HV10.out.sl).mono ?_
  rintro e w11 ⟨rfl, hb11⟩
  have s11 : w10.heap.size ≤ w11.heap.size := hb11.size
  have HB11 := Lib.hid (HB10.out.trans (hb11.mono HB10.out.size))
  have c0 := Below.cell_some hb11 c0
  have c1 := Below.cell_some hb11 c1
  have HW11 := Lib.hid (SlOwn.below HW10.out hb11)
  have HV11 := Lib.hid (SlOwn.below HV10.out hb11)
  have HG11 := Lib.hid (SlOwn.below HG10.out hb11)
  have HP11 := Lib.hid (SlOwn.below HP10.out hb11)
  clear hb11
  go_wp2_with fail
  -- marks on the results
  refine (markIntS_any A5 k5 _ (frL L l) 1 _ (by omega) (by omega) HVB.out HG11.out).mono ?_
  rintro e w12 ⟨rfl, ho12, hg12⟩
  have s12 : w11.heap.size ≤ w12.heap.size := hg12.size
  have c0 := grown_cell hg12 IG.out (by simp <;> omega) c0
  have c1 := grown_cell hg12 IG.out (by simp <;> omega) c1
  have HB12 := Lib.hid (HB11.out.trans (grown_below hg12 IG.out (by omega) HB11.out.size))
  have HW12 := Lib.hid (grown_own (S := intS) hg12 IG.out HW11.out (fun b hb => by have := IW.out b hb; omega))
  have HV12 := Lib.hid (grown_own (S := intS) hg12 IG.out HV11.out (fun b hb => by have := IV.out b hb; omega))
  have HP12 := Lib.hid (grown_own (S := intS) hg12 IG.out HP11.out (fun b hb => by have := IP.out b hb; omega))
  have HG12 := Lib.hid ho12
  clear hg12
  go_wp2_with fail
  refine (markIntS_any B5 j5 _ (frR L l) (1 + ((frL L l).length : Int)) _ (by omega) (by omega) HVC.out HP12.out).mono ?_
  rintro e w13 ⟨rfl, ho13, hg13⟩
  have s13 : w12.heap.size ≤ w13.heap.size := hg13.size
  have c0 := grown_cell hg13 IP.out (by simp <;> omega) c0
  have c1 := grown_cell hg13 IP.out (by simp <;> omega) c1
  have HB13 := Lib.hid (HB12.out.trans (grown_below hg13 IP.out (by omega) HB12.out.size))
  have HW13 := Lib.hid (grown_own (S := intS) hg13 IP.out HW12.out (fun b hb => by have := IW.out b hb; omega))
  have HV13 := Lib.hid (grown_own (S := intS) hg13 IP.out HV12.out (fun b hb => by have := IV.out b hb; omega))
  have HG13 := Lib.hid (grown_own (S := intS) hg13 IP.out HG12.out (fun b hb => by have := IG.out b hb; omega))
  have HP13 := Lib.hid ho13
  clear hg13
  have hm1 : ¬ (1 + (((frL L l).length : Nat) : Int)) < 0 := by omega
  have hm2 : ¬ (1 + (((frL L l).length : Nat) : Int) + (((frR L l).length : Nat) : Int)) < 0 := by omega
  go_wp2_with fail
  refine (heldIntS_any A5 k5 (frL L l).length 1 _ (by omega) (by omega) HVB.out HG13.out.sl).mono ?_
  rintro e wh ⟨rfl, rfl⟩
  go_wp2_with fail
  refine (heldIntS_any B5 j5 (frR L l).length (1 + ((frL L l).length : Int)) _ (by omega) (by omega) HVC.out HP13.out.sl).mono ?_
  rintro e wh2 ⟨rfl, rfl⟩
  go_wp2_with fail
  -- once more
  refine (toRod_any L A c l _ h (HA.out.below HB13.out)).mono ?_
  rintro e w14 ⟨A12, k12, rfl, ho12, hb14⟩
  have s14 : w13.heap.size ≤ w14.heap.size := hb14.size
  have HB14 := Lib.hid (HB13.out.trans (hb14.mono HB13.out.size))
  have HW14 := Lib.hid (SlOwn.below HW13.out hb14)
  have HV14 := Lib.hid (SlOwn.below HV13.out hb14)
  have HG14 := Lib.hid (SlOwn.below HG13.out hb14)
  have HP14 := Lib.hid (SlOwn.below HP13.out hb14)
  have HA12 := Lib.hid ho12.ants
  clear hb14 ho12
  go_wp2_with fail
  refine (implFallsOfRod_any L A12 k12 l _ HA12.out).mono ?_
  rintro e w15 ⟨A13, n13, k13, B13, m13, j13, M13, rfl, hn13, hm13, ho13, _, _, hp13, hb15⟩
  subst hn13
  subst hm13
  have s15 : w14.heap.size ≤ w15.heap.size := hb15.size
  have HB15 := Lib.hid (HB14.out.trans (hb15.mono HB14.out.size))
  have HW15 := Lib.hid (SlOwn.below HW14.out hb15)
  have HV15 := Lib.hid (SlOwn.below HV14.out hb15)
  have HG15 := Lib.hid (SlOwn.below HG14.out hb15)
  have HP15 := Lib.hid (SlOwn.below HP14.out hb15)
  have HH15 := Lib.hid ho13
  have HI15 := Lib.hid hp13
  clear hb15 ho13 hp13
  go_wp2_with fail
  refine (eqIntS_true A13 A3 k13 k3 (frL L l) _ HVB.out HH15.out.sl HW15.out.sl).mono ?_
  rintro e w16 ⟨rfl, hb16⟩
  have s16 : w15.heap.size ≤ w16.heap.size := hb16.size
  have HB16 := Lib.hid (HB15.out.trans (hb16.mono HB15.out.size))
  have HW16 := Lib.hid (SlOwn.below HW15.out hb16)
  have HV16 := Lib.hid (SlOwn.below HV15.out hb16)
  have HG16 := Lib.hid (SlOwn.below HG15.out hb16)
  have HP16 := Lib.hid (SlOwn.below HP15.out hb16)
  have HH16 := Lib.hid (SlOwn.below HH15.out hb16)
  have HI16 := Lib.hid (SlOwn.below HI15.out hb16)
  clear hb16
  go_wp2_with fail
  refine (eqIntS_true B13 B3 j13 j3 (frR L l) _ HVC.out HI16.out.sl HV16.out.sl).mono ?_
  rintro e w17 ⟨rfl, hb17⟩
  have s17 : w16.heap.size ≤ w17.heap.size := hb17.size
  have HB17 := Lib.hid (HB16.out.trans (hb17.mono HB16.out.size))
  have HW17 := Lib.hid (SlOwn.below HW16.out hb17)
  have HV17 := Lib.hid (SlOwn.below HV16.out hb17)
  have HG17 := Lib.hid (SlOwn.below HG16.out hb17)
  have HP17 := Lib.hid (SlOwn.below HP16.out hb17)
  have HH17 := Lib.hid (SlOwn.below HH16.out hb17)
  have HI17 := Lib.hid (SlOwn.below HI16.out hb17)
  clear hb17
  go_wp2_with fail
  refine (heldIntS_any A5 k5 (frL L l).length 1 _ (by omega) (by omega) HVB.out HG17.out.sl).mono ?_
  rintro e wh ⟨rfl, rfl⟩
  go_wp2_with fail
  refine (heldIntS_any B5 j5 (frR L l).length (1 + ((frL L l).length : Int)) _ (by omega) (by omega) HVC.out HP17.out.sl).mono ?_
  rintro e wh2 ⟨rfl, rfl⟩
  go_wp2
  go_ret
  exact ⟨ret_bool rfl, HB17.out⟩

theorem law (L : Int) (A : Option Addr) (c : Nat) (l : List (Int × Int)) (w : World) (hn : (l.length : Int) ≤ 9223372036854775807) (hA : AntsAt w A l) :
    Calls Try.prog 16 #[.agg #[.int .i64 L, .slice A l.length c]] w fun e w' => e = .returned (.bool true) ∧ Below w.heap.size w w' := by
  by_cases h : (l.length : Int) ≤ 1048576
  · exact fits L A c l w h hA
  · exact big L A c l w hn (by omega)

set_option maxRecDepth 100000 in
theorem lifted (os : Os) (started : os.Started) (H : Type) (enc : TypeId × Value → H) :
    ReturnsInHanded {} Try.checked os 16 .any (Rows.fnExactFallsOfRodSpec.pre6 enc Try.prog Try.f16 Rows.fnExactFallsOfRodRow.domain false) (Rows.fnExactFallsOfRodSpec.post enc Try.prog Try.f16 false true false false) := by
  refine returnsInHanded_of_change (C := Try.checked) own started (by kernel_rfl) Try.func16
    (ChangeSpec.witness6 (enc := enc) (C := Try.checked) false ⟨#[], #[.agg #[.int .i64 0, .slice none 0 0]], []⟩ 8 (by kernel_rfl) (by kernel_rfl) (by kernel_rfl) (by kernel_rfl)) ?_
  intro W base args ds gs before hval0 hW hcnd _
  have hval : ∀ (j : Nat) t v, Try.f16.params[j]? = some t → args[j]? = some v → Value.okWide Try.prog W .any base t v := hval0
  have hW' := hW
  obtain ⟨p, q, hA0, hV, rfl, hfz, hnd⟩ := hW
  have hA : DataW.TrodAll enc Try.prog W 0 (fun _ => true) true Try.f16.params.toList args.toList ds p := hA0
  rw [Try.params16] at hA hval
  obtain ⟨v0, vs0, d0, ds0, p0, q0, hargs, rfl, rfl, h0, r0⟩ := trodAll_cons hA
  obtain ⟨rfl, rfl, rfl⟩ := trodAll_nil r0
  obtain rfl : args = #[v0] := by cases args; simp_all
  obtain ⟨rfl, rfl⟩ := trodVars_none hV
  have k0 := h0
  have lt0 : ∀ x ∈ p0, x.block < W.heap.size := by obtain ⟨m, hm⟩ := k0; exact DataW.trod_lt m _ _ _ hm
  obtain ⟨L, A, c, l, rfl, hAt, hlen⟩ := open_rod (hval 0 37 v0 rfl rfl) h0
  clear hA0 hval0
  refine (law L A c l W hlen hAt).mono fun e W' ⟨he, bel⟩ => ?_
  subst he
  exact ⟨_, rfl, _, _, _, [], _, [], hW', trodAll_mk1 (shut_bool Try.underlying4 _), (trodAll_cons_mk (Below.trod laidOut (by kernel_rfl) (of_decide_eq_true (by kernel_rfl)) k0 bel lt0) trodAll_mk0), rfl, bel.frame _, fun h => by cases h⟩

theorem closed : joinedFacts Try.prog 16 Try.f16 Rows.fnExactFallsOfRodSpec Rows.fnExactFallsOfRodRow = true := by
  unfold joinedFacts
  repeat' with_reducible refine and_t ?_ ?_
  · kernel_rfl
  · kernel_rfl
  · kernel_rfl
  · kernel_rfl
  · kernel_rfl
  · kernel_rfl
  · kernel_rfl
  · kernel_rfl
  · kernel_rfl
  · kernel_rfl
  · kernel_rfl
  · kernel_rfl
  · kernel_rfl
  · kernel_rfl
  · kernel_rfl
  · kernel_rfl
  · kernel_rfl
  · kernel_rfl
  · kernel_rfl
  · kernel_rfl
  · kernel_rfl
  · kernel_rfl
  · kernel_rfl
  · kernel_rfl
  · kernel_rfl
  · exact factMayEnter
  · exact factLifts
  · exact factMake
  · kernel_rfl
  · kernel_rfl
  · kernel_rfl
  · kernel_rfl

theorem over : Rows.fnExactFallsOfRodRow.holds Try.pinned (OpenSpec.ofChange Rows.fnExactFallsOfRodSpec) :=
  OpenClaim.holds_of_wide 16 Try.f16 rfl rfl rfl rfl rfl rfl rfl ⟨rfl, rfl, rfl, rfl, rfl⟩ rfl rfl rfl rfl rfl (by kernel_rfl) Try.func16 closed
    (of_decide_eq_true (by kernel_rfl)) (by unfold Func.isWrapper; first | (rw [if_pos (by decide +kernel)]; kernel_rfl) | (rw [if_neg (by decide +kernel)]; exact ⟨rfl, rfl⟩))
    (fun os started H enc _ => lifted os started H enc)

/-- the statement -/
theorem proved : Rows.FnExactFallsOfRodSaid := over
#print axioms proved

end Go.Proofs.Ytiledncedekefaa.lFallsOfRod
