/- The law FnExactRoundOfBox returns true at every input, and leaves its arguments as they were. No condition. -/
import Derived.Test.YthokkdipbckolaaRows
import Derived.Test.YthokkdipbckolaaOpen
import Derived.Test.YthokkdipbckolaaFactA
import Derived.Test.YthokkdipbckolaaFactB
import Derived.Test.YthokkdipbckolaaFactC
import Derived.Test.YthokkdipbckolaaBoxQ
import Derived.Test.YthokkdipbckolaaHelp
import Derived.Test.YthokkdipbckolaaMark
import Derived.Test.YthokkdipbckolaaMarkC
import Derived.Test.YthokkdipbckolaaHelpC
import Derived.Deep.RegionHeld3
namespace Go.Proofs.Ythokkdipbckolaa.lRoundOfBox
open Go.RowKit
open Go.ChangeShapes Go.WideShapes Go.ChangeAt
set_option linter.unusedVariables false

set_option maxHeartbeats 1000000 in
theorem big (L : Int) (A : Option Addr) (c : Nat) (l : List (Int × Int)) (w : World) (hn : (l.length : Int) ≤ 9223372036854775807) (h : (1048576 : Int) < l.length) :
    Calls Try.prog 11 #[.agg #[.int .i64 L, .slice A l.length c]] w fun e w' => e = .returned (.bool true) ∧ Below w.heap.size w w' := by
  have H : Hid (∀ w, Calls Try.prog 12 #[.agg #[.int .i64 L, .slice A l.length c], .int .i64 1048576] w fun e w' => e = .returned (.int .i64 (-1)) ∧ Below w.heap.size w w') :=
    fun w => szRod_big L A l.length c 1048576 w (by omega) (by omega) hn h
  clear h hn
  go_enter Try.func11, Try.ntmps11
  go_wp2_with fail
  refine (H.out _).mono ?_
  rintro e w1 ⟨rfl, hb⟩
  go_wp2
  go_ret
  exact ⟨ret_bool rfl, ((Below.refl _ _).alloc (Nat.le_refl _) _).trans (hb.mono (by simp))⟩

set_option maxRecDepth 100000 in
set_option maxHeartbeats 8000000 in
theorem fits (L : Int) (A : Option Addr) (c : Nat) (l : List (Int × Int)) (w : World) (h : (l.length : Int) ≤ 1048576) (hA : AntsAt w A l) :
    Calls Try.prog 11 #[.agg #[.int .i64 L, .slice A l.length c]] w fun e w' => e = .returned (.bool true) ∧ Below w.heap.size w w' := by
  have H : Hid (∀ w, Calls Try.prog 12 #[.agg #[.int .i64 L, .slice A l.length c], .int .i64 1048576] w fun e w' => e = .returned (.int .i64 (1048576 - l.length)) ∧ Below w.heap.size w w') :=
    fun w => szRod_fits L A l.length c 1048576 w (by omega) (by omega) (by omega) (by omega)
  have hz : ¬ (1048576 - (l.length : Int)) < 0 := by omega
  have hvb : (((rnV L l).length : Nat) : Int) ≤ 1048576 := (by have := rnV_le L l; omega)
  have HVB := Lib.hid hvb
  have HA := Lib.hid hA
  clear hA
  go_enter Try.func11, Try.ntmps11
  go_wp2_with fail
  refine (H.out _).mono ?_
  rintro e w1 ⟨rfl, hb1⟩
  have HB1 := Lib.hid (((Below.refl _ w).alloc (Nat.le_refl _) _).trans (hb1.mono (by simp)))
  have s1 : w.heap.size < w1.heap.size := by have := hb1.size; simp at this; omega
  have c0 : w1.cell? ⟨w.heap.size, 0, none⟩ = some (.int .i64 L) := by rw [hb1.cell (p := ⟨w.heap.size, 0, none⟩) (by simp)]; simp
  have c1 : w1.cell? ⟨w.heap.size, 1, none⟩ = some (.slice A l.length c) := by rw [hb1.cell (p := ⟨w.heap.size, 1, none⟩) (by simp)]; simp
  clear hb1
  go_wp2_with fail
  -- the copy for the model
  refine (toRod_any L A c l _ h (HA.out.below HB1.out)).mono ?_
  rintro e w2 ⟨A2, k2, rfl, ho2, hb2⟩
  have HB2 := Lib.hid (HB1.out.trans (hb2.mono HB1.out.size))
  have HA2 := Lib.hid (ho2.ants)
  have cap2 := own_cap (S := pairS) ho2
  have c0 := Below.cell_some hb2 c0
  have c1 := Below.cell_some hb2 c1
  have s2 : w.heap.size < w2.heap.size := by have := hb2.size; omega
  clear hb2 ho2
  go_wp2_with fail
  have CAP2 := Lib.hid cap2
  -- the model
  refine (specRound_any L A2 k2 l _ CAP2.out HA2.out).mono ?_
  rintro e w3 ⟨A3, n3, k3, rfl, hn3, ho3, hb3⟩
  subst hn3
  have HB3 := Lib.hid ((HB2.out.trans (hb3.mono HB2.out.size)).alloc (HB2.out.trans (hb3.mono HB2.out.size)).size (Obj.cells #[Value.int IntKind.i64 (rnL L l), Value.slice A3 (rnV L l).length k3] 43))
  have c0 := alloc_some (Below.cell_some hb3 c0) (Obj.cells #[Value.int IntKind.i64 (rnL L l), Value.slice A3 (rnV L l).length k3] 43)
  have c1 := alloc_some (Below.cell_some hb3 c1) (Obj.cells #[Value.int IntKind.i64 (rnL L l), Value.slice A3 (rnV L l).length k3] 43)
  have m0 : (w3.alloc (Obj.cells #[Value.int IntKind.i64 (rnL L l), Value.slice A3 (rnV L l).length k3] 43)).cell? ⟨w3.heap.size, 0, none⟩ = some (.int .i64 (rnL L l)) := by simp
  have m1 : (w3.alloc (Obj.cells #[Value.int IntKind.i64 (rnL L l), Value.slice A3 (rnV L l).length k3] 43)).cell? ⟨w3.heap.size, 1, none⟩ = some (.slice A3 (rnV L l).length k3) := by simp
  have s3 : w.heap.size < w3.heap.size := by have := hb3.size; omega
  have HW3 := Lib.hid (AntsOwn.below ho3 ((Below.refl _ _).alloc (Nat.le_refl _) (Obj.cells #[Value.int IntKind.i64 (rnL L l), Value.slice A3 (rnV L l).length k3] 43)))
  have IW := Lib.hid (World.ownsRow.lt ho3)
  clear hb3 ho3
  go_wp2_with fail
  -- the copy for the program
  refine (toRod_any L A c l _ h (HA.out.below HB3.out)).mono ?_
  rintro e w4 ⟨A4, k4, rfl, ho4, hb4⟩
  have HB4 := Lib.hid (HB3.out.trans (hb4.mono HB3.out.size))
  have c0 := Below.cell_some hb4 c0
  have c1 := Below.cell_some hb4 c1
  have m0 := Below.cell_some hb4 m0
  have m1 := Below.cell_some hb4 m1
  have s4 : w3.heap.size + 1 ≤ w4.heap.size := by have := hb4.size; simpa using this
  have HX4 := Lib.hid ho4
  have IX := Lib.hid (World.ownsRow.lt ho4)
  have HW4 := Lib.hid (AntsOwn.below HW3.out hb4)
  clear hb4 ho4
  go_wp2_with fail
  -- the program
  refine (implRound_any L A4 k4 l _ (own_cap (S := pairS) HX4.out) (HX4.out.ants.alloc _)).mono ?_
  rintro e w5 ⟨A5, n5, k5, rfl, hn5, ho5, hb5⟩
  subst hn5
  have s5 : w4.heap.size + 1 ≤ w5.heap.size := by have := hb5.size; simpa using this
  have HB5 := Lib.hid ((below_via HB4.out (by omega) hb5).alloc (by omega) (Obj.cells #[Value.int IntKind.i64 (rnL L l), Value.slice A5 (rnV L l).length k5] 43))
  have c0 := alloc_some (Below.cell_some hb5 (alloc_some c0 _)) (Obj.cells #[Value.int IntKind.i64 (rnL L l), Value.slice A5 (rnV L l).length k5] 43)
  have c1 := alloc_some (Below.cell_some hb5 (alloc_some c1 _)) (Obj.cells #[Value.int IntKind.i64 (rnL L l), Value.slice A5 (rnV L l).length k5] 43)
  have m0 := alloc_some (Below.cell_some hb5 (alloc_some m0 _)) (Obj.cells #[Value.int IntKind.i64 (rnL L l), Value.slice A5 (rnV L l).length k5] 43)
  have m1 := alloc_some (Below.cell_some hb5 (alloc_some m1 _)) (Obj.cells #[Value.int IntKind.i64 (rnL L l), Value.slice A5 (rnV L l).length k5] 43)
  have d0 : (w5.alloc (Obj.cells #[Value.int IntKind.i64 (rnL L l), Value.slice A5 (rnV L l).length k5] 43)).cell? ⟨w4.heap.size, 0, none⟩ = some (.int .i64 L) := alloc_some (by rw [hb5.cell (p := ⟨w4.heap.size, 0, none⟩) (by simp)]; simp) _
  have d1 : (w5.alloc (Obj.cells #[Value.int IntKind.i64 (rnL L l), Value.slice A5 (rnV L l).length k5] 43)).cell? ⟨w4.heap.size, 1, none⟩ = some (.slice A4 l.length k4) := alloc_some (by rw [hb5.cell (p := ⟨w4.heap.size, 1, none⟩) (by simp)]; simp) _
  have n0 : (w5.alloc (Obj.cells #[Value.int IntKind.i64 (rnL L l), Value.slice A5 (rnV L l).length k5] 43)).cell? ⟨w5.heap.size, 0, none⟩ = some (.int .i64 (rnL L l)) := by simp
  have n1 : (w5.alloc (Obj.cells #[Value.int IntKind.i64 (rnL L l), Value.slice A5 (rnV L l).length k5] 43)).cell? ⟨w5.heap.size, 1, none⟩ = some (.slice A5 (rnV L l).length k5) := by simp
  have hba : Below w4.heap.size w4 (w5.alloc (Obj.cells #[Value.int IntKind.i64 (rnL L l), Value.slice A5 (rnV L l).length k5] 43)) := (below_via (Below.refl _ _) (Nat.le_refl _) hb5).alloc (by omega) _
  have HX5 := Lib.hid (AntsOwn.below HX4.out hba)
  have HW5 := Lib.hid (AntsOwn.below HW4.out hba)
  have HG5 := Lib.hid (AntsOwn.below ho5 ((Below.refl _ _).alloc (Nat.le_refl _) (Obj.cells #[Value.int IntKind.i64 (rnL L l), Value.slice A5 (rnV L l).length k5] 43)))
  have IG := Lib.hid (World.ownsRow.lt ho5)
  clear hb5 ho5 hba
  go_wp2_with fail
  refine (eqCircle_true (rnL L l) A5 A3 k5 k3 (rnV L l) _ HVB.out HG5.out.ants HW5.out.ants).mono ?_
  rintro e w6 ⟨rfl, hb6⟩
  have HB6 := Lib.hid (HB5.out.trans (hb6.mono HB5.out.size))
  have c0 := Below.cell_some hb6 c0
  have c1 := Below.cell_some hb6 c1
  have m0 := Below.cell_some hb6 m0
  have m1 := Below.cell_some hb6 m1
  have n0 := Below.cell_some hb6 n0
  have n1 := Below.cell_some hb6 n1
  have d0 := Below.cell_some hb6 d0
  have d1 := Below.cell_some hb6 d1
  have s6 : w5.heap.size + 1 ≤ w6.heap.size := by have := hb6.size; simpa using this
  have HX6 := Lib.hid (AntsOwn.below HX5.out hb6)
  have HXA6 := Lib.hid (HX6.out.ants)
  have HAA6 := Lib.hid (HA.out.below HB6.out)
  have HW6 := Lib.hid (AntsOwn.below HW5.out hb6)
  have HG6 := Lib.hid (AntsOwn.below HG5.out hb6)
  clear hb6
  go_wp2
  go_region_held3 (fun w' => w'.cell? ⟨w4.heap.size, 0, none⟩ = some (.int .i64 L) ∧ w'.cell? ⟨w4.heap.size, 1, none⟩ = some (.slice A4 l.length k4) ∧ w'.cell? ⟨w.heap.size, 0, none⟩ = some (.int .i64 L) ∧ w'.cell? ⟨w.heap.size, 1, none⟩ = some (.slice A l.length c))
    (first
      | go_keep
      | exact ⟨Below.cell_some hbx d0, Below.cell_some hbx d1, Below.cell_some hbx c0, Below.cell_some hbx c1⟩
      | exact ⟨Below.cell_some hby d0', Below.cell_some hby d1', Below.cell_some hby c0', Below.cell_some hby c1'⟩)
    (first
      | (go_at_call 14; refine (toRod_any L A c l w6.drew h HAA6.out).mono ?_; rintro e w7 ⟨A7, k7, rfl, ho7, hbx0⟩; have hbx := below_drew hbx0; clear hbx0; have HA7 := Lib.hid ho7.ants; have HX7 := Lib.hid (HXA6.out.below hbx); have d0' := Below.cell_some hbx d0; have d1' := Below.cell_some hbx d1; have c0' := Below.cell_some hbx c0; have c1' := Below.cell_some hbx c1)
      | (go_at_call 16; refine (eqRod_true L A4 A7 k4 k7 l _ h HX7.out HA7.out).mono ?_; rintro e w8 ⟨rfl, hby⟩))
  have hb8 : Below w6.heap.size w6 w8 := hbx.trans (hby.mono hbx.size)
  have HB8 := Lib.hid (HB6.out.trans (hb8.mono HB6.out.size))
  have c0 := Below.cell_some hb8 c0
  have c1 := Below.cell_some hb8 c1
  have m0 := Below.cell_some hb8 m0
  have m1 := Below.cell_some hb8 m1
  have n0 := Below.cell_some hb8 n0
  have n1 := Below.cell_some hb8 n1
  have d0 := Below.cell_some hb8 d0
  have d1 := Below.cell_some hb8 d1
  have s8 : w6.heap.size ≤ w8.heap.size := hb8.size
  have HX8 := Lib.hid (AntsOwn.below HX6.out hb8)
  have HW8 := Lib.hid (AntsOwn.below HW6.out hb8)
  have HG8 := Lib.hid (AntsOwn.below HG6.out hb8)
  clear hb8 hbx hby ho7 c0' c1' d0' d1' HA7 HX7
  go_wp2_with fail
  -- marks on the copy
  refine (markRod_any L A4 k4 _ l 1 _ (by omega) (by omega) h HX8.out).mono ?_
  rintro e w9 ⟨rfl, _, hg9⟩
  have s9 : w8.heap.size ≤ w9.heap.size := hg9.size
  have c0 := grown_cell hg9 IX.out (.inl (by simp; omega)) c0
  have c1 := grown_cell hg9 IX.out (.inl (by simp; omega)) c1
  have m0 := grown_cell hg9 IX.out (.inl (by simp)) m0
  have m1 := grown_cell hg9 IX.out (.inl (by simp)) m1
  have n0 := grown_cell hg9 IX.out (.inr (by simp; omega)) n0
  have n1 := grown_cell hg9 IX.out (.inr (by simp; omega)) n1
  have HB9 := Lib.hid (HB8.out.trans (grown_below hg9 IX.out (by simp; omega) HB8.out.size))
  have HW9 := Lib.hid (grown_own hg9 IX.out (S := pairS) HW8.out (fun k hk => .inl (by have := (IW.out k hk).2; simp; omega)))
  have HG9 := Lib.hid (grown_own hg9 IX.out (S := pairS) HG8.out (fun k hk => .inr (by have := (IG.out k hk).1; simp at this; omega)))
  clear hg9 d0 d1
  have hk9 : ¬ (1 + 2 * (l.length : Int)) < 0 := by omega
  go_wp2_with fail
  refine (eqCircle_true (rnL L l) A5 A3 k5 k3 (rnV L l) _ HVB.out (AntsOwn.ants HG9.out) (AntsOwn.ants HW9.out)).mono ?_
  rintro e w10 ⟨rfl, hb10⟩
  have HB10 := Lib.hid (HB9.out.trans (hb10.mono HB9.out.size))
  have c0 := Below.cell_some hb10 c0
  have c1 := Below.cell_some hb10 c1
  have m0 := Below.cell_some hb10 m0
  have m1 := Below.cell_some hb10 m1
  have n0 := Below.cell_some hb10 n0
  have n1 := Below.cell_some hb10 n1
  have s10 : w9.heap.size ≤ w10.heap.size := hb10.size
  have HW10 := Lib.hid (HW9.out.below hb10)
  have HG10 := Lib.hid (HG9.out.below hb10)
  clear hb10
  go_wp2_with fail
  -- marks on the result
  refine (markCircle_any (rnL L l) A5 k5 _ (rnV L l) 1 _ (by omega) (by omega) HVB.out HG10.out).mono ?_
  rintro e w11 ⟨rfl, ho11, hg11⟩
  have HG11 := Lib.hid ho11
  have s11 : w10.heap.size ≤ w11.heap.size := hg11.size
  have c0 := grown_cell hg11 IG.out (.inl (by simp; omega)) c0
  have c1 := grown_cell hg11 IG.out (.inl (by simp; omega)) c1
  have m0 := grown_cell hg11 IG.out (.inl (by simp; omega)) m0
  have m1 := grown_cell hg11 IG.out (.inl (by simp; omega)) m1
  have n0 := grown_cell hg11 IG.out (.inr (by simp)) n0
  have n1 := grown_cell hg11 IG.out (.inr (by simp)) n1
  have HB11 := Lib.hid (HB10.out.trans (grown_below hg11 IG.out (by simp; omega) HB10.out.size))
  have HW11 := Lib.hid (grown_own hg11 IG.out HW10.out (fun k hk => .inl (by have := (IW.out k hk).2; simp; omega)))
  clear hg11 ho11
  have hm1 : ¬ (1 + 2 * (((rnV L l).length : Nat) : Int)) < 0 := by omega
  go_wp2_with fail
  refine (heldCircle_any (rnL L l) A5 k5 (rnV L l).length 1 _ (by omega) (by omega) HVB.out HG11.out.ants).mono ?_
  rintro e w11' ⟨rfl, hb11⟩
  have HB11 := Lib.hid (HB11.out.trans (hb11.mono HB11.out.size))
  have c0 := Below.cell_some hb11 c0
  have c1 := Below.cell_some hb11 c1
  have m0 := Below.cell_some hb11 m0
  have m1 := Below.cell_some hb11 m1
  have n0 := Below.cell_some hb11 n0
  have n1 := Below.cell_some hb11 n1
  have HW11 := Lib.hid (HW11.out.below hb11)
  have HG11 := Lib.hid (AntsOwn.below HG11.out hb11)
  clear hb11
  go_wp2_with fail
  -- once more
  refine (toRod_any L A c l _ h (HA.out.below HB11.out)).mono ?_
  rintro e w12 ⟨A12, k12, rfl, ho12, hb12⟩
  have HB12 := Lib.hid (HB11.out.trans (hb12.mono HB11.out.size))
  have m0 := Below.cell_some hb12 m0
  have m1 := Below.cell_some hb12 m1
  have n0 := Below.cell_some hb12 n0
  have n1 := Below.cell_some hb12 n1
  have CAP12 := Lib.hid (own_cap (S := pairS) ho12)
  have HA12 := Lib.hid ho12.ants
  have HW12 := Lib.hid (HW11.out.below hb12)
  have HG12 := Lib.hid (AntsOwn.below HG11.out hb12)
  clear hb12 ho12
  go_wp2_with fail
  refine (implRound_any L A12 k12 l _ CAP12.out HA12.out).mono ?_
  rintro e w13 ⟨A13, n13, k13, rfl, hn13, ho13, hb13⟩
  subst hn13
  have hbz : Below w12.heap.size w12 (w13.alloc (Obj.cells #[Value.int IntKind.i64 (rnL L l), Value.slice A13 (rnV L l).length k13] 43)) := hb13.alloc hb13.size _
  have HB13 := Lib.hid (HB12.out.trans (hbz.mono HB12.out.size))
  have m0 := Below.cell_some hbz m0
  have m1 := Below.cell_some hbz m1
  have n0 := Below.cell_some hbz n0
  have n1 := Below.cell_some hbz n1
  have HH13 := Lib.hid (AntsOwn.below ho13 ((Below.refl _ _).alloc (Nat.le_refl _) (Obj.cells #[Value.int IntKind.i64 (rnL L l), Value.slice A13 (rnV L l).length k13] 43)))
  have HW13 := Lib.hid (HW12.out.below hbz)
  have HG13 := Lib.hid (AntsOwn.below HG12.out hbz)
  clear hb13 ho13 hbz
  go_wp2_with fail
  refine (eqCircle_true (rnL L l) A13 A3 k13 k3 (rnV L l) _ HVB.out HH13.out.ants (AntsOwn.ants HW13.out)).mono ?_
  rintro e w14 ⟨rfl, hb14⟩
  have HB14 := Lib.hid (HB13.out.trans (hb14.mono HB13.out.size))
  have n0 := Below.cell_some hb14 n0
  have n1 := Below.cell_some hb14 n1
  have HG14 := Lib.hid (AntsOwn.below HG13.out hb14)
  clear hb14
  go_wp2_with fail
  refine (heldCircle_any (rnL L l) A5 k5 (rnV L l).length 1 _ (by omega) (by omega) HVB.out HG14.out.ants).mono ?_
  rintro e w14' ⟨rfl, hb15⟩
  have HB15 := Lib.hid (HB14.out.trans (hb15.mono HB14.out.size))
  clear hb15
  go_wp2
  go_ret
  exact ⟨ret_bool rfl, HB15.out⟩

theorem law (L : Int) (A : Option Addr) (c : Nat) (l : List (Int × Int)) (w : World) (hn : (l.length : Int) ≤ 9223372036854775807) (hA : AntsAt w A l) :
    Calls Try.prog 11 #[.agg #[.int .i64 L, .slice A l.length c]] w fun e w' => e = .returned (.bool true) ∧ Below w.heap.size w w' := by
  by_cases h : (l.length : Int) ≤ 1048576
  · exact fits L A c l w h hA
  · exact big L A c l w hn (by omega)

set_option maxRecDepth 100000 in
theorem lifted (os : Os) (started : os.Started) (H : Type) (enc : TypeId × Value → H) :
    ReturnsInHanded {} Try.checked os 11 .any (Rows.fnExactRoundOfBoxSpec.pre6 enc Try.prog Try.f11 Rows.fnExactRoundOfBoxRow.domain false) (Rows.fnExactRoundOfBoxSpec.post enc Try.prog Try.f11 false true false false) := by
  refine returnsInHanded_of_change (C := Try.checked) own started (by kernel_rfl) Try.func11
    (ChangeSpec.witness6 (enc := enc) (C := Try.checked) false ⟨#[], #[.agg #[.int .i64 0, .slice none 0 0]], []⟩ 8 (by kernel_rfl) (by kernel_rfl) (by kernel_rfl) (by kernel_rfl)) ?_
  intro W base args ds gs before hval0 hW hcnd _
  have hval : ∀ (j : Nat) t v, Try.f11.params[j]? = some t → args[j]? = some v → Value.okWide Try.prog W .any base t v := hval0
  have hW' := hW
  obtain ⟨p, q, hA0, hV, rfl, hfz, hnd⟩ := hW
  have hA : DataW.TrodAll enc Try.prog W 0 (fun _ => true) true Try.f11.params.toList args.toList ds p := hA0
  rw [Try.params11] at hA hval
  obtain ⟨v0, vs0, d0, ds0, p0, q0, hargs, rfl, rfl, h0, r0⟩ := trodAll_cons hA
  obtain ⟨rfl, rfl, rfl⟩ := trodAll_nil r0
  obtain rfl : args = #[v0] := by cases args; simp_all
  obtain ⟨rfl, rfl⟩ := trodVars_none hV
  have k0 := h0
  have lt0 : ∀ x ∈ p0, x.block < W.heap.size := by obtain ⟨m, hm⟩ := k0; exact DataW.trod_lt m _ _ _ hm
  obtain ⟨L, A, c, l, rfl, hAt, hlen⟩ := open_rod (hval 0 24 v0 rfl rfl) h0
  clear hA0 hval0
  refine (law L A c l W hlen hAt).mono fun e W' ⟨he, bel⟩ => ?_
  subst he
  exact ⟨_, rfl, _, _, _, [], _, [], hW', trodAll_mk1 (shut_bool Try.underlying4 _), (trodAll_cons_mk (Below.trod laidOut (by kernel_rfl) (of_decide_eq_true (by kernel_rfl)) k0 bel lt0) trodAll_mk0), rfl, bel.frame _, fun h => by cases h⟩

theorem closed : joinedFacts Try.prog 11 Try.f11 Rows.fnExactRoundOfBoxSpec Rows.fnExactRoundOfBoxRow = true := by
  unfold joinedFacts
  repeat' with_reducible refine and_t ?_ ?_
  · kernel_rfl
  · kernel_rfl
  · kernel_rfl
  · kernel_rfl
  · kernel_rfl
  · kernel_rfl
  · kernel_rfl
  · kernel_rfl
  · kernel_rfl
  · kernel_rfl
  · kernel_rfl
  · kernel_rfl
  · kernel_rfl
  · kernel_rfl
  · kernel_rfl
  · kernel_rfl
  · kernel_rfl
  · kernel_rfl
  · kernel_rfl
  · kernel_rfl
  · kernel_rfl
  · kernel_rfl
  · kernel_rfl
  · kernel_rfl
  · kernel_rfl
  · exact factMayEnter
  · exact factLifts
  · exact factMake
  · kernel_rfl
  · kernel_rfl
  · kernel_rfl
  · kernel_rfl

theorem over : Rows.fnExactRoundOfBoxRow.holds Try.pinned (OpenSpec.ofChange Rows.fnExactRoundOfBoxSpec) :=
  OpenClaim.holds_of_wide 11 Try.f11 rfl rfl rfl rfl rfl rfl rfl ⟨rfl, rfl, rfl, rfl, rfl⟩ rfl rfl rfl rfl rfl (by kernel_rfl) Try.func11 closed
    (of_decide_eq_true (by kernel_rfl)) (by unfold Func.isWrapper; first | (rw [if_pos (by decide +kernel)]; kernel_rfl) | (rw [if_neg (by decide +kernel)]; exact ⟨rfl, rfl⟩))
    (fun os started H enc _ => lifted os started H enc)

/-- the statement -/
theorem proved : Rows.FnExactRoundOfBoxSaid := over
#print axioms proved

end Go.Proofs.Ythokkdipbckolaa.lRoundOfBox
