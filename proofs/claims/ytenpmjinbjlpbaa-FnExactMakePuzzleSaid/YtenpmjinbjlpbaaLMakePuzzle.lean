/- The law FnExactMakePuzzle returns true at every input, and leaves its arguments as they were. No condition. -/
import Derived.Test.YtenpmjinbjlpbaaRows
import Derived.Test.YtenpmjinbjlpbaaOpen
import Derived.Test.YtenpmjinbjlpbaaFactA
import Derived.Test.YtenpmjinbjlpbaaFactB
import Derived.Test.YtenpmjinbjlpbaaFactC
import Derived.Test.YtenpmjinbjlpbaaMkE
import Derived.Test.YtenpmjinbjlpbaaHelpZ
import Derived.Test.YtenpmjinbjlpbaaMark
import Derived.Deep.RegionHeld3
namespace Go.Proofs.Ytenpmjinbjlpbaa.lMakePuzzle
open Go.RowKit
open Go.ChangeShapes Go.WideShapes Go.ChangeAt
set_option linter.unusedVariables false

set_option maxHeartbeats 1000000 in
theorem big (L : Int) (A : Option Addr) (c : Nat) (l : List (Int × Int)) (m : Int) (z : Int) (w : World) (hn : (l.length : Int) ≤ 9223372036854775807) (h : (1048576 : Int) < l.length) :
    Calls Try.prog 4 #[.agg #[.int .i64 L, .slice A l.length c], .int .i64 m, .int .i64 z] w fun e w' => e = .returned (.bool true) ∧ Below w.heap.size w w' := by
  have H : Hid (∀ w, Calls Try.prog 13 #[.agg #[.int .i64 L, .slice A l.length c], .int .i64 1048576] w fun e w' => e = .returned (.int .i64 (-1)) ∧ Below w.heap.size w w') :=
    fun w => szRod_big L A l.length c 1048576 w (by omega) (by omega) hn h
  clear h hn
  go_enter Try.func4, Try.ntmps4
  go_wp2_with fail
  refine (H.out _).mono ?_
  rintro e w1 ⟨rfl, hb⟩
  go_wp2
  go_ret
  exact ⟨ret_bool rfl, ((Below.refl _ _).alloc (Nat.le_refl _) _).trans (hb.mono (by simp))⟩

set_option maxRecDepth 100000 in
set_option maxHeartbeats 8000000 in
theorem fits (L : Int) (A : Option Addr) (c : Nat) (l : List (Int × Int)) (m : Int) (z : Int) (w : World) (hm : (Lit.int .i64 m).wf = true) (hz : (Lit.int .i64 z).wf = true) (h : (l.length : Int) ≤ 1048576) (hA : AntsAt w A l) :
    Calls Try.prog 4 #[.agg #[.int .i64 L, .slice A l.length c], .int .i64 m, .int .i64 z] w fun e w' => e = .returned (.bool true) ∧ Below w.heap.size w w' := by
  have H : Hid (∀ w, Calls Try.prog 13 #[.agg #[.int .i64 L, .slice A l.length c], .int .i64 1048576] w fun e w' => e = .returned (.int .i64 (1048576 - l.length)) ∧ Below w.heap.size w w') :=
    fun w => szRod_fits L A l.length c 1048576 w (by omega) (by omega) (by omega) (by omega)
  have hz : ¬ (1048576 - (l.length : Int)) < 0 := by omega
  have hvb : (((mkP L l m z).length : Nat) : Int) ≤ 1048576 := (by have := mkP_len L l m z; omega)
  have hvc : (((mkC L l m z).length : Nat) : Int) ≤ 1048576 := (by have := mkC_len L l m z; omega)
  have HVB := Lib.hid hvb
  have HVC := Lib.hid hvc
  clear hvb hvc
  have HA := Lib.hid hA
  clear hA
  go_enter Try.func4, Try.ntmps4
  go_wp2_with fail
  refine (H.out _).mono ?_
  rintro e w1 ⟨rfl, hb1⟩
  have HB1 := Lib.hid (((Below.refl _ w).alloc (Nat.le_refl _) _).trans (hb1.mono (by simp)))
  have s1 : w.heap.size < w1.heap.size := by have := hb1.size; simp at this; omega
  have c0 : w1.cell? ⟨w.heap.size, 0, none⟩ = some (.int .i64 L) := by rw [hb1.cell (p := ⟨w.heap.size, 0, none⟩) (by simp)]; simp
  have c1 : w1.cell? ⟨w.heap.size, 1, none⟩ = some (.slice A l.length c) := by rw [hb1.cell (p := ⟨w.heap.size, 1, none⟩) (by simp)]; simp
  clear hb1
  go_wp2_with fail
  -- the copy for the model
  refine (toRod_any L A c l _ h (HA.out.below HB1.out)).mono ?_
  rintro e w2 ⟨A2, k2, rfl, ho2, hb2⟩
  have HB2 := Lib.hid (HB1.out.trans (hb2.mono HB1.out.size))
  have HA2 := Lib.hid (ho2.ants)
  have c0 := Below.cell_some hb2 c0
  have c1 := Below.cell_some hb2 c1
  have s2 : w.heap.size < w2.heap.size := by have := hb2.size; omega
  clear hb2 ho2
  go_wp2_with fail
  -- the model
  refine (specMake_any L A2 k2 l m z _ h HA2.out).mono ?_
  rintro e w3 ⟨A3, n3, k3, C3, m3, j3, rfl, hn3, hm3, ho3, hp3, hb3⟩
  subst hn3
  subst hm3
  have s3 : w2.heap.size ≤ w3.heap.size := hb3.size
  have HB3 : Hid (Below w.heap.size w w3) := HB2.out.trans (hb3.mono HB2.out.size)
  have c0 := Below.cell_some hb3 c0
  have c1 := Below.cell_some hb3 c1
  have IWa : Hid (∀ b, (Value.slice A3 (mkP L l m z).length k3).ownBlock = some b → w2.heap.size ≤ b ∧ b < w3.heap.size) := World.ownsRow.lt ho3
  have HWa3 := Lib.hid ho3
  have IWc : Hid (∀ b, (Value.slice C3 (mkC L l m z).length j3).ownBlock = some b → w2.heap.size ≤ b ∧ b < w3.heap.size) := World.ownsRow.lt hp3
  have HWc3 := Lib.hid hp3
  clear hb3 ho3 hp3
  obtain ⟨w4, hw4⟩ : ∃ W, W = w3.alloc (Obj.cells #[Value.int IntKind.i64 (mkL L l m z), Value.slice A3 (mkP L l m z).length k3, Value.slice C3 (mkC L l m z).length j3] 31) := ⟨_, rfl⟩
  have hb4 : Below w3.heap.size w3 w4 := by rw [hw4]; exact (Below.refl _ _).alloc (Nat.le_refl _) _
  have s4 : w3.heap.size + 1 ≤ w4.heap.size := by rw [hw4]; simp
  have HB4 : Hid (Below w.heap.size w w4) := HB3.out.trans (hb4.mono HB3.out.size)
  have yc0 := alloc_some c0 (Obj.cells #[Value.int IntKind.i64 (mkL L l m z), Value.slice A3 (mkP L l m z).length k3, Value.slice C3 (mkC L l m z).length j3] 31)
  have yc1 := alloc_some c1 (Obj.cells #[Value.int IntKind.i64 (mkL L l m z), Value.slice A3 (mkP L l m z).length k3, Value.slice C3 (mkC L l m z).length j3] 31)
  have c0 := Below.cell_some hb4 c0
  have c1 := Below.cell_some hb4 c1
  have HWa4 := Lib.hid (SlOwn.below HWa3.out hb4)
  have HWc4 := Lib.hid (SlOwn.below HWc3.out hb4)
  have m0 : w4.cell? ⟨w3.heap.size, 0, none⟩ = some (.int .i64 (mkL L l m z)) := by rw [hw4]; simp [go_sem]
  have m1 : w4.cell? ⟨w3.heap.size, 1, none⟩ = some (.slice A3 (mkP L l m z).length k3) := by rw [hw4]; simp [go_sem]
  have m2 : w4.cell? ⟨w3.heap.size, 2, none⟩ = some (.slice C3 (mkC L l m z).length j3) := by rw [hw4]; simp [go_sem]
  clear hb4
  go_wp2_with fail
  try rw [← hw4]
  clear hw4 yc0 yc1
  -- the copy for the program
  refine (toRod_any L A c l _ h (HA.out.below HB4.out)).mono ?_
  rintro e w5 ⟨A5, k5, rfl, ho5, hb5⟩
  have s5 : w4.heap.size ≤ w5.heap.size := hb5.size
  have HB5 : Hid (Below w.heap.size w w5) := HB4.out.trans (hb5.mono HB4.out.size)
  have c0 := Below.cell_some hb5 c0
  have c1 := Below.cell_some hb5 c1
  have m0 := Below.cell_some hb5 m0
  have m1 := Below.cell_some hb5 m1
  have m2 := Below.cell_some hb5 m2
  have HWa5 := Lib.hid (SlOwn.below HWa4.out hb5)
  have HWc5 := Lib.hid (SlOwn.below HWc4.out hb5)
  have IX : Hid (∀ b, (Value.slice A5 l.length k5).ownBlock = some b → w4.heap.size ≤ b ∧ b < w5.heap.size) := World.ownsRow.lt ho5
  have HX5 := Lib.hid (antsOwn_iff.1 ho5)
  clear hb5 ho5
  obtain ⟨w6, hw6⟩ : ∃ W, W = w5.alloc (Obj.cells #[Value.int IntKind.i64 L, Value.slice A5 l.length k5] 47) := ⟨_, rfl⟩
  have hb6 : Below w5.heap.size w5 w6 := by rw [hw6]; exact (Below.refl _ _).alloc (Nat.le_refl _) _
  have s6 : w5.heap.size + 1 ≤ w6.heap.size := by rw [hw6]; simp
  have HB6 : Hid (Below w.heap.size w w6) := HB5.out.trans (hb6.mono HB5.out.size)
  have yc0 := alloc_some c0 (Obj.cells #[Value.int IntKind.i64 L, Value.slice A5 l.length k5] 47)
  have yc1 := alloc_some c1 (Obj.cells #[Value.int IntKind.i64 L, Value.slice A5 l.length k5] 47)
  have ym0 := alloc_some m0 (Obj.cells #[Value.int IntKind.i64 L, Value.slice A5 l.length k5] 47)
  have ym1 := alloc_some m1 (Obj.cells #[Value.int IntKind.i64 L, Value.slice A5 l.length k5] 47)
  have ym2 := alloc_some m2 (Obj.cells #[Value.int IntKind.i64 L, Value.slice A5 l.length k5] 47)
  have c0 := Below.cell_some hb6 c0
  have c1 := Below.cell_some hb6 c1
  have m0 := Below.cell_some hb6 m0
  have m1 := Below.cell_some hb6 m1
  have m2 := Below.cell_some hb6 m2
  have HWa6 := Lib.hid (SlOwn.below HWa5.out hb6)
  have HWc6 := Lib.hid (SlOwn.below HWc5.out hb6)
  have HX6 := Lib.hid (SlOwn.below HX5.out hb6)
  have d0 : w6.cell? ⟨w5.heap.size, 0, none⟩ = some (.int .i64 L) := by rw [hw6]; simp [go_sem]
  have d1 : w6.cell? ⟨w5.heap.size, 1, none⟩ = some (.slice A5 l.length k5) := by rw [hw6]; simp [go_sem]
  clear hb6
  go_wp2_with fail
  try rw [← hw6]
  clear hw6 yc0 yc1 ym0 ym1 ym2
  -- the program
  refine (implMake_any L A5 k5 l m z _ h (AntsOwn.ants (antsOwn_iff.2 HX6.out))).mono ?_
  rintro e w7 ⟨A7, n7, k7, C7, m7, j7, rfl, hn7, hm7, ho7, hp7, hb7⟩
  subst hn7
  subst hm7
  have s7 : w6.heap.size ≤ w7.heap.size := hb7.size
  have HB7 : Hid (Below w.heap.size w w7) := HB6.out.trans (hb7.mono HB6.out.size)
  have c0 := Below.cell_some hb7 c0
  have c1 := Below.cell_some hb7 c1
  have m0 := Below.cell_some hb7 m0
  have m1 := Below.cell_some hb7 m1
  have m2 := Below.cell_some hb7 m2
  have d0 := Below.cell_some hb7 d0
  have d1 := Below.cell_some hb7 d1
  have HWa7 := Lib.hid (SlOwn.below HWa6.out hb7)
  have HWc7 := Lib.hid (SlOwn.below HWc6.out hb7)
  have HX7 := Lib.hid (SlOwn.below HX6.out hb7)
  have IGa : Hid (∀ b, (Value.slice A7 (mkP L l m z).length k7).ownBlock = some b → w6.heap.size ≤ b ∧ b < w7.heap.size) := World.ownsRow.lt ho7
  have HGa7 := Lib.hid ho7
  have IGc : Hid (∀ b, (Value.slice C7 (mkC L l m z).length j7).ownBlock = some b → w6.heap.size ≤ b ∧ b < w7.heap.size) := World.ownsRow.lt hp7
  have HGc7 := Lib.hid hp7
  clear hb7 ho7 hp7
  obtain ⟨w8, hw8⟩ : ∃ W, W = w7.alloc (Obj.cells #[Value.int IntKind.i64 (mkL L l m z), Value.slice A7 (mkP L l m z).length k7, Value.slice C7 (mkC L l m z).length j7] 31) := ⟨_, rfl⟩
  have hb8 : Below w7.heap.size w7 w8 := by rw [hw8]; exact (Below.refl _ _).alloc (Nat.le_refl _) _
  have s8 : w7.heap.size + 1 ≤ w8.heap.size := by rw [hw8]; simp
  have HB8 : Hid (Below w.heap.size w w8) := HB7.out.trans (hb8.mono HB7.out.size)
  have yc0 := alloc_some c0 (Obj.cells #[Value.int IntKind.i64 (mkL L l m z), Value.slice A7 (mkP L l m z).length k7, Value.slice C7 (mkC L l m z).length j7] 31)
  have yc1 := alloc_some c1 (Obj.cells #[Value.int IntKind.i64 (mkL L l m z), Value.slice A7 (mkP L l m z).length k7, Value.slice C7 (mkC L l m z).length j7] 31)
  have ym0 := alloc_some m0 (Obj.cells #[Value.int IntKind.i64 (mkL L l m z), Value.slice A7 (mkP L l m z).length k7, Value.slice C7 (mkC L l m z).length j7] 31)
  have ym1 := alloc_some m1 (Obj.cells #[Value.int IntKind.i64 (mkL L l m z), Value.slice A7 (mkP L l m z).length k7, Value.slice C7 (mkC L l m z).length j7] 31)
  have ym2 := alloc_some m2 (Obj.cells #[Value.int IntKind.i64 (mkL L l m z), Value.slice A7 (mkP L l m z).length k7, Value.slice C7 (mkC L l m z).length j7] 31)
  have yd0 := alloc_some d0 (Obj.cells #[Value.int IntKind.i64 (mkL L l m z), Value.slice A7 (mkP L l m z).length k7, Value.slice C7 (mkC L l m z).length j7] 31)
  have yd1 := alloc_some d1 (Obj.cells #[Value.int IntKind.i64 (mkL L l m z), Value.slice A7 (mkP L l m z).length k7, Value.slice C7 (mkC L l m z).length j7] 31)
  have c0 := Below.cell_some hb8 c0
  have c1 := Below.cell_some hb8 c1
  have m0 := Below.cell_some hb8 m0
  have m1 := Below.cell_some hb8 m1
  have m2 := Below.cell_some hb8 m2
  have d0 := Below.cell_some hb8 d0
  have d1 := Below.cell_some hb8 d1
  have HWa8 := Lib.hid (SlOwn.below HWa7.out hb8)
  have HWc8 := Lib.hid (SlOwn.below HWc7.out hb8)
  have HX8 := Lib.hid (SlOwn.below HX7.out hb8)
  have HGa8 := Lib.hid (SlOwn.below HGa7.out hb8)
  have HGc8 := Lib.hid (SlOwn.below HGc7.out hb8)
  have n0 : w8.cell? ⟨w7.heap.size, 0, none⟩ = some (.int .i64 (mkL L l m z)) := by rw [hw8]; simp [go_sem]
  have n1 : w8.cell? ⟨w7.heap.size, 1, none⟩ = some (.slice A7 (mkP L l m z).length k7) := by rw [hw8]; simp [go_sem]
  have n2 : w8.cell? ⟨w7.heap.size, 2, none⟩ = some (.slice C7 (mkC L l m z).length j7) := by rw [hw8]; simp [go_sem]
  clear hb8
  go_wp2_with fail
  try rw [← hw8]
  clear hw8 yc0 yc1 ym0 ym1 ym2 yd0 yd1
  refine (eqPuzzle_true (mkL L l m z) A7 A3 C7 C3 k7 k3 j7 j3 (mkP L l m z) (mkC L l m z) _ HVB.out HVC.out HGa8.out.sl HWa8.out.sl HGc8.out.sl HWc8.out.sl).mono ?_
  rintro e w9 ⟨rfl, hb9⟩
  have s9 : w8.heap.size ≤ w9.heap.size := hb9.size
  have HB9 : Hid (Below w.heap.size w w9) := HB8.out.trans (hb9.mono HB8.out.size)
  have c0 := Below.cell_some hb9 c0
  have c1 := Below.cell_some hb9 c1
  have m0 := Below.cell_some hb9 m0
  have m1 := Below.cell_some hb9 m1
  have m2 := Below.cell_some hb9 m2
  have d0 := Below.cell_some hb9 d0
  have d1 := Below.cell_some hb9 d1
  have n0 := Below.cell_some hb9 n0
  have n1 := Below.cell_some hb9 n1
  have n2 := Below.cell_some hb9 n2
  have HWa9 := Lib.hid (SlOwn.below HWa8.out hb9)
  have HWc9 := Lib.hid (SlOwn.below HWc8.out hb9)
  have HX9 := Lib.hid (SlOwn.below HX8.out hb9)
  have HGa9 := Lib.hid (SlOwn.below HGa8.out hb9)
  have HGc9 := Lib.hid (SlOwn.below HGc8.out hb9)
  clear hb9
  have HAA := Lib.hid (HA.out.below HB9.out)
  have HXA := Lib.hid (AntsOwn.ants (antsOwn_iff.2 HX9.out))
  go_wp2
  go_region_held3 (fun w' => w'.cell? ⟨w5.heap.size, 0, none⟩ = some (.int .i64 L) ∧ w'.cell? ⟨w5.heap.size, 1, none⟩ = some (.slice A5 l.length k5) ∧ w'.cell? ⟨w.heap.size, 0, none⟩ = some (.int .i64 L) ∧ w'.cell? ⟨w.heap.size, 1, none⟩ = some (.slice A l.length c))
    (first
      | go_keep
      | exact ⟨Below.cell_some hbx d0, Below.cell_some hbx d1, Below.cell_some hbx c0, Below.cell_some hbx c1⟩
      | exact ⟨Below.cell_some hby d0', Below.cell_some hby d1', Below.cell_some hby c0', Below.cell_some hby c1'⟩)
    (first
      | (go_at_call 15; refine (toRod_any L A c l w9.drew h HAA.out).mono ?_; rintro e w10 ⟨A10, k10, rfl, ho10, hbx0⟩; have hbx := below_drew hbx0; clear hbx0; have HYA := Lib.hid ho10.ants; have HXA' := Lib.hid (HXA.out.below hbx); have d0' := Below.cell_some hbx d0; have d1' := Below.cell_some hbx d1; have c0' := Below.cell_some hbx c0; have c1' := Below.cell_some hbx c1)
      | (go_at_call 17; refine (eqRod_true L A5 A10 k5 k10 l _ h HXA'.out HYA.out).mono ?_; rintro e w11 ⟨rfl, hby⟩))
  have hb11 : Below w9.heap.size w9 w11 := hbx.trans (hby.mono hbx.size)
  have HB11 := Lib.hid (HB9.out.trans (hb11.mono HB9.out.size))
  have s11 : w9.heap.size ≤ w11.heap.size := hb11.size
  have c0 := Below.cell_some hb11 c0
  have c1 := Below.cell_some hb11 c1
  have m0 := Below.cell_some hb11 m0
  have m1 := Below.cell_some hb11 m1
  have m2 := Below.cell_some hb11 m2
  have d0 := Below.cell_some hb11 d0
  have d1 := Below.cell_some hb11 d1
  have n0 := Below.cell_some hb11 n0
  have n1 := Below.cell_some hb11 n1
  have n2 := Below.cell_some hb11 n2
  have HWa11 := Lib.hid (SlOwn.below HWa9.out hb11)
  have HWc11 := Lib.hid (SlOwn.below HWc9.out hb11)
  have HX11 := Lib.hid (SlOwn.below HX9.out hb11)
  have HGa11 := Lib.hid (SlOwn.below HGa9.out hb11)
  have HGc11 := Lib.hid (SlOwn.below HGc9.out hb11)
  clear hb11 hbx hby ho10 HYA HXA' HXA d0' d1' c0' c1'
  go_wp2_with fail
  -- marks on the copy
  refine (markRod_any L A5 k5 _ l 1 _ (by omega) (by omega) h (antsOwn_iff.2 HX11.out)).mono ?_
  rintro e w12 ⟨rfl, _, hg12⟩
  have hk12 : Kept w4.heap.size w5.heap.size w11 w12 := Kept.of_grown hg12 IX.out
  have s12 : w11.heap.size ≤ w12.heap.size := hk12.size
  have c0 := hk12.cell (by simp only; omega) c0
  have c1 := hk12.cell (by simp only; omega) c1
  have m0 := hk12.cell (by simp only; omega) m0
  have m1 := hk12.cell (by simp only; omega) m1
  have m2 := hk12.cell (by simp only; omega) m2
  have d0 := hk12.cell (by simp only; omega) d0
  have d1 := hk12.cell (by simp only; omega) d1
  have n0 := hk12.cell (by simp only; omega) n0
  have n1 := hk12.cell (by simp only; omega) n1
  have n2 := hk12.cell (by simp only; omega) n2
  have HB12 : Hid (Below w.heap.size w w12) := HB11.out.trans (hk12.below (by omega) (by omega))
  have HWa12 := Lib.hid (hk12.own HWa11.out (fun b hb => by have := IWa.out b hb; omega))
  have HWc12 := Lib.hid (hk12.own HWc11.out (fun b hb => by have := IWc.out b hb; omega))
  have HGa12 := Lib.hid (hk12.own HGa11.out (fun b hb => by have := IGa.out b hb; omega))
  have HGc12 := Lib.hid (hk12.own HGc11.out (fun b hb => by have := IGc.out b hb; omega))
  have hk9 : ¬ (1 + 2 * (l.length : Int)) < 0 := by omega
  go_wp2_with fail
  refine (eqPuzzle_true (mkL L l m z) A7 A3 C7 C3 k7 k3 j7 j3 (mkP L l m z) (mkC L l m z) _ HVB.out HVC.out HGa12.out.sl HWa12.out.sl HGc12.out.sl HWc12.out.sl).mono ?_
  rintro e w13 ⟨rfl, hb13⟩
  have s13 : w12.heap.size ≤ w13.heap.size := hb13.size
  have HB13 : Hid (Below w.heap.size w w13) := HB12.out.trans (hb13.mono HB12.out.size)
  have c0 := Below.cell_some hb13 c0
  have c1 := Below.cell_some hb13 c1
  have m0 := Below.cell_some hb13 m0
  have m1 := Below.cell_some hb13 m1
  have m2 := Below.cell_some hb13 m2
  have d0 := Below.cell_some hb13 d0
  have d1 := Below.cell_some hb13 d1
  have n0 := Below.cell_some hb13 n0
  have n1 := Below.cell_some hb13 n1
  have n2 := Below.cell_some hb13 n2
  have HWa13 := Lib.hid (SlOwn.below HWa12.out hb13)
  have HWc13 := Lib.hid (SlOwn.below HWc12.out hb13)
  have HGa13 := Lib.hid (SlOwn.below HGa12.out hb13)
  have HGc13 := Lib.hid (SlOwn.below HGc12.out hb13)
  clear hb13
  go_wp2_with fail
  -- marks on the result
  refine (markPuzzle_any (mkL L l m z) A7 C7 k7 j7 _ (w6.heap.size) (w7.heap.size) (mkP L l m z) (mkC L l m z) _ HVB.out HVC.out HGa13.out HGc13.out IGa.out IGc.out (by omega)).mono ?_
  rintro e w14 ⟨rfl, ho14, hp14, hk14⟩
  have s14 : w13.heap.size ≤ w14.heap.size := hk14.size
  have c0 := hk14.cell (by simp only; omega) c0
  have c1 := hk14.cell (by simp only; omega) c1
  have m0 := hk14.cell (by simp only; omega) m0
  have m1 := hk14.cell (by simp only; omega) m1
  have m2 := hk14.cell (by simp only; omega) m2
  have d0 := hk14.cell (by simp only; omega) d0
  have d1 := hk14.cell (by simp only; omega) d1
  have n0 := hk14.cell (by simp only; omega) n0
  have n1 := hk14.cell (by simp only; omega) n1
  have n2 := hk14.cell (by simp only; omega) n2
  have HB14 : Hid (Below w.heap.size w w14) := HB13.out.trans (hk14.below (by omega) (by omega))
  have HWa14 := Lib.hid (hk14.own HWa13.out (fun b hb => by have := IWa.out b hb; omega))
  have HWc14 := Lib.hid (hk14.own HWc13.out (fun b hb => by have := IWc.out b hb; omega))
  have HGa14 := Lib.hid ho14
  have HGc14 := Lib.hid hp14
  have hm1 : ¬ (1 + (((mkP L l m z).length : Nat) : Int) + 3 * (((mkC L l m z).length : Nat) : Int)) < 0 := by have := HVB.out; have := HVC.out; omega
  go_wp2_with fail
  refine (heldPuzzle_any (mkL L l m z) A7 C7 k7 j7 (mkP L l m z).length (mkC L l m z).length _ HVB.out HVC.out HGa14.out.sl HGc14.out.sl).mono ?_
  rintro e w15 ⟨rfl, hb15⟩
  have s15 : w14.heap.size ≤ w15.heap.size := hb15.size
  have HB15 : Hid (Below w.heap.size w w15) := HB14.out.trans (hb15.mono HB14.out.size)
  have c0 := Below.cell_some hb15 c0
  have c1 := Below.cell_some hb15 c1
  have m0 := Below.cell_some hb15 m0
  have m1 := Below.cell_some hb15 m1
  have m2 := Below.cell_some hb15 m2
  have d0 := Below.cell_some hb15 d0
  have d1 := Below.cell_some hb15 d1
  have n0 := Below.cell_some hb15 n0
  have n1 := Below.cell_some hb15 n1
  have n2 := Below.cell_some hb15 n2
  have HWa15 := Lib.hid (SlOwn.below HWa14.out hb15)
  have HWc15 := Lib.hid (SlOwn.below HWc14.out hb15)
  have HGa15 := Lib.hid (SlOwn.below HGa14.out hb15)
  have HGc15 := Lib.hid (SlOwn.below HGc14.out hb15)
  clear hb15
  go_wp2_with fail
  -- once more
  refine (toRod_any L A c l _ h (HA.out.below HB15.out)).mono ?_
  rintro e w16 ⟨A16, k16, rfl, ho16, hb16⟩
  have s16 : w15.heap.size ≤ w16.heap.size := hb16.size
  have HB16 : Hid (Below w.heap.size w w16) := HB15.out.trans (hb16.mono HB15.out.size)
  have c0 := Below.cell_some hb16 c0
  have c1 := Below.cell_some hb16 c1
  have m0 := Below.cell_some hb16 m0
  have m1 := Below.cell_some hb16 m1
  have m2 := Below.cell_some hb16 m2
  have d0 := Below.cell_some hb16 d0
  have d1 := Below.cell_some hb16 d1
  have n0 := Below.cell_some hb16 n0
  have n1 := Below.cell_some hb16 n1
  have n2 := Below.cell_some hb16 n2
  have HWa16 := Lib.hid (SlOwn.below HWa15.out hb16)
  have HWc16 := Lib.hid (SlOwn.below HWc15.out hb16)
  have HGa16 := Lib.hid (SlOwn.below HGa15.out hb16)
  have HGc16 := Lib.hid (SlOwn.below HGc15.out hb16)
  have IZ : Hid (∀ b, (Value.slice A16 l.length k16).ownBlock = some b → w15.heap.size ≤ b ∧ b < w16.heap.size) := World.ownsRow.lt ho16
  have HZ16 := Lib.hid (antsOwn_iff.1 ho16)
  clear hb16 ho16
  go_wp2_with fail
  refine (implMake_any L A16 k16 l m z _ h (AntsOwn.ants (antsOwn_iff.2 HZ16.out))).mono ?_
  rintro e w17 ⟨A17, n17, k17, C17, m17, j17, rfl, hn17, hm17, ho17, hp17, hb17⟩
  subst hn17
  subst hm17
  have s17 : w16.heap.size ≤ w17.heap.size := hb17.size
  have HB17 : Hid (Below w.heap.size w w17) := HB16.out.trans (hb17.mono HB16.out.size)
  have c0 := Below.cell_some hb17 c0
  have c1 := Below.cell_some hb17 c1
  have m0 := Below.cell_some hb17 m0
  have m1 := Below.cell_some hb17 m1
  have m2 := Below.cell_some hb17 m2
  have d0 := Below.cell_some hb17 d0
  have d1 := Below.cell_some hb17 d1
  have n0 := Below.cell_some hb17 n0
  have n1 := Below.cell_some hb17 n1
  have n2 := Below.cell_some hb17 n2
  have HWa17 := Lib.hid (SlOwn.below HWa16.out hb17)
  have HWc17 := Lib.hid (SlOwn.below HWc16.out hb17)
  have HGa17 := Lib.hid (SlOwn.below HGa16.out hb17)
  have HGc17 := Lib.hid (SlOwn.below HGc16.out hb17)
  have HZ17 := Lib.hid (SlOwn.below HZ16.out hb17)
  have INa : Hid (∀ b, (Value.slice A17 (mkP L l m z).length k17).ownBlock = some b → w16.heap.size ≤ b ∧ b < w17.heap.size) := World.ownsRow.lt ho17
  have HNa17 := Lib.hid ho17
  have INc : Hid (∀ b, (Value.slice C17 (mkC L l m z).length j17).ownBlock = some b → w16.heap.size ≤ b ∧ b < w17.heap.size) := World.ownsRow.lt hp17
  have HNc17 := Lib.hid hp17
  clear hb17 ho17 hp17
  obtain ⟨w18, hw18⟩ : ∃ W, W = w17.alloc (Obj.cells #[Value.int IntKind.i64 (mkL L l m z), Value.slice A17 (mkP L l m z).length k17, Value.slice C17 (mkC L l m z).length j17] 31) := ⟨_, rfl⟩
  have hb18 : Below w17.heap.size w17 w18 := by rw [hw18]; exact (Below.refl _ _).alloc (Nat.le_refl _) _
  have s18 : w17.heap.size + 1 ≤ w18.heap.size := by rw [hw18]; simp
  have HB18 : Hid (Below w.heap.size w w18) := HB17.out.trans (hb18.mono HB17.out.size)
  have yc0 := alloc_some c0 (Obj.cells #[Value.int IntKind.i64 (mkL L l m z), Value.slice A17 (mkP L l m z).length k17, Value.slice C17 (mkC L l m z).length j17] 31)
  have yc1 := alloc_some c1 (Obj.cells #[Value.int IntKind.i64 (mkL L l m z), Value.slice A17 (mkP L l m z).length k17, Value.slice C17 (mkC L l m z).length j17] 31)
  have ym0 := alloc_some m0 (Obj.cells #[Value.int IntKind.i64 (mkL L l m z), Value.slice A17 (mkP L l m z).length k17, Value.slice C17 (mkC L l m z).length j17] 31)
  have ym1 := alloc_some m1 (Obj.cells #[Value.int IntKind.i64 (mkL L l m z), Value.slice A17 (mkP L l m z).length k17, Value.slice C17 (mkC L l m z).length j17] 31)
  have ym2 := alloc_some m2 (Obj.cells #[Value.int IntKind.i64 (mkL L l m z), Value.slice A17 (mkP L l m z).length k17, Value.slice C17 (mkC L l m z).length j17] 31)
  have yd0 := alloc_some d0 (Obj.cells #[Value.int IntKind.i64 (mkL L l m z), Value.slice A17 (mkP L l m z).length k17, Value.slice C17 (mkC L l m z).length j17] 31)
  have yd1 := alloc_some d1 (Obj.cells #[Value.int IntKind.i64 (mkL L l m z), Value.slice A17 (mkP L l m z).length k17, Value.slice C17 (mkC L l m z).length j17] 31)
  have yn0 := alloc_some n0 (Obj.cells #[Value.int IntKind.i64 (mkL L l m z), Value.slice A17 (mkP L l m z).length k17, Value.slice C17 (mkC L l m z).length j17] 31)
  have yn1 := alloc_some n1 (Obj.cells #[Value.int IntKind.i64 (mkL L l m z), Value.slice A17 (mkP L l m z).length k17, Value.slice C17 (mkC L l m z).length j17] 31)
  have yn2 := alloc_some n2 (Obj.cells #[Value.int IntKind.i64 (mkL L l m z), Value.slice A17 (mkP L l m z).length k17, Value.slice C17 (mkC L l m z).length j17] 31)
  have c0 := Below.cell_some hb18 c0
  have c1 := Below.cell_some hb18 c1
  have m0 := Below.cell_some hb18 m0
  have m1 := Below.cell_some hb18 m1
  have m2 := Below.cell_some hb18 m2
  have d0 := Below.cell_some hb18 d0
  have d1 := Below.cell_some hb18 d1
  have n0 := Below.cell_some hb18 n0
  have n1 := Below.cell_some hb18 n1
  have n2 := Below.cell_some hb18 n2
  have HWa18 := Lib.hid (SlOwn.below HWa17.out hb18)
  have HWc18 := Lib.hid (SlOwn.below HWc17.out hb18)
  have HGa18 := Lib.hid (SlOwn.below HGa17.out hb18)
  have HGc18 := Lib.hid (SlOwn.below HGc17.out hb18)
  have HZ18 := Lib.hid (SlOwn.below HZ17.out hb18)
  have HNa18 := Lib.hid (SlOwn.below HNa17.out hb18)
  have HNc18 := Lib.hid (SlOwn.below HNc17.out hb18)
  have r0 : w18.cell? ⟨w17.heap.size, 0, none⟩ = some (.int .i64 (mkL L l m z)) := by rw [hw18]; simp [go_sem]
  have r1 : w18.cell? ⟨w17.heap.size, 1, none⟩ = some (.slice A17 (mkP L l m z).length k17) := by rw [hw18]; simp [go_sem]
  have r2 : w18.cell? ⟨w17.heap.size, 2, none⟩ = some (.slice C17 (mkC L l m z).length j17) := by rw [hw18]; simp [go_sem]
  clear hb18
  go_wp2_with fail
  try rw [← hw18]
  clear hw18 yc0 yc1 ym0 ym1 ym2 yd0 yd1 yn0 yn1 yn2
  refine (eqPuzzle_true (mkL L l m z) A17 A3 C17 C3 k17 k3 j17 j3 (mkP L l m z) (mkC L l m z) _ HVB.out HVC.out HNa18.out.sl HWa18.out.sl HNc18.out.sl HWc18.out.sl).mono ?_
  rintro e w19 ⟨rfl, hb19⟩
  have s19 : w18.heap.size ≤ w19.heap.size := hb19.size
  have HB19 : Hid (Below w.heap.size w w19) := HB18.out.trans (hb19.mono HB18.out.size)
  have c0 := Below.cell_some hb19 c0
  have c1 := Below.cell_some hb19 c1
  have m0 := Below.cell_some hb19 m0
  have m1 := Below.cell_some hb19 m1
  have m2 := Below.cell_some hb19 m2
  have d0 := Below.cell_some hb19 d0
  have d1 := Below.cell_some hb19 d1
  have n0 := Below.cell_some hb19 n0
  have n1 := Below.cell_some hb19 n1
  have n2 := Below.cell_some hb19 n2
  have r0 := Below.cell_some hb19 r0
  have r1 := Below.cell_some hb19 r1
  have r2 := Below.cell_some hb19 r2
  have HWa19 := Lib.hid (SlOwn.below HWa18.out hb19)
  have HWc19 := Lib.hid (SlOwn.below HWc18.out hb19)
  have HGa19 := Lib.hid (SlOwn.below HGa18.out hb19)
  have HGc19 := Lib.hid (SlOwn.below HGc18.out hb19)
  have HZ19 := Lib.hid (SlOwn.below HZ18.out hb19)
  have HNa19 := Lib.hid (SlOwn.below HNa18.out hb19)
  have HNc19 := Lib.hid (SlOwn.below HNc18.out hb19)
  clear hb19
  go_wp2_with fail
  refine (heldPuzzle_any (mkL L l m z) A7 C7 k7 j7 (mkP L l m z).length (mkC L l m z).length _ HVB.out HVC.out HGa19.out.sl HGc19.out.sl).mono ?_
  rintro e w20 ⟨rfl, hb20⟩
  have s20 : w19.heap.size ≤ w20.heap.size := hb20.size
  have HB20 : Hid (Below w.heap.size w w20) := HB19.out.trans (hb20.mono HB19.out.size)
  have c0 := Below.cell_some hb20 c0
  have c1 := Below.cell_some hb20 c1
  have m0 := Below.cell_some hb20 m0
  have m1 := Below.cell_some hb20 m1
  have m2 := Below.cell_some hb20 m2
  have d0 := Below.cell_some hb20 d0
  have d1 := Below.cell_some hb20 d1
  have n0 := Below.cell_some hb20 n0
  have n1 := Below.cell_some hb20 n1
  have n2 := Below.cell_some hb20 n2
  have r0 := Below.cell_some hb20 r0
  have r1 := Below.cell_some hb20 r1
  have r2 := Below.cell_some hb20 r2
  have HWa20 := Lib.hid (SlOwn.below HWa19.out hb20)
  have HWc20 := Lib.hid (SlOwn.below HWc19.out hb20)
  have HGa20 := Lib.hid (SlOwn.below HGa19.out hb20)
  have HGc20 := Lib.hid (SlOwn.below HGc19.out hb20)
  have HZ20 := Lib.hid (SlOwn.below HZ19.out hb20)
  have HNa20 := Lib.hid (SlOwn.below HNa19.out hb20)
  have HNc20 := Lib.hid (SlOwn.below HNc19.out hb20)
  clear hb20
  go_wp2
  go_ret
  exact ⟨ret_bool rfl, HB20.out⟩

theorem law (L : Int) (A : Option Addr) (c : Nat) (l : List (Int × Int)) (m : Int) (z : Int) (w : World) (hm : (Lit.int .i64 m).wf = true) (hz : (Lit.int .i64 z).wf = true) (hn : (l.length : Int) ≤ 9223372036854775807) (hA : AntsAt w A l) :
    Calls Try.prog 4 #[.agg #[.int .i64 L, .slice A l.length c], .int .i64 m, .int .i64 z] w fun e w' => e = .returned (.bool true) ∧ Below w.heap.size w w' := by
  by_cases h : (l.length : Int) ≤ 1048576
  · exact fits L A c l m z w hm hz h hA
  · exact big L A c l m z w hn (by omega)

set_option maxRecDepth 100000 in
theorem lifted (os : Os) (started : os.Started) (H : Type) (enc : TypeId × Value → H) :
    ReturnsInHanded {} Try.checked os 4 .any (Rows.fnExactMakePuzzleSpec.pre6 enc Try.prog Try.f4 Rows.fnExactMakePuzzleRow.domain false) (Rows.fnExactMakePuzzleSpec.post enc Try.prog Try.f4 false true false false) := by
  refine returnsInHanded_of_change (C := Try.checked) own started (by kernel_rfl) Try.func4
    (ChangeSpec.witness6 (enc := enc) (C := Try.checked) false ⟨#[], #[.agg #[.int .i64 0, .slice none 0 0], .int .i64 0, .int .i64 0], []⟩ 8 (by kernel_rfl) (by kernel_rfl) (by kernel_rfl) (by kernel_rfl)) ?_
  intro W base args ds gs before hval0 hW hcnd _
  have hval : ∀ (j : Nat) t v, Try.f4.params[j]? = some t → args[j]? = some v → Value.okWide Try.prog W .any base t v := hval0
  have hW' := hW
  obtain ⟨p, q, hA0, hV, rfl, hfz, hnd⟩ := hW
  have hA : DataW.TrodAll enc Try.prog W 0 (fun _ => true) true Try.f4.params.toList args.toList ds p := hA0
  rw [Try.params4] at hA hval
  obtain ⟨v0, vs0, d0, ds0, p0, q0, hargs, rfl, rfl, h0, r0⟩ := trodAll_cons hA
  obtain ⟨v1, vs1, d1, ds1, p1, q1, rfl, rfl, rfl, h1, r1⟩ := trodAll_cons r0
  obtain ⟨v2, vs2, d2, ds2, p2, q2, rfl, rfl, rfl, h2, r2⟩ := trodAll_cons r1
  obtain ⟨rfl, rfl, rfl⟩ := trodAll_nil r2
  obtain rfl : args = #[v0, v1, v2] := by cases args; simp_all
  obtain ⟨rfl, rfl⟩ := trodVars_none hV
  have k0 := h0
  have lt0 : ∀ x ∈ p0, x.block < W.heap.size := by obtain ⟨m, hm⟩ := k0; exact DataW.trod_lt m _ _ _ hm
  obtain ⟨L, A, c, l, rfl, hAt, hlen⟩ := open_rod (hval 0 42 v0 rfl rfl) h0
  obtain ⟨m, rfl, rfl, rfl, w1⟩ := open_int Try.underlying3 (hval 1 3 v1 rfl rfl) h1
  obtain ⟨z, rfl, rfl, rfl, w2⟩ := open_int Try.underlying3 (hval 2 3 v2 rfl rfl) h2
  clear hA0 hval0
  refine (law L A c l m z W w1 w2 hlen hAt).mono fun e W' ⟨he, bel⟩ => ?_
  subst he
  exact ⟨_, rfl, _, _, _, [], _, [], hW', trodAll_mk1 (shut_bool Try.underlying4 _), (trodAll_cons_mk (Below.trod laidOut (by kernel_rfl) (of_decide_eq_true (by kernel_rfl)) k0 bel lt0) (trodAll_cons_mk (shut_int Try.underlying3 w1) (trodAll_cons_mk (shut_int Try.underlying3 w2) trodAll_mk0))), rfl, bel.frame _, fun h => by cases h⟩

theorem closed : joinedFacts Try.prog 4 Try.f4 Rows.fnExactMakePuzzleSpec Rows.fnExactMakePuzzleRow = true := by
  unfold joinedFacts
  repeat' with_reducible refine and_t ?_ ?_
  · kernel_rfl
  · kernel_rfl
  · kernel_rfl
  · kernel_rfl
  · kernel_rfl
  · kernel_rfl
  · kernel_rfl
  · kernel_rfl
  · kernel_rfl
  · kernel_rfl
  · kernel_rfl
  · kernel_rfl
  · kernel_rfl
  · kernel_rfl
  · kernel_rfl
  · kernel_rfl
  · kernel_rfl
  · kernel_rfl
  · kernel_rfl
  · kernel_rfl
  · kernel_rfl
  · kernel_rfl
  · kernel_rfl
  · kernel_rfl
  · kernel_rfl
  · exact factMayEnter
  · exact factLifts
  · exact factMake
  · kernel_rfl
  · kernel_rfl
  · kernel_rfl
  · kernel_rfl

theorem over : Rows.fnExactMakePuzzleRow.holds Try.pinned (OpenSpec.ofChange Rows.fnExactMakePuzzleSpec) :=
  OpenClaim.holds_of_wide 4 Try.f4 rfl rfl rfl rfl rfl rfl rfl ⟨rfl, rfl, rfl, rfl, rfl⟩ rfl rfl rfl rfl rfl (by kernel_rfl) Try.func4 closed
    (of_decide_eq_true (by kernel_rfl)) (by unfold Func.isWrapper; first | (rw [if_pos (by decide +kernel)]; kernel_rfl) | (rw [if_neg (by decide +kernel)]; exact ⟨rfl, rfl⟩))
    (fun os started H enc _ => lifted os started H enc)

/-- the statement -/
theorem proved : Rows.FnExactMakePuzzleSaid := over
#print axioms proved

end Go.Proofs.Ytenpmjinbjlpbaa.lMakePuzzle
