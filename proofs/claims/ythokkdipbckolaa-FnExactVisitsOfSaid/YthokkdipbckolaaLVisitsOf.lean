/- The law FnExactVisitsOf returns true at every input, and leaves its arguments as they were. No condition. -/
import Derived.Test.YthokkdipbckolaaRows
import Derived.Test.YthokkdipbckolaaOpen
import Derived.Test.YthokkdipbckolaaFactA
import Derived.Test.YthokkdipbckolaaFactB
import Derived.Test.YthokkdipbckolaaFactC
import Derived.Test.YthokkdipbckolaaBoxV
import Derived.Test.YthokkdipbckolaaHelp
import Derived.Deep.RegionHeld3
namespace Go.Proofs.Ythokkdipbckolaa.lVisitsOf
open Go.RowKit
open Go.ChangeShapes Go.WideShapes Go.ChangeAt
set_option linter.unusedVariables false

set_option maxHeartbeats 1000000 in
theorem big (L : Int) (A : Option Addr) (c : Nat) (l : List (Int × Int)) (p : Int) (w : World) (hn : (l.length : Int) ≤ 9223372036854775807) (h : (1048576 : Int) < l.length) :
    Calls Try.prog 10 #[.agg #[.int .i64 L, .slice A l.length c], .int .i64 p] w fun e w' => e = .returned (.bool true) ∧ Below w.heap.size w w' := by
  have H : Hid (∀ w, Calls Try.prog 12 #[.agg #[.int .i64 L, .slice A l.length c], .int .i64 1048576] w fun e w' => e = .returned (.int .i64 (-1)) ∧ Below w.heap.size w w') :=
    fun w => szRod_big L A l.length c 1048576 w (by omega) (by omega) hn h
  clear h hn
  go_enter Try.func10, Try.ntmps10
  go_wp2_with fail
  refine (H.out _).mono ?_
  rintro e w1 ⟨rfl, hb⟩
  go_wp2
  go_ret
  exact ⟨ret_bool rfl, ((Below.refl _ _).alloc (Nat.le_refl _) _).trans (hb.mono (by simp))⟩

set_option maxHeartbeats 1000000 in
theorem fits (L : Int) (A : Option Addr) (c : Nat) (l : List (Int × Int)) (p : Int) (w : World) (hp : (Lit.int .i64 p).wf = true) (h : (l.length : Int) ≤ 1048576) (hA : AntsAt w A l) :
    Calls Try.prog 10 #[.agg #[.int .i64 L, .slice A l.length c], .int .i64 p] w fun e w' => e = .returned (.bool true) ∧ Below w.heap.size w w' := by
  have H : Hid (∀ w, Calls Try.prog 12 #[.agg #[.int .i64 L, .slice A l.length c], .int .i64 1048576] w fun e w' => e = .returned (.int .i64 (1048576 - l.length)) ∧ Below w.heap.size w w') :=
    fun w => szRod_fits L A l.length c 1048576 w (by omega) (by omega) (by omega) (by omega)
  have hz : ¬ (1048576 - (l.length : Int)) < 0 := by omega
  have HA := Lib.hid hA
  clear hA
  go_enter Try.func10, Try.ntmps10
  go_wp2_with fail
  refine (H.out _).mono ?_
  rintro e w1 ⟨rfl, hb1⟩
  have HB1 := Lib.hid (((Below.refl _ w).alloc (Nat.le_refl _) _).trans (hb1.mono (by simp)))
  have s1 : w.heap.size < w1.heap.size := by have := hb1.size; simp at this; omega
  have c0 : w1.cell? ⟨w.heap.size, 0, none⟩ = some (.int .i64 L) := by rw [hb1.cell (p := ⟨w.heap.size, 0, none⟩) (by simp)]; simp
  have c1 : w1.cell? ⟨w.heap.size, 1, none⟩ = some (.slice A l.length c) := by rw [hb1.cell (p := ⟨w.heap.size, 1, none⟩) (by simp)]; simp
  clear hb1
  go_wp2_with fail
  -- the copy for the model
  refine (toRod_any L A c l _ h (HA.out.below HB1.out)).mono ?_
  rintro e w2 ⟨A2, k2, rfl, ho2, hb2⟩
  have HB2 := Lib.hid (HB1.out.trans (hb2.mono HB1.out.size))
  have HA2 := Lib.hid (ho2.ants)
  have c0 := Below.cell_some hb2 c0
  have c1 := Below.cell_some hb2 c1
  have s2 : w.heap.size < w2.heap.size := by have := hb2.size; omega
  clear hb2 ho2
  go_wp2_with fail
  -- the model
  refine (specVisitsOf_any L A2 k2 l p _ HA2.out).mono ?_
  rintro e w3 ⟨rfl, hb3⟩
  have HB3 := Lib.hid (HB2.out.trans (hb3.mono HB2.out.size))
  have c0 := Below.cell_some hb3 c0
  have c1 := Below.cell_some hb3 c1
  have s3 : w.heap.size < w3.heap.size := by have := hb3.size; omega
  clear hb3
  go_wp2_with fail
  -- the copy for the program
  refine (toRod_any L A c l _ h (HA.out.below HB3.out)).mono ?_
  rintro e w4 ⟨A4, k4, rfl, ho4, hb4⟩
  have HB4 := Lib.hid (HB3.out.trans (hb4.mono HB3.out.size))
  have c0 := Below.cell_some hb4 c0
  have c1 := Below.cell_some hb4 c1
  have s4 : w.heap.size < w4.heap.size := by have := hb4.size; omega
  have HA4 := Lib.hid (ho4.ants)
  clear hb4 ho4
  go_wp2_with fail
  -- the program
  refine (implVisitsOf_any L A4 k4 l p _ (HA4.out.alloc _)).mono ?_
  rintro e w5 ⟨rfl, hb5⟩
  have HB5 := Lib.hid (HB4.out.trans (((Below.refl _ _).alloc (Nat.le_refl _) _).trans (hb5.mono (by simp)) |>.mono HB4.out.size))
  have s5 : w4.heap.size < w5.heap.size := by have := hb5.size; simp at this; omega
  have c0 := Below.cell_some hb5 (alloc_some c0 _)
  have c1 := Below.cell_some hb5 (alloc_some c1 _)
  have d0 : w5.cell? ⟨w4.heap.size, 0, none⟩ = some (.int .i64 L) := by rw [hb5.cell (p := ⟨w4.heap.size, 0, none⟩) (by simp)]; simp
  have d1 : w5.cell? ⟨w4.heap.size, 1, none⟩ = some (.slice A4 l.length k4) := by rw [hb5.cell (p := ⟨w4.heap.size, 1, none⟩) (by simp)]; simp
  have HA5 := Lib.hid ((HA4.out.alloc _).below hb5)
  have HAA5 := Lib.hid (HA.out.below HB5.out)
  clear hb5
  go_wp2
  go_region_held3 (fun w' => w'.cell? ⟨w4.heap.size, 0, none⟩ = some (.int .i64 L) ∧ w'.cell? ⟨w4.heap.size, 1, none⟩ = some (.slice A4 l.length k4) ∧ w'.cell? ⟨w.heap.size, 0, none⟩ = some (.int .i64 L) ∧ w'.cell? ⟨w.heap.size, 1, none⟩ = some (.slice A l.length c))
    (first
      | go_keep
      | exact ⟨Below.cell_some hbx d0, Below.cell_some hbx d1, Below.cell_some hbx c0, Below.cell_some hbx c1⟩
      | exact ⟨Below.cell_some hby d0', Below.cell_some hby d1', Below.cell_some hby c0', Below.cell_some hby c1'⟩)
    (first
      | (go_at_call 14; refine (toRod_any L A c l w5.drew h HAA5.out).mono ?_; rintro e w6 ⟨A6, k6, rfl, ho6, hbx0⟩; have hbx := below_drew hbx0; clear hbx0; have HA6 := Lib.hid ho6.ants; have HX5 := Lib.hid (HA5.out.below hbx); have d0' := Below.cell_some hbx d0; have d1' := Below.cell_some hbx d1; have c0' := Below.cell_some hbx c0; have c1' := Below.cell_some hbx c1)
      | (go_at_call 16; refine (eqRod_true L A4 A6 k4 k6 l _ h HX5.out HA6.out).mono ?_; rintro e w7 ⟨rfl, hby⟩))
  go_wp2
  go_ret
  exact ⟨ret_bool rfl, (HB5.out.trans (hbx.mono HB5.out.size)).trans (hby.mono (by have := hbx.size; have := HB5.out.size; omega))⟩

theorem law (L : Int) (A : Option Addr) (c : Nat) (l : List (Int × Int)) (p : Int) (w : World) (hp : (Lit.int .i64 p).wf = true) (hn : (l.length : Int) ≤ 9223372036854775807) (hA : AntsAt w A l) :
    Calls Try.prog 10 #[.agg #[.int .i64 L, .slice A l.length c], .int .i64 p] w fun e w' => e = .returned (.bool true) ∧ Below w.heap.size w w' := by
  by_cases h : (l.length : Int) ≤ 1048576
  · exact fits L A c l p w hp h hA
  · exact big L A c l p w hn (by omega)

set_option maxRecDepth 100000 in
theorem lifted (os : Os) (started : os.Started) (H : Type) (enc : TypeId × Value → H) :
    ReturnsInHanded {} Try.checked os 10 .any (Rows.fnExactVisitsOfSpec.pre6 enc Try.prog Try.f10 Rows.fnExactVisitsOfRow.domain false) (Rows.fnExactVisitsOfSpec.post enc Try.prog Try.f10 false true false false) := by
  refine returnsInHanded_of_change (C := Try.checked) own started (by kernel_rfl) Try.func10
    (ChangeSpec.witness6 (enc := enc) (C := Try.checked) false ⟨#[], #[.agg #[.int .i64 0, .slice none 0 0], .int .i64 0], []⟩ 8 (by kernel_rfl) (by kernel_rfl) (by kernel_rfl) (by kernel_rfl)) ?_
  intro W base args ds gs before hval0 hW hcnd _
  have hval : ∀ (j : Nat) t v, Try.f10.params[j]? = some t → args[j]? = some v → Value.okWide Try.prog W .any base t v := hval0
  have hW' := hW
  obtain ⟨p, q, hA0, hV, rfl, hfz, hnd⟩ := hW
  have hA : DataW.TrodAll enc Try.prog W 0 (fun _ => true) true Try.f10.params.toList args.toList ds p := hA0
  rw [Try.params10] at hA hval
  obtain ⟨v0, vs0, d0, ds0, p0, q0, hargs, rfl, rfl, h0, r0⟩ := trodAll_cons hA
  obtain ⟨v1, vs1, d1, ds1, p1, q1, rfl, rfl, rfl, h1, r1⟩ := trodAll_cons r0
  obtain ⟨rfl, rfl, rfl⟩ := trodAll_nil r1
  obtain rfl : args = #[v0, v1] := by cases args; simp_all
  obtain ⟨rfl, rfl⟩ := trodVars_none hV
  have k0 := h0
  have lt0 : ∀ x ∈ p0, x.block < W.heap.size := by obtain ⟨m, hm⟩ := k0; exact DataW.trod_lt m _ _ _ hm
  obtain ⟨L, A, c, l, rfl, hAt, hlen⟩ := open_rod (hval 0 24 v0 rfl rfl) h0
  obtain ⟨p, rfl, rfl, rfl, w1⟩ := open_int Try.underlying3 (hval 1 3 v1 rfl rfl) h1
  clear hA0 hval0
  refine (law L A c l p W w1 hlen hAt).mono fun e W' ⟨he, bel⟩ => ?_
  subst he
  exact ⟨_, rfl, _, _, _, [], _, [], hW', trodAll_mk1 (shut_bool Try.underlying4 _), (trodAll_cons_mk (Below.trod laidOut (by kernel_rfl) (of_decide_eq_true (by kernel_rfl)) k0 bel lt0) (trodAll_cons_mk (shut_int Try.underlying3 w1) trodAll_mk0)), rfl, bel.frame _, fun h => by cases h⟩

theorem closed : joinedFacts Try.prog 10 Try.f10 Rows.fnExactVisitsOfSpec Rows.fnExactVisitsOfRow = true := by
  unfold joinedFacts
  repeat' with_reducible refine and_t ?_ ?_
  · kernel_rfl
  · kernel_rfl
  · kernel_rfl
  · kernel_rfl
  · kernel_rfl
  · kernel_rfl
  · kernel_rfl
  · kernel_rfl
  · kernel_rfl
  · kernel_rfl
  · kernel_rfl
  · kernel_rfl
  · kernel_rfl
  · kernel_rfl
  · kernel_rfl
  · kernel_rfl
  · kernel_rfl
  · kernel_rfl
  · kernel_rfl
  · kernel_rfl
  · kernel_rfl
  · kernel_rfl
  · kernel_rfl
  · kernel_rfl
  · kernel_rfl
  · exact factMayEnter
  · exact factLifts
  · exact factMake
  · kernel_rfl
  · kernel_rfl
  · kernel_rfl
  · kernel_rfl

theorem over : Rows.fnExactVisitsOfRow.holds Try.pinned (OpenSpec.ofChange Rows.fnExactVisitsOfSpec) :=
  OpenClaim.holds_of_wide 10 Try.f10 rfl rfl rfl rfl rfl rfl rfl ⟨rfl, rfl, rfl, rfl, rfl⟩ rfl rfl rfl rfl rfl (by kernel_rfl) Try.func10 closed
    (of_decide_eq_true (by kernel_rfl)) (by unfold Func.isWrapper; first | (rw [if_pos (by decide +kernel)]; kernel_rfl) | (rw [if_neg (by decide +kernel)]; exact ⟨rfl, rfl⟩))
    (fun os started H enc _ => lifted os started H enc)

/-- the statement -/
theorem proved : Rows.FnExactVisitsOfSaid := over
#print axioms proved

end Go.Proofs.Ythokkdipbckolaa.lVisitsOf
