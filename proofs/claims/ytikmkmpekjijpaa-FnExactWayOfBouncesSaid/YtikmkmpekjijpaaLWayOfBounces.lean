/- The law FnExactWayOfBounces returns true at every input, and leaves its arguments as they were. No condition. -/
import Derived.Test.YtikmkmpekjijpaaRows
import Derived.Test.YtikmkmpekjijpaaOpenP
import Derived.Test.YtikmkmpekjijpaaFactA
import Derived.Test.YtikmkmpekjijpaaFactB
import Derived.Test.YtikmkmpekjijpaaFactC
import Derived.Test.YtikmkmpekjijpaaHelpP
import Derived.Test.YtikmkmpekjijpaaBalG
import Derived.Deep.RegionHeld3
import Derived.Deep.CutRange
import Derived.Test.YtikmkmpekjijpaaBalI
import Derived.Test.YtikmkmpekjijpaaPaV
namespace Go.Proofs.Ytikmkmpekjijpaa.lWayOfBounces
open Go.RowKit
open Go.ChangeShapes Go.WideShapes Go.ChangeAt
set_option linter.unusedVariables false

/-- the arguments lie in their boxes -/
def RLb (w : World) (u1 u2 : Int) (W : World) : Prop := PC (w.heap.size) (u1, u2) W ∧ Below w.heap.size w W
section
variable {w : World} {u1 u2 : Int} {W W' : World}
theorem RL_bw (h : RLb w u1 u2 W) (hb : Below W.heap.size W W') : RLb w u1 u2 W' := ⟨h.1.below hb, h.2.trans (hb.mono h.2.size)⟩
theorem RL_al (h : RLb w u1 u2 W) (o : Obj) : RLb w u1 u2 (W.alloc o) := RL_bw h ((Below.refl _ _).alloc (Nat.le_refl _) _)
theorem RL_st (h : RLb w u1 u2 W) {b : Nat} (z1 z2 : Value) (hb : w.heap.size + 1 ≤ b) : RLb w u1 u2 ((W.setCell ⟨b, 0, none⟩ z1).setCell ⟨b, 1, none⟩ z2) :=
  ⟨(h.1.far (by omega) _ _).far (by omega) _ _, (h.2.setCell (show w.heap.size ≤ b by omega) _).setCell (show w.heap.size ≤ b by omega) _⟩
end
theorem cell_st2 {W : World} {b g i : Nat} {v z1 z2 : Value} (h : W.cell? ⟨g, i, none⟩ = some v) (hne : b ≠ g) : ((W.setCell ⟨b, 0, none⟩ z1).setCell ⟨b, 1, none⟩ z2).cell? ⟨g, i, none⟩ = some v := by
  rw [← h]; simp [go_sem]
theorem pc_far2 {W : World} {b g : Nat} {x : Int × Int} {z1 z2 : Value} (h : PC g x W) (hne : b ≠ g) : PC g x ((W.setCell ⟨b, 0, none⟩ z1).setCell ⟨b, 1, none⟩ z2) := (h.far hne _ _).far hne _ _
theorem pc_new (W : World) (g : Nat) (z1 z2 : Value) (a b : Int) (e : TypeId) : PC W.heap.size (a, b) (((W.setCell ⟨g, 0, none⟩ z1).setCell ⟨g, 1, none⟩ z2).alloc (Obj.cells #[Value.int IntKind.i64 a, Value.int IntKind.i64 b] e)) := by
  have := PC.start ((W.setCell ⟨g, 0, none⟩ z1).setCell ⟨g, 1, none⟩ z2) a b e
  simpa [World.setCell] using this
theorem bz_al2 {B : Nat} {w W : World} (h : Below B w W) (hB : B ≤ W.heap.size) (o1 o2 : Obj) : Below B w ((W.alloc o1).alloc o2) := (h.alloc hB o1).alloc (by simp; omega) o2
theorem bz_via2 {B : Nat} {w W W' : World} {o1 o2 : Obj} (h : Below B w W) (hB : B ≤ W.heap.size) (hb : Below ((W.alloc o1).alloc o2).heap.size ((W.alloc o1).alloc o2) W') : Below B w W' := (bz_al2 h hB o1 o2).trans (hb.mono (by simp; omega))
theorem bz_st {B : Nat} {w W : World} (h : Below B w W) (hB : B ≤ W.heap.size) {b : Nat} (z1 z2 : Value) (hb : B ≤ b) : Below B w ((W.setCell ⟨b, 0, none⟩ z1).setCell ⟨b, 1, none⟩ z2) := (h.setCell hb _).setCell hb _

set_option maxRecDepth 100000 in
set_option maxHeartbeats 8000000 in
theorem law (m u1 u2 : Int) (w : World) :
    Calls Try.prog 17 #[.agg #[.int .i64 u1, .int .i64 u2], .int .i64 m] w fun e w' => e = .returned (.bool true) ∧ Below w.heap.size w w' := by
  have HT0 := Lib.hid (toPace_any u1 u2)
  have HS := Lib.hid (fun w => specWayOfBounces_any (u1, u2) m w)
  have HI := Lib.hid (fun w => implWayOfBounces_any (u1, u2) m w)
  generalize waOk (u1, u2) m = r at *
  generalize waV (u1, u2) m = X at *
  obtain ⟨x1, x2⟩ := X
  simp only at HS HI
  have HQ : Hid (RLb w u1 u2 (w.alloc (Obj.cells #[Value.int IntKind.i64 u1, Value.int IntKind.i64 u2] 23))) := ⟨PC.start w u1 u2 _, (Below.refl _ _).alloc (Nat.le_refl _) _⟩
  obtain ⟨_, c0, c1, _, _⟩ := (HQ.out.1).parts
  simp only at c0 c1
  go_enter Try.func17, Try.ntmps17
  go_wp2_with fail
  refine (HT0.out _).mono ?_
  rintro e p1 ⟨rfl, hb⟩
  have HQ := Lib.hid (RL_bw HQ.out hb)
  clear hb
  obtain ⟨_, c0, c1, _, _⟩ := (HQ.out.1).parts
  simp only at c0 c1
  go_wp2_with fail
  refine (HS.out _).mono ?_
  rintro e p2 ⟨rfl, hb⟩
  have HQ := Lib.hid (RL_al (RL_bw HQ.out hb) (Obj.cells #[Value.int IntKind.i64 x1, Value.int IntKind.i64 x2] 25))
  have HX := Lib.hid (PC.start p2 x1 x2 25)
  clear hb
  obtain ⟨_, c0, c1, _, _⟩ := (HQ.out.1).parts
  obtain ⟨_, a0, a1, _, _⟩ := HX.out.parts
  simp only at c0 c1 a0 a1
  go_wp2_with fail
  refine (HT0.out _).mono ?_
  rintro e q1 ⟨rfl, hb⟩
  have HQ := Lib.hid (RL_bw HQ.out hb)
  have HX := Lib.hid (HX.out.below hb)
  clear hb
  obtain ⟨_, c0, c1, _, _⟩ := (HQ.out.1).parts
  simp only at c0 c1
  go_wp2_with fail
  refine (HI.out _).mono ?_
  rintro e q2 ⟨rfl, hb⟩
  have HQ := Lib.hid (RL_al (RL_bw HQ.out hb) (Obj.cells #[Value.int IntKind.i64 x1, Value.int IntKind.i64 x2] 25))
  have HX := Lib.hid ((HX.out.below hb).grow (Obj.cells #[Value.int IntKind.i64 x1, Value.int IntKind.i64 x2] 25))
  have HX2 := Lib.hid (PC.start q2 x1 x2 25)
  clear hb
  obtain ⟨_, c0, c1, _, _⟩ := (HQ.out.1).parts
  obtain ⟨_, a0, a1, _, _⟩ := HX.out.parts
  simp only at c0 c1 a0 a1
  obtain ⟨_, b0, b1, _, _⟩ := HX2.out.parts
  simp only at b0 b1
  have HE1 := Lib.hid (eqPace_at x1 x2 x1 x2 true (by simp))
  go_wp2_with fail
  refine (HE1.out _).mono ?_
  rintro e y1' ⟨rfl, hb⟩
  have HB1 := Lib.hid (HQ.out.2.trans (hb.mono HQ.out.2.size))
  clear hb
  go_wp2
  go_ret
  exact ⟨ret_bool rfl, HB1.out⟩

set_option maxRecDepth 100000 in
theorem lifted (os : Os) (started : os.Started) (H : Type) (enc : TypeId × Value → H) :
    ReturnsInHanded {} Try.checked os 17 .any (Rows.fnExactWayOfBouncesSpec.pre6 enc Try.prog Try.f17 Rows.fnExactWayOfBouncesRow.domain false) (Rows.fnExactWayOfBouncesSpec.post enc Try.prog Try.f17 false true false false) := by
  refine returnsInHanded_of_change (C := Try.checked) own started (by kernel_rfl) Try.func17
    (ChangeSpec.witness6 (enc := enc) (C := Try.checked) false ⟨#[], #[.agg #[.int .i64 0, .int .i64 0], .int .i64 0], []⟩ 8 (by kernel_rfl) (by kernel_rfl) (by kernel_rfl) (by kernel_rfl)) ?_
  intro W base args ds gs before hval0 hW hcnd _
  have hval : ∀ (j : Nat) t v, Try.f17.params[j]? = some t → args[j]? = some v → Value.okWide Try.prog W .any base t v := hval0
  have hW' := hW
  obtain ⟨p, q, hA0, hV, rfl, hfz, hnd⟩ := hW
  have hA : DataW.TrodAll enc Try.prog W 0 (fun _ => true) true Try.f17.params.toList args.toList ds p := hA0
  rw [Try.params17] at hA hval
  obtain ⟨v0, vs0, d0, ds0, p0, q0, hargs, rfl, rfl, h0, r0⟩ := trodAll_cons hA
  obtain ⟨v1, vs1, d1, ds1, p1, q1, rfl, rfl, rfl, h1, r1⟩ := trodAll_cons r0
  obtain ⟨rfl, rfl, rfl⟩ := trodAll_nil r1
  obtain rfl : args = #[v0, v1] := by cases args; simp_all
  obtain ⟨rfl, rfl⟩ := trodVars_none hV
  have k0 := h0
  have lt0 : ∀ x ∈ p0, x.block < W.heap.size := by obtain ⟨m, hm⟩ := k0; exact DataW.trod_lt m _ _ _ hm
  obtain ⟨a0, y0, rfl⟩ := open_pace (hval 0 23 v0 rfl rfl) h0
  obtain ⟨i1, rfl, rfl, rfl, hi1⟩ := open_int Try.underlying3 (hval 1 3 v1 rfl rfl) h1
  clear hA0 hval0
  refine (law i1 a0 y0 W).mono fun e W' ⟨he, bel⟩ => ?_
  subst he
  exact ⟨_, rfl, _, _, _, [], _, [], hW', trodAll_mk1 (shut_bool Try.underlying4 _), (trodAll_cons_mk (Below.trod laidOut (by kernel_rfl) (of_decide_eq_true (by kernel_rfl)) k0 bel lt0) (trodAll_cons_mk (shut_int Try.underlying3 hi1) trodAll_mk0)), rfl, bel.frame _, fun h => by cases h⟩

theorem closed : joinedFacts Try.prog 17 Try.f17 Rows.fnExactWayOfBouncesSpec Rows.fnExactWayOfBouncesRow = true := by
  unfold joinedFacts
  repeat' with_reducible refine and_t ?_ ?_
  · kernel_rfl
  · kernel_rfl
  · kernel_rfl
  · kernel_rfl
  · kernel_rfl
  · kernel_rfl
  · kernel_rfl
  · kernel_rfl
  · kernel_rfl
  · kernel_rfl
  · kernel_rfl
  · kernel_rfl
  · kernel_rfl
  · kernel_rfl
  · kernel_rfl
  · kernel_rfl
  · kernel_rfl
  · kernel_rfl
  · kernel_rfl
  · kernel_rfl
  · kernel_rfl
  · kernel_rfl
  · kernel_rfl
  · kernel_rfl
  · kernel_rfl
  · exact factMayEnter
  · exact factLifts
  · exact factMake
  · kernel_rfl
  · kernel_rfl
  · kernel_rfl
  · kernel_rfl

/-- the statement -/
theorem proved : Rows.FnExactWayOfBouncesSaid :=
  OpenClaim.holds_of_wide 17 Try.f17 rfl rfl rfl rfl rfl rfl rfl ⟨rfl, rfl, rfl, rfl, rfl⟩ rfl rfl rfl rfl rfl (by kernel_rfl) Try.func17 closed
    (of_decide_eq_true (by kernel_rfl)) (by unfold Func.isWrapper; first | (rw [if_pos (by decide +kernel)]; kernel_rfl) | (rw [if_neg (by decide +kernel)]; exact ⟨rfl, rfl⟩))
    (fun os started H enc _ => lifted os started H enc)
#print axioms proved

end Go.Proofs.Ytikmkmpekjijpaa.lWayOfBounces
