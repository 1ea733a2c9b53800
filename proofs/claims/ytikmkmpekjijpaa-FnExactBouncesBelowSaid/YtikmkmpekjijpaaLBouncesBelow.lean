/- The law FnExactBouncesBelow returns true at every input, and leaves its arguments as they were. No condition. -/
import Derived.Test.YtikmkmpekjijpaaRows
import Derived.Test.YtikmkmpekjijpaaOpenP
import Derived.Test.YtikmkmpekjijpaaFactA
import Derived.Test.YtikmkmpekjijpaaFactB
import Derived.Test.YtikmkmpekjijpaaFactC
import Derived.Test.YtikmkmpekjijpaaHelpP
import Derived.Test.YtikmkmpekjijpaaBalG
import Derived.Deep.RegionHeld3
import Derived.Deep.CutRange
import Derived.Test.YtikmkmpekjijpaaBalH
import Derived.Test.YtikmkmpekjijpaaPaN
namespace Go.Proofs.Ytikmkmpekjijpaa.lBouncesBelow
open Go.RowKit
open Go.ChangeShapes Go.WideShapes Go.ChangeAt
set_option linter.unusedVariables false

/-- the arguments lie in their boxes -/
def RLb (w : World) (u1 u2 v1 v2 : Int) (W : World) : Prop := PC (w.heap.size) (u1, u2) W ∧ PC (w.heap.size + 1) (v1, v2) W ∧ Below w.heap.size w W
section
variable {w : World} {u1 u2 v1 v2 : Int} {W W' : World}
theorem RL_bw (h : RLb w u1 u2 v1 v2 W) (hb : Below W.heap.size W W') : RLb w u1 u2 v1 v2 W' := ⟨h.1.below hb, h.2.1.below hb, h.2.2.trans (hb.mono h.2.2.size)⟩
theorem RL_al (h : RLb w u1 u2 v1 v2 W) (o : Obj) : RLb w u1 u2 v1 v2 (W.alloc o) := RL_bw h ((Below.refl _ _).alloc (Nat.le_refl _) _)
theorem RL_st (h : RLb w u1 u2 v1 v2 W) {b : Nat} (z1 z2 : Value) (hb : w.heap.size + 2 ≤ b) : RLb w u1 u2 v1 v2 ((W.setCell ⟨b, 0, none⟩ z1).setCell ⟨b, 1, none⟩ z2) :=
  ⟨(h.1.far (by omega) _ _).far (by omega) _ _, (h.2.1.far (by omega) _ _).far (by omega) _ _, (h.2.2.setCell (show w.heap.size ≤ b by omega) _).setCell (show w.heap.size ≤ b by omega) _⟩
end
theorem cell_st2 {W : World} {b g i : Nat} {v z1 z2 : Value} (h : W.cell? ⟨g, i, none⟩ = some v) (hne : b ≠ g) : ((W.setCell ⟨b, 0, none⟩ z1).setCell ⟨b, 1, none⟩ z2).cell? ⟨g, i, none⟩ = some v := by
  rw [← h]; simp [go_sem]
theorem pc_far2 {W : World} {b g : Nat} {x : Int × Int} {z1 z2 : Value} (h : PC g x W) (hne : b ≠ g) : PC g x ((W.setCell ⟨b, 0, none⟩ z1).setCell ⟨b, 1, none⟩ z2) := (h.far hne _ _).far hne _ _
theorem pc_new (W : World) (g : Nat) (z1 z2 : Value) (a b : Int) (e : TypeId) : PC W.heap.size (a, b) (((W.setCell ⟨g, 0, none⟩ z1).setCell ⟨g, 1, none⟩ z2).alloc (Obj.cells #[Value.int IntKind.i64 a, Value.int IntKind.i64 b] e)) := by
  have := PC.start ((W.setCell ⟨g, 0, none⟩ z1).setCell ⟨g, 1, none⟩ z2) a b e
  simpa [World.setCell] using this
theorem bz_al2 {B : Nat} {w W : World} (h : Below B w W) (hB : B ≤ W.heap.size) (o1 o2 : Obj) : Below B w ((W.alloc o1).alloc o2) := (h.alloc hB o1).alloc (by simp; omega) o2
theorem bz_via2 {B : Nat} {w W W' : World} {o1 o2 : Obj} (h : Below B w W) (hB : B ≤ W.heap.size) (hb : Below ((W.alloc o1).alloc o2).heap.size ((W.alloc o1).alloc o2) W') : Below B w W' := (bz_al2 h hB o1 o2).trans (hb.mono (by simp; omega))
theorem bz_st {B : Nat} {w W : World} (h : Below B w W) (hB : B ≤ W.heap.size) {b : Nat} (z1 z2 : Value) (hb : B ≤ b) : Below B w ((W.setCell ⟨b, 0, none⟩ z1).setCell ⟨b, 1, none⟩ z2) := (h.setCell hb _).setCell hb _

set_option maxRecDepth 100000 in
set_option maxHeartbeats 8000000 in
theorem law (u1 u2 v1 v2 : Int) (w : World) :
    Calls Try.prog 16 #[.agg #[.int .i64 u1, .int .i64 u2], .agg #[.int .i64 v1, .int .i64 v2]] w fun e w' => e = .returned (.bool true) ∧ Below w.heap.size w w' := by
  have HT0 := Lib.hid (toPace_any u1 u2)
  have HT1 := Lib.hid (toPace_any v1 v2)
  have HS := Lib.hid (fun w => specBouncesBelow_any (u1, u2) (v1, v2) w)
  have HI := Lib.hid (fun w => implBouncesBelow_any (u1, u2) (v1, v2) w)
  generalize beR (u1, u2) (v1, v2) = X at *
  obtain ⟨x, r⟩ := X
  simp only at HS HI
  obtain ⟨W0, hW0⟩ : ∃ X, X = (w.alloc (Obj.cells #[Value.int IntKind.i64 u1, Value.int IntKind.i64 u2] 23)).alloc (Obj.cells #[Value.int IntKind.i64 v1, Value.int IntKind.i64 v2] 23) := ⟨_, rfl⟩
  have HQ0 : Hid (RLb w u1 u2 v1 v2 W0) := by
    show RLb _ _ _ _ _ _
    rw [hW0]
    exact ⟨(PC.start w u1 u2 _).grow _, PC.at1 w _ v1 v2 _, Below.two w _ _⟩
  have t0 : w.heap.size + 2 ≤ W0.heap.size := by rw [hW0]; simp
  have _q := True.intro
  have c0 := (HQ0.out.1).c0
  have c1 := (HQ0.out.1).c1
  have d0 := (HQ0.out.2.1).c0
  have d1 := (HQ0.out.2.1).c1
  simp only at c0 c1 d0 d1
  go_enter Try.func16, Try.ntmps16
  go_wp2
  rw [← hW0]
  clear hW0
  go_cut [5, 6] from 9 to 16 (fun p q wx => p = .int .i64 x ∧ q = .bool r ∧ RLb w u1 u2 v1 v2 wx)
  case first =>
    go_region_held3 (fun w' => w'.cell? ⟨w.heap.size, 0, none⟩ = some (.int .i64 u1) ∧ w'.cell? ⟨w.heap.size, 1, none⟩ = some (.int .i64 u2) ∧ w'.cell? ⟨w.heap.size + 1, 0, none⟩ = some (.int .i64 v1) ∧ w'.cell? ⟨w.heap.size + 1, 1, none⟩ = some (.int .i64 v2))
      (first | with_reducible exact ⟨c0, c1, d0, d1⟩ | with_reducible exact ⟨alloc_some c0 _, alloc_some c1 _, alloc_some d0 _, alloc_some d1 _⟩ | with_reducible exact ⟨cell_st2 c0 (by omega), cell_st2 c1 (by omega), cell_st2 d0 (by omega), cell_st2 d1 (by omega)⟩ | go_keep)
      (first
        | (go_at_call 20; (with_reducible refine (HT0.out _).mono ?_); rintro e p1 ⟨rfl, hbx⟩; have hbw := below_drew hbx; have HQ1 := Lib.hid (show RLb w u1 u2 v1 v2 p1 from (by first | exact RL_bw HQ0.out hbw | exact RL_bw (RL_al HQ0.out _) hbw | exact RL_bw (RL_al (RL_al HQ0.out _) _) hbw)); have t1 := hbw.size; (try simp at t1); have c0 := (HQ1.out.1).c0; have c1 := (HQ1.out.1).c1; have d0 := (HQ1.out.2.1).c0; have d1 := (HQ1.out.2.1).c1; simp only at c0 c1 d0 d1; clear hbx hbw)
        | (go_at_call 20; (with_reducible refine (HT1.out _).mono ?_); rintro e p2 ⟨rfl, hbx⟩; have hbw := hbx; have HQ2 := Lib.hid (show RLb w u1 u2 v1 v2 p2 from (by first | exact RL_bw HQ1.out hbw | exact RL_bw (RL_al HQ1.out _) hbw | exact RL_bw (RL_al (RL_al HQ1.out _) _) hbw)); have t2 := hbw.size; (try simp at t2); have c0 := (HQ2.out.1).c0; have c1 := (HQ2.out.1).c1; have d0 := (HQ2.out.2.1).c0; have d1 := (HQ2.out.2.1).c1; simp only at c0 c1 d0 d1; clear hbx hbw)
        | (go_at_call 53; (with_reducible refine (HS.out _).mono ?_); rintro e p3 ⟨rfl, hbx⟩; have hbw := hbx; have HQ3 := Lib.hid (show RLb w u1 u2 v1 v2 p3 from (by first | exact RL_bw HQ2.out hbw | exact RL_bw (RL_al HQ2.out _) hbw | exact RL_bw (RL_al (RL_al HQ2.out _) _) hbw)); have t3 := hbw.size; (try simp at t3); have c0 := (HQ3.out.1).c0; have c1 := (HQ3.out.1).c1; have d0 := (HQ3.out.2.1).c0; have d1 := (HQ3.out.2.1).c1; simp only at c0 c1 d0 d1; clear hbx hbw))
    all_goals (
      go_wp2_with fail
      go_meet
      case rel =>
        refine ⟨rfl, rfl, ?_⟩
        · (first | with_reducible exact HQ3.out | with_reducible exact RL_al HQ3.out _ | with_reducible exact RL_al (RL_al HQ3.out _) _ | with_reducible exact RL_st HQ3.out _ _ (by omega) | with_reducible exact RL_st (RL_al HQ3.out _) _ _ (by omega) | with_reducible exact RL_st (RL_st HQ3.out _ _ (by omega)) _ _ (by omega) | with_reducible exact RL_al (RL_st HQ3.out _ _ (by omega)) _ | with_reducible exact RL_st (RL_st (RL_al HQ3.out _) _ _ (by omega)) _ _ (by omega) | with_reducible exact RL_st (RL_al (RL_al HQ3.out _) _) _ _ (by omega)))
  case rest =>
  obtain ⟨hp, hq, hR⟩ := hcut
  subst hp
  subst hq
  obtain ⟨Z0, rfl⟩ : ∃ X, X = wc := ⟨_, rfl⟩
  clear HQ0 c0 c1 d0 d1 t0
  have HQ0 := Lib.hid hR
  clear hR
  have t0 := (HQ0.out.2.1).lt
  have _q := True.intro
  have c0 := (HQ0.out.1).c0
  have c1 := (HQ0.out.1).c1
  have d0 := (HQ0.out.2.1).c0
  have d1 := (HQ0.out.2.1).c1
  simp only at c0 c1 d0 d1
  have BZ0 := Lib.hid (Below.refl Z0.heap.size Z0)
  go_wp2_with fail
  go_cut [7, 8] from 17 to 24 (fun p q wx => p = .int .i64 x ∧ q = .bool r ∧ RLb w u1 u2 v1 v2 wx ∧ Below Z0.heap.size Z0 wx)
  case first =>
    go_region_held3 (fun w' => w'.cell? ⟨w.heap.size, 0, none⟩ = some (.int .i64 u1) ∧ w'.cell? ⟨w.heap.size, 1, none⟩ = some (.int .i64 u2) ∧ w'.cell? ⟨w.heap.size + 1, 0, none⟩ = some (.int .i64 v1) ∧ w'.cell? ⟨w.heap.size + 1, 1, none⟩ = some (.int .i64 v2))
      (first | with_reducible exact ⟨c0, c1, d0, d1⟩ | with_reducible exact ⟨alloc_some c0 _, alloc_some c1 _, alloc_some d0 _, alloc_some d1 _⟩ | with_reducible exact ⟨cell_st2 c0 (by omega), cell_st2 c1 (by omega), cell_st2 d0 (by omega), cell_st2 d1 (by omega)⟩ | go_keep)
      (first
        | (go_at_call 20; (with_reducible refine (HT0.out _).mono ?_); rintro e q1 ⟨rfl, hbx⟩; have hbw := below_drew hbx; have BZ1 := Lib.hid (show Below Z0.heap.size Z0 q1 from (by first | exact BZ0.out.trans (hbw.mono BZ0.out.size) | exact below_via BZ0.out BZ0.out.size hbw | exact bz_via2 BZ0.out BZ0.out.size hbw)); have HQ1 := Lib.hid (show RLb w u1 u2 v1 v2 q1 from (by first | exact RL_bw HQ0.out hbw | exact RL_bw (RL_al HQ0.out _) hbw | exact RL_bw (RL_al (RL_al HQ0.out _) _) hbw)); have t1 := hbw.size; (try simp at t1); have c0 := (HQ1.out.1).c0; have c1 := (HQ1.out.1).c1; have d0 := (HQ1.out.2.1).c0; have d1 := (HQ1.out.2.1).c1; simp only at c0 c1 d0 d1; clear hbx hbw)
        | (go_at_call 20; (with_reducible refine (HT1.out _).mono ?_); rintro e q2 ⟨rfl, hbx⟩; have hbw := hbx; have BZ2 := Lib.hid (show Below Z0.heap.size Z0 q2 from (by first | exact BZ1.out.trans (hbw.mono BZ1.out.size) | exact below_via BZ1.out BZ1.out.size hbw | exact bz_via2 BZ1.out BZ1.out.size hbw)); have HQ2 := Lib.hid (show RLb w u1 u2 v1 v2 q2 from (by first | exact RL_bw HQ1.out hbw | exact RL_bw (RL_al HQ1.out _) hbw | exact RL_bw (RL_al (RL_al HQ1.out _) _) hbw)); have t2 := hbw.size; (try simp at t2); have c0 := (HQ2.out.1).c0; have c1 := (HQ2.out.1).c1; have d0 := (HQ2.out.2.1).c0; have d1 := (HQ2.out.2.1).c1; simp only at c0 c1 d0 d1; clear hbx hbw)
        | (go_at_call 54; (with_reducible refine (HI.out _).mono ?_); rintro e q3 ⟨rfl, hbx⟩; have hbw := hbx; have BZ3 := Lib.hid (show Below Z0.heap.size Z0 q3 from (by first | exact BZ2.out.trans (hbw.mono BZ2.out.size) | exact below_via BZ2.out BZ2.out.size hbw | exact bz_via2 BZ2.out BZ2.out.size hbw)); have HQ3 := Lib.hid (show RLb w u1 u2 v1 v2 q3 from (by first | exact RL_bw HQ2.out hbw | exact RL_bw (RL_al HQ2.out _) hbw | exact RL_bw (RL_al (RL_al HQ2.out _) _) hbw)); have t3 := hbw.size; (try simp at t3); have c0 := (HQ3.out.1).c0; have c1 := (HQ3.out.1).c1; have d0 := (HQ3.out.2.1).c0; have d1 := (HQ3.out.2.1).c1; simp only at c0 c1 d0 d1; clear hbx hbw))
    all_goals (
      go_wp2_with fail
      go_meet
      case rel =>
        refine ⟨rfl, rfl, ?_, ?_⟩
        · (first | with_reducible exact HQ3.out | with_reducible exact RL_al HQ3.out _ | with_reducible exact RL_al (RL_al HQ3.out _) _ | with_reducible exact RL_st HQ3.out _ _ (by omega) | with_reducible exact RL_st (RL_al HQ3.out _) _ _ (by omega) | with_reducible exact RL_st (RL_st HQ3.out _ _ (by omega)) _ _ (by omega) | with_reducible exact RL_al (RL_st HQ3.out _ _ (by omega)) _ | with_reducible exact RL_st (RL_st (RL_al HQ3.out _) _ _ (by omega)) _ _ (by omega) | with_reducible exact RL_st (RL_al (RL_al HQ3.out _) _) _ _ (by omega))
        · (first | with_reducible exact BZ3.out | with_reducible exact BZ3.out.alloc BZ3.out.size _ | with_reducible exact bz_al2 BZ3.out BZ3.out.size _ _ | with_reducible exact bz_st BZ3.out BZ3.out.size _ _ (by omega) | with_reducible exact bz_st (bz_st BZ3.out BZ3.out.size _ _ (by omega)) (bz_st BZ3.out BZ3.out.size _ _ (by omega)).size _ _ (by omega) | with_reducible exact bz_st (BZ3.out.alloc BZ3.out.size _) (BZ3.out.alloc BZ3.out.size _).size _ _ (by omega) | with_reducible exact (bz_st BZ3.out BZ3.out.size _ _ (by omega)).alloc (bz_st BZ3.out BZ3.out.size _ _ (by omega)).size _))
  case rest =>
  obtain ⟨hp, hq, hR, hZ⟩ := hcut
  subst hp
  subst hq
  obtain ⟨Y0, rfl⟩ : ∃ X, X = wc := ⟨_, rfl⟩
  clear c0 c1 d0 d1 t0
  have HB := Lib.hid (hR.2.2)
  clear hR hZ HQ0
  go_wp2
  go_ret
  exact ⟨ret_bool rfl, HB.out⟩

set_option maxRecDepth 100000 in
theorem lifted (os : Os) (started : os.Started) (H : Type) (enc : TypeId × Value → H) :
    ReturnsInHanded {} Try.checked os 16 .any (Rows.fnExactBouncesBelowSpec.pre6 enc Try.prog Try.f16 Rows.fnExactBouncesBelowRow.domain false) (Rows.fnExactBouncesBelowSpec.post enc Try.prog Try.f16 false true false false) := by
  refine returnsInHanded_of_change (C := Try.checked) own started (by kernel_rfl) Try.func16
    (ChangeSpec.witness6 (enc := enc) (C := Try.checked) false ⟨#[], #[.agg #[.int .i64 0, .int .i64 0], .agg #[.int .i64 0, .int .i64 0]], []⟩ 8 (by kernel_rfl) (by kernel_rfl) (by kernel_rfl) (by kernel_rfl)) ?_
  intro W base args ds gs before hval0 hW hcnd _
  have hval : ∀ (j : Nat) t v, Try.f16.params[j]? = some t → args[j]? = some v → Value.okWide Try.prog W .any base t v := hval0
  have hW' := hW
  obtain ⟨p, q, hA0, hV, rfl, hfz, hnd⟩ := hW
  have hA : DataW.TrodAll enc Try.prog W 0 (fun _ => true) true Try.f16.params.toList args.toList ds p := hA0
  rw [Try.params16] at hA hval
  obtain ⟨v0, vs0, d0, ds0, p0, q0, hargs, rfl, rfl, h0, r0⟩ := trodAll_cons hA
  obtain ⟨v1, vs1, d1, ds1, p1, q1, rfl, rfl, rfl, h1, r1⟩ := trodAll_cons r0
  obtain ⟨rfl, rfl, rfl⟩ := trodAll_nil r1
  obtain rfl : args = #[v0, v1] := by cases args; simp_all
  obtain ⟨rfl, rfl⟩ := trodVars_none hV
  have k0 := h0
  have lt0 : ∀ x ∈ p0, x.block < W.heap.size := by obtain ⟨m, hm⟩ := k0; exact DataW.trod_lt m _ _ _ hm
  obtain ⟨a0, y0, rfl⟩ := open_pace (hval 0 23 v0 rfl rfl) h0
  have k1 := h1
  have lt1 : ∀ x ∈ p1, x.block < W.heap.size := by obtain ⟨m, hm⟩ := k1; exact DataW.trod_lt m _ _ _ hm
  obtain ⟨a1, y1, rfl⟩ := open_pace (hval 1 23 v1 rfl rfl) h1
  clear hA0 hval0
  refine (law a0 y0 a1 y1 W).mono fun e W' ⟨he, bel⟩ => ?_
  subst he
  exact ⟨_, rfl, _, _, _, [], _, [], hW', trodAll_mk1 (shut_bool Try.underlying4 _), (trodAll_cons_mk (Below.trod laidOut (by kernel_rfl) (of_decide_eq_true (by kernel_rfl)) k0 bel lt0) (trodAll_cons_mk (Below.trod laidOut (by kernel_rfl) (of_decide_eq_true (by kernel_rfl)) k1 bel lt1) trodAll_mk0)), rfl, bel.frame _, fun h => by cases h⟩

theorem closed : joinedFacts Try.prog 16 Try.f16 Rows.fnExactBouncesBelowSpec Rows.fnExactBouncesBelowRow = true := by
  unfold joinedFacts
  repeat' with_reducible refine and_t ?_ ?_
  · kernel_rfl
  · kernel_rfl
  · kernel_rfl
  · kernel_rfl
  · kernel_rfl
  · kernel_rfl
  · kernel_rfl
  · kernel_rfl
  · kernel_rfl
  · kernel_rfl
  · kernel_rfl
  · kernel_rfl
  · kernel_rfl
  · kernel_rfl
  · kernel_rfl
  · kernel_rfl
  · kernel_rfl
  · kernel_rfl
  · kernel_rfl
  · kernel_rfl
  · kernel_rfl
  · kernel_rfl
  · kernel_rfl
  · kernel_rfl
  · kernel_rfl
  · exact factMayEnter
  · exact factLifts
  · exact factMake
  · kernel_rfl
  · kernel_rfl
  · kernel_rfl
  · kernel_rfl

/-- the statement -/
theorem proved : Rows.FnExactBouncesBelowSaid :=
  OpenClaim.holds_of_wide 16 Try.f16 rfl rfl rfl rfl rfl rfl rfl ⟨rfl, rfl, rfl, rfl, rfl⟩ rfl rfl rfl rfl rfl (by kernel_rfl) Try.func16 closed
    (of_decide_eq_true (by kernel_rfl)) (by unfold Func.isWrapper; first | (rw [if_pos (by decide +kernel)]; kernel_rfl) | (rw [if_neg (by decide +kernel)]; exact ⟨rfl, rfl⟩))
    (fun os started H enc _ => lifted os started H enc)
#print axioms proved

end Go.Proofs.Ytikmkmpekjijpaa.lBouncesBelow
