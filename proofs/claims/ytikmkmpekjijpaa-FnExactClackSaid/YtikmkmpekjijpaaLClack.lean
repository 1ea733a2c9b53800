/- The law FnExactClack returns true at every input, and leaves its arguments as they were. No condition. -/
import Derived.Test.YtikmkmpekjijpaaRows
import Derived.Test.YtikmkmpekjijpaaOpenP
import Derived.Test.YtikmkmpekjijpaaFactA
import Derived.Test.YtikmkmpekjijpaaFactB
import Derived.Test.YtikmkmpekjijpaaFactC
import Derived.Test.YtikmkmpekjijpaaHelpP
import Derived.Test.YtikmkmpekjijpaaBalG
import Derived.Deep.RegionHeld3
import Derived.Deep.CutRange
import Derived.Test.YtikmkmpekjijpaaBalF
import Derived.Test.YtikmkmpekjijpaaPaH
namespace Go.Proofs.Ytikmkmpekjijpaa.lClack
open Go.RowKit
open Go.ChangeShapes Go.WideShapes Go.ChangeAt
set_option linter.unusedVariables false

/-- the arguments lie in their boxes -/
def RLb (w : World) (u1 u2 v1 v2 : Int) (W : World) : Prop := PC (w.heap.size) (u1, u2) W ∧ PC (w.heap.size + 1) (v1, v2) W ∧ Below w.heap.size w W
section
variable {w : World} {u1 u2 v1 v2 : Int} {W W' : World}
theorem RL_bw (h : RLb w u1 u2 v1 v2 W) (hb : Below W.heap.size W W') : RLb w u1 u2 v1 v2 W' := ⟨h.1.below hb, h.2.1.below hb, h.2.2.trans (hb.mono h.2.2.size)⟩
theorem RL_al (h : RLb w u1 u2 v1 v2 W) (o : Obj) : RLb w u1 u2 v1 v2 (W.alloc o) := RL_bw h ((Below.refl _ _).alloc (Nat.le_refl _) _)
theorem RL_st (h : RLb w u1 u2 v1 v2 W) {b : Nat} (z1 z2 : Value) (hb : w.heap.size + 2 ≤ b) : RLb w u1 u2 v1 v2 ((W.setCell ⟨b, 0, none⟩ z1).setCell ⟨b, 1, none⟩ z2) :=
  ⟨(h.1.far (by omega) _ _).far (by omega) _ _, (h.2.1.far (by omega) _ _).far (by omega) _ _, (h.2.2.setCell (show w.heap.size ≤ b by omega) _).setCell (show w.heap.size ≤ b by omega) _⟩
end
theorem cell_st2 {W : World} {b g i : Nat} {v z1 z2 : Value} (h : W.cell? ⟨g, i, none⟩ = some v) (hne : b ≠ g) : ((W.setCell ⟨b, 0, none⟩ z1).setCell ⟨b, 1, none⟩ z2).cell? ⟨g, i, none⟩ = some v := by
  rw [← h]; simp [go_sem]
theorem pc_far2 {W : World} {b g : Nat} {x : Int × Int} {z1 z2 : Value} (h : PC g x W) (hne : b ≠ g) : PC g x ((W.setCell ⟨b, 0, none⟩ z1).setCell ⟨b, 1, none⟩ z2) := (h.far hne _ _).far hne _ _
theorem pc_new (W : World) (g : Nat) (z1 z2 : Value) (a b : Int) (e : TypeId) : PC W.heap.size (a, b) (((W.setCell ⟨g, 0, none⟩ z1).setCell ⟨g, 1, none⟩ z2).alloc (Obj.cells #[Value.int IntKind.i64 a, Value.int IntKind.i64 b] e)) := by
  have := PC.start ((W.setCell ⟨g, 0, none⟩ z1).setCell ⟨g, 1, none⟩ z2) a b e
  simpa [World.setCell] using this
theorem bz_al2 {B : Nat} {w W : World} (h : Below B w W) (hB : B ≤ W.heap.size) (o1 o2 : Obj) : Below B w ((W.alloc o1).alloc o2) := (h.alloc hB o1).alloc (by simp; omega) o2
theorem bz_via2 {B : Nat} {w W W' : World} {o1 o2 : Obj} (h : Below B w W) (hB : B ≤ W.heap.size) (hb : Below ((W.alloc o1).alloc o2).heap.size ((W.alloc o1).alloc o2) W') : Below B w W' := (bz_al2 h hB o1 o2).trans (hb.mono (by simp; omega))
theorem bz_st {B : Nat} {w W : World} (h : Below B w W) (hB : B ≤ W.heap.size) {b : Nat} (z1 z2 : Value) (hb : B ≤ b) : Below B w ((W.setCell ⟨b, 0, none⟩ z1).setCell ⟨b, 1, none⟩ z2) := (h.setCell hb _).setCell hb _

set_option maxRecDepth 100000 in
set_option maxHeartbeats 8000000 in
theorem law (m n u1 u2 v1 v2 : Int) (w : World) :
    Calls Try.prog 4 #[.int .i64 m, .agg #[.int .i64 u1, .int .i64 u2], .int .i64 n, .agg #[.int .i64 v1, .int .i64 v2]] w fun e w' => e = .returned (.bool true) ∧ Below w.heap.size w w' := by
  have HT0 := Lib.hid (toPace_any u1 u2)
  have HT1 := Lib.hid (toPace_any v1 v2)
  have HS := Lib.hid (fun w => specClack_any m n (u1, u2) (v1, v2) w)
  have HI := Lib.hid (fun w => implClack_any m n (u1, u2) (v1, v2) w)
  generalize ckOk m (u1, u2) n (v1, v2) = r at *
  generalize ckV m (u1, u2) n (v1, v2) = X at *
  obtain ⟨⟨x1, x2⟩, ⟨y1, y2⟩⟩ := X
  simp only at HS HI
  obtain ⟨W0, hW0⟩ : ∃ X, X = (w.alloc (Obj.cells #[Value.int IntKind.i64 u1, Value.int IntKind.i64 u2] 23)).alloc (Obj.cells #[Value.int IntKind.i64 v1, Value.int IntKind.i64 v2] 23) := ⟨_, rfl⟩
  have HQ0 : Hid (RLb w u1 u2 v1 v2 W0) := by
    show RLb _ _ _ _ _ _
    rw [hW0]
    exact ⟨(PC.start w u1 u2 _).grow _, PC.at1 w _ v1 v2 _, Below.two w _ _⟩
  have t0 : w.heap.size + 2 ≤ W0.heap.size := by rw [hW0]; simp
  have _q := True.intro
  have c0 := (HQ0.out.1).c0
  have c1 := (HQ0.out.1).c1
  have d0 := (HQ0.out.2.1).c0
  have d1 := (HQ0.out.2.1).c1
  simp only at c0 c1 d0 d1
  go_enter Try.func4, Try.ntmps4
  go_wp2
  rw [← hW0]
  clear hW0
  go_cut [9, 10, 11] from 15 to 25 (fun p p2 q wx => ∃ g h : Nat, p = .pointer (some ⟨g, 0, none⟩) ∧ p2 = .pointer (some ⟨h, 0, none⟩) ∧ q = .bool r ∧ PC g (x1, x2) wx ∧ PC h (y1, y2) wx ∧ RLb w u1 u2 v1 v2 wx)
  case first =>
    go_region_held3 (fun w' => w'.cell? ⟨w.heap.size, 0, none⟩ = some (.int .i64 u1) ∧ w'.cell? ⟨w.heap.size, 1, none⟩ = some (.int .i64 u2) ∧ w'.cell? ⟨w.heap.size + 1, 0, none⟩ = some (.int .i64 v1) ∧ w'.cell? ⟨w.heap.size + 1, 1, none⟩ = some (.int .i64 v2))
      (first | with_reducible exact ⟨c0, c1, d0, d1⟩ | with_reducible exact ⟨alloc_some c0 _, alloc_some c1 _, alloc_some d0 _, alloc_some d1 _⟩ | with_reducible exact ⟨cell_st2 c0 (by omega), cell_st2 c1 (by omega), cell_st2 d0 (by omega), cell_st2 d1 (by omega)⟩ | with_reducible exact ⟨alloc_some (alloc_some c0 _) _, alloc_some (alloc_some c1 _) _, alloc_some (alloc_some d0 _) _, alloc_some (alloc_some d1 _) _⟩ | with_reducible exact ⟨cell_st2 (alloc_some c0 _) (by omega), cell_st2 (alloc_some c1 _) (by omega), cell_st2 (alloc_some d0 _) (by omega), cell_st2 (alloc_some d1 _) (by omega)⟩ | with_reducible exact ⟨alloc_some (cell_st2 c0 (by omega)) _, alloc_some (cell_st2 c1 (by omega)) _, alloc_some (cell_st2 d0 (by omega)) _, alloc_some (cell_st2 d1 (by omega)) _⟩ | with_reducible exact ⟨cell_st2 (cell_st2 c0 (by omega)) (by omega), cell_st2 (cell_st2 c1 (by omega)) (by omega), cell_st2 (cell_st2 d0 (by omega)) (by omega), cell_st2 (cell_st2 d1 (by omega)) (by omega)⟩ | with_reducible exact ⟨cell_st2 (alloc_some (alloc_some c0 _) _) (by omega), cell_st2 (alloc_some (alloc_some c1 _) _) (by omega), cell_st2 (alloc_some (alloc_some d0 _) _) (by omega), cell_st2 (alloc_some (alloc_some d1 _) _) (by omega)⟩ | with_reducible exact ⟨cell_st2 (cell_st2 (alloc_some c0 _) (by omega)) (by omega), cell_st2 (cell_st2 (alloc_some c1 _) (by omega)) (by omega), cell_st2 (cell_st2 (alloc_some d0 _) (by omega)) (by omega), cell_st2 (cell_st2 (alloc_some d1 _) (by omega)) (by omega)⟩ | with_reducible exact ⟨cell_st2 (alloc_some (cell_st2 c0 (by omega)) _) (by omega), cell_st2 (alloc_some (cell_st2 c1 (by omega)) _) (by omega), cell_st2 (alloc_some (cell_st2 d0 (by omega)) _) (by omega), cell_st2 (alloc_some (cell_st2 d1 (by omega)) _) (by omega)⟩ | go_keep)
      (first
        | (go_at_call 20; (with_reducible refine (HT0.out _).mono ?_); rintro e p1 ⟨rfl, hbx⟩; have hbw := below_drew hbx; have HQ1 := Lib.hid (show RLb w u1 u2 v1 v2 p1 from (by first | exact RL_bw HQ0.out hbw | exact RL_bw (RL_al HQ0.out _) hbw | exact RL_bw (RL_al (RL_al HQ0.out _) _) hbw)); (first | (have U1 := Lib.hid (U0.out.below hbw)) | (have U1 := Lib.hid ((U0.out.grow _).below hbw)) | (have U1 : Hid (PC W0.heap.size (0, 0) p1) := (PC.start W0 0 0 _).below hbw) | (have U1 : Hid (PC W0.heap.size (0, 0) p1) := ((PC.start W0 0 0 _).grow _).below hbw) | skip); (first | (have V1 := Lib.hid (V0.out.below hbw)) | (have hU := U0; have V1 : Hid (PC W0.heap.size (0, 0) p1) := (PC.start W0 0 0 _).below hbw; clear hU) | (have V1 : Hid (PC (W0.heap.size + 1) (0, 0) p1) := (PC.at1 W0 _ 0 0 _).below hbw) | skip); have t1 := hbw.size; (try simp at t1); have c0 := (HQ1.out.1).c0; have c1 := (HQ1.out.1).c1; have d0 := (HQ1.out.2.1).c0; have d1 := (HQ1.out.2.1).c1; simp only at c0 c1 d0 d1; (first | (obtain ⟨_, ux0, ux1, uf0, uf1⟩ := U1.out.parts; simp only at ux0 ux1) | skip); (first | (obtain ⟨_, vx0, vx1, vf0, vf1⟩ := V1.out.parts; simp only at vx0 vx1) | skip); clear hbx hbw)
        | (go_at_call 20; (with_reducible refine (HT1.out _).mono ?_); rintro e p2 ⟨rfl, hbx⟩; have hbw := hbx; have HQ2 := Lib.hid (show RLb w u1 u2 v1 v2 p2 from (by first | exact RL_bw HQ1.out hbw | exact RL_bw (RL_al HQ1.out _) hbw | exact RL_bw (RL_al (RL_al HQ1.out _) _) hbw)); (first | (have U2 := Lib.hid (U1.out.below hbw)) | (have U2 := Lib.hid ((U1.out.grow _).below hbw)) | (have U2 : Hid (PC p1.heap.size (0, 0) p2) := (PC.start p1 0 0 _).below hbw) | (have U2 : Hid (PC p1.heap.size (0, 0) p2) := ((PC.start p1 0 0 _).grow _).below hbw) | skip); (first | (have V2 := Lib.hid (V1.out.below hbw)) | (have hU := U1; have V2 : Hid (PC p1.heap.size (0, 0) p2) := (PC.start p1 0 0 _).below hbw; clear hU) | (have V2 : Hid (PC (p1.heap.size + 1) (0, 0) p2) := (PC.at1 p1 _ 0 0 _).below hbw) | skip); have t2 := hbw.size; (try simp at t2); have c0 := (HQ2.out.1).c0; have c1 := (HQ2.out.1).c1; have d0 := (HQ2.out.2.1).c0; have d1 := (HQ2.out.2.1).c1; simp only at c0 c1 d0 d1; (first | (obtain ⟨_, ux0, ux1, uf0, uf1⟩ := U2.out.parts; simp only at ux0 ux1) | skip); (first | (obtain ⟨_, vx0, vx1, vf0, vf1⟩ := V2.out.parts; simp only at vx0 vx1) | skip); clear hbx hbw)
        | (go_at_call 22; (with_reducible refine (HS.out _).mono ?_); rintro e p3 ⟨rfl, hbx⟩; have hbw := hbx; have HQ3 := Lib.hid (show RLb w u1 u2 v1 v2 p3 from (by first | exact RL_bw HQ2.out hbw | exact RL_bw (RL_al HQ2.out _) hbw | exact RL_bw (RL_al (RL_al HQ2.out _) _) hbw)); (first | (have U3 := Lib.hid (U2.out.below hbw)) | (have U3 := Lib.hid ((U2.out.grow _).below hbw)) | (have U3 : Hid (PC p2.heap.size (0, 0) p3) := (PC.start p2 0 0 _).below hbw) | (have U3 : Hid (PC p2.heap.size (0, 0) p3) := ((PC.start p2 0 0 _).grow _).below hbw) | skip); (first | (have V3 := Lib.hid (V2.out.below hbw)) | (have hU := U2; have V3 : Hid (PC p2.heap.size (0, 0) p3) := (PC.start p2 0 0 _).below hbw; clear hU) | (have V3 : Hid (PC (p2.heap.size + 1) (0, 0) p3) := (PC.at1 p2 _ 0 0 _).below hbw) | skip); have t3 := hbw.size; (try simp at t3); have c0 := (HQ3.out.1).c0; have c1 := (HQ3.out.1).c1; have d0 := (HQ3.out.2.1).c0; have d1 := (HQ3.out.2.1).c1; simp only at c0 c1 d0 d1; (first | (obtain ⟨_, ux0, ux1, uf0, uf1⟩ := U3.out.parts; simp only at ux0 ux1) | skip); (first | (obtain ⟨_, vx0, vx1, vf0, vf1⟩ := V3.out.parts; simp only at vx0 vx1) | skip); clear hbx hbw))
    all_goals (
      go_wp2_with fail
      go_meet
      case rel =>
        refine ⟨_, _, rfl, rfl, rfl, ?_, ?_, ?_⟩
        · (first | with_reducible exact U3.out.set _ _ | with_reducible exact pc_far2 (U3.out.set _ _) (by omega) | with_reducible exact (pc_far2 U3.out (by omega)).set _ _ | with_reducible exact (U3.out.set _ _).grow _ | with_reducible exact V3.out.set _ _ | with_reducible exact pc_far2 (V3.out.set _ _) (by omega) | with_reducible exact (pc_far2 V3.out (by omega)).set _ _ | with_reducible exact (V3.out.set _ _).grow _ | with_reducible exact PC.start _ _ _ _ | with_reducible exact pc_new _ _ _ _ _ _ _ | with_reducible exact (PC.start _ _ _ _).grow _ | with_reducible exact PC.at1 _ _ _ _ _)
        · (first | with_reducible exact U3.out.set _ _ | with_reducible exact pc_far2 (U3.out.set _ _) (by omega) | with_reducible exact (pc_far2 U3.out (by omega)).set _ _ | with_reducible exact (U3.out.set _ _).grow _ | with_reducible exact V3.out.set _ _ | with_reducible exact pc_far2 (V3.out.set _ _) (by omega) | with_reducible exact (pc_far2 V3.out (by omega)).set _ _ | with_reducible exact (V3.out.set _ _).grow _ | with_reducible exact PC.start _ _ _ _ | with_reducible exact pc_new _ _ _ _ _ _ _ | with_reducible exact (PC.start _ _ _ _).grow _ | with_reducible exact PC.at1 _ _ _ _ _)
        · (first | with_reducible exact HQ3.out | with_reducible exact RL_al HQ3.out _ | with_reducible exact RL_al (RL_al HQ3.out _) _ | with_reducible exact RL_st HQ3.out _ _ (by omega) | with_reducible exact RL_st (RL_al HQ3.out _) _ _ (by omega) | with_reducible exact RL_st (RL_st HQ3.out _ _ (by omega)) _ _ (by omega) | with_reducible exact RL_al (RL_st HQ3.out _ _ (by omega)) _ | with_reducible exact RL_st (RL_st (RL_al HQ3.out _) _ _ (by omega)) _ _ (by omega) | with_reducible exact RL_st (RL_al (RL_al HQ3.out _) _) _ _ (by omega)))
  case rest =>
  obtain ⟨g, h, hp, hp2, hq, hX, hY, hR⟩ := hcut
  subst hp
  subst hp2
  subst hq
  obtain ⟨Z0, rfl⟩ : ∃ X, X = wc := ⟨_, rfl⟩
  clear HQ0 c0 c1 d0 d1 t0
  have HQ0 := Lib.hid hR
  have HX := Lib.hid hX
  have HY := Lib.hid hY
  clear hR hX hY
  have t0 := (HQ0.out.2.1).lt
  have _q := True.intro
  have c0 := (HQ0.out.1).c0
  have c1 := (HQ0.out.1).c1
  have d0 := (HQ0.out.2.1).c0
  have d1 := (HQ0.out.2.1).c1
  simp only at c0 c1 d0 d1
  have BZ0 := Lib.hid (Below.refl Z0.heap.size Z0)
  go_wp2_with fail
  go_cut [12, 13, 14] from 26 to 36 (fun p p2 q wx => ∃ g h : Nat, p = .pointer (some ⟨g, 0, none⟩) ∧ p2 = .pointer (some ⟨h, 0, none⟩) ∧ q = .bool r ∧ PC g (x1, x2) wx ∧ PC h (y1, y2) wx ∧ RLb w u1 u2 v1 v2 wx ∧ Below Z0.heap.size Z0 wx)
  case first =>
    go_region_held3 (fun w' => w'.cell? ⟨w.heap.size, 0, none⟩ = some (.int .i64 u1) ∧ w'.cell? ⟨w.heap.size, 1, none⟩ = some (.int .i64 u2) ∧ w'.cell? ⟨w.heap.size + 1, 0, none⟩ = some (.int .i64 v1) ∧ w'.cell? ⟨w.heap.size + 1, 1, none⟩ = some (.int .i64 v2))
      (first | with_reducible exact ⟨c0, c1, d0, d1⟩ | with_reducible exact ⟨alloc_some c0 _, alloc_some c1 _, alloc_some d0 _, alloc_some d1 _⟩ | with_reducible exact ⟨cell_st2 c0 (by omega), cell_st2 c1 (by omega), cell_st2 d0 (by omega), cell_st2 d1 (by omega)⟩ | with_reducible exact ⟨alloc_some (alloc_some c0 _) _, alloc_some (alloc_some c1 _) _, alloc_some (alloc_some d0 _) _, alloc_some (alloc_some d1 _) _⟩ | with_reducible exact ⟨cell_st2 (alloc_some c0 _) (by omega), cell_st2 (alloc_some c1 _) (by omega), cell_st2 (alloc_some d0 _) (by omega), cell_st2 (alloc_some d1 _) (by omega)⟩ | with_reducible exact ⟨alloc_some (cell_st2 c0 (by omega)) _, alloc_some (cell_st2 c1 (by omega)) _, alloc_some (cell_st2 d0 (by omega)) _, alloc_some (cell_st2 d1 (by omega)) _⟩ | with_reducible exact ⟨cell_st2 (cell_st2 c0 (by omega)) (by omega), cell_st2 (cell_st2 c1 (by omega)) (by omega), cell_st2 (cell_st2 d0 (by omega)) (by omega), cell_st2 (cell_st2 d1 (by omega)) (by omega)⟩ | with_reducible exact ⟨cell_st2 (alloc_some (alloc_some c0 _) _) (by omega), cell_st2 (alloc_some (alloc_some c1 _) _) (by omega), cell_st2 (alloc_some (alloc_some d0 _) _) (by omega), cell_st2 (alloc_some (alloc_some d1 _) _) (by omega)⟩ | with_reducible exact ⟨cell_st2 (cell_st2 (alloc_some c0 _) (by omega)) (by omega), cell_st2 (cell_st2 (alloc_some c1 _) (by omega)) (by omega), cell_st2 (cell_st2 (alloc_some d0 _) (by omega)) (by omega), cell_st2 (cell_st2 (alloc_some d1 _) (by omega)) (by omega)⟩ | with_reducible exact ⟨cell_st2 (alloc_some (cell_st2 c0 (by omega)) _) (by omega), cell_st2 (alloc_some (cell_st2 c1 (by omega)) _) (by omega), cell_st2 (alloc_some (cell_st2 d0 (by omega)) _) (by omega), cell_st2 (alloc_some (cell_st2 d1 (by omega)) _) (by omega)⟩ | go_keep)
      (first
        | (go_at_call 20; (with_reducible refine (HT0.out _).mono ?_); rintro e q1 ⟨rfl, hbx⟩; have hbw := below_drew hbx; have BZ1 := Lib.hid (show Below Z0.heap.size Z0 q1 from (by first | exact BZ0.out.trans (hbw.mono BZ0.out.size) | exact below_via BZ0.out BZ0.out.size hbw | exact bz_via2 BZ0.out BZ0.out.size hbw)); have HQ1 := Lib.hid (show RLb w u1 u2 v1 v2 q1 from (by first | exact RL_bw HQ0.out hbw | exact RL_bw (RL_al HQ0.out _) hbw | exact RL_bw (RL_al (RL_al HQ0.out _) _) hbw)); (first | (have U1 := Lib.hid (U0.out.below hbw)) | (have U1 := Lib.hid ((U0.out.grow _).below hbw)) | (have U1 : Hid (PC Z0.heap.size (0, 0) q1) := (PC.start Z0 0 0 _).below hbw) | (have U1 : Hid (PC Z0.heap.size (0, 0) q1) := ((PC.start Z0 0 0 _).grow _).below hbw) | skip); (first | (have V1 := Lib.hid (V0.out.below hbw)) | (have hU := U0; have V1 : Hid (PC Z0.heap.size (0, 0) q1) := (PC.start Z0 0 0 _).below hbw; clear hU) | (have V1 : Hid (PC (Z0.heap.size + 1) (0, 0) q1) := (PC.at1 Z0 _ 0 0 _).below hbw) | skip); have t1 := hbw.size; (try simp at t1); have c0 := (HQ1.out.1).c0; have c1 := (HQ1.out.1).c1; have d0 := (HQ1.out.2.1).c0; have d1 := (HQ1.out.2.1).c1; simp only at c0 c1 d0 d1; (first | (obtain ⟨_, ux0, ux1, uf0, uf1⟩ := U1.out.parts; simp only at ux0 ux1) | skip); (first | (obtain ⟨_, vx0, vx1, vf0, vf1⟩ := V1.out.parts; simp only at vx0 vx1) | skip); clear hbx hbw)
        | (go_at_call 20; (with_reducible refine (HT1.out _).mono ?_); rintro e q2 ⟨rfl, hbx⟩; have hbw := hbx; have BZ2 := Lib.hid (show Below Z0.heap.size Z0 q2 from (by first | exact BZ1.out.trans (hbw.mono BZ1.out.size) | exact below_via BZ1.out BZ1.out.size hbw | exact bz_via2 BZ1.out BZ1.out.size hbw)); have HQ2 := Lib.hid (show RLb w u1 u2 v1 v2 q2 from (by first | exact RL_bw HQ1.out hbw | exact RL_bw (RL_al HQ1.out _) hbw | exact RL_bw (RL_al (RL_al HQ1.out _) _) hbw)); (first | (have U2 := Lib.hid (U1.out.below hbw)) | (have U2 := Lib.hid ((U1.out.grow _).below hbw)) | (have U2 : Hid (PC q1.heap.size (0, 0) q2) := (PC.start q1 0 0 _).below hbw) | (have U2 : Hid (PC q1.heap.size (0, 0) q2) := ((PC.start q1 0 0 _).grow _).below hbw) | skip); (first | (have V2 := Lib.hid (V1.out.below hbw)) | (have hU := U1; have V2 : Hid (PC q1.heap.size (0, 0) q2) := (PC.start q1 0 0 _).below hbw; clear hU) | (have V2 : Hid (PC (q1.heap.size + 1) (0, 0) q2) := (PC.at1 q1 _ 0 0 _).below hbw) | skip); have t2 := hbw.size; (try simp at t2); have c0 := (HQ2.out.1).c0; have c1 := (HQ2.out.1).c1; have d0 := (HQ2.out.2.1).c0; have d1 := (HQ2.out.2.1).c1; simp only at c0 c1 d0 d1; (first | (obtain ⟨_, ux0, ux1, uf0, uf1⟩ := U2.out.parts; simp only at ux0 ux1) | skip); (first | (obtain ⟨_, vx0, vx1, vf0, vf1⟩ := V2.out.parts; simp only at vx0 vx1) | skip); clear hbx hbw)
        | (go_at_call 23; (with_reducible refine (HI.out _).mono ?_); rintro e q3 ⟨rfl, hbx⟩; have hbw := hbx; have BZ3 := Lib.hid (show Below Z0.heap.size Z0 q3 from (by first | exact BZ2.out.trans (hbw.mono BZ2.out.size) | exact below_via BZ2.out BZ2.out.size hbw | exact bz_via2 BZ2.out BZ2.out.size hbw)); have HQ3 := Lib.hid (show RLb w u1 u2 v1 v2 q3 from (by first | exact RL_bw HQ2.out hbw | exact RL_bw (RL_al HQ2.out _) hbw | exact RL_bw (RL_al (RL_al HQ2.out _) _) hbw)); (first | (have U3 := Lib.hid (U2.out.below hbw)) | (have U3 := Lib.hid ((U2.out.grow _).below hbw)) | (have U3 : Hid (PC q2.heap.size (0, 0) q3) := (PC.start q2 0 0 _).below hbw) | (have U3 : Hid (PC q2.heap.size (0, 0) q3) := ((PC.start q2 0 0 _).grow _).below hbw) | skip); (first | (have V3 := Lib.hid (V2.out.below hbw)) | (have hU := U2; have V3 : Hid (PC q2.heap.size (0, 0) q3) := (PC.start q2 0 0 _).below hbw; clear hU) | (have V3 : Hid (PC (q2.heap.size + 1) (0, 0) q3) := (PC.at1 q2 _ 0 0 _).below hbw) | skip); have t3 := hbw.size; (try simp at t3); have c0 := (HQ3.out.1).c0; have c1 := (HQ3.out.1).c1; have d0 := (HQ3.out.2.1).c0; have d1 := (HQ3.out.2.1).c1; simp only at c0 c1 d0 d1; (first | (obtain ⟨_, ux0, ux1, uf0, uf1⟩ := U3.out.parts; simp only at ux0 ux1) | skip); (first | (obtain ⟨_, vx0, vx1, vf0, vf1⟩ := V3.out.parts; simp only at vx0 vx1) | skip); clear hbx hbw))
    all_goals (
      go_wp2_with fail
      go_meet
      case rel =>
        refine ⟨_, _, rfl, rfl, rfl, ?_, ?_, ?_, ?_⟩
        · (first | with_reducible exact U3.out.set _ _ | with_reducible exact pc_far2 (U3.out.set _ _) (by omega) | with_reducible exact (pc_far2 U3.out (by omega)).set _ _ | with_reducible exact (U3.out.set _ _).grow _ | with_reducible exact V3.out.set _ _ | with_reducible exact pc_far2 (V3.out.set _ _) (by omega) | with_reducible exact (pc_far2 V3.out (by omega)).set _ _ | with_reducible exact (V3.out.set _ _).grow _ | with_reducible exact PC.start _ _ _ _ | with_reducible exact pc_new _ _ _ _ _ _ _ | with_reducible exact (PC.start _ _ _ _).grow _ | with_reducible exact PC.at1 _ _ _ _ _)
        · (first | with_reducible exact U3.out.set _ _ | with_reducible exact pc_far2 (U3.out.set _ _) (by omega) | with_reducible exact (pc_far2 U3.out (by omega)).set _ _ | with_reducible exact (U3.out.set _ _).grow _ | with_reducible exact V3.out.set _ _ | with_reducible exact pc_far2 (V3.out.set _ _) (by omega) | with_reducible exact (pc_far2 V3.out (by omega)).set _ _ | with_reducible exact (V3.out.set _ _).grow _ | with_reducible exact PC.start _ _ _ _ | with_reducible exact pc_new _ _ _ _ _ _ _ | with_reducible exact (PC.start _ _ _ _).grow _ | with_reducible exact PC.at1 _ _ _ _ _)
        · (first | with_reducible exact HQ3.out | with_reducible exact RL_al HQ3.out _ | with_reducible exact RL_al (RL_al HQ3.out _) _ | with_reducible exact RL_st HQ3.out _ _ (by omega) | with_reducible exact RL_st (RL_al HQ3.out _) _ _ (by omega) | with_reducible exact RL_st (RL_st HQ3.out _ _ (by omega)) _ _ (by omega) | with_reducible exact RL_al (RL_st HQ3.out _ _ (by omega)) _ | with_reducible exact RL_st (RL_st (RL_al HQ3.out _) _ _ (by omega)) _ _ (by omega) | with_reducible exact RL_st (RL_al (RL_al HQ3.out _) _) _ _ (by omega))
        · (first | with_reducible exact BZ3.out | with_reducible exact BZ3.out.alloc BZ3.out.size _ | with_reducible exact bz_al2 BZ3.out BZ3.out.size _ _ | with_reducible exact bz_st BZ3.out BZ3.out.size _ _ (by omega) | with_reducible exact bz_st (bz_st BZ3.out BZ3.out.size _ _ (by omega)) (bz_st BZ3.out BZ3.out.size _ _ (by omega)).size _ _ (by omega) | with_reducible exact bz_st (BZ3.out.alloc BZ3.out.size _) (BZ3.out.alloc BZ3.out.size _).size _ _ (by omega) | with_reducible exact (bz_st BZ3.out BZ3.out.size _ _ (by omega)).alloc (bz_st BZ3.out BZ3.out.size _ _ (by omega)).size _))
  case rest =>
  obtain ⟨k, l, hp, hp2, hq, hX, hY, hR, hZ⟩ := hcut
  subst hp
  subst hp2
  subst hq
  obtain ⟨Y0, rfl⟩ : ∃ X, X = wc := ⟨_, rfl⟩
  clear c0 c1 d0 d1 t0
  have HB := Lib.hid (hR.2.2)
  obtain ⟨_, a0, a1, _, _⟩ := (HX.out.below hZ).parts
  obtain ⟨_, b0, b1, _, _⟩ := hX.parts
  simp only at a0 a1 b0 b1
  have HE1 := Lib.hid (eqPace_at x1 x2 x1 x2 true (by simp))
  obtain ⟨_, e0, e1, _, _⟩ := (HY.out.below hZ).parts
  obtain ⟨_, f0, f1, _, _⟩ := hY.parts
  simp only at e0 e1 f0 f1
  have HE2 := Lib.hid (eqPace_at y1 y2 y1 y2 true (by simp))
  clear hR hZ hX hY HQ0
  go_wp2_with fail
  refine (HE1.out _).mono ?_
  rintro e y1' ⟨rfl, hb⟩
  have HB1 := Lib.hid (HB.out.trans (hb.mono HB.out.size))
  have e0 := Below.cell_some hb e0
  have e1 := Below.cell_some hb e1
  have f0 := Below.cell_some hb f0
  have f1 := Below.cell_some hb f1
  clear hb
  go_wp2_with fail
  refine (HE2.out _).mono ?_
  rintro e y2' ⟨rfl, hb⟩
  have HB2 := Lib.hid (HB1.out.trans (hb.mono HB1.out.size))
  clear hb
  go_wp2
  go_ret
  exact ⟨ret_bool rfl, HB2.out⟩

set_option maxRecDepth 100000 in
theorem lifted (os : Os) (started : os.Started) (H : Type) (enc : TypeId × Value → H) :
    ReturnsInHanded {} Try.checked os 4 .any (Rows.fnExactClackSpec.pre6 enc Try.prog Try.f4 Rows.fnExactClackRow.domain false) (Rows.fnExactClackSpec.post enc Try.prog Try.f4 false true false false) := by
  refine returnsInHanded_of_change (C := Try.checked) own started (by kernel_rfl) Try.func4
    (ChangeSpec.witness6 (enc := enc) (C := Try.checked) false ⟨#[], #[.int .i64 0, .agg #[.int .i64 0, .int .i64 0], .int .i64 0, .agg #[.int .i64 0, .int .i64 0]], []⟩ 8 (by kernel_rfl) (by kernel_rfl) (by kernel_rfl) (by kernel_rfl)) ?_
  intro W base args ds gs before hval0 hW hcnd _
  have hval : ∀ (j : Nat) t v, Try.f4.params[j]? = some t → args[j]? = some v → Value.okWide Try.prog W .any base t v := hval0
  have hW' := hW
  obtain ⟨p, q, hA0, hV, rfl, hfz, hnd⟩ := hW
  have hA : DataW.TrodAll enc Try.prog W 0 (fun _ => true) true Try.f4.params.toList args.toList ds p := hA0
  rw [Try.params4] at hA hval
  obtain ⟨v0, vs0, d0, ds0, p0, q0, hargs, rfl, rfl, h0, r0⟩ := trodAll_cons hA
  obtain ⟨v1, vs1, d1, ds1, p1, q1, rfl, rfl, rfl, h1, r1⟩ := trodAll_cons r0
  obtain ⟨v2, vs2, d2, ds2, p2, q2, rfl, rfl, rfl, h2, r2⟩ := trodAll_cons r1
  obtain ⟨v3, vs3, d3, ds3, p3, q3, rfl, rfl, rfl, h3, r3⟩ := trodAll_cons r2
  obtain ⟨rfl, rfl, rfl⟩ := trodAll_nil r3
  obtain rfl : args = #[v0, v1, v2, v3] := by cases args; simp_all
  obtain ⟨rfl, rfl⟩ := trodVars_none hV
  obtain ⟨i1, rfl, rfl, rfl, hi1⟩ := open_int Try.underlying3 (hval 0 3 v0 rfl rfl) h0
  have k1 := h1
  have lt1 : ∀ x ∈ p1, x.block < W.heap.size := by obtain ⟨m, hm⟩ := k1; exact DataW.trod_lt m _ _ _ hm
  obtain ⟨a1, y1, rfl⟩ := open_pace (hval 1 23 v1 rfl rfl) h1
  obtain ⟨i2, rfl, rfl, rfl, hi2⟩ := open_int Try.underlying3 (hval 2 3 v2 rfl rfl) h2
  have k3 := h3
  have lt3 : ∀ x ∈ p3, x.block < W.heap.size := by obtain ⟨m, hm⟩ := k3; exact DataW.trod_lt m _ _ _ hm
  obtain ⟨a3, y3, rfl⟩ := open_pace (hval 3 23 v3 rfl rfl) h3
  clear hA0 hval0
  refine (law i1 i2 a1 y1 a3 y3 W).mono fun e W' ⟨he, bel⟩ => ?_
  subst he
  exact ⟨_, rfl, _, _, _, [], _, [], hW', trodAll_mk1 (shut_bool Try.underlying4 _), (trodAll_cons_mk (shut_int Try.underlying3 hi1) (trodAll_cons_mk (Below.trod laidOut (by kernel_rfl) (of_decide_eq_true (by kernel_rfl)) k1 bel lt1) (trodAll_cons_mk (shut_int Try.underlying3 hi2) (trodAll_cons_mk (Below.trod laidOut (by kernel_rfl) (of_decide_eq_true (by kernel_rfl)) k3 bel lt3) trodAll_mk0)))), rfl, bel.frame _, fun h => by cases h⟩

theorem closed : joinedFacts Try.prog 4 Try.f4 Rows.fnExactClackSpec Rows.fnExactClackRow = true := by
  unfold joinedFacts
  repeat' with_reducible refine and_t ?_ ?_
  · kernel_rfl
  · kernel_rfl
  · kernel_rfl
  · kernel_rfl
  · kernel_rfl
  · kernel_rfl
  · kernel_rfl
  · kernel_rfl
  · kernel_rfl
  · kernel_rfl
  · kernel_rfl
  · kernel_rfl
  · kernel_rfl
  · kernel_rfl
  · kernel_rfl
  · kernel_rfl
  · kernel_rfl
  · kernel_rfl
  · kernel_rfl
  · kernel_rfl
  · kernel_rfl
  · kernel_rfl
  · kernel_rfl
  · kernel_rfl
  · kernel_rfl
  · exact factMayEnter
  · exact factLifts
  · exact factMake
  · kernel_rfl
  · kernel_rfl
  · kernel_rfl
  · kernel_rfl

/-- the statement -/
theorem proved : Rows.FnExactClackSaid :=
  OpenClaim.holds_of_wide 4 Try.f4 rfl rfl rfl rfl rfl rfl rfl ⟨rfl, rfl, rfl, rfl, rfl⟩ rfl rfl rfl rfl rfl (by kernel_rfl) Try.func4 closed
    (of_decide_eq_true (by kernel_rfl)) (by unfold Func.isWrapper; first | (rw [if_pos (by decide +kernel)]; kernel_rfl) | (rw [if_neg (by decide +kernel)]; exact ⟨rfl, rfl⟩))
    (fun os started H enc _ => lifted os started H enc)
#print axioms proved

end Go.Proofs.Ytikmkmpekjijpaa.lClack
