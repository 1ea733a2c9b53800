/- Balls on the program's side: the energy of two balls together. -/
import Derived.Test.YtikmkmpekjijpaaPaB
namespace Go.Proofs.Ytikmkmpekjijpaa
open Go.RowKit

set_option maxRecDepth 100000 in
set_option maxHeartbeats 4000000 in
theorem sumEnergy_any (m n : Int) (u v : Int × Int) (g c : Nat) (w : World) (h1 : enOkP m u) (h2 : enOkP n v) (hB : BB g m u n v w) :
    Calls Try.prog 74 #[.func (.func 77) #[] #[], .slice (some ⟨g, 0, none⟩) 2 c] w fun e w' => e = .returned (.agg #[.int .i64 (smS (eyP m u) (eyP n v)).1, .int .i64 (smS (eyP m u) (eyP n v)).2]) ∧ Below w.heap.size w w' := by
  have HM1 := Lib.hid (fun w => energy_any m u w h1)
  have HM2 := Lib.hid (fun w => energy_any n v w h2)
  have s0 : smB 0 1 (0, 1) := smB_one 0 (by decide)
  have s1 := ey_sm h1
  have s2 := ey_sm h2
  have s3 : smB 18000000 1000000 (plP (0, 1) (eyP m u)) := (smB.pl s0 s1 (by decide) (by decide)).up (by decide) (by decide)
  have HP1 := Lib.hid (fun w => plus_any 0 1 18000000 1000000 (0, 1) (eyP m u) w s0 s1 (by decide) (by decide) (by decide) (by decide))
  have HP2 := Lib.hid (fun w => plus_any 18000000 1000000 18000000 1000000 (plP (0, 1) (eyP m u)) (eyP n v) w s3 s2 (by decide) (by decide) (by decide) (by decide))
  have HV : Hid (smS (eyP m u) (eyP n v) = plP (plP (0, 1) (eyP m u)) (eyP n v)) := rfl
  generalize smS (eyP m u) (eyP n v) = V at *
  generalize plP (plP (0, 1) (eyP m u)) (eyP n v) = Y at *
  generalize plP (0, 1) (eyP m u) = X at *
  generalize eyP m u = P at *
  generalize eyP n v = Q at *
  clear s0 s1 s2 s3 h1 h2
  obtain ⟨u1, u2⟩ := u
  obtain ⟨v1, v2⟩ := v
  obtain ⟨y1, y2⟩ := Y
  obtain ⟨x1, x2⟩ := X
  obtain ⟨p1, p2⟩ := P
  obtain ⟨q1, q2⟩ := Q
  simp only at HM1 HM2 HP1 HP2 ⊢
  have hgw := hB.lt
  have hB0 := hB.below ((Below.refl _ w).alloc (Nat.le_refl _) (Obj.cells #[Value.int IntKind.i64 0, Value.int IntKind.i64 0] 25))
  clear hB
  go_enter Try.func74, Try.ntmps74
  go_wp2_with fail
  refine (whole_any 0 _).mono ?_
  rintro e w1 ⟨rfl, hb⟩
  obtain ⟨W1, hW1⟩ : ∃ X, X = w1.alloc (Obj.cells #[Value.int IntKind.i64 0, Value.int IntKind.i64 1] 25) := ⟨_, rfl⟩
  have hb1 : Below w1.heap.size w1 W1 := by rw [hW1]; exact (Below.refl _ _).alloc (Nat.le_refl _) _
  have HBB0 := Lib.hid ((hB0.below hb).below hb1)
  have HZ0 : Hid (PC w.heap.size (0, 0) W1) := ((PC.start w 0 0 25).below hb).below hb1
  have HPT0 : Hid (PC w1.heap.size (0, 1) W1) := by show PC _ _ _; rw [hW1]; exact PC.start w1 0 1 _
  have HB0 := Lib.hid ((((Below.refl _ w).alloc (Nat.le_refl _) (Obj.cells #[Value.int IntKind.i64 0, Value.int IntKind.i64 0] 25)).trans (hb.mono (by simp))).trans (hb1.mono (by have := hb.size; simp at this; omega)))
  have hTw : w.heap.size < w1.heap.size := by have := hb.size; simp at this; omega
  clear hb hb1 hB0
  obtain ⟨ts, t0, t1, tf0, tf1⟩ := HPT0.out.parts
  obtain ⟨gl, b0, b1, b2, b3, b4, b5⟩ := HBB0.out.parts
  simp only at b1 b2 b4 b5 t0 t1
  go_wp2
  rw [← hW1]
  clear hW1
  generalize w1.heap.size = T at *
  have hTw' : T ≠ w.heap.size := by omega
  have hgT : T ≠ g := by omega
  refine wp_loop_rounds 3 ?_
  rw [rounds_succ]

  obtain ⟨W2, hW2⟩ : ∃ X, X = W1.alloc (Obj.cells #[Value.int IntKind.i64 m, Value.int IntKind.i64 u1, Value.int IntKind.i64 u2] 67) := ⟨_, rfl⟩
  have hb2 : Below W1.heap.size W1 W2 := by rw [hW2]; exact (Below.refl _ _).alloc (Nat.le_refl _) _
  obtain ⟨_, k0, k1, k2⟩ : BL W1.heap.size m (u1, u2) W2 := by rw [hW2]; exact BL.start W1 m u1 u2 _
  simp only at k1 k2
  go_wp2
  rw [← hW2]
  have HPT0a := Lib.hid (HPT0.out.below hb2)
  have HZ0a := Lib.hid (HZ0.out.below hb2)
  have HB0a := Lib.hid (HB0.out.trans (hb2.mono HB0.out.size))
  have HBB0a := Lib.hid (HBB0.out.below hb2)
  clear hb2 hW2 t0 t1 tf0 tf1 ts b0 b1 b2 b3 b4 b5 gl
  generalize W1.heap.size = G0 at *
  obtain ⟨ts, t0, t1, tf0, tf1⟩ := HPT0a.out.parts
  simp only at t0 t1
  go_region_law (first
    | (go_simp; go_at_call 77; with_reducible refine (HM1.out _).mono ?_; rintro e qa ⟨rfl, hbx⟩; have hbw := below_drew hbx; have t0 := Below.cell_some hbw t0; have t1 := Below.cell_some hbw t1; have HPTq := Lib.hid (HPT0a.out.below hbw); have HZq := Lib.hid (HZ0a.out.below hbw); have HBq := Lib.hid (HB0a.out.trans (hbw.mono HB0a.out.size)); have HBBq := Lib.hid (HBB0a.out.below hbw); clear hbx hbw)
    | (go_simp; go_at_call 90; with_reducible refine (HP1.out _).mono ?_; rintro e qb ⟨rfl, hbw⟩; obtain ⟨ts, t0, t1, tf0, tf1⟩ := (HPTq.out.below hbw).parts; have HZr := Lib.hid (HZq.out.below hbw); have HPTr := Lib.hid (HPTq.out.below hbw); have HBr := Lib.hid (HBq.out.trans (hbw.mono HBq.out.size)); have HBBr := Lib.hid (HBBq.out.below hbw); clear hbw; simp only at t0 t1))
  all_goals (
    obtain ⟨R1, hR⟩ : ∃ X, X = (qb.setCell ⟨T, 0, none⟩ (.int .i64 x1)).setCell ⟨T, 1, none⟩ (.int .i64 x2) := ⟨_, rfl⟩
    rw [← hR]
    have HPT1 : Hid (PC T (x1, x2) R1) := by show PC _ _ _; rw [hR]; exact HPTr.out.set _ _
    have HZ1 : Hid (PC w.heap.size (0, 0) R1) := by show PC _ _ _; rw [hR]; exact (HZr.out.far hTw' _ _).far hTw' _ _
    have HBB1 : Hid (BB g m (u1, u2) n (v1, v2) R1) := by show BB _ _ _ _ _ _; rw [hR]; exact (HBBr.out.far hgT _ _).far hgT _ _
    have HB1 : Hid (Below w.heap.size w R1) := by show Below _ _ _; rw [hR]; exact (HBr.out.setCell (Nat.le_of_lt hTw) _).setCell (Nat.le_of_lt hTw) _
    clear hR HBr HBq HBBr HBBq HPTr HPTq HZr HZq t0 t1 tf0 tf1 ts k0 k1 k2 HPT0a HZ0a HB0a HBB0a HPT0 HZ0 HB0 HBB0
    obtain ⟨ts, t0, t1, tf0, tf1⟩ := HPT1.out.parts
    obtain ⟨gl, b0, b1, b2, b3, b4, b5⟩ := HBB1.out.parts
    simp only at b1 b2 b4 b5 t0 t1
    go_wp2_with fail
    rw [rounds_succ]

    obtain ⟨R2, hR2⟩ : ∃ X, X = R1.alloc (Obj.cells #[Value.int IntKind.i64 n, Value.int IntKind.i64 v1, Value.int IntKind.i64 v2] 67) := ⟨_, rfl⟩
    have hb2 : Below R1.heap.size R1 R2 := by rw [hR2]; exact (Below.refl _ _).alloc (Nat.le_refl _) _
    obtain ⟨_, k0, k1, k2⟩ : BL R1.heap.size n (v1, v2) R2 := by rw [hR2]; exact BL.start R1 n v1 v2 _
    simp only at k1 k2
    go_wp2
    rw [← hR2]
    have HPT1a := Lib.hid (HPT1.out.below hb2)
    have HZ1a := Lib.hid (HZ1.out.below hb2)
    have HB1a := Lib.hid (HB1.out.trans (hb2.mono HB1.out.size))
    have HBB1a := Lib.hid (HBB1.out.below hb2)
    clear hb2 hR2 t0 t1 tf0 tf1 ts b0 b1 b2 b3 b4 b5 gl
    generalize R1.heap.size = G1 at *
    obtain ⟨ts, t0, t1, tf0, tf1⟩ := HPT1a.out.parts
    simp only at t0 t1
    go_region_law (first
      | (go_simp; go_at_call 77; with_reducible refine (HM2.out _).mono ?_; rintro e qa ⟨rfl, hbx⟩; have hbw := below_drew hbx; have t0 := Below.cell_some hbw t0; have t1 := Below.cell_some hbw t1; have HPTq := Lib.hid (HPT1a.out.below hbw); have HZq := Lib.hid (HZ1a.out.below hbw); have HBq := Lib.hid (HB1a.out.trans (hbw.mono HB1a.out.size)); have HBBq := Lib.hid (HBB1a.out.below hbw); clear hbx hbw)
      | (go_simp; go_at_call 90; with_reducible refine (HP2.out _).mono ?_; rintro e qb ⟨rfl, hbw⟩; obtain ⟨ts, t0, t1, tf0, tf1⟩ := (HPTq.out.below hbw).parts; have HZr := Lib.hid (HZq.out.below hbw); have HPTr := Lib.hid (HPTq.out.below hbw); have HBr := Lib.hid (HBq.out.trans (hbw.mono HBq.out.size)); have HBBr := Lib.hid (HBBq.out.below hbw); clear hbw; simp only at t0 t1))
    all_goals (
      obtain ⟨R3, hR⟩ : ∃ X, X = (qb.setCell ⟨T, 0, none⟩ (.int .i64 y1)).setCell ⟨T, 1, none⟩ (.int .i64 y2) := ⟨_, rfl⟩
      rw [← hR]
      have HPT2 : Hid (PC T (y1, y2) R3) := by show PC _ _ _; rw [hR]; exact HPTr.out.set _ _
      have HZ2 : Hid (PC w.heap.size (0, 0) R3) := by show PC _ _ _; rw [hR]; exact (HZr.out.far hTw' _ _).far hTw' _ _
      have HBB2 : Hid (BB g m (u1, u2) n (v1, v2) R3) := by show BB _ _ _ _ _ _; rw [hR]; exact (HBBr.out.far hgT _ _).far hgT _ _
      have HB2 : Hid (Below w.heap.size w R3) := by show Below _ _ _; rw [hR]; exact (HBr.out.setCell (Nat.le_of_lt hTw) _).setCell (Nat.le_of_lt hTw) _
      clear hR HBr HBq HBBr HBBq HPTr HPTq HZr HZq t0 t1 tf0 tf1 ts k0 k1 k2 HPT1a HZ1a HB1a HBB1a HPT1 HZ1 HB1 HBB1
      obtain ⟨ts, t0, t1, tf0, tf1⟩ := HPT2.out.parts
      obtain ⟨gl, b0, b1, b2, b3, b4, b5⟩ := HBB2.out.parts
      simp only at b1 b2 b4 b5 t0 t1
      obtain ⟨zl, z0, z1, zf0, zf1⟩ := HZ2.out.parts
      simp only at z0 z1
      go_wp2_with fail
      rw [rounds_succ]
      go_wp2
      exact bodyPost_ret (v := .agg #[.int .i64 y1, .int .i64 y2]) (by simp [results, Try.results74, go_sem, z0, z1]) rfl ⟨by rw [HV.out], below_set2 HB2.out _ _ (Nat.le_refl _)⟩))

end Go.Proofs.Ytikmkmpekjijpaa
