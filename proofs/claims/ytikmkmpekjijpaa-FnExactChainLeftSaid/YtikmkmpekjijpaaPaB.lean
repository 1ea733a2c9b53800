/- Balls on the program's side, second part: push, energy, sums over two balls, means. -/
import Derived.Test.YtikmkmpekjijpaaPaA
namespace Go.Proofs.Ytikmkmpekjijpaa
open Go.RowKit

/-- a ball lies in block g -/
structure BL (g : Nat) (m : Int) (u : Int × Int) (wr : World) : Prop where
  lt : g < wr.heap.size
  c0 : wr.cell? ⟨g, 0, none⟩ = some (.int .i64 m)
  c1 : wr.cell? ⟨g, 1, none⟩ = some (.int .i64 u.1)
  c2 : wr.cell? ⟨g, 2, none⟩ = some (.int .i64 u.2)
theorem BL.below {g : Nat} {m : Int} {u : Int × Int} {wr w2 : World} (h : BL g m u wr) (hb : Below wr.heap.size wr w2) : BL g m u w2 :=
  ⟨Nat.lt_of_lt_of_le h.lt hb.size, Below.cell_some hb h.c0, Below.cell_some hb h.c1, Below.cell_some hb h.c2⟩
theorem BL.grow {g : Nat} {m : Int} {u : Int × Int} {wr : World} (h : BL g m u wr) (o : Obj) : BL g m u (wr.alloc o) := h.below ((Below.refl _ _).alloc (Nat.le_refl _) _)
theorem BL.parts {g : Nat} {m : Int} {u : Int × Int} {wr : World} (h : BL g m u wr) : g < wr.heap.size ∧ wr.cell? ⟨g, 0, none⟩ = some (.int .i64 m) ∧ wr.cell? ⟨g, 1, none⟩ = some (.int .i64 u.1) ∧ wr.cell? ⟨g, 2, none⟩ = some (.int .i64 u.2) := ⟨h.lt, h.c0, h.c1, h.c2⟩
theorem BL.start (w : World) (m a b : Int) (e : TypeId) : BL w.heap.size m (a, b) (w.alloc (Obj.cells #[Value.int IntKind.i64 m, Value.int IntKind.i64 a, Value.int IntKind.i64 b] e)) := ⟨by simp, by simp, by simp, by simp⟩
theorem BL.start1 (w : World) (o : Obj) (m a b : Int) (e : TypeId) : BL (w.heap.size + 1) m (a, b) ((w.alloc o).alloc (Obj.cells #[Value.int IntKind.i64 m, Value.int IntKind.i64 a, Value.int IntKind.i64 b] e)) := by
  have := BL.start (w.alloc o) m a b e
  simpa using this

/-- what is measured of a ball: the function's value, on balls of a size -/
def Meas (F : Nat) (f : Int → Int × Int → Int × Int) (ok : Int → Int × Int → Prop) : Prop :=
  ∀ m u w, ok m u → Calls Try.prog F #[.agg #[.int .i64 m, .int .i64 u.1, .int .i64 u.2]] w fun e w' => e = .returned (.agg #[.int .i64 (f m u).1, .int .i64 (f m u).2]) ∧ Below w.heap.size w w'
def pushOk (m : Int) (u : Int × Int) : Prop := (-18 ≤ m ∧ m ≤ 18) ∧ smP u
def enOkP (m : Int) (u : Int × Int) : Prop := (1 ≤ m ∧ m ≤ 9) ∧ smB 1000 1000 u

theorem ps_sm {m : Int} {u : Int × Int} (h : pushOk m u) : smB 18000000 1000000 (psP m u) := by
  have := smB.pr (smB_one m h.1) (smP_sm h.2) (by decide) (by decide)
  exact this.up (by decide) (by decide)
theorem ey_sm {m : Int} {u : Int × Int} (h : enOkP m u) : smB 18000000 1000000 (eyP m u) := by
  have h1 := smB.pr (smB_one m (A := 9) (by have := h.1; omega)) h.2 (by decide) (by decide)
  have := smB.pr h1 h.2 (by decide) (by decide)
  exact this.up (by decide) (by decide)

set_option maxHeartbeats 2000000 in
theorem push_any (m : Int) (u : Int × Int) (w : World) (h : pushOk m u) :
    Calls Try.prog 75 #[.agg #[.int .i64 m, .int .i64 u.1, .int .i64 u.2]] w fun e w' => e = .returned (.agg #[.int .i64 (psP m u).1, .int .i64 (psP m u).2]) ∧ Below w.heap.size w w' := by
  have HP := Lib.hid (fun w => product_any 18 1 1000000 1000000 (m, 1) u w (smB_one m h.1) (smP_sm h.2) (by decide) (by decide) (by decide) (by decide))
  have HV : Hid (psP m u = prP (m, 1) u) := rfl
  generalize prP (m, 1) u = X at *
  generalize psP m u = V at *
  clear h
  obtain ⟨u1, u2⟩ := u
  obtain ⟨x1, x2⟩ := X
  simp only at HP ⊢
  obtain ⟨W2, hW2⟩ : ∃ X, X = (w.alloc (Obj.cells #[Value.int IntKind.i64 m, Value.int IntKind.i64 u1, Value.int IntKind.i64 u2] 67)).alloc (Obj.cells #[Value.int IntKind.i64 0, Value.int IntKind.i64 0] 25) := ⟨_, rfl⟩
  obtain ⟨_, a0, a1, a2⟩ : BL w.heap.size m (u1, u2) W2 := by rw [hW2]; exact (BL.start w m u1 u2 _).grow _
  have HZ : Hid (PZ (w.heap.size + 1) W2) := by show PZ _ _; rw [hW2]; exact PZ.start2 w _ _
  have HB2 : Hid (Below w.heap.size w W2) := by show Below _ _ _; rw [hW2]; exact Below.two w _ _
  simp only at a1 a2
  go_enter Try.func75, Try.ntmps75
  go_wp2
  rw [← hW2]
  clear hW2
  go_region_held3 (fun w' => w'.cell? ⟨w.heap.size, 0, none⟩ = some (.int .i64 m) ∧ w'.cell? ⟨w.heap.size, 1, none⟩ = some (.int .i64 u1) ∧ w'.cell? ⟨w.heap.size, 2, none⟩ = some (.int .i64 u2))
    (first | exact ⟨a0, a1, a2⟩ | go_keep)
    (first
      | (go_at_call 84; with_reducible refine (whole_any m W2.drew).mono ?_; rintro e q1 ⟨rfl, hbx⟩; have hbw := below_drew hbx; have a0 := Below.cell_some hbw a0; have a1 := Below.cell_some hbw a1; have a2 := Below.cell_some hbw a2; have HZ1 := Lib.hid (HZ.out.below hbw); have HB3 := Lib.hid (HB2.out.trans (hbw.mono HB2.out.size)); clear hbx hbw)
      | (go_at_call 99; with_reducible refine (HP.out q1).mono ?_; rintro e q2 ⟨rfl, hbw⟩; have a0 := Below.cell_some hbw a0; have a1 := Below.cell_some hbw a1; have a2 := Below.cell_some hbw a2; obtain ⟨s, c0, c1, f0, f1⟩ := (HZ1.out.below hbw).parts; have HB4 := Lib.hid (HB3.out.trans (hbw.mono HB3.out.size)); clear hbw))
  go_wp2
  exact bodyPost_ret (v := .agg #[.int .i64 x1, .int .i64 x2]) (by simp [results, Try.results75, go_sem, c0, c1]) rfl ⟨by rw [HV.out], below_set2 HB4.out _ _ (by omega)⟩

set_option maxHeartbeats 2000000 in
theorem energy_any (m : Int) (u : Int × Int) (w : World) (h : enOkP m u) :
    Calls Try.prog 77 #[.agg #[.int .i64 m, .int .i64 u.1, .int .i64 u.2]] w fun e w' => e = .returned (.agg #[.int .i64 (eyP m u).1, .int .i64 (eyP m u).2]) ∧ Below w.heap.size w w' := by
  have hps : pushOk m u := ⟨by have := h.1; omega, h.2.up (by decide) (by decide)⟩
  have HU := Lib.hid (fun w => push_any m u w hps)
  have HP := Lib.hid (fun w => product_any 9000 1000 1000 1000 (psP m u) u w (smB.up (smB.pr (smB_one m (A := 9) (by have := h.1; omega)) h.2 (by decide) (by decide)) (by decide) (by decide)) h.2 (by decide) (by decide) (by decide) (by decide))
  have HV : Hid (eyP m u = prP (psP m u) u) := rfl
  generalize prP (psP m u) u = X at *
  generalize eyP m u = V at *
  generalize psP m u = Y at *
  clear h hps
  obtain ⟨u1, u2⟩ := u
  obtain ⟨x1, x2⟩ := X
  obtain ⟨y1, y2⟩ := Y
  simp only at HP HU ⊢
  obtain ⟨W2, hW2⟩ : ∃ X, X = (w.alloc (Obj.cells #[Value.int IntKind.i64 m, Value.int IntKind.i64 u1, Value.int IntKind.i64 u2] 67)).alloc (Obj.cells #[Value.int IntKind.i64 0, Value.int IntKind.i64 0] 25) := ⟨_, rfl⟩
  obtain ⟨_, a0, a1, a2⟩ : BL w.heap.size m (u1, u2) W2 := by rw [hW2]; exact (BL.start w m u1 u2 _).grow _
  have HZ : Hid (PZ (w.heap.size + 1) W2) := by show PZ _ _; rw [hW2]; exact PZ.start2 w _ _
  have HB2 : Hid (Below w.heap.size w W2) := by show Below _ _ _; rw [hW2]; exact Below.two w _ _
  simp only at a1 a2
  go_enter Try.func77, Try.ntmps77
  go_wp2
  rw [← hW2]
  clear hW2
  go_region_held3 (fun w' => w'.cell? ⟨w.heap.size, 0, none⟩ = some (.int .i64 m) ∧ w'.cell? ⟨w.heap.size, 1, none⟩ = some (.int .i64 u1) ∧ w'.cell? ⟨w.heap.size, 2, none⟩ = some (.int .i64 u2))
    (first | exact ⟨a0, a1, a2⟩ | go_keep)
    (first
      | (go_at_call 75; with_reducible refine (HU.out W2.drew).mono ?_; rintro e q1 ⟨rfl, hbx⟩; have hbw := below_drew hbx; have a0 := Below.cell_some hbw a0; have a1 := Below.cell_some hbw a1; have a2 := Below.cell_some hbw a2; have HZ1 := Lib.hid (HZ.out.below hbw); have HB3 := Lib.hid (HB2.out.trans (hbw.mono HB2.out.size)); clear hbx hbw)
      | (go_at_call 99; with_reducible refine (HP.out q1).mono ?_; rintro e q2 ⟨rfl, hbw⟩; have a0 := Below.cell_some hbw a0; have a1 := Below.cell_some hbw a1; have a2 := Below.cell_some hbw a2; obtain ⟨s, c0, c1, f0, f1⟩ := (HZ1.out.below hbw).parts; have HB4 := Lib.hid (HB3.out.trans (hbw.mono HB3.out.size)); clear hbw))
  go_wp2
  exact bodyPost_ret (v := .agg #[.int .i64 x1, .int .i64 x2]) (by simp [results, Try.results77, go_sem, c0, c1]) rfl ⟨by rw [HV.out], below_set2 HB4.out _ _ (by omega)⟩
theorem meas_push : Meas 75 psP pushOk := fun m u w h => push_any m u w h
theorem meas_energy : Meas 77 eyP enOkP := fun m u w h => energy_any m u w h

/-- two balls lie in a row -/
structure BB (g : Nat) (m : Int) (u : Int × Int) (n : Int) (v : Int × Int) (wr : World) : Prop where
  lt : g < wr.heap.size
  c0 : wr.cell? ⟨g, 0, none⟩ = some (.int .i64 m)
  c1 : wr.cell? ⟨g, 1, none⟩ = some (.int .i64 u.1)
  c2 : wr.cell? ⟨g, 2, none⟩ = some (.int .i64 u.2)
  c3 : wr.cell? ⟨g, 3, none⟩ = some (.int .i64 n)
  c4 : wr.cell? ⟨g, 4, none⟩ = some (.int .i64 v.1)
  c5 : wr.cell? ⟨g, 5, none⟩ = some (.int .i64 v.2)
theorem BB.below {g : Nat} {m n : Int} {u v : Int × Int} {wr w2 : World} (h : BB g m u n v wr) (hb : Below wr.heap.size wr w2) : BB g m u n v w2 :=
  ⟨Nat.lt_of_lt_of_le h.lt hb.size, Below.cell_some hb h.c0, Below.cell_some hb h.c1, Below.cell_some hb h.c2, Below.cell_some hb h.c3, Below.cell_some hb h.c4, Below.cell_some hb h.c5⟩
theorem BB.far {g b : Nat} {m n : Int} {u v : Int × Int} {wr : World} (h : BB g m u n v wr) (hne : b ≠ g) (o1 : Nat) (v1 : Value) : BB g m u n v (wr.setCell ⟨b, o1, none⟩ v1) := by
  obtain ⟨l, c0, c1, c2, c3, c4, c5⟩ := h
  exact ⟨by simp [l], by simp [go_sem, c0], by simp [go_sem, c1], by simp [go_sem, c2], by simp [go_sem, c3], by simp [go_sem, c4], by simp [go_sem, c5]⟩
theorem BB.parts {g : Nat} {m n : Int} {u v : Int × Int} {wr : World} (h : BB g m u n v wr) : g < wr.heap.size ∧ wr.cell? ⟨g, 0, none⟩ = some (.int .i64 m) ∧ wr.cell? ⟨g, 1, none⟩ = some (.int .i64 u.1) ∧ wr.cell? ⟨g, 2, none⟩ = some (.int .i64 u.2) ∧ wr.cell? ⟨g, 3, none⟩ = some (.int .i64 n) ∧ wr.cell? ⟨g, 4, none⟩ = some (.int .i64 v.1) ∧ wr.cell? ⟨g, 5, none⟩ = some (.int .i64 v.2) := ⟨h.lt, h.c0, h.c1, h.c2, h.c3, h.c4, h.c5⟩


set_option maxRecDepth 100000 in
set_option maxHeartbeats 4000000 in
theorem sumPush_any (m n : Int) (u v : Int × Int) (g c : Nat) (w : World) (h1 : pushOk m u) (h2 : pushOk n v) (hB : BB g m u n v w) :
    Calls Try.prog 74 #[.func (.func 75) #[] #[], .slice (some ⟨g, 0, none⟩) 2 c] w fun e w' => e = .returned (.agg #[.int .i64 (smS (psP m u) (psP n v)).1, .int .i64 (smS (psP m u) (psP n v)).2]) ∧ Below w.heap.size w w' := by
  have HM1 := Lib.hid (fun w => push_any m u w h1)
  have HM2 := Lib.hid (fun w => push_any n v w h2)
  have s0 : smB 0 1 (0, 1) := smB_one 0 (by decide)
  have s1 := ps_sm h1
  have s2 := ps_sm h2
  have s3 : smB 18000000 1000000 (plP (0, 1) (psP m u)) := (smB.pl s0 s1 (by decide) (by decide)).up (by decide) (by decide)
  have HP1 := Lib.hid (fun w => plus_any 0 1 18000000 1000000 (0, 1) (psP m u) w s0 s1 (by decide) (by decide) (by decide) (by decide))
  have HP2 := Lib.hid (fun w => plus_any 18000000 1000000 18000000 1000000 (plP (0, 1) (psP m u)) (psP n v) w s3 s2 (by decide) (by decide) (by decide) (by decide))
  have HV : Hid (smS (psP m u) (psP n v) = plP (plP (0, 1) (psP m u)) (psP n v)) := rfl
  generalize smS (psP m u) (psP n v) = V at *
  generalize plP (plP (0, 1) (psP m u)) (psP n v) = Y at *
  generalize plP (0, 1) (psP m u) = X at *
  generalize psP m u = P at *
  generalize psP n v = Q at *
  clear s0 s1 s2 s3 h1 h2
  obtain ⟨u1, u2⟩ := u
  obtain ⟨v1, v2⟩ := v
  obtain ⟨y1, y2⟩ := Y
  obtain ⟨x1, x2⟩ := X
  obtain ⟨p1, p2⟩ := P
  obtain ⟨q1, q2⟩ := Q
  simp only at HM1 HM2 HP1 HP2 ⊢
  have hgw := hB.lt
  have hB0 := hB.below ((Below.refl _ w).alloc (Nat.le_refl _) (Obj.cells #[Value.int IntKind.i64 0, Value.int IntKind.i64 0] 25))
  clear hB
  go_enter Try.func74, Try.ntmps74
  go_wp2_with fail
  refine (whole_any 0 _).mono ?_
  rintro e w1 ⟨rfl, hb⟩
  obtain ⟨W1, hW1⟩ : ∃ X, X = w1.alloc (Obj.cells #[Value.int IntKind.i64 0, Value.int IntKind.i64 1] 25) := ⟨_, rfl⟩
  have hb1 : Below w1.heap.size w1 W1 := by rw [hW1]; exact (Below.refl _ _).alloc (Nat.le_refl _) _
  have HBB0 := Lib.hid ((hB0.below hb).below hb1)
  have HZ0 : Hid (PC w.heap.size (0, 0) W1) := ((PC.start w 0 0 25).below hb).below hb1
  have HPT0 : Hid (PC w1.heap.size (0, 1) W1) := by show PC _ _ _; rw [hW1]; exact PC.start w1 0 1 _
  have HB0 := Lib.hid ((((Below.refl _ w).alloc (Nat.le_refl _) (Obj.cells #[Value.int IntKind.i64 0, Value.int IntKind.i64 0] 25)).trans (hb.mono (by simp))).trans (hb1.mono (by have := hb.size; simp at this; omega)))
  have hTw : w.heap.size < w1.heap.size := by have := hb.size; simp at this; omega
  clear hb hb1 hB0
  obtain ⟨ts, t0, t1, tf0, tf1⟩ := HPT0.out.parts
  obtain ⟨gl, b0, b1, b2, b3, b4, b5⟩ := HBB0.out.parts
  simp only at b1 b2 b4 b5 t0 t1
  go_wp2
  rw [← hW1]
  clear hW1
  generalize w1.heap.size = T at *
  have hTw' : T ≠ w.heap.size := by omega
  have hgT : T ≠ g := by omega
  refine wp_loop_rounds 3 ?_
  rw [rounds_succ]

  obtain ⟨W2, hW2⟩ : ∃ X, X = W1.alloc (Obj.cells #[Value.int IntKind.i64 m, Value.int IntKind.i64 u1, Value.int IntKind.i64 u2] 67) := ⟨_, rfl⟩
  have hb2 : Below W1.heap.size W1 W2 := by rw [hW2]; exact (Below.refl _ _).alloc (Nat.le_refl _) _
  obtain ⟨_, k0, k1, k2⟩ : BL W1.heap.size m (u1, u2) W2 := by rw [hW2]; exact BL.start W1 m u1 u2 _
  simp only at k1 k2
  go_wp2
  rw [← hW2]
  have HPT0a := Lib.hid (HPT0.out.below hb2)
  have HZ0a := Lib.hid (HZ0.out.below hb2)
  have HB0a := Lib.hid (HB0.out.trans (hb2.mono HB0.out.size))
  have HBB0a := Lib.hid (HBB0.out.below hb2)
  clear hb2 hW2 t0 t1 tf0 tf1 ts b0 b1 b2 b3 b4 b5 gl
  generalize W1.heap.size = G0 at *
  obtain ⟨ts, t0, t1, tf0, tf1⟩ := HPT0a.out.parts
  simp only at t0 t1
  go_region_law (first
    | (go_simp; go_at_call 75; with_reducible refine (HM1.out _).mono ?_; rintro e qa ⟨rfl, hbx⟩; have hbw := below_drew hbx; have t0 := Below.cell_some hbw t0; have t1 := Below.cell_some hbw t1; have HPTq := Lib.hid (HPT0a.out.below hbw); have HZq := Lib.hid (HZ0a.out.below hbw); have HBq := Lib.hid (HB0a.out.trans (hbw.mono HB0a.out.size)); have HBBq := Lib.hid (HBB0a.out.below hbw); clear hbx hbw)
    | (go_simp; go_at_call 90; with_reducible refine (HP1.out _).mono ?_; rintro e qb ⟨rfl, hbw⟩; obtain ⟨ts, t0, t1, tf0, tf1⟩ := (HPTq.out.below hbw).parts; have HZr := Lib.hid (HZq.out.below hbw); have HPTr := Lib.hid (HPTq.out.below hbw); have HBr := Lib.hid (HBq.out.trans (hbw.mono HBq.out.size)); have HBBr := Lib.hid (HBBq.out.below hbw); clear hbw; simp only at t0 t1))
  all_goals (
    obtain ⟨R1, hR⟩ : ∃ X, X = (qb.setCell ⟨T, 0, none⟩ (.int .i64 x1)).setCell ⟨T, 1, none⟩ (.int .i64 x2) := ⟨_, rfl⟩
    rw [← hR]
    have HPT1 : Hid (PC T (x1, x2) R1) := by show PC _ _ _; rw [hR]; exact HPTr.out.set _ _
    have HZ1 : Hid (PC w.heap.size (0, 0) R1) := by show PC _ _ _; rw [hR]; exact (HZr.out.far hTw' _ _).far hTw' _ _
    have HBB1 : Hid (BB g m (u1, u2) n (v1, v2) R1) := by show BB _ _ _ _ _ _; rw [hR]; exact (HBBr.out.far hgT _ _).far hgT _ _
    have HB1 : Hid (Below w.heap.size w R1) := by show Below _ _ _; rw [hR]; exact (HBr.out.setCell (Nat.le_of_lt hTw) _).setCell (Nat.le_of_lt hTw) _
    clear hR HBr HBq HBBr HBBq HPTr HPTq HZr HZq t0 t1 tf0 tf1 ts k0 k1 k2 HPT0a HZ0a HB0a HBB0a HPT0 HZ0 HB0 HBB0
    obtain ⟨ts, t0, t1, tf0, tf1⟩ := HPT1.out.parts
    obtain ⟨gl, b0, b1, b2, b3, b4, b5⟩ := HBB1.out.parts
    simp only at b1 b2 b4 b5 t0 t1
    go_wp2_with fail
    rw [rounds_succ]

    obtain ⟨R2, hR2⟩ : ∃ X, X = R1.alloc (Obj.cells #[Value.int IntKind.i64 n, Value.int IntKind.i64 v1, Value.int IntKind.i64 v2] 67) := ⟨_, rfl⟩
    have hb2 : Below R1.heap.size R1 R2 := by rw [hR2]; exact (Below.refl _ _).alloc (Nat.le_refl _) _
    obtain ⟨_, k0, k1, k2⟩ : BL R1.heap.size n (v1, v2) R2 := by rw [hR2]; exact BL.start R1 n v1 v2 _
    simp only at k1 k2
    go_wp2
    rw [← hR2]
    have HPT1a := Lib.hid (HPT1.out.below hb2)
    have HZ1a := Lib.hid (HZ1.out.below hb2)
    have HB1a := Lib.hid (HB1.out.trans (hb2.mono HB1.out.size))
    have HBB1a := Lib.hid (HBB1.out.below hb2)
    clear hb2 hR2 t0 t1 tf0 tf1 ts b0 b1 b2 b3 b4 b5 gl
    generalize R1.heap.size = G1 at *
    obtain ⟨ts, t0, t1, tf0, tf1⟩ := HPT1a.out.parts
    simp only at t0 t1
    go_region_law (first
      | (go_simp; go_at_call 75; with_reducible refine (HM2.out _).mono ?_; rintro e qa ⟨rfl, hbx⟩; have hbw := below_drew hbx; have t0 := Below.cell_some hbw t0; have t1 := Below.cell_some hbw t1; have HPTq := Lib.hid (HPT1a.out.below hbw); have HZq := Lib.hid (HZ1a.out.below hbw); have HBq := Lib.hid (HB1a.out.trans (hbw.mono HB1a.out.size)); have HBBq := Lib.hid (HBB1a.out.below hbw); clear hbx hbw)
      | (go_simp; go_at_call 90; with_reducible refine (HP2.out _).mono ?_; rintro e qb ⟨rfl, hbw⟩; obtain ⟨ts, t0, t1, tf0, tf1⟩ := (HPTq.out.below hbw).parts; have HZr := Lib.hid (HZq.out.below hbw); have HPTr := Lib.hid (HPTq.out.below hbw); have HBr := Lib.hid (HBq.out.trans (hbw.mono HBq.out.size)); have HBBr := Lib.hid (HBBq.out.below hbw); clear hbw; simp only at t0 t1))
    all_goals (
      obtain ⟨R3, hR⟩ : ∃ X, X = (qb.setCell ⟨T, 0, none⟩ (.int .i64 y1)).setCell ⟨T, 1, none⟩ (.int .i64 y2) := ⟨_, rfl⟩
      rw [← hR]
      have HPT2 : Hid (PC T (y1, y2) R3) := by show PC _ _ _; rw [hR]; exact HPTr.out.set _ _
      have HZ2 : Hid (PC w.heap.size (0, 0) R3) := by show PC _ _ _; rw [hR]; exact (HZr.out.far hTw' _ _).far hTw' _ _
      have HBB2 : Hid (BB g m (u1, u2) n (v1, v2) R3) := by show BB _ _ _ _ _ _; rw [hR]; exact (HBBr.out.far hgT _ _).far hgT _ _
      have HB2 : Hid (Below w.heap.size w R3) := by show Below _ _ _; rw [hR]; exact (HBr.out.setCell (Nat.le_of_lt hTw) _).setCell (Nat.le_of_lt hTw) _
      clear hR HBr HBq HBBr HBBq HPTr HPTq HZr HZq t0 t1 tf0 tf1 ts k0 k1 k2 HPT1a HZ1a HB1a HBB1a HPT1 HZ1 HB1 HBB1
      obtain ⟨ts, t0, t1, tf0, tf1⟩ := HPT2.out.parts
      obtain ⟨gl, b0, b1, b2, b3, b4, b5⟩ := HBB2.out.parts
      simp only at b1 b2 b4 b5 t0 t1
      obtain ⟨zl, z0, z1, zf0, zf1⟩ := HZ2.out.parts
      simp only at z0 z1
      go_wp2_with fail
      rw [rounds_succ]
      go_wp2
      exact bodyPost_ret (v := .agg #[.int .i64 y1, .int .i64 y2]) (by simp [results, Try.results74, go_sem, z0, z1]) rfl ⟨by rw [HV.out], below_set2 HB2.out _ _ (Nat.le_refl _)⟩))

end Go.Proofs.Ytikmkmpekjijpaa
