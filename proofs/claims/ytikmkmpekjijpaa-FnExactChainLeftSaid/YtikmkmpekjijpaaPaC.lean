/- Balls on the program's side, third part: means, paces behind a clack, couples. -/
import Derived.Test.YtikmkmpekjijpaaPaB
import Derived.Test.YtikmkmpekjijpaaPacB
namespace Go.Proofs.Ytikmkmpekjijpaa
open Go.RowKit

theorem sm_sum {m n : Int} {u v : Int × Int} (h1 : pushOk m u) (h2 : pushOk n v) : smB 36000000000000 1000000000000 (smS (psP m u) (psP n v)) := by
  have s0 : smB 0 1 (0, 1) := smB_one 0 (by decide)
  have s3 : smB 18000000 1000000 (plP (0, 1) (psP m u)) := (smB.pl s0 (ps_sm h1) (by decide) (by decide)).up (by decide) (by decide)
  exact (smB.pl s3 (ps_sm h2) (by decide) (by decide)).up (by decide) (by decide)
theorem Below.push3 (w : World) (o1 o2 o3 o4 : Obj) : Below w.heap.size w ((((w.alloc o1).alloc o2).alloc o3).alloc o4) := Below.four w o1 o2 o3 o4

set_option maxHeartbeats 2000000 in
theorem meanPace_any (m n : Int) (u v : Int × Int) (w : World) (h1 : pushOk m u) (h2 : pushOk n v) (hc : 1 ≤ m + n ∧ m + n ≤ 18) :
    Calls Try.prog 73 #[.agg #[.int .i64 m, .int .i64 u.1, .int .i64 u.2], .agg #[.int .i64 n, .int .i64 v.1, .int .i64 v.2]] w fun e w' => e = .returned (.agg #[.int .i64 (mnP m u n v).1, .int .i64 (mnP m u n v).2]) ∧ Below w.heap.size w w' := by
  obtain ⟨⟨s1, s2⟩, s3, s4⟩ := sm_sum h1 h2
  have HS := Lib.hid (fun g c w hB => sumPush_any m n u v g c w h1 h2 hB)
  have m1 := mul_bd (x := (smS (psP m u) (psP n v)).2) (y := m + n) (A := 1000000000000) (B := 18) (by omega) (by omega) (by decide) (by decide)
  have m2 := mul_pos1 s3 hc.1
  have HR := Lib.hid (fun w => reduced_at _ _ (mnP m u n v).1 (mnP m u n v).2 rfl w (show 0 < (smS (psP m u) (psP n v)).2 * (m + n) by omega) (by omega) (show -100000000000000 ≤ (smS (psP m u) (psP n v)).1 by omega) (by omega))
  have k1 : IntKind.i64.wrap (m + n) = m + n := IntWalk.i64_in _ (by omega)
  have k2 : IntKind.i64.wrap ((smS (psP m u) (psP n v)).2 * (m + n)) = (smS (psP m u) (psP n v)).2 * (m + n) := IntWalk.i64_in _ (by omega)
  generalize mnP m u n v = X at *
  generalize smS (psP m u) (psP n v) = Y at *
  clear s1 s2 s3 s4 m1 m2 h1 h2 hc
  obtain ⟨u1, u2⟩ := u
  obtain ⟨v1, v2⟩ := v
  obtain ⟨x1, x2⟩ := X
  obtain ⟨y1, y2⟩ := Y
  simp only at HS HR k1 k2 ⊢
  go_enter Try.func73, Try.ntmps73
  go_wp2_with fail
  refine (HS.out (w.heap.size + 1 + 1 + 1) _ _ ⟨by simp, by simp [go_sem], by simp [go_sem], by simp [go_sem], by simp [go_sem], by simp [go_sem], by simp [go_sem]⟩).mono ?_
  rintro e w1 ⟨rfl, hb⟩
  have P0 := ((((BL.start w m u1 u2 67).grow (Obj.cells #[Value.int .i64 n, Value.int .i64 v1, Value.int .i64 v2] 67)).grow (Obj.cells #[Value.int .i64 0, Value.int .i64 0] 25)).grow _).below hb
  have P1 := (((BL.start1 w _ n v1 v2 67).grow (Obj.cells #[Value.int .i64 0, Value.int .i64 0] 25)).grow _).below hb
  have PR := ((PZ.at2 w _ _ 25).grow _).below hb
  have HB := Lib.hid ((Below.four w _ _ _ _).trans (hb.mono (by simp; omega)))
  obtain ⟨l0, a0, a1, a2⟩ := P0.parts
  obtain ⟨l1, b0, b1, b2⟩ := P1.parts
  have HPR := Lib.hid PR
  clear hb P0 P1 PR
  go_wp2_with fail
  refine (HR.out _).mono ?_
  rintro e w2 ⟨rfl, hb⟩
  obtain ⟨s, c0, c1, f0, f1⟩ := ((HPR.out.grow _).below hb).parts
  have HB2 := Lib.hid ((HB.out.alloc HB.out.size _).trans (hb.mono (by have := HB.out.size; simp; omega)))
  clear hb
  go_wp2
  exact bodyPost_ret (v := .agg #[.int .i64 x1, .int .i64 x2]) (by simp [results, Try.results73, go_sem, c0, c1]) rfl ⟨rfl, below_set2 HB2.out _ _ (by omega)⟩

/-- a ball of a mass -/
def balOk (m : Int) (u : Int × Int) : Prop := (1 ≤ m ∧ m ≤ 9) ∧ smP u
theorem balOk.push {m : Int} {u : Int × Int} (h : balOk m u) : pushOk m u := ⟨by have := h.1; omega, h.2⟩
set_option maxHeartbeats 2000000 in
theorem paceBehind_any (m n : Int) (u v : Int × Int) (w : World) (h1 : balOk m u) (h2 : balOk n v) :
    Calls Try.prog 97 #[.agg #[.int .i64 m, .int .i64 u.1, .int .i64 u.2], .agg #[.int .i64 n, .int .i64 v.1, .int .i64 v.2]] w fun e w' => e = .returned (.agg #[.int .i64 (mnP (m - n) u (2 * n) v).1, .int .i64 (mnP (m - n) u (2 * n) v).2]) ∧ Below w.heap.size w w' := by
  obtain ⟨hm, hu⟩ := h1
  obtain ⟨hn, hv⟩ := h2
  have HM := Lib.hid (fun w => meanPace_any (m - n) (2 * n) u v w ⟨by omega, hu⟩ ⟨by omega, hv⟩ (by omega))
  have k1 : IntKind.i64.wrap (m - n) = m - n := IntWalk.i64_in _ (by omega)
  have k2 : IntKind.i64.wrap (2 * n) = 2 * n := IntWalk.i64_in _ (by omega)
  generalize mnP (m - n) u (2 * n) v = X at *
  clear hm hn hu hv
  obtain ⟨u1, u2⟩ := u
  obtain ⟨v1, v2⟩ := v
  obtain ⟨x1, x2⟩ := X
  simp only at HM ⊢
  go_enter Try.func97, Try.ntmps97
  go_wp2_with fail
  refine (HM.out _).mono ?_
  rintro e w1 ⟨rfl, hb⟩
  obtain ⟨s, c0, c1, f0, f1⟩ := ((PZ.at2 w _ _ 25).below hb).parts
  have HB := Lib.hid ((Below.three w _ _ _).trans (hb.mono (by simp; omega)))
  clear hb
  go_wp2
  exact bodyPost_ret (v := .agg #[.int .i64 x1, .int .i64 x2]) (by simp [results, Try.results97, go_sem, c0, c1]) rfl ⟨rfl, below_set2 HB.out _ _ (by omega)⟩

/-- a couple of paces lies in block g -/
structure CP (g : Nat) (s : St) (wr : World) : Prop where
  lt : g < wr.heap.size
  c0 : wr.cell? ⟨g, 0, none⟩ = some (.int .i64 s.1.1)
  c1 : wr.cell? ⟨g, 1, none⟩ = some (.int .i64 s.1.2)
  c2 : wr.cell? ⟨g, 2, none⟩ = some (.int .i64 s.2.1)
  c3 : wr.cell? ⟨g, 3, none⟩ = some (.int .i64 s.2.2)
  f0 : wr.frozen? ⟨g, 0, none⟩ = false
  f1 : wr.frozen? ⟨g, 1, none⟩ = false
  f2 : wr.frozen? ⟨g, 2, none⟩ = false
  f3 : wr.frozen? ⟨g, 3, none⟩ = false
theorem CP.below {g : Nat} {s : St} {wr w2 : World} (h : CP g s wr) (hb : Below wr.heap.size wr w2) : CP g s w2 :=
  ⟨Nat.lt_of_lt_of_le h.lt hb.size, Below.cell_some hb h.c0, Below.cell_some hb h.c1, Below.cell_some hb h.c2, Below.cell_some hb h.c3, (hb.frozen (p := ⟨g, 0, none⟩) h.lt).trans h.f0, (hb.frozen (p := ⟨g, 1, none⟩) h.lt).trans h.f1, (hb.frozen (p := ⟨g, 2, none⟩) h.lt).trans h.f2, (hb.frozen (p := ⟨g, 3, none⟩) h.lt).trans h.f3⟩
theorem CP.grow {g : Nat} {s : St} {wr : World} (h : CP g s wr) (o : Obj) : CP g s (wr.alloc o) := h.below ((Below.refl _ _).alloc (Nat.le_refl _) _)
theorem CP.parts {g : Nat} {s : St} {wr : World} (h : CP g s wr) : g < wr.heap.size ∧ wr.cell? ⟨g, 0, none⟩ = some (.int .i64 s.1.1) ∧ wr.cell? ⟨g, 1, none⟩ = some (.int .i64 s.1.2) ∧ wr.cell? ⟨g, 2, none⟩ = some (.int .i64 s.2.1) ∧ wr.cell? ⟨g, 3, none⟩ = some (.int .i64 s.2.2) := ⟨h.lt, h.c0, h.c1, h.c2, h.c3⟩
theorem CP.frees {g : Nat} {s : St} {wr : World} (h : CP g s wr) : wr.frozen? ⟨g, 0, none⟩ = false ∧ wr.frozen? ⟨g, 1, none⟩ = false ∧ wr.frozen? ⟨g, 2, none⟩ = false ∧ wr.frozen? ⟨g, 3, none⟩ = false := ⟨h.f0, h.f1, h.f2, h.f3⟩
theorem CP.start (w : World) (a b c d : Int) (e : TypeId) : CP w.heap.size ((a, b), (c, d)) (w.alloc (Obj.cells #[Value.int IntKind.i64 a, Value.int IntKind.i64 b, Value.int IntKind.i64 c, Value.int IntKind.i64 d] e)) := ⟨by simp, by simp, by simp, by simp, by simp, by simp, by simp, by simp, by simp⟩
theorem CP.start1 (w : World) (o : Obj) (a b c d : Int) (e : TypeId) : CP (w.heap.size + 1) ((a, b), (c, d)) ((w.alloc o).alloc (Obj.cells #[Value.int IntKind.i64 a, Value.int IntKind.i64 b, Value.int IntKind.i64 c, Value.int IntKind.i64 d] e)) := by
  have := CP.start (w.alloc o) a b c d e
  simpa using this
theorem CP.start2 (w : World) (o1 o2 : Obj) (a b c d : Int) (e : TypeId) : CP (w.heap.size + 1 + 1) ((a, b), (c, d)) (((w.alloc o1).alloc o2).alloc (Obj.cells #[Value.int IntKind.i64 a, Value.int IntKind.i64 b, Value.int IntKind.i64 c, Value.int IntKind.i64 d] e)) := by
  have := CP.start ((w.alloc o1).alloc o2) a b c d e
  simpa using this
theorem below_cp {w W : World} {b1 : Nat} (h : Below w.heap.size w W) (v1 v2 v3 v4 : Value) (h1 : w.heap.size ≤ b1) :
    Below w.heap.size w ((((W.setCell ⟨b1, 0, none⟩ v1).setCell ⟨b1, 1, none⟩ v2).setCell ⟨b1, 2, none⟩ v3).setCell ⟨b1, 3, none⟩ v4) :=
  (((h.setCell h1 _).setCell h1 _).setCell h1 _).setCell h1 _
theorem CP.set {g : Nat} {s : St} {wr : World} (h : CP g s wr) (a b c d : Int) : CP g ((a, b), (c, d)) ((((wr.setCell ⟨g, 0, none⟩ (.int .i64 a)).setCell ⟨g, 1, none⟩ (.int .i64 b)).setCell ⟨g, 2, none⟩ (.int .i64 c)).setCell ⟨g, 3, none⟩ (.int .i64 d)) := by
  obtain ⟨l, c0, c1, c2, c3, f0, f1, f2, f3⟩ := h
  exact ⟨by simp [l], by simp [go_sem, c0], by simp [go_sem, c1], by simp [go_sem, c2], by simp [go_sem, c3], by simp [go_sem, f0], by simp [go_sem, f1], by simp [go_sem, f2], by simp [go_sem, f3]⟩

/-- the paces of both behind a clack, as the program makes them -/
def coP (m : Int) (u : Int × Int) (n : Int) (v : Int × Int) : St := (mnP (m - n) u (2 * n) v, mnP (n - m) v (2 * m) u)
theorem coP_low {m n : Int} {u v : Int × Int} (h1 : balOk m u) (h2 : balOk n v) : coP m u n v = (lowP (suN (m - n) u (2 * n) v) (suD (m + n) u v), lowP (suN (2 * m) u (n - m) v) (suD (m + n) u v)) := by
  obtain ⟨hm, _, hu, _⟩ := h1
  obtain ⟨hn, _, hv, _⟩ := h2
  unfold coP
  rw [behind_eq (by omega) (by omega) (by omega), behind_eq' (by omega) (by omega) (by omega)]
/-- they are paces where the model has some -/
theorem coP_ok {m n : Int} {u v : Int × Int} (h1 : balOk m u) (h2 : balOk n v) : (paP (coP m u n v).1 && paP (coP m u n v).2) = clOk m u n v ∧ (clOk m u n v = true → coP m u n v = clV m u n v) := by
  rw [coP_low h1 h2]
  refine ⟨rfl, fun h => ?_⟩
  unfold clV
  rw [h, if_pos rfl]
  unfold clOk at h
  rw [Bool.and_eq_true] at h
  rw [← (mkV_pa h.1).1, ← (mkV_pa h.2).1]
  rfl

set_option maxRecDepth 100000 in
set_option maxHeartbeats 4000000 in
theorem coupleBehind_any (m n : Int) (u v : Int × Int) (w : World) (h1 : balOk m u) (h2 : balOk n v) :
    Calls Try.prog 70 #[.agg #[.int .i64 m, .int .i64 u.1, .int .i64 u.2], .agg #[.int .i64 n, .int .i64 v.1, .int .i64 v.2]] w fun e w' =>
      e = .returned (.agg #[.int .i64 (coP m u n v).1.1, .int .i64 (coP m u n v).1.2, .int .i64 (coP m u n v).2.1, .int .i64 (coP m u n v).2.2]) ∧ Below w.heap.size w w' := by
  have HX := Lib.hid (fun w => paceBehind_any m n u v w h1 h2)
  have HY := Lib.hid (fun w => paceBehind_any n m v u w h2 h1)
  have HV : Hid (coP m u n v = (mnP (m - n) u (2 * n) v, mnP (n - m) v (2 * m) u)) := rfl
  generalize coP m u n v = V at *
  generalize mnP (m - n) u (2 * n) v = X at *
  generalize mnP (n - m) v (2 * m) u = Y at *
  clear h1 h2
  obtain ⟨u1, u2⟩ := u
  obtain ⟨v1, v2⟩ := v
  obtain ⟨x1, x2⟩ := X
  obtain ⟨y1, y2⟩ := Y
  simp only at HX HY ⊢
  obtain ⟨W2, hW2⟩ : ∃ X, X = ((w.alloc (Obj.cells #[Value.int IntKind.i64 m, Value.int IntKind.i64 u1, Value.int IntKind.i64 u2] 67)).alloc (Obj.cells #[Value.int IntKind.i64 n, Value.int IntKind.i64 v1, Value.int IntKind.i64 v2] 67)).alloc (Obj.cells #[Value.int IntKind.i64 0, Value.int IntKind.i64 0, Value.int IntKind.i64 0, Value.int IntKind.i64 0] 71) := ⟨_, rfl⟩
  obtain ⟨_, a0, a1, a2⟩ : BL w.heap.size m (u1, u2) W2 := by rw [hW2]; exact ((BL.start w m u1 u2 _).grow _).grow _
  obtain ⟨_, b0, b1, b2⟩ : BL (w.heap.size + 1) n (v1, v2) W2 := by rw [hW2]; exact (BL.start1 w _ n v1 v2 _).grow _
  have HZ : Hid (CP (w.heap.size + 1 + 1) ((0, 0), (0, 0)) W2) := by show CP _ _ _; rw [hW2]; exact CP.start2 w _ _ 0 0 0 0 _
  have HB2 : Hid (Below w.heap.size w W2) := by show Below _ _ _; rw [hW2]; exact Below.three w _ _ _
  simp only at a1 a2 b1 b2
  have hne1 : ¬ w.heap.size = w.heap.size + 1 + 1 := by omega
  have hne2 : ¬ w.heap.size + 1 + 1 = w.heap.size := by omega
  go_enter Try.func70, Try.ntmps70
  go_wp2
  rw [← hW2]
  clear hW2
  go_region_held3 (fun w' => w'.cell? ⟨w.heap.size, 0, none⟩ = some (.int .i64 m) ∧ w'.cell? ⟨w.heap.size, 1, none⟩ = some (.int .i64 u1) ∧ w'.cell? ⟨w.heap.size, 2, none⟩ = some (.int .i64 u2) ∧ w'.cell? ⟨w.heap.size + 1, 0, none⟩ = some (.int .i64 n) ∧ w'.cell? ⟨w.heap.size + 1, 1, none⟩ = some (.int .i64 v1) ∧ w'.cell? ⟨w.heap.size + 1, 2, none⟩ = some (.int .i64 v2))
    (first | exact ⟨a0, a1, a2, b0, b1, b2⟩ | go_keep | exact ⟨by simp [go_sem, a0, hne1, hne2], by simp [go_sem, a1, hne1, hne2], by simp [go_sem, a2, hne1, hne2], by simp [go_sem, b0], by simp [go_sem, b1], by simp [go_sem, b2]⟩)
    (first
      | (go_at_call 97; with_reducible refine (HX.out W2.drew).mono ?_; rintro e q1 ⟨rfl, hbx⟩; have hbw := below_drew hbx; have a0 := Below.cell_some hbw a0; have a1 := Below.cell_some hbw a1; have a2 := Below.cell_some hbw a2; have b0 := Below.cell_some hbw b0; have b1 := Below.cell_some hbw b1; have b2 := Below.cell_some hbw b2; have HZ1 := Lib.hid (HZ.out.below hbw); have HB3 := Lib.hid (HB2.out.trans (hbw.mono HB2.out.size)); clear hbx hbw)
      | (go_at_call 97; with_reducible refine (HY.out q1).mono ?_; rintro e q2 ⟨rfl, hbw⟩; have a0 := Below.cell_some hbw a0; have a1 := Below.cell_some hbw a1; have a2 := Below.cell_some hbw a2; have b0 := Below.cell_some hbw b0; have b1 := Below.cell_some hbw b1; have b2 := Below.cell_some hbw b2; have HZ2 := Lib.hid (HZ1.out.below hbw); have HB4 := Lib.hid (HB3.out.trans (hbw.mono HB3.out.size)); clear hbw; obtain ⟨zl, z0, z1, z2, z3⟩ := HZ2.out.parts; obtain ⟨zf0, zf1, zf2, zf3⟩ := HZ2.out.frees; simp only at z0 z1 z2 z3))
  go_wp2
  exact bodyPost_ret (v := .agg #[.int .i64 x1, .int .i64 x2, .int .i64 y1, .int .i64 y2]) (by simp [results, Try.results70, go_sem, z0, z1, z2, z3]) rfl ⟨by rw [HV.out], below_cp HB4.out _ _ _ _ (by omega)⟩

/-! ### the next clack -/
theorem neg_low {n d : Int} (hd : 0 < d) (hg : gcdN n d = 1) : lowP (-n) d = (-n, d) := by
  refine (lowP_self_iff hd).2 ?_
  unfold gcdN at hg ⊢
  rwa [Int.natAbs_neg]
set_option maxRecDepth 100000 in
set_option maxHeartbeats 4000000 in
theorem behindNext_any (a b : Int) (s : St) (w : World) (ha : 1 ≤ a ∧ a ≤ 9) (hb : 1 ≤ b ∧ b ≤ 9) (h1 : paP s.1 = true) (h2 : paP s.2 = true) (hf : fstB s.1 s.2 = true → clOk a s.1 b s.2 = true) :
    Calls Try.prog 100 #[.int .i64 a, .int .i64 b, .agg #[.int .i64 s.1.1, .int .i64 s.1.2, .int .i64 s.2.1, .int .i64 s.2.2]] w fun e w' =>
      e = .returned (.agg #[.int .i64 (bhN a b s).1.1, .int .i64 (bhN a b s).1.2, .int .i64 (bhN a b s).2.1, .int .i64 (bhN a b s).2.2]) ∧ Below w.heap.size w w' := by
  have hs1 := smP_of h1
  have hs2 := smP_of h2
  have HC := Lib.hid (fun w => cmpPaces_any s.1 s.2 w ((smP_sm hs1).up (A' := 100000000) (D' := 100000000) (by decide) (by decide)) ((smP_sm hs2).up (by decide) (by decide)))
  have hg := cpJ_pos s.1 s.2
  cases hh : fstB s.1 s.2 with
  | true =>
    have hok := hf hh
    have HD := Lib.hid (fun w => coupleBehind_any a b s.1 s.2 w ⟨ha, hs1⟩ ⟨hb, hs2⟩)
    rw [(coP_ok ⟨ha, hs1⟩ ⟨hb, hs2⟩).2 hok] at HD
    have HV : Hid (bhN a b s = clV a s.1 b s.2) := by show _ = _; unfold bhN; rw [hh]; rfl
    rw [hh, decide_eq_true_eq] at hg
    generalize bhN a b s = V at *
    generalize clV a s.1 b s.2 = X at *
    generalize cpJ s.1 s.2 = C at *
    clear hok hf hh hs1 hs2 h1 h2 ha hb
    obtain ⟨⟨u1, u2⟩, ⟨v1, v2⟩⟩ := s
    obtain ⟨⟨x1, x2⟩, ⟨y1, y2⟩⟩ := X
    simp only at HC HD ⊢
    go_enter Try.func100, Try.ntmps100
    go_wp2_with fail
    refine (HC.out _).mono ?_
    rintro e w1 ⟨rfl, hb⟩
    have P0 := ((CP.start w u1 u2 v1 v2 71).grow _).below hb
    have PR := (CP.start1 w _ 0 0 0 0 71).below hb
    have HB := Lib.hid ((Below.two w _ _).trans (hb.mono (by simp; omega)))
    obtain ⟨l0, a0, a1, a2, a3⟩ := P0.parts
    simp only at a0 a1 a2 a3
    have HPR := Lib.hid PR
    clear hb P0 PR
    go_wp2_with fail
    refine (HD.out _).mono ?_
    rintro e w2 ⟨rfl, hb⟩
    obtain ⟨zl, z0, z1, z2, z3⟩ := (HPR.out.below hb).parts
    obtain ⟨zf0, zf1, zf2, zf3⟩ := (HPR.out.below hb).frees
    simp only at z0 z1 z2 z3
    have HB2 := Lib.hid (HB.out.trans (hb.mono HB.out.size))
    clear hb
    go_wp2
    exact bodyPost_ret (v := .agg #[.int .i64 x1, .int .i64 x2, .int .i64 y1, .int .i64 y2]) (by simp [results, Try.results100, go_sem, z0, z1, z2, z3]) rfl ⟨by rw [HV.out], below_cp HB2.out _ _ _ _ (by omega)⟩
  | false =>
    rw [hh, decide_eq_false_iff_not] at hg
    by_cases hn : s.1.1 < 0
    · have hp := h1
      unfold paP at hp
      rw [paB_iff] at hp
      have HL := Lib.hid (fun w => reduced_at (-s.1.1) s.1.2 (-s.1.1) s.1.2 (neg_low (by omega) hp.2.2.2.2) w (by omega) (by omega) (by omega) (by omega))
      have k1 : IntKind.i64.wrap (-s.1.1) = -s.1.1 := IntWalk.i64_in _ (by omega)
      have HV : Hid (bhN a b s = ((-s.1.1, s.1.2), s.2)) := by show _ = _; unfold bhN; rw [hh, if_neg (by simp), if_pos hn]
      generalize bhN a b s = V at *
      generalize cpJ s.1 s.2 = C at *
      clear hf hh hs1 hs2 h1 h2 ha hb hp
      obtain ⟨⟨u1, u2⟩, ⟨v1, v2⟩⟩ := s
      simp only at HC HL k1 hn ⊢
      go_enter Try.func100, Try.ntmps100
      go_wp2_with fail
      refine (HC.out _).mono ?_
      rintro e w1 ⟨rfl, hb⟩
      have P0 := ((CP.start w u1 u2 v1 v2 71).grow _).below hb
      have PR := (CP.start1 w _ 0 0 0 0 71).below hb
      have HB := Lib.hid ((Below.two w _ _).trans (hb.mono (by simp; omega)))
      obtain ⟨l0, a0, a1, a2, a3⟩ := P0.parts
      simp only at a0 a1 a2 a3
      have HPR := Lib.hid PR
      clear hb P0 PR
      go_wp2
      go_region_held3 (fun w' => w'.cell? ⟨w.heap.size, 0, none⟩ = some (.int .i64 u1) ∧ w'.cell? ⟨w.heap.size, 1, none⟩ = some (.int .i64 u2) ∧ w'.cell? ⟨w.heap.size, 2, none⟩ = some (.int .i64 v1) ∧ w'.cell? ⟨w.heap.size, 3, none⟩ = some (.int .i64 v2))
        (first | exact ⟨a0, a1, a2, a3⟩ | go_keep)
        (first
          | (go_at_call 64; with_reducible refine (HL.out w1.drew).mono ?_; rintro e q1 ⟨rfl, hbx⟩; have hbw := below_drew hbx; have a0 := Below.cell_some hbw a0; have a1 := Below.cell_some hbw a1; have a2 := Below.cell_some hbw a2; have a3 := Below.cell_some hbw a3; have HZ1 := Lib.hid (HPR.out.below hbw); have HB3 := Lib.hid (HB.out.trans (hbw.mono HB.out.size)); clear hbx hbw; obtain ⟨zl, z0, z1, z2, z3⟩ := HZ1.out.parts; obtain ⟨zf0, zf1, zf2, zf3⟩ := HZ1.out.frees; simp only at z0 z1 z2 z3))
      go_wp2
      exact bodyPost_ret (v := .agg #[.int .i64 (-u1), .int .i64 u2, .int .i64 v1, .int .i64 v2]) (by simp [results, Try.results100, go_sem, z0, z1, z2, z3]) rfl ⟨by rw [HV.out], below_cp HB3.out _ _ _ _ (by omega)⟩
    · have HV : Hid (bhN a b s = s) := by show _ = _; unfold bhN; rw [hh, if_neg (by simp), if_neg hn]
      generalize bhN a b s = V at *
      generalize cpJ s.1 s.2 = C at *
      clear hf hh hs1 hs2 h1 h2 ha hb
      obtain ⟨⟨u1, u2⟩, ⟨v1, v2⟩⟩ := s
      simp only at HC hn ⊢
      go_enter Try.func100, Try.ntmps100
      go_wp2_with fail
      refine (HC.out _).mono ?_
      rintro e w1 ⟨rfl, hb⟩
      have P0 := ((CP.start w u1 u2 v1 v2 71).grow _).below hb
      have PR := (CP.start1 w _ 0 0 0 0 71).below hb
      have HB := Lib.hid ((Below.two w _ _).trans (hb.mono (by simp; omega)))
      obtain ⟨l0, a0, a1, a2, a3⟩ := P0.parts
      obtain ⟨zl, z0, z1, z2, z3⟩ := PR.parts
      obtain ⟨zf0, zf1, zf2, zf3⟩ := PR.frees
      simp only at a0 a1 a2 a3 z0 z1 z2 z3
      clear hb P0 PR
      go_wp2
      exact bodyPost_ret (v := .agg #[.int .i64 u1, .int .i64 u2, .int .i64 v1, .int .i64 v2]) (by simp [results, Try.results100, go_sem, z0, z1, z2, z3]) rfl ⟨by rw [HV.out], below_cp HB.out _ _ _ _ (by omega)⟩
end Go.Proofs.Ytikmkmpekjijpaa
