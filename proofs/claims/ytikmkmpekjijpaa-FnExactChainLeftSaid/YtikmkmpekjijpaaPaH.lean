/- Balls on the program's side: a clack. -/
import Derived.Test.YtikmkmpekjijpaaPaD
namespace Go.Proofs.Ytikmkmpekjijpaa
open Go.RowKit

theorem clk_f1 {m n : Int} {u v : Int × Int} (h : (maB m && paB u.1 u.2) = false) : ckV m u n v = ((0, 0), (0, 0)) ∧ ckOk m u n v = false := ck_f (by rw [cob_f1 h]; rfl)
theorem clk_f2 {m n : Int} {u v : Int × Int} (h : (maB n && paB v.1 v.2) = false) : ckV m u n v = ((0, 0), (0, 0)) ∧ ckOk m u n v = false := ck_f (by rw [cob_f2 h]; rfl)
theorem clk_t {m n : Int} {u v : Int × Int} (ha : asB m u n v = true) (h1 : balOk m u) (h2 : balOk n v) (hf : fstB u v = true) :
    ckV m u n v = (if paP (coP m u n v).1 && paP (coP m u n v).2 then coP m u n v else ((0, 0), (0, 0))) ∧ ckOk m u n v = (paP (coP m u n v).1 && paP (coP m u n v).2) := by
  obtain ⟨e1, e2⟩ := ck_t (m := m) (n := n) (u := u) (v := v) (by rw [ha, hf]; rfl)
  obtain ⟨e3, e4⟩ := coP_ok h1 h2
  rw [e1, e2, e3]
  refine ⟨?_, rfl⟩
  cases hc : clOk m u n v with
  | true => rw [if_pos rfl, e4 hc]
  | false => rw [if_neg (by simp)]; unfold clV; rw [hc]; rfl

set_option maxRecDepth 100000 in
set_option maxHeartbeats 4000000 in
theorem implClack_any (m n : Int) (u v : Int × Int) (w : World) :
    Calls Try.prog 23 #[.int .i64 m, .agg #[.int .i64 u.1, .int .i64 u.2], .int .i64 n, .agg #[.int .i64 v.1, .int .i64 v.2]] w fun e w' =>
      e = .returned (.tuple #[.agg #[.int .i64 (ckV m u n v).1.1, .int .i64 (ckV m u n v).1.2], .agg #[.int .i64 (ckV m u n v).2.1, .int .i64 (ckV m u n v).2.2], .bool (ckOk m u n v)]) ∧ Below w.heap.size w w' := by
  cases hq1 : (maB m && paB u.1 u.2) with
  | false =>
    have HE := Lib.hid (clk_f1 (n := n) (v := v) hq1)
    have H1 := Lib.hid (isBall_at m u.1 u.2 false hq1)
    clear hq1
    generalize ckV m u n v = V at *
    generalize ckOk m u n v = R at *
    obtain ⟨u1, u2⟩ := u
    obtain ⟨v1, v2⟩ := v
    simp only at H1 ⊢
    obtain ⟨W0, hW0⟩ : ∃ X, X = (((w.alloc (Obj.cells #[Value.int IntKind.i64 u1, Value.int IntKind.i64 u2] 25)).alloc (Obj.cells #[Value.int IntKind.i64 v1, Value.int IntKind.i64 v2] 25)).alloc (Obj.cells #[Value.int IntKind.i64 0, Value.int IntKind.i64 0] 25)).alloc (Obj.cells #[Value.int IntKind.i64 0, Value.int IntKind.i64 0] 25) := ⟨_, rfl⟩
    have HB0 : Hid (Below w.heap.size w W0) := by show Below _ _ _; rw [hW0]; exact Below.four w _ _ _ _
    have HU0 : Hid (PC w.heap.size (u1, u2) W0) := by show PC _ _ _; rw [hW0]; exact (((PC.start w u1 u2 _).grow _).grow _).grow _
    have HV0 : Hid (PC (w.heap.size + 1) (v1, v2) W0) := by show PC _ _ _; rw [hW0]; exact ((PC.at1 w _ v1 v2 _).grow _).grow _
    have HR0 : Hid (PZ (w.heap.size + 1 + 1) W0) := by show PZ _ _; rw [hW0]; exact (PZ.at2 w _ _ _).grow _
    have HQ0 : Hid (PZ (w.heap.size + 1 + 1 + 1) W0) := by show PZ _ _; rw [hW0]; exact PZ.at3 w _ _ _ _
    obtain ⟨_, u0, u1', _, _⟩ := HU0.out.parts
    obtain ⟨_, v0, v1', _, _⟩ := HV0.out.parts
    simp only at u0 u1' v0 v1'
    go_enter Try.func23, Try.ntmps23
    go_wp2
    rw [← hW0]
    clear hW0
    go_cut [11, 12] from 14 to 19 (fun p q wx => ∃ g h : Nat, p = .pointer (some ⟨g, 0, none⟩) ∧ q = .pointer (some ⟨h, 0, none⟩) ∧ BL g m (u1, u2) wx ∧ BL h n (v1, v2) wx ∧ Below W0.heap.size W0 wx)
    case first =>
      go_region
      all_goals (
        go_wp2_with fail
        go_meet
        case rel => exact ⟨_, _, rfl, rfl, ⟨by first | (simp; omega) | simp, by simp [go_sem], by simp [go_sem], by simp [go_sem]⟩, ⟨by first | (simp; omega) | simp, by simp [go_sem], by simp [go_sem], by simp [go_sem]⟩, by first | exact (Below.two W0 _ _).drew | exact (((Below.refl W0.heap.size W0).drew.alloc (Nat.le_refl _) _).alloc (by simp) _)⟩)
    case rest =>
    obtain ⟨g, h, hp, hq, hG, hH, hbx⟩ := hcut
    subst hp
    subst hq
    obtain ⟨X0, rfl⟩ : ∃ X, X = wc := ⟨_, rfl⟩
    have HG := Lib.hid hG
    have HH := Lib.hid hH
    have HB := Lib.hid (HB0.out.trans (hbx.mono HB0.out.size))
    have HU := Lib.hid (HU0.out.below hbx)
    have HV := Lib.hid (HV0.out.below hbx)
    have HR := Lib.hid (HR0.out.below hbx)
    have HQ := Lib.hid (HQ0.out.below hbx)
    clear hG hH hbx HB0 HU0 HV0 HR0 u0 u1' v0 v1'
    obtain ⟨_, g0, g1, g2⟩ := HG.out.parts
    obtain ⟨_, h0, h1, h2⟩ := HH.out.parts
    simp only at g1 g2 h1 h2
    go_wp2_with fail
    refine (H1.out _).mono ?_
    rintro e X1 ⟨rfl, hb⟩
    have HG := Lib.hid (HG.out.below hb)
    have HH := Lib.hid (HH.out.below hb)
    have HU := Lib.hid (HU.out.below hb)
    have HV := Lib.hid (HV.out.below hb)
    have HR := Lib.hid (HR.out.below hb)
    have HQ := Lib.hid (HQ.out.below hb)
    have HB := Lib.hid (HB.out.trans (hb.mono HB.out.size))
    clear hb
    obtain ⟨_, g0, g1, g2⟩ := HG.out.parts
    obtain ⟨_, h0, h1, h2⟩ := HH.out.parts
    simp only at g1 g2 h1 h2
    obtain ⟨_, c0, c1, f0, f1⟩ := HR.out.parts
    obtain ⟨_, d0, d1, k0, k1⟩ := HQ.out.parts
    go_wp2
    exact bodyPost_ret (v := .tuple #[.agg #[.int .i64 0, .int .i64 0], .agg #[.int .i64 0, .int .i64 0], .bool false]) (by simp [results, Try.results23, go_sem, c0, c1, d0, d1]) rfl ⟨by rw [HE.out.1, HE.out.2], below_set4 HB.out _ _ _ _ (by omega) (by omega)⟩
  | true =>
    have H1 := Lib.hid (isBall_at m u.1 u.2 true hq1)
    cases hq2 : (maB n && paB v.1 v.2) with
    | false =>
      have HE := Lib.hid (clk_f2 (m := m) (u := u) hq2)
      have H2 := Lib.hid (isBall_at n v.1 v.2 false hq2)
      clear hq1 hq2
      generalize ckV m u n v = V at *
      generalize ckOk m u n v = R at *
      obtain ⟨u1, u2⟩ := u
      obtain ⟨v1, v2⟩ := v
      simp only at H1 H2 ⊢
      obtain ⟨W0, hW0⟩ : ∃ X, X = (((w.alloc (Obj.cells #[Value.int IntKind.i64 u1, Value.int IntKind.i64 u2] 25)).alloc (Obj.cells #[Value.int IntKind.i64 v1, Value.int IntKind.i64 v2] 25)).alloc (Obj.cells #[Value.int IntKind.i64 0, Value.int IntKind.i64 0] 25)).alloc (Obj.cells #[Value.int IntKind.i64 0, Value.int IntKind.i64 0] 25) := ⟨_, rfl⟩
      have HB0 : Hid (Below w.heap.size w W0) := by show Below _ _ _; rw [hW0]; exact Below.four w _ _ _ _
      have HU0 : Hid (PC w.heap.size (u1, u2) W0) := by show PC _ _ _; rw [hW0]; exact (((PC.start w u1 u2 _).grow _).grow _).grow _
      have HV0 : Hid (PC (w.heap.size + 1) (v1, v2) W0) := by show PC _ _ _; rw [hW0]; exact ((PC.at1 w _ v1 v2 _).grow _).grow _
      have HR0 : Hid (PZ (w.heap.size + 1 + 1) W0) := by show PZ _ _; rw [hW0]; exact (PZ.at2 w _ _ _).grow _
      have HQ0 : Hid (PZ (w.heap.size + 1 + 1 + 1) W0) := by show PZ _ _; rw [hW0]; exact PZ.at3 w _ _ _ _
      obtain ⟨_, u0, u1', _, _⟩ := HU0.out.parts
      obtain ⟨_, v0, v1', _, _⟩ := HV0.out.parts
      simp only at u0 u1' v0 v1'
      go_enter Try.func23, Try.ntmps23
      go_wp2
      rw [← hW0]
      clear hW0
      go_cut [11, 12] from 14 to 19 (fun p q wx => ∃ g h : Nat, p = .pointer (some ⟨g, 0, none⟩) ∧ q = .pointer (some ⟨h, 0, none⟩) ∧ BL g m (u1, u2) wx ∧ BL h n (v1, v2) wx ∧ Below W0.heap.size W0 wx)
      case first =>
        go_region
        all_goals (
          go_wp2_with fail
          go_meet
          case rel => exact ⟨_, _, rfl, rfl, ⟨by first | (simp; omega) | simp, by simp [go_sem], by simp [go_sem], by simp [go_sem]⟩, ⟨by first | (simp; omega) | simp, by simp [go_sem], by simp [go_sem], by simp [go_sem]⟩, by first | exact (Below.two W0 _ _).drew | exact (((Below.refl W0.heap.size W0).drew.alloc (Nat.le_refl _) _).alloc (by simp) _)⟩)
      case rest =>
      obtain ⟨g, h, hp, hq, hG, hH, hbx⟩ := hcut
      subst hp
      subst hq
      obtain ⟨X0, rfl⟩ : ∃ X, X = wc := ⟨_, rfl⟩
      have HG := Lib.hid hG
      have HH := Lib.hid hH
      have HB := Lib.hid (HB0.out.trans (hbx.mono HB0.out.size))
      have HU := Lib.hid (HU0.out.below hbx)
      have HV := Lib.hid (HV0.out.below hbx)
      have HR := Lib.hid (HR0.out.below hbx)
      have HQ := Lib.hid (HQ0.out.below hbx)
      clear hG hH hbx HB0 HU0 HV0 HR0 u0 u1' v0 v1'
      obtain ⟨_, g0, g1, g2⟩ := HG.out.parts
      obtain ⟨_, h0, h1, h2⟩ := HH.out.parts
      simp only at g1 g2 h1 h2
      go_wp2_with fail
      refine (H1.out _).mono ?_
      rintro e X1 ⟨rfl, hb⟩
      have HG := Lib.hid (HG.out.below hb)
      have HH := Lib.hid (HH.out.below hb)
      have HU := Lib.hid (HU.out.below hb)
      have HV := Lib.hid (HV.out.below hb)
      have HR := Lib.hid (HR.out.below hb)
      have HQ := Lib.hid (HQ.out.below hb)
      have HB := Lib.hid (HB.out.trans (hb.mono HB.out.size))
      clear hb
      obtain ⟨_, g0, g1, g2⟩ := HG.out.parts
      obtain ⟨_, h0, h1, h2⟩ := HH.out.parts
      simp only at g1 g2 h1 h2
      go_wp2_with fail
      refine (H2.out _).mono ?_
      rintro e X2 ⟨rfl, hb⟩
      have HG := Lib.hid (HG.out.below hb)
      have HH := Lib.hid (HH.out.below hb)
      have HU := Lib.hid (HU.out.below hb)
      have HV := Lib.hid (HV.out.below hb)
      have HR := Lib.hid (HR.out.below hb)
      have HQ := Lib.hid (HQ.out.below hb)
      have HB := Lib.hid (HB.out.trans (hb.mono HB.out.size))
      clear hb
      obtain ⟨_, g0, g1, g2⟩ := HG.out.parts
      obtain ⟨_, h0, h1, h2⟩ := HH.out.parts
      simp only at g1 g2 h1 h2
      obtain ⟨_, e0, e1, _, _⟩ := HU.out.parts
      obtain ⟨_, d0, d1, _, _⟩ := HV.out.parts
      simp only at e0 e1 d0 d1
      obtain ⟨_, c0, c1, f0, f1⟩ := HR.out.parts
      obtain ⟨_, d0, d1, k0, k1⟩ := HQ.out.parts
      go_wp2
      exact bodyPost_ret (v := .tuple #[.agg #[.int .i64 0, .int .i64 0], .agg #[.int .i64 0, .int .i64 0], .bool false]) (by simp [results, Try.results23, go_sem, c0, c1, d0, d1]) rfl ⟨by rw [HE.out.1, HE.out.2], below_set4 HB.out _ _ _ _ (by omega) (by omega)⟩
    | true =>
      have H2 := Lib.hid (isBall_at n v.1 v.2 true hq2)
      obtain ⟨ha, hk1, hk2⟩ := cob_t (u := u) (v := v) hq1 hq2
      clear hq1 hq2
      have H3 := Lib.hid (fun w => cmpPaces_any u v w ((smP_sm hk1.2).up (A' := 100000000) (D' := 100000000) (by decide) (by decide)) ((smP_sm hk2.2).up (by decide) (by decide)))
      have hg := cpJ_pos u v
      generalize cpJ u v = C at *
      cases hf : fstB u v with
      | false =>
        have HE := Lib.hid (ck_f (m := m) (n := n) (u := u) (v := v) (by rw [ha, hf]; rfl))
        rw [hf, decide_eq_false_iff_not] at hg
        have hg2 : C ≤ 0 := by omega
        clear hf hk1 hk2 ha
        generalize ckV m u n v = V at *
        generalize ckOk m u n v = R at *
        obtain ⟨u1, u2⟩ := u
        obtain ⟨v1, v2⟩ := v
        simp only at H1 H2 H3 ⊢
        obtain ⟨W0, hW0⟩ : ∃ X, X = (((w.alloc (Obj.cells #[Value.int IntKind.i64 u1, Value.int IntKind.i64 u2] 25)).alloc (Obj.cells #[Value.int IntKind.i64 v1, Value.int IntKind.i64 v2] 25)).alloc (Obj.cells #[Value.int IntKind.i64 0, Value.int IntKind.i64 0] 25)).alloc (Obj.cells #[Value.int IntKind.i64 0, Value.int IntKind.i64 0] 25) := ⟨_, rfl⟩
        have HB0 : Hid (Below w.heap.size w W0) := by show Below _ _ _; rw [hW0]; exact Below.four w _ _ _ _
        have HU0 : Hid (PC w.heap.size (u1, u2) W0) := by show PC _ _ _; rw [hW0]; exact (((PC.start w u1 u2 _).grow _).grow _).grow _
        have HV0 : Hid (PC (w.heap.size + 1) (v1, v2) W0) := by show PC _ _ _; rw [hW0]; exact ((PC.at1 w _ v1 v2 _).grow _).grow _
        have HR0 : Hid (PZ (w.heap.size + 1 + 1) W0) := by show PZ _ _; rw [hW0]; exact (PZ.at2 w _ _ _).grow _
        have HQ0 : Hid (PZ (w.heap.size + 1 + 1 + 1) W0) := by show PZ _ _; rw [hW0]; exact PZ.at3 w _ _ _ _
        obtain ⟨_, u0, u1', _, _⟩ := HU0.out.parts
        obtain ⟨_, v0, v1', _, _⟩ := HV0.out.parts
        simp only at u0 u1' v0 v1'
        go_enter Try.func23, Try.ntmps23
        go_wp2
        rw [← hW0]
        clear hW0
        go_cut [11, 12] from 14 to 19 (fun p q wx => ∃ g h : Nat, p = .pointer (some ⟨g, 0, none⟩) ∧ q = .pointer (some ⟨h, 0, none⟩) ∧ BL g m (u1, u2) wx ∧ BL h n (v1, v2) wx ∧ Below W0.heap.size W0 wx)
        case first =>
          go_region
          all_goals (
            go_wp2_with fail
            go_meet
            case rel => exact ⟨_, _, rfl, rfl, ⟨by first | (simp; omega) | simp, by simp [go_sem], by simp [go_sem], by simp [go_sem]⟩, ⟨by first | (simp; omega) | simp, by simp [go_sem], by simp [go_sem], by simp [go_sem]⟩, by first | exact (Below.two W0 _ _).drew | exact (((Below.refl W0.heap.size W0).drew.alloc (Nat.le_refl _) _).alloc (by simp) _)⟩)
        case rest =>
        obtain ⟨g, h, hp, hq, hG, hH, hbx⟩ := hcut
        subst hp
        subst hq
        obtain ⟨X0, rfl⟩ : ∃ X, X = wc := ⟨_, rfl⟩
        have HG := Lib.hid hG
        have HH := Lib.hid hH
        have HB := Lib.hid (HB0.out.trans (hbx.mono HB0.out.size))
        have HU := Lib.hid (HU0.out.below hbx)
        have HV := Lib.hid (HV0.out.below hbx)
        have HR := Lib.hid (HR0.out.below hbx)
        have HQ := Lib.hid (HQ0.out.below hbx)
        clear hG hH hbx HB0 HU0 HV0 HR0 u0 u1' v0 v1'
        obtain ⟨_, g0, g1, g2⟩ := HG.out.parts
        obtain ⟨_, h0, h1, h2⟩ := HH.out.parts
        simp only at g1 g2 h1 h2
        go_wp2_with fail
        refine (H1.out _).mono ?_
        rintro e X1 ⟨rfl, hb⟩
        have HG := Lib.hid (HG.out.below hb)
        have HH := Lib.hid (HH.out.below hb)
        have HU := Lib.hid (HU.out.below hb)
        have HV := Lib.hid (HV.out.below hb)
        have HR := Lib.hid (HR.out.below hb)
        have HQ := Lib.hid (HQ.out.below hb)
        have HB := Lib.hid (HB.out.trans (hb.mono HB.out.size))
        clear hb
        obtain ⟨_, g0, g1, g2⟩ := HG.out.parts
        obtain ⟨_, h0, h1, h2⟩ := HH.out.parts
        simp only at g1 g2 h1 h2
        go_wp2_with fail
        refine (H2.out _).mono ?_
        rintro e X2 ⟨rfl, hb⟩
        have HG := Lib.hid (HG.out.below hb)
        have HH := Lib.hid (HH.out.below hb)
        have HU := Lib.hid (HU.out.below hb)
        have HV := Lib.hid (HV.out.below hb)
        have HR := Lib.hid (HR.out.below hb)
        have HQ := Lib.hid (HQ.out.below hb)
        have HB := Lib.hid (HB.out.trans (hb.mono HB.out.size))
        clear hb
        obtain ⟨_, g0, g1, g2⟩ := HG.out.parts
        obtain ⟨_, h0, h1, h2⟩ := HH.out.parts
        simp only at g1 g2 h1 h2
        obtain ⟨_, e0, e1, _, _⟩ := HU.out.parts
        obtain ⟨_, d0, d1, _, _⟩ := HV.out.parts
        simp only at e0 e1 d0 d1
        go_wp2_with fail
        refine (H3.out _).mono ?_
        rintro e X3 ⟨rfl, hb⟩
        have HG := Lib.hid (HG.out.below hb)
        have HH := Lib.hid (HH.out.below hb)
        have HU := Lib.hid (HU.out.below hb)
        have HV := Lib.hid (HV.out.below hb)
        have HR := Lib.hid (HR.out.below hb)
        have HQ := Lib.hid (HQ.out.below hb)
        have HB := Lib.hid (HB.out.trans (hb.mono HB.out.size))
        clear hb
        obtain ⟨_, g0, g1, g2⟩ := HG.out.parts
        obtain ⟨_, h0, h1, h2⟩ := HH.out.parts
        simp only at g1 g2 h1 h2
        obtain ⟨_, c0, c1, f0, f1⟩ := HR.out.parts
        obtain ⟨_, d0, d1, k0, k1⟩ := HQ.out.parts
        go_wp2
        exact bodyPost_ret (v := .tuple #[.agg #[.int .i64 0, .int .i64 0], .agg #[.int .i64 0, .int .i64 0], .bool false]) (by simp [results, Try.results23, go_sem, c0, c1, d0, d1]) rfl ⟨by rw [HE.out.1, HE.out.2], below_set4 HB.out _ _ _ _ (by omega) (by omega)⟩
      | true =>
        have HE := Lib.hid (clk_t ha hk1 hk2 hf)
        rw [hf, decide_eq_true_eq] at hg
        have hg2 : ¬ C ≤ 0 := by omega
        have H4 := Lib.hid (fun w => coupleBehind_any m n u v w hk1 hk2)
        clear hf hk1 hk2 ha
        generalize ckV m u n v = V at *
        generalize ckOk m u n v = R at *
        generalize coP m u n v = X at *
        obtain ⟨⟨x1, x2⟩, ⟨y1, y2⟩⟩ := X
        obtain ⟨u1, u2⟩ := u
        obtain ⟨v1, v2⟩ := v
        simp only at H1 H2 H3 H4 HE ⊢

        have HE0 := HE.out
        unfold paP at HE0
        simp only at HE0
        cases hp1 : paB x1 x2 with
        | false =>
          have H5 := Lib.hid (isPace_at x1 x2 false hp1)
          rw [hp1] at HE0
          have HE : Hid (V = ((0, 0), (0, 0)) ∧ R = false) := ⟨by rw [HE0.1]; rfl, by rw [HE0.2]; rfl⟩
          clear HE0 hp1
          obtain ⟨W0, hW0⟩ : ∃ X, X = (((w.alloc (Obj.cells #[Value.int IntKind.i64 u1, Value.int IntKind.i64 u2] 25)).alloc (Obj.cells #[Value.int IntKind.i64 v1, Value.int IntKind.i64 v2] 25)).alloc (Obj.cells #[Value.int IntKind.i64 0, Value.int IntKind.i64 0] 25)).alloc (Obj.cells #[Value.int IntKind.i64 0, Value.int IntKind.i64 0] 25) := ⟨_, rfl⟩
          have HB0 : Hid (Below w.heap.size w W0) := by show Below _ _ _; rw [hW0]; exact Below.four w _ _ _ _
          have HU0 : Hid (PC w.heap.size (u1, u2) W0) := by show PC _ _ _; rw [hW0]; exact (((PC.start w u1 u2 _).grow _).grow _).grow _
          have HV0 : Hid (PC (w.heap.size + 1) (v1, v2) W0) := by show PC _ _ _; rw [hW0]; exact ((PC.at1 w _ v1 v2 _).grow _).grow _
          have HR0 : Hid (PZ (w.heap.size + 1 + 1) W0) := by show PZ _ _; rw [hW0]; exact (PZ.at2 w _ _ _).grow _
          have HQ0 : Hid (PZ (w.heap.size + 1 + 1 + 1) W0) := by show PZ _ _; rw [hW0]; exact PZ.at3 w _ _ _ _
          obtain ⟨_, u0, u1', _, _⟩ := HU0.out.parts
          obtain ⟨_, v0, v1', _, _⟩ := HV0.out.parts
          simp only at u0 u1' v0 v1'
          go_enter Try.func23, Try.ntmps23
          go_wp2
          rw [← hW0]
          clear hW0
          go_cut [11, 12] from 14 to 19 (fun p q wx => ∃ g h : Nat, p = .pointer (some ⟨g, 0, none⟩) ∧ q = .pointer (some ⟨h, 0, none⟩) ∧ BL g m (u1, u2) wx ∧ BL h n (v1, v2) wx ∧ Below W0.heap.size W0 wx)
          case first =>
            go_region
            all_goals (
              go_wp2_with fail
              go_meet
              case rel => exact ⟨_, _, rfl, rfl, ⟨by first | (simp; omega) | simp, by simp [go_sem], by simp [go_sem], by simp [go_sem]⟩, ⟨by first | (simp; omega) | simp, by simp [go_sem], by simp [go_sem], by simp [go_sem]⟩, by first | exact (Below.two W0 _ _).drew | exact (((Below.refl W0.heap.size W0).drew.alloc (Nat.le_refl _) _).alloc (by simp) _)⟩)
          case rest =>
          obtain ⟨g, h, hp, hq, hG, hH, hbx⟩ := hcut
          subst hp
          subst hq
          obtain ⟨X0, rfl⟩ : ∃ X, X = wc := ⟨_, rfl⟩
          have HG := Lib.hid hG
          have HH := Lib.hid hH
          have HB := Lib.hid (HB0.out.trans (hbx.mono HB0.out.size))
          have HU := Lib.hid (HU0.out.below hbx)
          have HV := Lib.hid (HV0.out.below hbx)
          have HR := Lib.hid (HR0.out.below hbx)
          have HQ := Lib.hid (HQ0.out.below hbx)
          clear hG hH hbx HB0 HU0 HV0 HR0 u0 u1' v0 v1'
          obtain ⟨_, g0, g1, g2⟩ := HG.out.parts
          obtain ⟨_, h0, h1, h2⟩ := HH.out.parts
          simp only at g1 g2 h1 h2
          go_wp2_with fail
          refine (H1.out _).mono ?_
          rintro e X1 ⟨rfl, hb⟩
          have HG := Lib.hid (HG.out.below hb)
          have HH := Lib.hid (HH.out.below hb)
          have HU := Lib.hid (HU.out.below hb)
          have HV := Lib.hid (HV.out.below hb)
          have HR := Lib.hid (HR.out.below hb)
          have HQ := Lib.hid (HQ.out.below hb)
          have HB := Lib.hid (HB.out.trans (hb.mono HB.out.size))
          clear hb
          obtain ⟨_, g0, g1, g2⟩ := HG.out.parts
          obtain ⟨_, h0, h1, h2⟩ := HH.out.parts
          simp only at g1 g2 h1 h2
          go_wp2_with fail
          refine (H2.out _).mono ?_
          rintro e X2 ⟨rfl, hb⟩
          have HG := Lib.hid (HG.out.below hb)
          have HH := Lib.hid (HH.out.below hb)
          have HU := Lib.hid (HU.out.below hb)
          have HV := Lib.hid (HV.out.below hb)
          have HR := Lib.hid (HR.out.below hb)
          have HQ := Lib.hid (HQ.out.below hb)
          have HB := Lib.hid (HB.out.trans (hb.mono HB.out.size))
          clear hb
          obtain ⟨_, g0, g1, g2⟩ := HG.out.parts
          obtain ⟨_, h0, h1, h2⟩ := HH.out.parts
          simp only at g1 g2 h1 h2
          obtain ⟨_, e0, e1, _, _⟩ := HU.out.parts
          obtain ⟨_, d0, d1, _, _⟩ := HV.out.parts
          simp only at e0 e1 d0 d1
          go_wp2_with fail
          refine (H3.out _).mono ?_
          rintro e X3 ⟨rfl, hb⟩
          have HG := Lib.hid (HG.out.below hb)
          have HH := Lib.hid (HH.out.below hb)
          have HU := Lib.hid (HU.out.below hb)
          have HV := Lib.hid (HV.out.below hb)
          have HR := Lib.hid (HR.out.below hb)
          have HQ := Lib.hid (HQ.out.below hb)
          have HB := Lib.hid (HB.out.trans (hb.mono HB.out.size))
          clear hb
          obtain ⟨_, g0, g1, g2⟩ := HG.out.parts
          obtain ⟨_, h0, h1, h2⟩ := HH.out.parts
          simp only at g1 g2 h1 h2
          go_wp2_with fail
          refine (H4.out _).mono ?_
          rintro e X4 ⟨rfl, hb⟩
          have HG := Lib.hid (HG.out.below hb)
          have HH := Lib.hid (HH.out.below hb)
          have HU := Lib.hid (HU.out.below hb)
          have HV := Lib.hid (HV.out.below hb)
          have HR := Lib.hid (HR.out.below hb)
          have HQ := Lib.hid (HQ.out.below hb)
          have HB := Lib.hid (HB.out.trans (hb.mono HB.out.size))
          clear hb
          obtain ⟨_, g0, g1, g2⟩ := HG.out.parts
          obtain ⟨_, h0, h1, h2⟩ := HH.out.parts
          simp only at g1 g2 h1 h2
          have HX3 := Lib.hid (CP.start X4 x1 x2 y1 y2 71)
          have HL4 := Lib.hid ((Below.refl X4.heap.size X4).alloc (Nat.le_refl _) (Obj.cells #[Value.int .i64 x1, Value.int .i64 x2, Value.int .i64 y1, Value.int .i64 y2] 71))
          go_wp2_with fail
          refine (H5.out _).mono ?_
          rintro e X5 ⟨rfl, hb⟩
          have HX := Lib.hid (HX3.out.below hb)
          have hb3 := HL4.out.trans (hb.mono (by simp))
          clear hb
          have HG := Lib.hid (HG.out.below hb3)
          have HH := Lib.hid (HH.out.below hb3)
          have HU := Lib.hid (HU.out.below hb3)
          have HV := Lib.hid (HV.out.below hb3)
          have HR := Lib.hid (HR.out.below hb3)
          have HQ := Lib.hid (HQ.out.below hb3)
          have HB := Lib.hid (HB.out.trans (hb3.mono HB.out.size))
          clear hb3
          obtain ⟨_, q0, q1, q2, q3⟩ := HX.out.parts
          simp only at q0 q1 q2 q3
          obtain ⟨_, c0, c1, f0, f1⟩ := HR.out.parts
          obtain ⟨_, d0, d1, k0, k1⟩ := HQ.out.parts
          go_wp2
          exact bodyPost_ret (v := .tuple #[.agg #[.int .i64 0, .int .i64 0], .agg #[.int .i64 0, .int .i64 0], .bool false]) (by simp [results, Try.results23, go_sem, c0, c1, d0, d1]) rfl ⟨by rw [HE.out.1, HE.out.2], below_set4 HB.out _ _ _ _ (by omega) (by omega)⟩
        | true =>
          have H5 := Lib.hid (isPace_at x1 x2 true hp1)
          rw [hp1] at HE0
          cases hp2 : paB y1 y2 with
          | false =>
            have H6 := Lib.hid (isPace_at y1 y2 false hp2)
            rw [hp2] at HE0
            have HE : Hid (V = ((0, 0), (0, 0)) ∧ R = false) := ⟨by rw [HE0.1]; rfl, by rw [HE0.2]; rfl⟩
            clear HE0 hp1 hp2
            obtain ⟨W0, hW0⟩ : ∃ X, X = (((w.alloc (Obj.cells #[Value.int IntKind.i64 u1, Value.int IntKind.i64 u2] 25)).alloc (Obj.cells #[Value.int IntKind.i64 v1, Value.int IntKind.i64 v2] 25)).alloc (Obj.cells #[Value.int IntKind.i64 0, Value.int IntKind.i64 0] 25)).alloc (Obj.cells #[Value.int IntKind.i64 0, Value.int IntKind.i64 0] 25) := ⟨_, rfl⟩
            have HB0 : Hid (Below w.heap.size w W0) := by show Below _ _ _; rw [hW0]; exact Below.four w _ _ _ _
            have HU0 : Hid (PC w.heap.size (u1, u2) W0) := by show PC _ _ _; rw [hW0]; exact (((PC.start w u1 u2 _).grow _).grow _).grow _
            have HV0 : Hid (PC (w.heap.size + 1) (v1, v2) W0) := by show PC _ _ _; rw [hW0]; exact ((PC.at1 w _ v1 v2 _).grow _).grow _
            have HR0 : Hid (PZ (w.heap.size + 1 + 1) W0) := by show PZ _ _; rw [hW0]; exact (PZ.at2 w _ _ _).grow _
            have HQ0 : Hid (PZ (w.heap.size + 1 + 1 + 1) W0) := by show PZ _ _; rw [hW0]; exact PZ.at3 w _ _ _ _
            obtain ⟨_, u0, u1', _, _⟩ := HU0.out.parts
            obtain ⟨_, v0, v1', _, _⟩ := HV0.out.parts
            simp only at u0 u1' v0 v1'
            go_enter Try.func23, Try.ntmps23
            go_wp2
            rw [← hW0]
            clear hW0
            go_cut [11, 12] from 14 to 19 (fun p q wx => ∃ g h : Nat, p = .pointer (some ⟨g, 0, none⟩) ∧ q = .pointer (some ⟨h, 0, none⟩) ∧ BL g m (u1, u2) wx ∧ BL h n (v1, v2) wx ∧ Below W0.heap.size W0 wx)
            case first =>
              go_region
              all_goals (
                go_wp2_with fail
                go_meet
                case rel => exact ⟨_, _, rfl, rfl, ⟨by first | (simp; omega) | simp, by simp [go_sem], by simp [go_sem], by simp [go_sem]⟩, ⟨by first | (simp; omega) | simp, by simp [go_sem], by simp [go_sem], by simp [go_sem]⟩, by first | exact (Below.two W0 _ _).drew | exact (((Below.refl W0.heap.size W0).drew.alloc (Nat.le_refl _) _).alloc (by simp) _)⟩)
            case rest =>
            obtain ⟨g, h, hp, hq, hG, hH, hbx⟩ := hcut
            subst hp
            subst hq
            obtain ⟨X0, rfl⟩ : ∃ X, X = wc := ⟨_, rfl⟩
            have HG := Lib.hid hG
            have HH := Lib.hid hH
            have HB := Lib.hid (HB0.out.trans (hbx.mono HB0.out.size))
            have HU := Lib.hid (HU0.out.below hbx)
            have HV := Lib.hid (HV0.out.below hbx)
            have HR := Lib.hid (HR0.out.below hbx)
            have HQ := Lib.hid (HQ0.out.below hbx)
            clear hG hH hbx HB0 HU0 HV0 HR0 u0 u1' v0 v1'
            obtain ⟨_, g0, g1, g2⟩ := HG.out.parts
            obtain ⟨_, h0, h1, h2⟩ := HH.out.parts
            simp only at g1 g2 h1 h2
            go_wp2_with fail
            refine (H1.out _).mono ?_
            rintro e X1 ⟨rfl, hb⟩
            have HG := Lib.hid (HG.out.below hb)
            have HH := Lib.hid (HH.out.below hb)
            have HU := Lib.hid (HU.out.below hb)
            have HV := Lib.hid (HV.out.below hb)
            have HR := Lib.hid (HR.out.below hb)
            have HQ := Lib.hid (HQ.out.below hb)
            have HB := Lib.hid (HB.out.trans (hb.mono HB.out.size))
            clear hb
            obtain ⟨_, g0, g1, g2⟩ := HG.out.parts
            obtain ⟨_, h0, h1, h2⟩ := HH.out.parts
            simp only at g1 g2 h1 h2
            go_wp2_with fail
            refine (H2.out _).mono ?_
            rintro e X2 ⟨rfl, hb⟩
            have HG := Lib.hid (HG.out.below hb)
            have HH := Lib.hid (HH.out.below hb)
            have HU := Lib.hid (HU.out.below hb)
            have HV := Lib.hid (HV.out.below hb)
            have HR := Lib.hid (HR.out.below hb)
            have HQ := Lib.hid (HQ.out.below hb)
            have HB := Lib.hid (HB.out.trans (hb.mono HB.out.size))
            clear hb
            obtain ⟨_, g0, g1, g2⟩ := HG.out.parts
            obtain ⟨_, h0, h1, h2⟩ := HH.out.parts
            simp only at g1 g2 h1 h2
            obtain ⟨_, e0, e1, _, _⟩ := HU.out.parts
            obtain ⟨_, d0, d1, _, _⟩ := HV.out.parts
            simp only at e0 e1 d0 d1
            go_wp2_with fail
            refine (H3.out _).mono ?_
            rintro e X3 ⟨rfl, hb⟩
            have HG := Lib.hid (HG.out.below hb)
            have HH := Lib.hid (HH.out.below hb)
            have HU := Lib.hid (HU.out.below hb)
            have HV := Lib.hid (HV.out.below hb)
            have HR := Lib.hid (HR.out.below hb)
            have HQ := Lib.hid (HQ.out.below hb)
            have HB := Lib.hid (HB.out.trans (hb.mono HB.out.size))
            clear hb
            obtain ⟨_, g0, g1, g2⟩ := HG.out.parts
            obtain ⟨_, h0, h1, h2⟩ := HH.out.parts
            simp only at g1 g2 h1 h2
            go_wp2_with fail
            refine (H4.out _).mono ?_
            rintro e X4 ⟨rfl, hb⟩
            have HG := Lib.hid (HG.out.below hb)
            have HH := Lib.hid (HH.out.below hb)
            have HU := Lib.hid (HU.out.below hb)
            have HV := Lib.hid (HV.out.below hb)
            have HR := Lib.hid (HR.out.below hb)
            have HQ := Lib.hid (HQ.out.below hb)
            have HB := Lib.hid (HB.out.trans (hb.mono HB.out.size))
            clear hb
            obtain ⟨_, g0, g1, g2⟩ := HG.out.parts
            obtain ⟨_, h0, h1, h2⟩ := HH.out.parts
            simp only at g1 g2 h1 h2
            have HX3 := Lib.hid (CP.start X4 x1 x2 y1 y2 71)
            have HL4 := Lib.hid ((Below.refl X4.heap.size X4).alloc (Nat.le_refl _) (Obj.cells #[Value.int .i64 x1, Value.int .i64 x2, Value.int .i64 y1, Value.int .i64 y2] 71))
            go_wp2_with fail
            refine (H5.out _).mono ?_
            rintro e X5 ⟨rfl, hb⟩
            have HX := Lib.hid (HX3.out.below hb)
            have hb3 := HL4.out.trans (hb.mono (by simp))
            clear hb
            have HG := Lib.hid (HG.out.below hb3)
            have HH := Lib.hid (HH.out.below hb3)
            have HU := Lib.hid (HU.out.below hb3)
            have HV := Lib.hid (HV.out.below hb3)
            have HR := Lib.hid (HR.out.below hb3)
            have HQ := Lib.hid (HQ.out.below hb3)
            have HB := Lib.hid (HB.out.trans (hb3.mono HB.out.size))
            clear hb3
            obtain ⟨_, q0, q1, q2, q3⟩ := HX.out.parts
            simp only at q0 q1 q2 q3
            go_wp2_with fail
            refine (H6.out _).mono ?_
            rintro e X6 ⟨rfl, hb⟩
            have HX := Lib.hid (HX.out.below hb)
            have HG := Lib.hid (HG.out.below hb)
            have HH := Lib.hid (HH.out.below hb)
            have HU := Lib.hid (HU.out.below hb)
            have HV := Lib.hid (HV.out.below hb)
            have HR := Lib.hid (HR.out.below hb)
            have HQ := Lib.hid (HQ.out.below hb)
            have HB := Lib.hid (HB.out.trans (hb.mono HB.out.size))
            clear hb
            obtain ⟨_, q0, q1, q2, q3⟩ := HX.out.parts
            simp only at q0 q1 q2 q3
            obtain ⟨_, c0, c1, f0, f1⟩ := HR.out.parts
            obtain ⟨_, d0, d1, k0, k1⟩ := HQ.out.parts
            go_wp2
            exact bodyPost_ret (v := .tuple #[.agg #[.int .i64 0, .int .i64 0], .agg #[.int .i64 0, .int .i64 0], .bool false]) (by simp [results, Try.results23, go_sem, c0, c1, d0, d1]) rfl ⟨by rw [HE.out.1, HE.out.2], below_set4 HB.out _ _ _ _ (by omega) (by omega)⟩
          | true =>
            have H6 := Lib.hid (isPace_at y1 y2 true hp2)
            rw [hp2] at HE0
            have HE : Hid (V = ((x1, x2), (y1, y2)) ∧ R = true) := ⟨by rw [HE0.1]; rfl, by rw [HE0.2]; rfl⟩
            clear HE0 hp1 hp2
            obtain ⟨W0, hW0⟩ : ∃ X, X = (((w.alloc (Obj.cells #[Value.int IntKind.i64 u1, Value.int IntKind.i64 u2] 25)).alloc (Obj.cells #[Value.int IntKind.i64 v1, Value.int IntKind.i64 v2] 25)).alloc (Obj.cells #[Value.int IntKind.i64 0, Value.int IntKind.i64 0] 25)).alloc (Obj.cells #[Value.int IntKind.i64 0, Value.int IntKind.i64 0] 25) := ⟨_, rfl⟩
            have HB0 : Hid (Below w.heap.size w W0) := by show Below _ _ _; rw [hW0]; exact Below.four w _ _ _ _
            have HU0 : Hid (PC w.heap.size (u1, u2) W0) := by show PC _ _ _; rw [hW0]; exact (((PC.start w u1 u2 _).grow _).grow _).grow _
            have HV0 : Hid (PC (w.heap.size + 1) (v1, v2) W0) := by show PC _ _ _; rw [hW0]; exact ((PC.at1 w _ v1 v2 _).grow _).grow _
            have HR0 : Hid (PZ (w.heap.size + 1 + 1) W0) := by show PZ _ _; rw [hW0]; exact (PZ.at2 w _ _ _).grow _
            have HQ0 : Hid (PZ (w.heap.size + 1 + 1 + 1) W0) := by show PZ _ _; rw [hW0]; exact PZ.at3 w _ _ _ _
            obtain ⟨_, u0, u1', _, _⟩ := HU0.out.parts
            obtain ⟨_, v0, v1', _, _⟩ := HV0.out.parts
            simp only at u0 u1' v0 v1'
            go_enter Try.func23, Try.ntmps23
            go_wp2
            rw [← hW0]
            clear hW0
            go_cut [11, 12] from 14 to 19 (fun p q wx => ∃ g h : Nat, p = .pointer (some ⟨g, 0, none⟩) ∧ q = .pointer (some ⟨h, 0, none⟩) ∧ BL g m (u1, u2) wx ∧ BL h n (v1, v2) wx ∧ Below W0.heap.size W0 wx)
            case first =>
              go_region
              all_goals (
                go_wp2_with fail
                go_meet
                case rel => exact ⟨_, _, rfl, rfl, ⟨by first | (simp; omega) | simp, by simp [go_sem], by simp [go_sem], by simp [go_sem]⟩, ⟨by first | (simp; omega) | simp, by simp [go_sem], by simp [go_sem], by simp [go_sem]⟩, by first | exact (Below.two W0 _ _).drew | exact (((Below.refl W0.heap.size W0).drew.alloc (Nat.le_refl _) _).alloc (by simp) _)⟩)
            case rest =>
            obtain ⟨g, h, hp, hq, hG, hH, hbx⟩ := hcut
            subst hp
            subst hq
            obtain ⟨X0, rfl⟩ : ∃ X, X = wc := ⟨_, rfl⟩
            have HG := Lib.hid hG
            have HH := Lib.hid hH
            have HB := Lib.hid (HB0.out.trans (hbx.mono HB0.out.size))
            have HU := Lib.hid (HU0.out.below hbx)
            have HV := Lib.hid (HV0.out.below hbx)
            have HR := Lib.hid (HR0.out.below hbx)
            have HQ := Lib.hid (HQ0.out.below hbx)
            clear hG hH hbx HB0 HU0 HV0 HR0 u0 u1' v0 v1'
            obtain ⟨_, g0, g1, g2⟩ := HG.out.parts
            obtain ⟨_, h0, h1, h2⟩ := HH.out.parts
            simp only at g1 g2 h1 h2
            go_wp2_with fail
            refine (H1.out _).mono ?_
            rintro e X1 ⟨rfl, hb⟩
            have HG := Lib.hid (HG.out.below hb)
            have HH := Lib.hid (HH.out.below hb)
            have HU := Lib.hid (HU.out.below hb)
            have HV := Lib.hid (HV.out.below hb)
            have HR := Lib.hid (HR.out.below hb)
            have HQ := Lib.hid (HQ.out.below hb)
            have HB := Lib.hid (HB.out.trans (hb.mono HB.out.size))
            clear hb
            obtain ⟨_, g0, g1, g2⟩ := HG.out.parts
            obtain ⟨_, h0, h1, h2⟩ := HH.out.parts
            simp only at g1 g2 h1 h2
            go_wp2_with fail
            refine (H2.out _).mono ?_
            rintro e X2 ⟨rfl, hb⟩
            have HG := Lib.hid (HG.out.below hb)
            have HH := Lib.hid (HH.out.below hb)
            have HU := Lib.hid (HU.out.below hb)
            have HV := Lib.hid (HV.out.below hb)
            have HR := Lib.hid (HR.out.below hb)
            have HQ := Lib.hid (HQ.out.below hb)
            have HB := Lib.hid (HB.out.trans (hb.mono HB.out.size))
            clear hb
            obtain ⟨_, g0, g1, g2⟩ := HG.out.parts
            obtain ⟨_, h0, h1, h2⟩ := HH.out.parts
            simp only at g1 g2 h1 h2
            obtain ⟨_, e0, e1, _, _⟩ := HU.out.parts
            obtain ⟨_, d0, d1, _, _⟩ := HV.out.parts
            simp only at e0 e1 d0 d1
            go_wp2_with fail
            refine (H3.out _).mono ?_
            rintro e X3 ⟨rfl, hb⟩
            have HG := Lib.hid (HG.out.below hb)
            have HH := Lib.hid (HH.out.below hb)
            have HU := Lib.hid (HU.out.below hb)
            have HV := Lib.hid (HV.out.below hb)
            have HR := Lib.hid (HR.out.below hb)
            have HQ := Lib.hid (HQ.out.below hb)
            have HB := Lib.hid (HB.out.trans (hb.mono HB.out.size))
            clear hb
            obtain ⟨_, g0, g1, g2⟩ := HG.out.parts
            obtain ⟨_, h0, h1, h2⟩ := HH.out.parts
            simp only at g1 g2 h1 h2
            go_wp2_with fail
            refine (H4.out _).mono ?_
            rintro e X4 ⟨rfl, hb⟩
            have HG := Lib.hid (HG.out.below hb)
            have HH := Lib.hid (HH.out.below hb)
            have HU := Lib.hid (HU.out.below hb)
            have HV := Lib.hid (HV.out.below hb)
            have HR := Lib.hid (HR.out.below hb)
            have HQ := Lib.hid (HQ.out.below hb)
            have HB := Lib.hid (HB.out.trans (hb.mono HB.out.size))
            clear hb
            obtain ⟨_, g0, g1, g2⟩ := HG.out.parts
            obtain ⟨_, h0, h1, h2⟩ := HH.out.parts
            simp only at g1 g2 h1 h2
            have HX3 := Lib.hid (CP.start X4 x1 x2 y1 y2 71)
            have HL4 := Lib.hid ((Below.refl X4.heap.size X4).alloc (Nat.le_refl _) (Obj.cells #[Value.int .i64 x1, Value.int .i64 x2, Value.int .i64 y1, Value.int .i64 y2] 71))
            go_wp2_with fail
            refine (H5.out _).mono ?_
            rintro e X5 ⟨rfl, hb⟩
            have HX := Lib.hid (HX3.out.below hb)
            have hb3 := HL4.out.trans (hb.mono (by simp))
            clear hb
            have HG := Lib.hid (HG.out.below hb3)
            have HH := Lib.hid (HH.out.below hb3)
            have HU := Lib.hid (HU.out.below hb3)
            have HV := Lib.hid (HV.out.below hb3)
            have HR := Lib.hid (HR.out.below hb3)
            have HQ := Lib.hid (HQ.out.below hb3)
            have HB := Lib.hid (HB.out.trans (hb3.mono HB.out.size))
            clear hb3
            obtain ⟨_, q0, q1, q2, q3⟩ := HX.out.parts
            simp only at q0 q1 q2 q3
            go_wp2_with fail
            refine (H6.out _).mono ?_
            rintro e X6 ⟨rfl, hb⟩
            have HX := Lib.hid (HX.out.below hb)
            have HG := Lib.hid (HG.out.below hb)
            have HH := Lib.hid (HH.out.below hb)
            have HU := Lib.hid (HU.out.below hb)
            have HV := Lib.hid (HV.out.below hb)
            have HR := Lib.hid (HR.out.below hb)
            have HQ := Lib.hid (HQ.out.below hb)
            have HB := Lib.hid (HB.out.trans (hb.mono HB.out.size))
            clear hb
            obtain ⟨_, q0, q1, q2, q3⟩ := HX.out.parts
            simp only at q0 q1 q2 q3
            obtain ⟨_, c0, c1, f0, f1⟩ := HR.out.parts
            obtain ⟨_, d0, d1, k0, k1⟩ := HQ.out.parts
            go_wp2
            go_region
            go_wp2
            exact bodyPost_ret (v := .tuple #[.agg #[.int .i64 x1, .int .i64 x2], .agg #[.int .i64 y1, .int .i64 y2], .bool true]) (by simp [results, Try.results23, go_sem, c0, c1, d0, d1]) rfl ⟨by rw [HE.out.1, HE.out.2], (below_set4 HB.out _ _ _ _ (by omega) (by omega)).drew⟩

end Go.Proofs.Ytikmkmpekjijpaa
