/- Balls on the program's side, fourth part: the calls on two balls. -/
import Derived.Test.YtikmkmpekjijpaaPaC
import Derived.Test.YtikmkmpekjijpaaPaE
import Derived.Test.YtikmkmpekjijpaaBalF
namespace Go.Proofs.Ytikmkmpekjijpaa
open Go.RowKit

theorem cob_f1 {m n : Int} {u v : Int × Int} (h : (maB m && paB u.1 u.2) = false) : asB m u n v = false := by unfold asB paP; rw [h]; rfl
theorem cob_f2 {m n : Int} {u v : Int × Int} (h : (maB n && paB v.1 v.2) = false) : asB m u n v = false := by unfold asB paP; rw [h]; simp
theorem cob_t {m n : Int} {u v : Int × Int} (h1 : (maB m && paB u.1 u.2) = true) (h2 : (maB n && paB v.1 v.2) = true) : asB m u n v = true ∧ balOk m u ∧ balOk n v := by
  refine ⟨by unfold asB paP; rw [h1, h2]; rfl, ?_, ?_⟩
  · rw [Bool.and_eq_true] at h1; exact ⟨(maB_iff m).1 h1.1, smP_of h1.2⟩
  · rw [Bool.and_eq_true] at h2; exact ⟨(maB_iff n).1 h2.1, smP_of h2.2⟩
theorem coV_f {m n : Int} {u v : Int × Int} (h : asB m u n v = false) : coV m u n v = (0, 0) ∧ coOk m u n v = false := by
  have e : coOk m u n v = false := by unfold coOk; rw [h]; rfl
  exact ⟨by unfold coV; rw [e]; rfl, e⟩
theorem puV_f {m n : Int} {u v : Int × Int} (h : asB m u n v = false) : puV m u n v = (0, 0) ∧ puOk m u n v = false := by
  have e : puOk m u n v = false := by unfold puOk; rw [h]; rfl
  exact ⟨by unfold puV; rw [e]; rfl, e⟩
theorem if_mk (n d : Int) : ifV (lowP n d) = mkV n d ∧ paP (lowP n d) = mkOk n d := ⟨rfl, rfl⟩
theorem coV_t {m n : Int} {u v : Int × Int} (h : asB m u n v = true) (h1 : balOk m u) (h2 : balOk n v) : coV m u n v = ifV (mnP m u n v) ∧ coOk m u n v = paP (mnP m u n v) := by
  have e1 : mnP m u n v = lowP (suN m u n v) (suD (m + n) u v) := mean_eq (by have := h1.2.2; omega) (by have := h2.2.2; omega) (by have := h1.1; have := h2.1; omega)
  have e : coOk m u n v = suOk m u n v (m + n) := by unfold coOk; rw [h]; rfl
  rw [e1, (if_mk _ _).1, (if_mk _ _).2]
  refine ⟨?_, e⟩
  unfold coV
  rw [e]
  unfold suV suOk mkV
  split
  · rfl
  · rfl
theorem puV_t {m n : Int} {u v : Int × Int} (h : asB m u n v = true) (h1 : balOk m u) (h2 : balOk n v) : puV m u n v = ifV (smS (psP m u) (psP n v)) ∧ puOk m u n v = paP (smS (psP m u) (psP n v)) := by
  have e1 := push_eq (m := m) (n := n) (u := u) (v := v) (by have := h1.2.2; omega) (by have := h2.2.2; omega)
  have e : puOk m u n v = suOk m u n v 1 := by unfold puOk; rw [h]; rfl
  rw [e1, (if_mk _ _).1, (if_mk _ _).2]
  refine ⟨?_, e⟩
  unfold puV
  rw [e]
  unfold suV suOk mkV
  split
  · rfl
  · rfl

set_option maxRecDepth 100000 in
set_option maxHeartbeats 4000000 in
theorem implCommonPace_any (m n : Int) (u v : Int × Int) (w : World) :
    Calls Try.prog 26 #[.int .i64 m, .agg #[.int .i64 u.1, .int .i64 u.2], .int .i64 n, .agg #[.int .i64 v.1, .int .i64 v.2]] w fun e w' =>
      e = .returned (.tuple #[.agg #[.int .i64 (coV m u n v).1, .int .i64 (coV m u n v).2], .bool (coOk m u n v)]) ∧ Below w.heap.size w w' := by
  cases hq1 : (maB m && paB u.1 u.2) with
  | false =>
    have HE := Lib.hid (coV_f (cob_f1 (n := n) (v := v) hq1))
    have H1 := Lib.hid (isBall_at m u.1 u.2 false hq1)
    clear hq1
    generalize coV m u n v = V at *
    generalize coOk m u n v = R at *
    obtain ⟨u1, u2⟩ := u
    obtain ⟨v1, v2⟩ := v
    simp only at H1 ⊢
    obtain ⟨W0, hW0⟩ : ∃ X, X = ((w.alloc (Obj.cells #[Value.int IntKind.i64 u1, Value.int IntKind.i64 u2] 25)).alloc (Obj.cells #[Value.int IntKind.i64 v1, Value.int IntKind.i64 v2] 25)).alloc (Obj.cells #[Value.int IntKind.i64 0, Value.int IntKind.i64 0] 25) := ⟨_, rfl⟩
    have HB0 : Hid (Below w.heap.size w W0) := by show Below _ _ _; rw [hW0]; exact Below.three w _ _ _
    have HU0 : Hid (PC w.heap.size (u1, u2) W0) := by show PC _ _ _; rw [hW0]; exact ((PC.start w u1 u2 _).grow _).grow _
    have HV0 : Hid (PC (w.heap.size + 1) (v1, v2) W0) := by show PC _ _ _; rw [hW0]; exact (PC.at1 w _ v1 v2 _).grow _
    have HR0 : Hid (PZ (w.heap.size + 1 + 1) W0) := by show PZ _ _; rw [hW0]; exact PZ.at2 w _ _ _
    obtain ⟨_, u0, u1', _, _⟩ := HU0.out.parts
    obtain ⟨_, v0, v1', _, _⟩ := HV0.out.parts
    simp only at u0 u1' v0 v1'
    go_enter Try.func26, Try.ntmps26
    go_wp2
    rw [← hW0]
    clear hW0
    go_cut [10, 11] from 12 to 17 (fun p q wx => ∃ g h : Nat, p = .pointer (some ⟨g, 0, none⟩) ∧ q = .pointer (some ⟨h, 0, none⟩) ∧ BL g m (u1, u2) wx ∧ BL h n (v1, v2) wx ∧ Below W0.heap.size W0 wx)
    case first =>
      go_region
      all_goals (
        go_wp2_with fail
        go_meet
        case rel => exact ⟨_, _, rfl, rfl, ⟨by first | (simp; omega) | simp, by simp [go_sem], by simp [go_sem], by simp [go_sem]⟩, ⟨by first | (simp; omega) | simp, by simp [go_sem], by simp [go_sem], by simp [go_sem]⟩, by first | exact (Below.two W0 _ _).drew | exact (((Below.refl W0.heap.size W0).drew.alloc (Nat.le_refl _) _).alloc (by simp) _)⟩)
    case rest =>
    obtain ⟨g, h, hp, hq, hG, hH, hbx⟩ := hcut
    subst hp
    subst hq
    obtain ⟨X0, rfl⟩ : ∃ X, X = wc := ⟨_, rfl⟩
    have HG := Lib.hid hG
    have HH := Lib.hid hH
    have HB := Lib.hid (HB0.out.trans (hbx.mono HB0.out.size))
    have HU := Lib.hid (HU0.out.below hbx)
    have HV := Lib.hid (HV0.out.below hbx)
    have HR := Lib.hid (HR0.out.below hbx)
    clear hG hH hbx HB0 HU0 HV0 HR0 u0 u1' v0 v1'
    obtain ⟨_, g0, g1, g2⟩ := HG.out.parts
    obtain ⟨_, h0, h1, h2⟩ := HH.out.parts
    simp only at g1 g2 h1 h2
    go_wp2_with fail
    refine (H1.out _).mono ?_
    rintro e X1 ⟨rfl, hb⟩
    have HG := Lib.hid (HG.out.below hb)
    have HH := Lib.hid (HH.out.below hb)
    have HU := Lib.hid (HU.out.below hb)
    have HV := Lib.hid (HV.out.below hb)
    have HR := Lib.hid (HR.out.below hb)
    have HB := Lib.hid (HB.out.trans (hb.mono HB.out.size))
    clear hb
    obtain ⟨_, g0, g1, g2⟩ := HG.out.parts
    obtain ⟨_, h0, h1, h2⟩ := HH.out.parts
    simp only at g1 g2 h1 h2
    obtain ⟨_, c0, c1, f0, f1⟩ := HR.out.parts
    go_wp2
    exact bodyPost_ret (v := .tuple #[.agg #[.int .i64 0, .int .i64 0], .bool false]) (by simp [results, Try.results26, go_sem, c0, c1]) rfl ⟨by rw [HE.out.1, HE.out.2], below_set2 HB.out _ _ (by omega)⟩
  | true =>
    have H1 := Lib.hid (isBall_at m u.1 u.2 true hq1)
    cases hq2 : (maB n && paB v.1 v.2) with
    | false =>
      have HE := Lib.hid (coV_f (cob_f2 (m := m) (u := u) hq2))
      have H2 := Lib.hid (isBall_at n v.1 v.2 false hq2)
      clear hq1 hq2
      generalize coV m u n v = V at *
      generalize coOk m u n v = R at *
      obtain ⟨u1, u2⟩ := u
      obtain ⟨v1, v2⟩ := v
      simp only at H1 H2 ⊢
      obtain ⟨W0, hW0⟩ : ∃ X, X = ((w.alloc (Obj.cells #[Value.int IntKind.i64 u1, Value.int IntKind.i64 u2] 25)).alloc (Obj.cells #[Value.int IntKind.i64 v1, Value.int IntKind.i64 v2] 25)).alloc (Obj.cells #[Value.int IntKind.i64 0, Value.int IntKind.i64 0] 25) := ⟨_, rfl⟩
      have HB0 : Hid (Below w.heap.size w W0) := by show Below _ _ _; rw [hW0]; exact Below.three w _ _ _
      have HU0 : Hid (PC w.heap.size (u1, u2) W0) := by show PC _ _ _; rw [hW0]; exact ((PC.start w u1 u2 _).grow _).grow _
      have HV0 : Hid (PC (w.heap.size + 1) (v1, v2) W0) := by show PC _ _ _; rw [hW0]; exact (PC.at1 w _ v1 v2 _).grow _
      have HR0 : Hid (PZ (w.heap.size + 1 + 1) W0) := by show PZ _ _; rw [hW0]; exact PZ.at2 w _ _ _
      obtain ⟨_, u0, u1', _, _⟩ := HU0.out.parts
      obtain ⟨_, v0, v1', _, _⟩ := HV0.out.parts
      simp only at u0 u1' v0 v1'
      go_enter Try.func26, Try.ntmps26
      go_wp2
      rw [← hW0]
      clear hW0
      go_cut [10, 11] from 12 to 17 (fun p q wx => ∃ g h : Nat, p = .pointer (some ⟨g, 0, none⟩) ∧ q = .pointer (some ⟨h, 0, none⟩) ∧ BL g m (u1, u2) wx ∧ BL h n (v1, v2) wx ∧ Below W0.heap.size W0 wx)
      case first =>
        go_region
        all_goals (
          go_wp2_with fail
          go_meet
          case rel => exact ⟨_, _, rfl, rfl, ⟨by first | (simp; omega) | simp, by simp [go_sem], by simp [go_sem], by simp [go_sem]⟩, ⟨by first | (simp; omega) | simp, by simp [go_sem], by simp [go_sem], by simp [go_sem]⟩, by first | exact (Below.two W0 _ _).drew | exact (((Below.refl W0.heap.size W0).drew.alloc (Nat.le_refl _) _).alloc (by simp) _)⟩)
      case rest =>
      obtain ⟨g, h, hp, hq, hG, hH, hbx⟩ := hcut
      subst hp
      subst hq
      obtain ⟨X0, rfl⟩ : ∃ X, X = wc := ⟨_, rfl⟩
      have HG := Lib.hid hG
      have HH := Lib.hid hH
      have HB := Lib.hid (HB0.out.trans (hbx.mono HB0.out.size))
      have HU := Lib.hid (HU0.out.below hbx)
      have HV := Lib.hid (HV0.out.below hbx)
      have HR := Lib.hid (HR0.out.below hbx)
      clear hG hH hbx HB0 HU0 HV0 HR0 u0 u1' v0 v1'
      obtain ⟨_, g0, g1, g2⟩ := HG.out.parts
      obtain ⟨_, h0, h1, h2⟩ := HH.out.parts
      simp only at g1 g2 h1 h2
      go_wp2_with fail
      refine (H1.out _).mono ?_
      rintro e X1 ⟨rfl, hb⟩
      have HG := Lib.hid (HG.out.below hb)
      have HH := Lib.hid (HH.out.below hb)
      have HU := Lib.hid (HU.out.below hb)
      have HV := Lib.hid (HV.out.below hb)
      have HR := Lib.hid (HR.out.below hb)
      have HB := Lib.hid (HB.out.trans (hb.mono HB.out.size))
      clear hb
      obtain ⟨_, g0, g1, g2⟩ := HG.out.parts
      obtain ⟨_, h0, h1, h2⟩ := HH.out.parts
      simp only at g1 g2 h1 h2
      go_wp2_with fail
      refine (H2.out _).mono ?_
      rintro e X2 ⟨rfl, hb⟩
      have HG := Lib.hid (HG.out.below hb)
      have HH := Lib.hid (HH.out.below hb)
      have HU := Lib.hid (HU.out.below hb)
      have HV := Lib.hid (HV.out.below hb)
      have HR := Lib.hid (HR.out.below hb)
      have HB := Lib.hid (HB.out.trans (hb.mono HB.out.size))
      clear hb
      obtain ⟨_, g0, g1, g2⟩ := HG.out.parts
      obtain ⟨_, h0, h1, h2⟩ := HH.out.parts
      simp only at g1 g2 h1 h2
      obtain ⟨_, c0, c1, f0, f1⟩ := HR.out.parts
      go_wp2
      exact bodyPost_ret (v := .tuple #[.agg #[.int .i64 0, .int .i64 0], .bool false]) (by simp [results, Try.results26, go_sem, c0, c1]) rfl ⟨by rw [HE.out.1, HE.out.2], below_set2 HB.out _ _ (by omega)⟩
    | true =>
      have H2 := Lib.hid (isBall_at n v.1 v.2 true hq2)
      obtain ⟨ha, hk1, hk2⟩ := cob_t (u := u) (v := v) hq1 hq2
      have HE := Lib.hid (coV_t ha hk1 hk2)
      have H3 := Lib.hid (fun w => meanPace_any m n u v w hk1.push hk2.push (by have := hk1.1; have := hk2.1; omega))
      have H4 := Lib.hid (fun w => ifPace_any (mnP m u n v) w)
      clear hq1 hq2 ha hk1 hk2
      generalize coV m u n v = V at *
      generalize coOk m u n v = R at *
      generalize ifV (mnP m u n v) = Y at *
      generalize paP (mnP m u n v) = r at *
      generalize mnP m u n v = X at *
      obtain ⟨x1, x2⟩ := X
      obtain ⟨y1, y2⟩ := Y
      obtain ⟨u1, u2⟩ := u
      obtain ⟨v1, v2⟩ := v
      simp only at H1 H2 H3 H4 ⊢
      obtain ⟨W0, hW0⟩ : ∃ X, X = ((w.alloc (Obj.cells #[Value.int IntKind.i64 u1, Value.int IntKind.i64 u2] 25)).alloc (Obj.cells #[Value.int IntKind.i64 v1, Value.int IntKind.i64 v2] 25)).alloc (Obj.cells #[Value.int IntKind.i64 0, Value.int IntKind.i64 0] 25) := ⟨_, rfl⟩
      have HB0 : Hid (Below w.heap.size w W0) := by show Below _ _ _; rw [hW0]; exact Below.three w _ _ _
      have HU0 : Hid (PC w.heap.size (u1, u2) W0) := by show PC _ _ _; rw [hW0]; exact ((PC.start w u1 u2 _).grow _).grow _
      have HV0 : Hid (PC (w.heap.size + 1) (v1, v2) W0) := by show PC _ _ _; rw [hW0]; exact (PC.at1 w _ v1 v2 _).grow _
      have HR0 : Hid (PZ (w.heap.size + 1 + 1) W0) := by show PZ _ _; rw [hW0]; exact PZ.at2 w _ _ _
      obtain ⟨_, u0, u1', _, _⟩ := HU0.out.parts
      obtain ⟨_, v0, v1', _, _⟩ := HV0.out.parts
      simp only at u0 u1' v0 v1'
      go_enter Try.func26, Try.ntmps26
      go_wp2
      rw [← hW0]
      clear hW0
      go_cut [10, 11] from 12 to 17 (fun p q wx => ∃ g h : Nat, p = .pointer (some ⟨g, 0, none⟩) ∧ q = .pointer (some ⟨h, 0, none⟩) ∧ BL g m (u1, u2) wx ∧ BL h n (v1, v2) wx ∧ Below W0.heap.size W0 wx)
      case first =>
        go_region
        all_goals (
          go_wp2_with fail
          go_meet
          case rel => exact ⟨_, _, rfl, rfl, ⟨by first | (simp; omega) | simp, by simp [go_sem], by simp [go_sem], by simp [go_sem]⟩, ⟨by first | (simp; omega) | simp, by simp [go_sem], by simp [go_sem], by simp [go_sem]⟩, by first | exact (Below.two W0 _ _).drew | exact (((Below.refl W0.heap.size W0).drew.alloc (Nat.le_refl _) _).alloc (by simp) _)⟩)
      case rest =>
      obtain ⟨g, h, hp, hq, hG, hH, hbx⟩ := hcut
      subst hp
      subst hq
      obtain ⟨X0, rfl⟩ : ∃ X, X = wc := ⟨_, rfl⟩
      have HG := Lib.hid hG
      have HH := Lib.hid hH
      have HB := Lib.hid (HB0.out.trans (hbx.mono HB0.out.size))
      have HU := Lib.hid (HU0.out.below hbx)
      have HV := Lib.hid (HV0.out.below hbx)
      have HR := Lib.hid (HR0.out.below hbx)
      clear hG hH hbx HB0 HU0 HV0 HR0 u0 u1' v0 v1'
      obtain ⟨_, g0, g1, g2⟩ := HG.out.parts
      obtain ⟨_, h0, h1, h2⟩ := HH.out.parts
      simp only at g1 g2 h1 h2
      go_wp2_with fail
      refine (H1.out _).mono ?_
      rintro e X1 ⟨rfl, hb⟩
      have HG := Lib.hid (HG.out.below hb)
      have HH := Lib.hid (HH.out.below hb)
      have HU := Lib.hid (HU.out.below hb)
      have HV := Lib.hid (HV.out.below hb)
      have HR := Lib.hid (HR.out.below hb)
      have HB := Lib.hid (HB.out.trans (hb.mono HB.out.size))
      clear hb
      obtain ⟨_, g0, g1, g2⟩ := HG.out.parts
      obtain ⟨_, h0, h1, h2⟩ := HH.out.parts
      simp only at g1 g2 h1 h2
      go_wp2_with fail
      refine (H2.out _).mono ?_
      rintro e X2 ⟨rfl, hb⟩
      have HG := Lib.hid (HG.out.below hb)
      have HH := Lib.hid (HH.out.below hb)
      have HU := Lib.hid (HU.out.below hb)
      have HV := Lib.hid (HV.out.below hb)
      have HR := Lib.hid (HR.out.below hb)
      have HB := Lib.hid (HB.out.trans (hb.mono HB.out.size))
      clear hb
      obtain ⟨_, g0, g1, g2⟩ := HG.out.parts
      obtain ⟨_, h0, h1, h2⟩ := HH.out.parts
      simp only at g1 g2 h1 h2
      go_wp2_with fail
      refine (H3.out _).mono ?_
      rintro e X3 ⟨rfl, hb⟩
      have HG := Lib.hid (HG.out.below hb)
      have HH := Lib.hid (HH.out.below hb)
      have HU := Lib.hid (HU.out.below hb)
      have HV := Lib.hid (HV.out.below hb)
      have HR := Lib.hid (HR.out.below hb)
      have HB := Lib.hid (HB.out.trans (hb.mono HB.out.size))
      clear hb
      obtain ⟨_, g0, g1, g2⟩ := HG.out.parts
      obtain ⟨_, h0, h1, h2⟩ := HH.out.parts
      simp only at g1 g2 h1 h2
      go_wp2_with fail
      refine (H4.out _).mono ?_
      rintro e X4 ⟨rfl, hb⟩
      have HG := Lib.hid (HG.out.below hb)
      have HH := Lib.hid (HH.out.below hb)
      have HU := Lib.hid (HU.out.below hb)
      have HV := Lib.hid (HV.out.below hb)
      have HR := Lib.hid (HR.out.below hb)
      have HB := Lib.hid (HB.out.trans (hb.mono HB.out.size))
      clear hb
      obtain ⟨_, g0, g1, g2⟩ := HG.out.parts
      obtain ⟨_, h0, h1, h2⟩ := HH.out.parts
      simp only at g1 g2 h1 h2
      obtain ⟨_, c0, c1, f0, f1⟩ := HR.out.parts
      go_wp2
      exact bodyPost_ret (v := .tuple #[.agg #[.int .i64 y1, .int .i64 y2], .bool r]) (by simp [results, Try.results26, go_sem, c0, c1]) rfl ⟨by rw [HE.out.1, HE.out.2], below_set2 HB.out _ _ (by omega)⟩

end Go.Proofs.Ytikmkmpekjijpaa
