/- Balls on the program's side: the energy of two balls. -/
import Derived.Test.YtikmkmpekjijpaaPaD
namespace Go.Proofs.Ytikmkmpekjijpaa
open Go.RowKit

theorem eng_f {m n : Int} {u v : Int × Int} (h : (asB m u n v && (loB u && loB v)) = false) : enV m u n v = (0, 0) ∧ enOk m u n v = false := by
  have e : enOk m u n v = false := by unfold enOk; rw [h]; rfl
  exact ⟨by unfold enV; rw [e]; rfl, e⟩
theorem lo_hn {m : Int} {u : Int × Int} (h : balOk m u) : loB u = hnB 1000 u.1 u.2 := by
  obtain ⟨_, h1, h2, h3⟩ := h
  unfold loB hnB
  rw [Bool.eq_iff_iff]
  simp
  omega
theorem eng_f1 {m n : Int} {u v : Int × Int} (h : (maB m && paB u.1 u.2) = false) : enV m u n v = (0, 0) ∧ enOk m u n v = false := eng_f (by rw [cob_f1 h]; rfl)
theorem eng_f2 {m n : Int} {u v : Int × Int} (h : (maB n && paB v.1 v.2) = false) : enV m u n v = (0, 0) ∧ enOk m u n v = false := eng_f (by rw [cob_f2 h]; rfl)
theorem eng_f3 {m n : Int} {u v : Int × Int} (h1 : balOk m u) (h : hnB 1000 u.1 u.2 = false) : enV m u n v = (0, 0) ∧ enOk m u n v = false := eng_f (by rw [lo_hn h1, h]; simp)
theorem eng_f4 {m n : Int} {u v : Int × Int} (h1 : balOk n v) (h : hnB 1000 v.1 v.2 = false) : enV m u n v = (0, 0) ∧ enOk m u n v = false := eng_f (by rw [lo_hn h1, h]; simp)
theorem eng_t {m n : Int} {u v : Int × Int} (h : asB m u n v = true) (h1 : balOk m u) (h2 : balOk n v) (h3 : hnB 1000 u.1 u.2 = true) (h4 : hnB 1000 v.1 v.2 = true) :
    (enV m u n v = ifV (smS (eyP m u) (eyP n v)) ∧ enOk m u n v = paP (smS (eyP m u) (eyP n v))) ∧ enOkP m u ∧ enOkP n v := by
  have e1 := energy_eq (m := m) (n := n) (u := u) (v := v) (by have := h1.2.2; omega) (by have := h2.2.2; omega)
  have e : enOk m u n v = suOk m (sqP u) n (sqP v) 1 := by unfold enOk; rw [h, lo_hn h1, lo_hn h2, h3, h4]; rfl
  rw [hnB_iff] at h3 h4
  refine ⟨?_, ⟨h1.1, ⟨h3.1, h3.2.1⟩, h3.2.2⟩, ⟨h2.1, ⟨h4.1, h4.2.1⟩, h4.2.2⟩⟩
  rw [e1, (if_mk _ _).1, (if_mk _ _).2]
  refine ⟨?_, e⟩
  unfold enV
  rw [e]
  unfold suV suOk mkV
  split
  · rfl
  · rfl

set_option maxRecDepth 100000 in
set_option maxHeartbeats 4000000 in
theorem implEnergyOf_any (m n : Int) (u v : Int × Int) (w : World) :
    Calls Try.prog 30 #[.int .i64 m, .agg #[.int .i64 u.1, .int .i64 u.2], .int .i64 n, .agg #[.int .i64 v.1, .int .i64 v.2]] w fun e w' =>
      e = .returned (.tuple #[.agg #[.int .i64 (enV m u n v).1, .int .i64 (enV m u n v).2], .bool (enOk m u n v)]) ∧ Below w.heap.size w w' := by
  cases hq1 : (maB m && paB u.1 u.2) with
  | false =>
    have HE := Lib.hid (eng_f1 (n := n) (v := v) hq1)
    have H1 := Lib.hid (isBall_at m u.1 u.2 false hq1)
    clear hq1
    generalize enV m u n v = V at *
    generalize enOk m u n v = R at *
    obtain ⟨u1, u2⟩ := u
    obtain ⟨v1, v2⟩ := v
    simp only at H1 ⊢
    obtain ⟨W0, hW0⟩ : ∃ X, X = ((w.alloc (Obj.cells #[Value.int IntKind.i64 u1, Value.int IntKind.i64 u2] 25)).alloc (Obj.cells #[Value.int IntKind.i64 v1, Value.int IntKind.i64 v2] 25)).alloc (Obj.cells #[Value.int IntKind.i64 0, Value.int IntKind.i64 0] 25) := ⟨_, rfl⟩
    have HB0 : Hid (Below w.heap.size w W0) := by show Below _ _ _; rw [hW0]; exact Below.three w _ _ _
    have HU0 : Hid (PC w.heap.size (u1, u2) W0) := by show PC _ _ _; rw [hW0]; exact ((PC.start w u1 u2 _).grow _).grow _
    have HV0 : Hid (PC (w.heap.size + 1) (v1, v2) W0) := by show PC _ _ _; rw [hW0]; exact (PC.at1 w _ v1 v2 _).grow _
    have HR0 : Hid (PZ (w.heap.size + 1 + 1) W0) := by show PZ _ _; rw [hW0]; exact PZ.at2 w _ _ _
    obtain ⟨_, u0, u1', _, _⟩ := HU0.out.parts
    obtain ⟨_, v0, v1', _, _⟩ := HV0.out.parts
    simp only at u0 u1' v0 v1'
    go_enter Try.func30, Try.ntmps30
    go_wp2
    rw [← hW0]
    clear hW0
    go_cut [10, 11] from 12 to 17 (fun p q wx => ∃ g h : Nat, p = .pointer (some ⟨g, 0, none⟩) ∧ q = .pointer (some ⟨h, 0, none⟩) ∧ BL g m (u1, u2) wx ∧ BL h n (v1, v2) wx ∧ Below W0.heap.size W0 wx)
    case first =>
      go_region
      all_goals (
        go_wp2_with fail
        go_meet
        case rel => exact ⟨_, _, rfl, rfl, ⟨by first | (simp; omega) | simp, by simp [go_sem], by simp [go_sem], by simp [go_sem]⟩, ⟨by first | (simp; omega) | simp, by simp [go_sem], by simp [go_sem], by simp [go_sem]⟩, by first | exact (Below.two W0 _ _).drew | exact (((Below.refl W0.heap.size W0).drew.alloc (Nat.le_refl _) _).alloc (by simp) _)⟩)
    case rest =>
    obtain ⟨g, h, hp, hq, hG, hH, hbx⟩ := hcut
    subst hp
    subst hq
    obtain ⟨X0, rfl⟩ : ∃ X, X = wc := ⟨_, rfl⟩
    have HG := Lib.hid hG
    have HH := Lib.hid hH
    have HB := Lib.hid (HB0.out.trans (hbx.mono HB0.out.size))
    have HU := Lib.hid (HU0.out.below hbx)
    have HV := Lib.hid (HV0.out.below hbx)
    have HR := Lib.hid (HR0.out.below hbx)
    clear hG hH hbx HB0 HU0 HV0 HR0 u0 u1' v0 v1'
    obtain ⟨_, g0, g1, g2⟩ := HG.out.parts
    obtain ⟨_, h0, h1, h2⟩ := HH.out.parts
    simp only at g1 g2 h1 h2
    go_wp2_with fail
    refine (H1.out _).mono ?_
    rintro e X1 ⟨rfl, hb⟩
    have HG := Lib.hid (HG.out.below hb)
    have HH := Lib.hid (HH.out.below hb)
    have HU := Lib.hid (HU.out.below hb)
    have HV := Lib.hid (HV.out.below hb)
    have HR := Lib.hid (HR.out.below hb)
    have HB := Lib.hid (HB.out.trans (hb.mono HB.out.size))
    clear hb
    obtain ⟨_, g0, g1, g2⟩ := HG.out.parts
    obtain ⟨_, h0, h1, h2⟩ := HH.out.parts
    simp only at g1 g2 h1 h2
    obtain ⟨_, c0, c1, f0, f1⟩ := HR.out.parts
    go_wp2
    exact bodyPost_ret (v := .tuple #[.agg #[.int .i64 0, .int .i64 0], .bool false]) (by simp [results, Try.results30, go_sem, c0, c1]) rfl ⟨by rw [HE.out.1, HE.out.2], below_set2 HB.out _ _ (by omega)⟩
  | true =>
    have H1 := Lib.hid (isBall_at m u.1 u.2 true hq1)
    cases hq2 : (maB n && paB v.1 v.2) with
    | false =>
      have HE := Lib.hid (eng_f2 (m := m) (u := u) hq2)
      have H2 := Lib.hid (isBall_at n v.1 v.2 false hq2)
      clear hq1 hq2
      generalize enV m u n v = V at *
      generalize enOk m u n v = R at *
      obtain ⟨u1, u2⟩ := u
      obtain ⟨v1, v2⟩ := v
      simp only at H1 H2 ⊢
      obtain ⟨W0, hW0⟩ : ∃ X, X = ((w.alloc (Obj.cells #[Value.int IntKind.i64 u1, Value.int IntKind.i64 u2] 25)).alloc (Obj.cells #[Value.int IntKind.i64 v1, Value.int IntKind.i64 v2] 25)).alloc (Obj.cells #[Value.int IntKind.i64 0, Value.int IntKind.i64 0] 25) := ⟨_, rfl⟩
      have HB0 : Hid (Below w.heap.size w W0) := by show Below _ _ _; rw [hW0]; exact Below.three w _ _ _
      have HU0 : Hid (PC w.heap.size (u1, u2) W0) := by show PC _ _ _; rw [hW0]; exact ((PC.start w u1 u2 _).grow _).grow _
      have HV0 : Hid (PC (w.heap.size + 1) (v1, v2) W0) := by show PC _ _ _; rw [hW0]; exact (PC.at1 w _ v1 v2 _).grow _
      have HR0 : Hid (PZ (w.heap.size + 1 + 1) W0) := by show PZ _ _; rw [hW0]; exact PZ.at2 w _ _ _
      obtain ⟨_, u0, u1', _, _⟩ := HU0.out.parts
      obtain ⟨_, v0, v1', _, _⟩ := HV0.out.parts
      simp only at u0 u1' v0 v1'
      go_enter Try.func30, Try.ntmps30
      go_wp2
      rw [← hW0]
      clear hW0
      go_cut [10, 11] from 12 to 17 (fun p q wx => ∃ g h : Nat, p = .pointer (some ⟨g, 0, none⟩) ∧ q = .pointer (some ⟨h, 0, none⟩) ∧ BL g m (u1, u2) wx ∧ BL h n (v1, v2) wx ∧ Below W0.heap.size W0 wx)
      case first =>
        go_region
        all_goals (
          go_wp2_with fail
          go_meet
          case rel => exact ⟨_, _, rfl, rfl, ⟨by first | (simp; omega) | simp, by simp [go_sem], by simp [go_sem], by simp [go_sem]⟩, ⟨by first | (simp; omega) | simp, by simp [go_sem], by simp [go_sem], by simp [go_sem]⟩, by first | exact (Below.two W0 _ _).drew | exact (((Below.refl W0.heap.size W0).drew.alloc (Nat.le_refl _) _).alloc (by simp) _)⟩)
      case rest =>
      obtain ⟨g, h, hp, hq, hG, hH, hbx⟩ := hcut
      subst hp
      subst hq
      obtain ⟨X0, rfl⟩ : ∃ X, X = wc := ⟨_, rfl⟩
      have HG := Lib.hid hG
      have HH := Lib.hid hH
      have HB := Lib.hid (HB0.out.trans (hbx.mono HB0.out.size))
      have HU := Lib.hid (HU0.out.below hbx)
      have HV := Lib.hid (HV0.out.below hbx)
      have HR := Lib.hid (HR0.out.below hbx)
      clear hG hH hbx HB0 HU0 HV0 HR0 u0 u1' v0 v1'
      obtain ⟨_, g0, g1, g2⟩ := HG.out.parts
      obtain ⟨_, h0, h1, h2⟩ := HH.out.parts
      simp only at g1 g2 h1 h2
      go_wp2_with fail
      refine (H1.out _).mono ?_
      rintro e X1 ⟨rfl, hb⟩
      have HG := Lib.hid (HG.out.below hb)
      have HH := Lib.hid (HH.out.below hb)
      have HU := Lib.hid (HU.out.below hb)
      have HV := Lib.hid (HV.out.below hb)
      have HR := Lib.hid (HR.out.below hb)
      have HB := Lib.hid (HB.out.trans (hb.mono HB.out.size))
      clear hb
      obtain ⟨_, g0, g1, g2⟩ := HG.out.parts
      obtain ⟨_, h0, h1, h2⟩ := HH.out.parts
      simp only at g1 g2 h1 h2
      go_wp2_with fail
      refine (H2.out _).mono ?_
      rintro e X2 ⟨rfl, hb⟩
      have HG := Lib.hid (HG.out.below hb)
      have HH := Lib.hid (HH.out.below hb)
      have HU := Lib.hid (HU.out.below hb)
      have HV := Lib.hid (HV.out.below hb)
      have HR := Lib.hid (HR.out.below hb)
      have HB := Lib.hid (HB.out.trans (hb.mono HB.out.size))
      clear hb
      obtain ⟨_, g0, g1, g2⟩ := HG.out.parts
      obtain ⟨_, h0, h1, h2⟩ := HH.out.parts
      simp only at g1 g2 h1 h2
      obtain ⟨_, e0, e1, _, _⟩ := HU.out.parts
      obtain ⟨_, d0, d1, _, _⟩ := HV.out.parts
      simp only at e0 e1 d0 d1
      obtain ⟨_, c0, c1, f0, f1⟩ := HR.out.parts
      go_wp2
      exact bodyPost_ret (v := .tuple #[.agg #[.int .i64 0, .int .i64 0], .bool false]) (by simp [results, Try.results30, go_sem, c0, c1]) rfl ⟨by rw [HE.out.1, HE.out.2], below_set2 HB.out _ _ (by omega)⟩
    | true =>
      have H2 := Lib.hid (isBall_at n v.1 v.2 true hq2)
      obtain ⟨ha, hk1, hk2⟩ := cob_t (u := u) (v := v) hq1 hq2
      clear hq1 hq2
      cases hq3 : hnB 1000 u.1 u.2 with
      | false =>
        have HE := Lib.hid (eng_f3 (n := n) (v := v) hk1 hq3)
        have H3 := Lib.hid (fun w => hasNums_at 1000 u.1 u.2 false hq3 w (by decide) (by decide))
        clear hq3 hk1 hk2 ha
        generalize enV m u n v = V at *
        generalize enOk m u n v = R at *
        obtain ⟨u1, u2⟩ := u
        obtain ⟨v1, v2⟩ := v
        simp only at H1 H2 H3 ⊢
        obtain ⟨W0, hW0⟩ : ∃ X, X = ((w.alloc (Obj.cells #[Value.int IntKind.i64 u1, Value.int IntKind.i64 u2] 25)).alloc (Obj.cells #[Value.int IntKind.i64 v1, Value.int IntKind.i64 v2] 25)).alloc (Obj.cells #[Value.int IntKind.i64 0, Value.int IntKind.i64 0] 25) := ⟨_, rfl⟩
        have HB0 : Hid (Below w.heap.size w W0) := by show Below _ _ _; rw [hW0]; exact Below.three w _ _ _
        have HU0 : Hid (PC w.heap.size (u1, u2) W0) := by show PC _ _ _; rw [hW0]; exact ((PC.start w u1 u2 _).grow _).grow _
        have HV0 : Hid (PC (w.heap.size + 1) (v1, v2) W0) := by show PC _ _ _; rw [hW0]; exact (PC.at1 w _ v1 v2 _).grow _
        have HR0 : Hid (PZ (w.heap.size + 1 + 1) W0) := by show PZ _ _; rw [hW0]; exact PZ.at2 w _ _ _
        obtain ⟨_, u0, u1', _, _⟩ := HU0.out.parts
        obtain ⟨_, v0, v1', _, _⟩ := HV0.out.parts
        simp only at u0 u1' v0 v1'
        go_enter Try.func30, Try.ntmps30
        go_wp2
        rw [← hW0]
        clear hW0
        go_cut [10, 11] from 12 to 17 (fun p q wx => ∃ g h : Nat, p = .pointer (some ⟨g, 0, none⟩) ∧ q = .pointer (some ⟨h, 0, none⟩) ∧ BL g m (u1, u2) wx ∧ BL h n (v1, v2) wx ∧ Below W0.heap.size W0 wx)
        case first =>
          go_region
          all_goals (
            go_wp2_with fail
            go_meet
            case rel => exact ⟨_, _, rfl, rfl, ⟨by first | (simp; omega) | simp, by simp [go_sem], by simp [go_sem], by simp [go_sem]⟩, ⟨by first | (simp; omega) | simp, by simp [go_sem], by simp [go_sem], by simp [go_sem]⟩, by first | exact (Below.two W0 _ _).drew | exact (((Below.refl W0.heap.size W0).drew.alloc (Nat.le_refl _) _).alloc (by simp) _)⟩)
        case rest =>
        obtain ⟨g, h, hp, hq, hG, hH, hbx⟩ := hcut
        subst hp
        subst hq
        obtain ⟨X0, rfl⟩ : ∃ X, X = wc := ⟨_, rfl⟩
        have HG := Lib.hid hG
        have HH := Lib.hid hH
        have HB := Lib.hid (HB0.out.trans (hbx.mono HB0.out.size))
        have HU := Lib.hid (HU0.out.below hbx)
        have HV := Lib.hid (HV0.out.below hbx)
        have HR := Lib.hid (HR0.out.below hbx)
        clear hG hH hbx HB0 HU0 HV0 HR0 u0 u1' v0 v1'
        obtain ⟨_, g0, g1, g2⟩ := HG.out.parts
        obtain ⟨_, h0, h1, h2⟩ := HH.out.parts
        simp only at g1 g2 h1 h2
        go_wp2_with fail
        refine (H1.out _).mono ?_
        rintro e X1 ⟨rfl, hb⟩
        have HG := Lib.hid (HG.out.below hb)
        have HH := Lib.hid (HH.out.below hb)
        have HU := Lib.hid (HU.out.below hb)
        have HV := Lib.hid (HV.out.below hb)
        have HR := Lib.hid (HR.out.below hb)
        have HB := Lib.hid (HB.out.trans (hb.mono HB.out.size))
        clear hb
        obtain ⟨_, g0, g1, g2⟩ := HG.out.parts
        obtain ⟨_, h0, h1, h2⟩ := HH.out.parts
        simp only at g1 g2 h1 h2
        go_wp2_with fail
        refine (H2.out _).mono ?_
        rintro e X2 ⟨rfl, hb⟩
        have HG := Lib.hid (HG.out.below hb)
        have HH := Lib.hid (HH.out.below hb)
        have HU := Lib.hid (HU.out.below hb)
        have HV := Lib.hid (HV.out.below hb)
        have HR := Lib.hid (HR.out.below hb)
        have HB := Lib.hid (HB.out.trans (hb.mono HB.out.size))
        clear hb
        obtain ⟨_, g0, g1, g2⟩ := HG.out.parts
        obtain ⟨_, h0, h1, h2⟩ := HH.out.parts
        simp only at g1 g2 h1 h2
        obtain ⟨_, e0, e1, _, _⟩ := HU.out.parts
        obtain ⟨_, d0, d1, _, _⟩ := HV.out.parts
        simp only at e0 e1 d0 d1
        go_wp2_with fail
        refine (H3.out _).mono ?_
        rintro e X3 ⟨rfl, hb⟩
        have HG := Lib.hid (HG.out.below hb)
        have HH := Lib.hid (HH.out.below hb)
        have HU := Lib.hid (HU.out.below hb)
        have HV := Lib.hid (HV.out.below hb)
        have HR := Lib.hid (HR.out.below hb)
        have HB := Lib.hid (HB.out.trans (hb.mono HB.out.size))
        clear hb
        obtain ⟨_, g0, g1, g2⟩ := HG.out.parts
        obtain ⟨_, h0, h1, h2⟩ := HH.out.parts
        simp only at g1 g2 h1 h2
        obtain ⟨_, e0, e1, _, _⟩ := HU.out.parts
        obtain ⟨_, d0, d1, _, _⟩ := HV.out.parts
        simp only at e0 e1 d0 d1
        obtain ⟨_, c0, c1, f0, f1⟩ := HR.out.parts
        go_wp2
        exact bodyPost_ret (v := .tuple #[.agg #[.int .i64 0, .int .i64 0], .bool false]) (by simp [results, Try.results30, go_sem, c0, c1]) rfl ⟨by rw [HE.out.1, HE.out.2], below_set2 HB.out _ _ (by omega)⟩
      | true =>
        have H3 := Lib.hid (fun w => hasNums_at 1000 u.1 u.2 true hq3 w (by decide) (by decide))
        cases hq4 : hnB 1000 v.1 v.2 with
        | false =>
          have HE := Lib.hid (eng_f4 (m := m) (u := u) hk2 hq4)
          have H4 := Lib.hid (fun w => hasNums_at 1000 v.1 v.2 false hq4 w (by decide) (by decide))
          clear hq3 hq4 hk1 hk2 ha
          generalize enV m u n v = V at *
          generalize enOk m u n v = R at *
          obtain ⟨u1, u2⟩ := u
          obtain ⟨v1, v2⟩ := v
          simp only at H1 H2 H3 H4 ⊢
          obtain ⟨W0, hW0⟩ : ∃ X, X = ((w.alloc (Obj.cells #[Value.int IntKind.i64 u1, Value.int IntKind.i64 u2] 25)).alloc (Obj.cells #[Value.int IntKind.i64 v1, Value.int IntKind.i64 v2] 25)).alloc (Obj.cells #[Value.int IntKind.i64 0, Value.int IntKind.i64 0] 25) := ⟨_, rfl⟩
          have HB0 : Hid (Below w.heap.size w W0) := by show Below _ _ _; rw [hW0]; exact Below.three w _ _ _
          have HU0 : Hid (PC w.heap.size (u1, u2) W0) := by show PC _ _ _; rw [hW0]; exact ((PC.start w u1 u2 _).grow _).grow _
          have HV0 : Hid (PC (w.heap.size + 1) (v1, v2) W0) := by show PC _ _ _; rw [hW0]; exact (PC.at1 w _ v1 v2 _).grow _
          have HR0 : Hid (PZ (w.heap.size + 1 + 1) W0) := by show PZ _ _; rw [hW0]; exact PZ.at2 w _ _ _
          obtain ⟨_, u0, u1', _, _⟩ := HU0.out.parts
          obtain ⟨_, v0, v1', _, _⟩ := HV0.out.parts
          simp only at u0 u1' v0 v1'
          go_enter Try.func30, Try.ntmps30
          go_wp2
          rw [← hW0]
          clear hW0
          go_cut [10, 11] from 12 to 17 (fun p q wx => ∃ g h : Nat, p = .pointer (some ⟨g, 0, none⟩) ∧ q = .pointer (some ⟨h, 0, none⟩) ∧ BL g m (u1, u2) wx ∧ BL h n (v1, v2) wx ∧ Below W0.heap.size W0 wx)
          case first =>
            go_region
            all_goals (
              go_wp2_with fail
              go_meet
              case rel => exact ⟨_, _, rfl, rfl, ⟨by first | (simp; omega) | simp, by simp [go_sem], by simp [go_sem], by simp [go_sem]⟩, ⟨by first | (simp; omega) | simp, by simp [go_sem], by simp [go_sem], by simp [go_sem]⟩, by first | exact (Below.two W0 _ _).drew | exact (((Below.refl W0.heap.size W0).drew.alloc (Nat.le_refl _) _).alloc (by simp) _)⟩)
          case rest =>
          obtain ⟨g, h, hp, hq, hG, hH, hbx⟩ := hcut
          subst hp
          subst hq
          obtain ⟨X0, rfl⟩ : ∃ X, X = wc := ⟨_, rfl⟩
          have HG := Lib.hid hG
          have HH := Lib.hid hH
          have HB := Lib.hid (HB0.out.trans (hbx.mono HB0.out.size))
          have HU := Lib.hid (HU0.out.below hbx)
          have HV := Lib.hid (HV0.out.below hbx)
          have HR := Lib.hid (HR0.out.below hbx)
          clear hG hH hbx HB0 HU0 HV0 HR0 u0 u1' v0 v1'
          obtain ⟨_, g0, g1, g2⟩ := HG.out.parts
          obtain ⟨_, h0, h1, h2⟩ := HH.out.parts
          simp only at g1 g2 h1 h2
          go_wp2_with fail
          refine (H1.out _).mono ?_
          rintro e X1 ⟨rfl, hb⟩
          have HG := Lib.hid (HG.out.below hb)
          have HH := Lib.hid (HH.out.below hb)
          have HU := Lib.hid (HU.out.below hb)
          have HV := Lib.hid (HV.out.below hb)
          have HR := Lib.hid (HR.out.below hb)
          have HB := Lib.hid (HB.out.trans (hb.mono HB.out.size))
          clear hb
          obtain ⟨_, g0, g1, g2⟩ := HG.out.parts
          obtain ⟨_, h0, h1, h2⟩ := HH.out.parts
          simp only at g1 g2 h1 h2
          go_wp2_with fail
          refine (H2.out _).mono ?_
          rintro e X2 ⟨rfl, hb⟩
          have HG := Lib.hid (HG.out.below hb)
          have HH := Lib.hid (HH.out.below hb)
          have HU := Lib.hid (HU.out.below hb)
          have HV := Lib.hid (HV.out.below hb)
          have HR := Lib.hid (HR.out.below hb)
          have HB := Lib.hid (HB.out.trans (hb.mono HB.out.size))
          clear hb
          obtain ⟨_, g0, g1, g2⟩ := HG.out.parts
          obtain ⟨_, h0, h1, h2⟩ := HH.out.parts
          simp only at g1 g2 h1 h2
          obtain ⟨_, e0, e1, _, _⟩ := HU.out.parts
          obtain ⟨_, d0, d1, _, _⟩ := HV.out.parts
          simp only at e0 e1 d0 d1
          go_wp2_with fail
          refine (H3.out _).mono ?_
          rintro e X3 ⟨rfl, hb⟩
          have HG := Lib.hid (HG.out.below hb)
          have HH := Lib.hid (HH.out.below hb)
          have HU := Lib.hid (HU.out.below hb)
          have HV := Lib.hid (HV.out.below hb)
          have HR := Lib.hid (HR.out.below hb)
          have HB := Lib.hid (HB.out.trans (hb.mono HB.out.size))
          clear hb
          obtain ⟨_, g0, g1, g2⟩ := HG.out.parts
          obtain ⟨_, h0, h1, h2⟩ := HH.out.parts
          simp only at g1 g2 h1 h2
          obtain ⟨_, e0, e1, _, _⟩ := HU.out.parts
          obtain ⟨_, d0, d1, _, _⟩ := HV.out.parts
          simp only at e0 e1 d0 d1
          go_wp2_with fail
          refine (H4.out _).mono ?_
          rintro e X4 ⟨rfl, hb⟩
          have HG := Lib.hid (HG.out.below hb)
          have HH := Lib.hid (HH.out.below hb)
          have HU := Lib.hid (HU.out.below hb)
          have HV := Lib.hid (HV.out.below hb)
          have HR := Lib.hid (HR.out.below hb)
          have HB := Lib.hid (HB.out.trans (hb.mono HB.out.size))
          clear hb
          obtain ⟨_, g0, g1, g2⟩ := HG.out.parts
          obtain ⟨_, h0, h1, h2⟩ := HH.out.parts
          simp only at g1 g2 h1 h2
          obtain ⟨_, c0, c1, f0, f1⟩ := HR.out.parts
          go_wp2
          exact bodyPost_ret (v := .tuple #[.agg #[.int .i64 0, .int .i64 0], .bool false]) (by simp [results, Try.results30, go_sem, c0, c1]) rfl ⟨by rw [HE.out.1, HE.out.2], below_set2 HB.out _ _ (by omega)⟩
        | true =>
          have H4 := Lib.hid (fun w => hasNums_at 1000 v.1 v.2 true hq4 w (by decide) (by decide))
          obtain ⟨he, ho1, ho2⟩ := eng_t ha hk1 hk2 hq3 hq4
          have HE := Lib.hid he
          have H5 := Lib.hid (fun g c w hB => sumEnergy_any m n u v g c w ho1 ho2 hB)
          have H6 := Lib.hid (fun w => ifPace_any (smS (eyP m u) (eyP n v)) w)
          clear hq3 hq4 hk1 hk2 ha he ho1 ho2
          generalize enV m u n v = V at *
          generalize enOk m u n v = R at *
          generalize ifV (smS (eyP m u) (eyP n v)) = Y at *
          generalize paP (smS (eyP m u) (eyP n v)) = r at *
          generalize smS (eyP m u) (eyP n v) = X at *
          obtain ⟨x1, x2⟩ := X
          obtain ⟨y1, y2⟩ := Y
          obtain ⟨u1, u2⟩ := u
          obtain ⟨v1, v2⟩ := v
          simp only at H1 H2 H3 H4 H5 H6 ⊢
          obtain ⟨W0, hW0⟩ : ∃ X, X = ((w.alloc (Obj.cells #[Value.int IntKind.i64 u1, Value.int IntKind.i64 u2] 25)).alloc (Obj.cells #[Value.int IntKind.i64 v1, Value.int IntKind.i64 v2] 25)).alloc (Obj.cells #[Value.int IntKind.i64 0, Value.int IntKind.i64 0] 25) := ⟨_, rfl⟩
          have HB0 : Hid (Below w.heap.size w W0) := by show Below _ _ _; rw [hW0]; exact Below.three w _ _ _
          have HU0 : Hid (PC w.heap.size (u1, u2) W0) := by show PC _ _ _; rw [hW0]; exact ((PC.start w u1 u2 _).grow _).grow _
          have HV0 : Hid (PC (w.heap.size + 1) (v1, v2) W0) := by show PC _ _ _; rw [hW0]; exact (PC.at1 w _ v1 v2 _).grow _
          have HR0 : Hid (PZ (w.heap.size + 1 + 1) W0) := by show PZ _ _; rw [hW0]; exact PZ.at2 w _ _ _
          obtain ⟨_, u0, u1', _, _⟩ := HU0.out.parts
          obtain ⟨_, v0, v1', _, _⟩ := HV0.out.parts
          simp only at u0 u1' v0 v1'
          go_enter Try.func30, Try.ntmps30
          go_wp2
          rw [← hW0]
          clear hW0
          go_cut [10, 11] from 12 to 17 (fun p q wx => ∃ g h : Nat, p = .pointer (some ⟨g, 0, none⟩) ∧ q = .pointer (some ⟨h, 0, none⟩) ∧ BL g m (u1, u2) wx ∧ BL h n (v1, v2) wx ∧ Below W0.heap.size W0 wx)
          case first =>
            go_region
            all_goals (
              go_wp2_with fail
              go_meet
              case rel => exact ⟨_, _, rfl, rfl, ⟨by first | (simp; omega) | simp, by simp [go_sem], by simp [go_sem], by simp [go_sem]⟩, ⟨by first | (simp; omega) | simp, by simp [go_sem], by simp [go_sem], by simp [go_sem]⟩, by first | exact (Below.two W0 _ _).drew | exact (((Below.refl W0.heap.size W0).drew.alloc (Nat.le_refl _) _).alloc (by simp) _)⟩)
          case rest =>
          obtain ⟨g, h, hp, hq, hG, hH, hbx⟩ := hcut
          subst hp
          subst hq
          obtain ⟨X0, rfl⟩ : ∃ X, X = wc := ⟨_, rfl⟩
          have HG := Lib.hid hG
          have HH := Lib.hid hH
          have HB := Lib.hid (HB0.out.trans (hbx.mono HB0.out.size))
          have HU := Lib.hid (HU0.out.below hbx)
          have HV := Lib.hid (HV0.out.below hbx)
          have HR := Lib.hid (HR0.out.below hbx)
          clear hG hH hbx HB0 HU0 HV0 HR0 u0 u1' v0 v1'
          obtain ⟨_, g0, g1, g2⟩ := HG.out.parts
          obtain ⟨_, h0, h1, h2⟩ := HH.out.parts
          simp only at g1 g2 h1 h2
          go_wp2_with fail
          refine (H1.out _).mono ?_
          rintro e X1 ⟨rfl, hb⟩
          have HG := Lib.hid (HG.out.below hb)
          have HH := Lib.hid (HH.out.below hb)
          have HU := Lib.hid (HU.out.below hb)
          have HV := Lib.hid (HV.out.below hb)
          have HR := Lib.hid (HR.out.below hb)
          have HB := Lib.hid (HB.out.trans (hb.mono HB.out.size))
          clear hb
          obtain ⟨_, g0, g1, g2⟩ := HG.out.parts
          obtain ⟨_, h0, h1, h2⟩ := HH.out.parts
          simp only at g1 g2 h1 h2
          go_wp2_with fail
          refine (H2.out _).mono ?_
          rintro e X2 ⟨rfl, hb⟩
          have HG := Lib.hid (HG.out.below hb)
          have HH := Lib.hid (HH.out.below hb)
          have HU := Lib.hid (HU.out.below hb)
          have HV := Lib.hid (HV.out.below hb)
          have HR := Lib.hid (HR.out.below hb)
          have HB := Lib.hid (HB.out.trans (hb.mono HB.out.size))
          clear hb
          obtain ⟨_, g0, g1, g2⟩ := HG.out.parts
          obtain ⟨_, h0, h1, h2⟩ := HH.out.parts
          simp only at g1 g2 h1 h2
          obtain ⟨_, e0, e1, _, _⟩ := HU.out.parts
          obtain ⟨_, d0, d1, _, _⟩ := HV.out.parts
          simp only at e0 e1 d0 d1
          go_wp2_with fail
          refine (H3.out _).mono ?_
          rintro e X3 ⟨rfl, hb⟩
          have HG := Lib.hid (HG.out.below hb)
          have HH := Lib.hid (HH.out.below hb)
          have HU := Lib.hid (HU.out.below hb)
          have HV := Lib.hid (HV.out.below hb)
          have HR := Lib.hid (HR.out.below hb)
          have HB := Lib.hid (HB.out.trans (hb.mono HB.out.size))
          clear hb
          obtain ⟨_, g0, g1, g2⟩ := HG.out.parts
          obtain ⟨_, h0, h1, h2⟩ := HH.out.parts
          simp only at g1 g2 h1 h2
          obtain ⟨_, e0, e1, _, _⟩ := HU.out.parts
          obtain ⟨_, d0, d1, _, _⟩ := HV.out.parts
          simp only at e0 e1 d0 d1
          go_wp2_with fail
          refine (H4.out _).mono ?_
          rintro e X4 ⟨rfl, hb⟩
          have HG := Lib.hid (HG.out.below hb)
          have HH := Lib.hid (HH.out.below hb)
          have HU := Lib.hid (HU.out.below hb)
          have HV := Lib.hid (HV.out.below hb)
          have HR := Lib.hid (HR.out.below hb)
          have HB := Lib.hid (HB.out.trans (hb.mono HB.out.size))
          clear hb
          obtain ⟨_, g0, g1, g2⟩ := HG.out.parts
          obtain ⟨_, h0, h1, h2⟩ := HH.out.parts
          simp only at g1 g2 h1 h2
          have HL2 := Lib.hid ((Below.refl X4.heap.size X4).alloc (Nat.le_refl _) (Obj.cells #[Value.int .i64 m, Value.int .i64 u1, Value.int .i64 u2, Value.int .i64 n, Value.int .i64 v1, Value.int .i64 v2] 67))
          go_wp2_with fail
          refine (H5.out X4.heap.size _ _ ⟨by simp, by simp [go_sem], by simp [go_sem], by simp [go_sem], by simp [go_sem], by simp [go_sem], by simp [go_sem]⟩).mono ?_
          rintro e X5 ⟨rfl, hb⟩
          have hb3 := HL2.out.trans (hb.mono (by simp))
          clear hb
          have HG := Lib.hid (HG.out.below hb3)
          have HH := Lib.hid (HH.out.below hb3)
          have HU := Lib.hid (HU.out.below hb3)
          have HV := Lib.hid (HV.out.below hb3)
          have HR := Lib.hid (HR.out.below hb3)
          have HB := Lib.hid (HB.out.trans (hb3.mono HB.out.size))
          clear hb3
          go_wp2_with fail
          refine (H6.out _).mono ?_
          rintro e X6 ⟨rfl, hb⟩
          have HG := Lib.hid (HG.out.below hb)
          have HH := Lib.hid (HH.out.below hb)
          have HU := Lib.hid (HU.out.below hb)
          have HV := Lib.hid (HV.out.below hb)
          have HR := Lib.hid (HR.out.below hb)
          have HB := Lib.hid (HB.out.trans (hb.mono HB.out.size))
          clear hb
          obtain ⟨_, g0, g1, g2⟩ := HG.out.parts
          obtain ⟨_, h0, h1, h2⟩ := HH.out.parts
          simp only at g1 g2 h1 h2
          obtain ⟨_, c0, c1, f0, f1⟩ := HR.out.parts
          go_wp2
          exact bodyPost_ret (v := .tuple #[.agg #[.int .i64 y1, .int .i64 y2], .bool r]) (by simp [results, Try.results30, go_sem, c0, c1]) rfl ⟨by rw [HE.out.1, HE.out.2], below_set2 HB.out _ _ (by omega)⟩

end Go.Proofs.Ytikmkmpekjijpaa
