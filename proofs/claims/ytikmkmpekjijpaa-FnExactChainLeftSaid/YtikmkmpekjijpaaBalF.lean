/- Balls on the model's side, fourth part: the calls on two balls that hand back one pace. Written by gen/bale.py. -/
import Derived.Test.YtikmkmpekjijpaaBalE
namespace Go.Proofs.Ytikmkmpekjijpaa
open Go.RowKit

theorem below_set2 {w W : World} {b1 : Nat} (h : Below w.heap.size w W) (v1 v2 : Value) (h1 : w.heap.size ≤ b1) :
    Below w.heap.size w ((W.setCell ⟨b1, 0, none⟩ v1).setCell ⟨b1, 1, none⟩ v2) :=
  (h.setCell h1 _).setCell h1 _
theorem co_f {m n : Int} {u v : Int × Int} (h : asB m u n v = false) : coV m u n v = (0, 0) ∧ coOk m u n v = false := by
  have e : coOk m u n v = false := by unfold coOk; rw [h]; rfl
  exact ⟨by unfold coV; rw [e]; rfl, e⟩
theorem co_t {m n : Int} {u v : Int × Int} (h : asB m u n v = true) : coV m u n v = suV m u n v (m + n) ∧ coOk m u n v = suOk m u n v (m + n) := by
  have e : coOk m u n v = suOk m u n v (m + n) := by unfold coOk; rw [h]; rfl
  refine ⟨?_, e⟩
  unfold coV
  rw [e]
  unfold suOk suV mkV
  cases mkOk (suN m u n v) (suD (m + n) u v) <;> rfl
theorem pu_f {m n : Int} {u v : Int × Int} (h : asB m u n v = false) : puV m u n v = (0, 0) ∧ puOk m u n v = false := by
  have e : puOk m u n v = false := by unfold puOk; rw [h]; rfl
  exact ⟨by unfold puV; rw [e]; rfl, e⟩
theorem pu_t {m n : Int} {u v : Int × Int} (h : asB m u n v = true) : puV m u n v = suV m u n v 1 ∧ puOk m u n v = suOk m u n v 1 := by
  have e : puOk m u n v = suOk m u n v 1 := by unfold puOk; rw [h]; rfl
  refine ⟨?_, e⟩
  unfold puV
  rw [e]
  unfold suOk suV mkV
  cases mkOk (suN m u n v) (suD 1 u v) <;> rfl
theorem en_f {m n : Int} {u v : Int × Int} (h : (asB m u n v && (loB u && loB v)) = false) : enV m u n v = (0, 0) ∧ enOk m u n v = false := by
  have e : enOk m u n v = false := by unfold enOk; rw [h]; rfl
  exact ⟨by unfold enV; rw [e]; rfl, e⟩
theorem en_t {m n : Int} {u v : Int × Int} (h : (asB m u n v && (loB u && loB v)) = true) : enV m u n v = suV m (sqP u) n (sqP v) 1 ∧ enOk m u n v = suOk m (sqP u) n (sqP v) 1 := by
  have e : enOk m u n v = suOk m (sqP u) n (sqP v) 1 := by unfold enOk; rw [h]; rfl
  refine ⟨?_, e⟩
  unfold enV
  rw [e]
  unfold suOk suV mkV
  cases mkOk (suN m (sqP u) n (sqP v)) (suD 1 (sqP u) (sqP v)) <;> rfl
theorem lo_sq {u : Int × Int} (h : smP u) (hl : loB u = true) : smP (sqP u) ∧ IntKind.i64.wrap (u.1 * u.1) = u.1 * u.1 ∧ IntKind.i64.wrap (u.2 * u.2) = u.2 * u.2 := by
  unfold loB at hl
  rw [Bool.and_eq_true, Bool.and_eq_true, decide_eq_true_eq, decide_eq_true_eq, decide_eq_true_eq] at hl
  obtain ⟨⟨a1, a2⟩, a3, a4⟩ := h
  obtain ⟨⟨b1, b2⟩, b3⟩ := hl
  have m1 := mul_bd (x := u.1) (y := u.1) (A := 1000) (B := 1000) (by omega) (by omega) (by omega) (by omega)
  have m2 := mul_bd (x := u.2) (y := u.2) (A := 1000) (B := 1000) (by omega) (by omega) (by omega) (by omega)
  have m3 := mul_pos1 a3 a3
  refine ⟨⟨⟨?_, ?_⟩, ?_, ?_⟩, IntWalk.i64_in _ (by omega), IntWalk.i64_in _ (by omega)⟩
  · show -1000000 ≤ u.1 * u.1; omega
  · show u.1 * u.1 ≤ 1000000; omega
  · show 1 ≤ u.2 * u.2; omega
  · show u.2 * u.2 ≤ 1000000; omega

set_option maxHeartbeats 400000 in
theorem bLow_any (u : Int × Int) (w : World) :
    Calls Try.prog 76 #[.agg #[.int .i64 u.1, .int .i64 u.2]] w fun e w' => e = .returned (.bool (loB u)) ∧ Below w.heap.size w w' := by
  have HB : Hid (∀ o, Below w.heap.size w (w.alloc o)) := fun o => (Below.refl _ _).alloc (Nat.le_refl _) _
  obtain ⟨u1, u2⟩ := u
  by_cases h : -1000 ≤ u1 ∧ u1 ≤ 1000
  · have HC : Hid (∀ w, Calls Try.prog 86 #[.int .i64 u1, .int .i64 (-1000), .int .i64 1000] w fun e w' => e = .returned (.bool true) ∧ w = w') := fun w => bIn_at _ _ _ true (by simp; omega) w
    have HV : Hid (loB (u1, u2) = decide (u2 ≤ 1000)) := by
      show _ = _
      unfold loB
      simp [h]
    clear h
    go_enter Try.func76, Try.ntmps76
    go_wp2_with fail
    refine (HC.out _).mono ?_
    rintro e w1 ⟨rfl, rfl⟩
    go_wp2
    go_ret
    exact ⟨ret_bool HV.out.symm, HB.out _⟩
  · have HC : Hid (∀ w, Calls Try.prog 86 #[.int .i64 u1, .int .i64 (-1000), .int .i64 1000] w fun e w' => e = .returned (.bool false) ∧ w = w') := fun w => bIn_at _ _ _ false (by simp; omega) w
    have HV : Hid (loB (u1, u2) = false) := by
      show _ = _
      rw [← Bool.not_eq_true]; unfold loB; simp; omega
    clear h
    go_enter Try.func76, Try.ntmps76
    go_wp2_with fail
    refine (HC.out _).mono ?_
    rintro e w1 ⟨rfl, rfl⟩
    go_wp2
    go_ret
    exact ⟨ret_bool HV.out.symm, HB.out _⟩
theorem bLow_at (u : Int × Int) (r : Bool) (h : loB u = r) (w : World) :
    Calls Try.prog 76 #[.agg #[.int .i64 u.1, .int .i64 u.2]] w fun e w' => e = .returned (.bool r) ∧ Below w.heap.size w w' := by subst h; exact bLow_any u w

set_option maxHeartbeats 1000000 in
theorem specCommonPace_any (m n : Int) (u v : Int × Int) (w : World) :
    Calls Try.prog 25 #[.int .i64 m, .agg #[.int .i64 u.1, .int .i64 u.2], .int .i64 n, .agg #[.int .i64 v.1, .int .i64 v.2]] w fun e w' =>
      e = .returned (.tuple #[.agg #[.int .i64 (coV m u n v).1, .int .i64 (coV m u n v).2], .bool (coOk m u n v)]) ∧ Below w.heap.size w w' := by
  cases hq : asB m u n v with
  | false =>
    have HV := Lib.hid (co_f (m := m) (n := n) (u := u) (v := v) hq)
    have HQ := Lib.hid (bAsked_at m n u.1 u.2 v.1 v.2 false hq)
    generalize coV m u n v = V at *
    generalize coOk m u n v = R at *
    clear hq
    obtain ⟨u1, u2⟩ := u
    obtain ⟨v1, v2⟩ := v
    simp only at HQ ⊢
    go_enter Try.func25, Try.ntmps25
    go_wp2_with fail
    refine (HQ.out _).mono ?_
    rintro e w1 ⟨rfl, hb⟩
    have P1 := (PZ.at2 w _ _ 25).below hb
    have B1 := Lib.hid ((Below.three w _ _ _).trans (hb.mono (by simp; omega)))
    clear hb
    obtain ⟨sA, a0, a1, af0, af1⟩ := P1.parts
    go_wp2
    refine bodyPost_ret (v := .tuple #[.agg #[.int .i64 0, .int .i64 0], .bool false]) (by simp [results, Try.results25, go_sem, a0, a1]) rfl ⟨by rw [HV.out.1, HV.out.2], ?_⟩
    exact below_set2 B1.out _ _ (by omega)
  | true =>
    have hf := as_facts hq
    have HQ := Lib.hid (bAsked_at m n u.1 u.2 v.1 v.2 true hq)
    have HV := Lib.hid (co_t (m := m) (n := n) (u := u) (v := v) hq)
    have HC := Lib.hid (fun w => baSum_any m n (m + n) u v w (by omega) (by omega) (by omega) hf.2.2.1 hf.2.2.2)
    have k3 : IntKind.i64.wrap (m + n) = m + n := IntWalk.i64_in _ (by omega)
    generalize suV m u n v (m + n) = C at *
    generalize suOk m u n v (m + n) = R at *
    generalize coV m u n v = V at *
    generalize coOk m u n v = R' at *
    clear hq hf
    obtain ⟨c1, c2⟩ := C
    obtain ⟨u1, u2⟩ := u
    obtain ⟨v1, v2⟩ := v
    simp only at HQ HC ⊢
    go_enter Try.func25, Try.ntmps25
    go_wp2_with fail
    refine (HQ.out _).mono ?_
    rintro e w1 ⟨rfl, hb⟩
    have P1 := (PZ.at2 w _ _ 25).below hb
    have e0 : w1.cell? ⟨w.heap.size, 0, none⟩ = some (.int .i64 u1) := by rw [hb.cell (p := ⟨w.heap.size, 0, none⟩) (by simp; omega)]; simp [go_sem]
    have e1 : w1.cell? ⟨w.heap.size, 1, none⟩ = some (.int .i64 u2) := by rw [hb.cell (p := ⟨w.heap.size, 1, none⟩) (by simp; omega)]; simp [go_sem]
    have d0 : w1.cell? ⟨w.heap.size + 1, 0, none⟩ = some (.int .i64 v1) := by rw [hb.cell (p := ⟨w.heap.size + 1, 0, none⟩) (by simp)]; simp [go_sem]
    have d1 : w1.cell? ⟨w.heap.size + 1, 1, none⟩ = some (.int .i64 v2) := by rw [hb.cell (p := ⟨w.heap.size + 1, 1, none⟩) (by simp)]; simp [go_sem]
    have B1 := Lib.hid ((Below.three w _ _ _).trans (hb.mono (by simp; omega)))
    clear hb
    go_wp2_with fail
    refine (HC.out _).mono ?_
    rintro e w2 ⟨rfl, hb⟩
    have P2 := P1.below hb
    have B2 := Lib.hid (B1.out.trans (hb.mono B1.out.size))
    clear hb
    obtain ⟨sA, a0, a1, af0, af1⟩ := P2.parts
    go_wp2
    refine bodyPost_ret (v := .tuple #[.agg #[.int .i64 c1, .int .i64 c2], .bool R]) (by simp [results, Try.results25, go_sem, a0, a1]) rfl ⟨by rw [HV.out.1, HV.out.2], ?_⟩
    exact below_set2 B2.out _ _ (by omega)

set_option maxHeartbeats 1000000 in
theorem specPushOf_any (m n : Int) (u v : Int × Int) (w : World) :
    Calls Try.prog 27 #[.int .i64 m, .agg #[.int .i64 u.1, .int .i64 u.2], .int .i64 n, .agg #[.int .i64 v.1, .int .i64 v.2]] w fun e w' =>
      e = .returned (.tuple #[.agg #[.int .i64 (puV m u n v).1, .int .i64 (puV m u n v).2], .bool (puOk m u n v)]) ∧ Below w.heap.size w w' := by
  cases hq : asB m u n v with
  | false =>
    have HV := Lib.hid (pu_f (m := m) (n := n) (u := u) (v := v) hq)
    have HQ := Lib.hid (bAsked_at m n u.1 u.2 v.1 v.2 false hq)
    generalize puV m u n v = V at *
    generalize puOk m u n v = R at *
    clear hq
    obtain ⟨u1, u2⟩ := u
    obtain ⟨v1, v2⟩ := v
    simp only at HQ ⊢
    go_enter Try.func27, Try.ntmps27
    go_wp2_with fail
    refine (HQ.out _).mono ?_
    rintro e w1 ⟨rfl, hb⟩
    have P1 := (PZ.at2 w _ _ 25).below hb
    have B1 := Lib.hid ((Below.three w _ _ _).trans (hb.mono (by simp; omega)))
    clear hb
    obtain ⟨sA, a0, a1, af0, af1⟩ := P1.parts
    go_wp2
    refine bodyPost_ret (v := .tuple #[.agg #[.int .i64 0, .int .i64 0], .bool false]) (by simp [results, Try.results27, go_sem, a0, a1]) rfl ⟨by rw [HV.out.1, HV.out.2], ?_⟩
    exact below_set2 B1.out _ _ (by omega)
  | true =>
    have hf := as_facts hq
    have HQ := Lib.hid (bAsked_at m n u.1 u.2 v.1 v.2 true hq)
    have HV := Lib.hid (pu_t (m := m) (n := n) (u := u) (v := v) hq)
    have HC := Lib.hid (fun w => baSum_any m n (1) u v w (by omega) (by omega) (by omega) hf.2.2.1 hf.2.2.2)
    generalize suV m u n v (1) = C at *
    generalize suOk m u n v (1) = R at *
    generalize puV m u n v = V at *
    generalize puOk m u n v = R' at *
    clear hq hf
    obtain ⟨c1, c2⟩ := C
    obtain ⟨u1, u2⟩ := u
    obtain ⟨v1, v2⟩ := v
    simp only at HQ HC ⊢
    go_enter Try.func27, Try.ntmps27
    go_wp2_with fail
    refine (HQ.out _).mono ?_
    rintro e w1 ⟨rfl, hb⟩
    have P1 := (PZ.at2 w _ _ 25).below hb
    have e0 : w1.cell? ⟨w.heap.size, 0, none⟩ = some (.int .i64 u1) := by rw [hb.cell (p := ⟨w.heap.size, 0, none⟩) (by simp; omega)]; simp [go_sem]
    have e1 : w1.cell? ⟨w.heap.size, 1, none⟩ = some (.int .i64 u2) := by rw [hb.cell (p := ⟨w.heap.size, 1, none⟩) (by simp; omega)]; simp [go_sem]
    have d0 : w1.cell? ⟨w.heap.size + 1, 0, none⟩ = some (.int .i64 v1) := by rw [hb.cell (p := ⟨w.heap.size + 1, 0, none⟩) (by simp)]; simp [go_sem]
    have d1 : w1.cell? ⟨w.heap.size + 1, 1, none⟩ = some (.int .i64 v2) := by rw [hb.cell (p := ⟨w.heap.size + 1, 1, none⟩) (by simp)]; simp [go_sem]
    have B1 := Lib.hid ((Below.three w _ _ _).trans (hb.mono (by simp; omega)))
    clear hb
    go_wp2_with fail
    refine (HC.out _).mono ?_
    rintro e w2 ⟨rfl, hb⟩
    have P2 := P1.below hb
    have B2 := Lib.hid (B1.out.trans (hb.mono B1.out.size))
    clear hb
    obtain ⟨sA, a0, a1, af0, af1⟩ := P2.parts
    go_wp2
    refine bodyPost_ret (v := .tuple #[.agg #[.int .i64 c1, .int .i64 c2], .bool R]) (by simp [results, Try.results27, go_sem, a0, a1]) rfl ⟨by rw [HV.out.1, HV.out.2], ?_⟩
    exact below_set2 B2.out _ _ (by omega)

set_option maxHeartbeats 1000000 in
theorem specEnergyOf_any (m n : Int) (u v : Int × Int) (w : World) :
    Calls Try.prog 29 #[.int .i64 m, .agg #[.int .i64 u.1, .int .i64 u.2], .int .i64 n, .agg #[.int .i64 v.1, .int .i64 v.2]] w fun e w' =>
      e = .returned (.tuple #[.agg #[.int .i64 (enV m u n v).1, .int .i64 (enV m u n v).2], .bool (enOk m u n v)]) ∧ Below w.heap.size w w' := by
  cases hq : asB m u n v with
  | false =>
    have HV := Lib.hid (en_f (m := m) (n := n) (u := u) (v := v) (by rw [hq]; rfl))
    have HQ := Lib.hid (bAsked_at m n u.1 u.2 v.1 v.2 false hq)
    generalize enV m u n v = V at *
    generalize enOk m u n v = R at *
    clear hq
    obtain ⟨u1, u2⟩ := u
    obtain ⟨v1, v2⟩ := v
    simp only at HQ ⊢
    go_enter Try.func29, Try.ntmps29
    go_wp2_with fail
    refine (HQ.out _).mono ?_
    rintro e w1 ⟨rfl, hb⟩
    have P1 := (PZ.at2 w _ _ 25).below hb
    have B1 := Lib.hid ((Below.three w _ _ _).trans (hb.mono (by simp; omega)))
    clear hb
    obtain ⟨sA, a0, a1, af0, af1⟩ := P1.parts
    go_wp2
    refine bodyPost_ret (v := .tuple #[.agg #[.int .i64 0, .int .i64 0], .bool false]) (by simp [results, Try.results29, go_sem, a0, a1]) rfl ⟨by rw [HV.out.1, HV.out.2], ?_⟩
    exact below_set2 B1.out _ _ (by omega)
  | true =>
    have hf := as_facts hq
    have HQ := Lib.hid (bAsked_at m n u.1 u.2 v.1 v.2 true hq)
    cases hu : loB u with
    | false =>
      have HV := Lib.hid (en_f (m := m) (n := n) (u := u) (v := v) (by rw [hq, hu]; rfl))
      have HU := Lib.hid (bLow_at u false hu)
      generalize enV m u n v = V at *
      generalize enOk m u n v = R at *
      clear hq hf hu
      obtain ⟨u1, u2⟩ := u
      obtain ⟨v1, v2⟩ := v
      simp only at HQ HU ⊢
      go_enter Try.func29, Try.ntmps29
      go_wp2_with fail
      refine (HQ.out _).mono ?_
      rintro e w1 ⟨rfl, hb⟩
      have P1 := (PZ.at2 w _ _ 25).below hb
      have e0 : w1.cell? ⟨w.heap.size, 0, none⟩ = some (.int .i64 u1) := by rw [hb.cell (p := ⟨w.heap.size, 0, none⟩) (by simp; omega)]; simp [go_sem]
      have e1 : w1.cell? ⟨w.heap.size, 1, none⟩ = some (.int .i64 u2) := by rw [hb.cell (p := ⟨w.heap.size, 1, none⟩) (by simp; omega)]; simp [go_sem]
      have d0 : w1.cell? ⟨w.heap.size + 1, 0, none⟩ = some (.int .i64 v1) := by rw [hb.cell (p := ⟨w.heap.size + 1, 0, none⟩) (by simp)]; simp [go_sem]
      have d1 : w1.cell? ⟨w.heap.size + 1, 1, none⟩ = some (.int .i64 v2) := by rw [hb.cell (p := ⟨w.heap.size + 1, 1, none⟩) (by simp)]; simp [go_sem]
      have B1 := Lib.hid ((Below.three w _ _ _).trans (hb.mono (by simp; omega)))
      clear hb
      go_wp2_with fail
      refine (HU.out _).mono ?_
      rintro e w2 ⟨rfl, hb⟩
      have P2 := P1.below hb
      have B2 := Lib.hid (B1.out.trans (hb.mono B1.out.size))
      clear hb
      obtain ⟨sA, a0, a1, af0, af1⟩ := P2.parts
      go_wp2
      refine bodyPost_ret (v := .tuple #[.agg #[.int .i64 0, .int .i64 0], .bool false]) (by simp [results, Try.results29, go_sem, a0, a1]) rfl ⟨by rw [HV.out.1, HV.out.2], ?_⟩
      exact below_set2 B2.out _ _ (by omega)
    | true =>
      have HU := Lib.hid (bLow_at u true hu)
      cases hv : loB v with
      | false =>
        have HV := Lib.hid (en_f (m := m) (n := n) (u := u) (v := v) (by rw [hq, hu, hv]; rfl))
        have HW := Lib.hid (bLow_at v false hv)
        generalize enV m u n v = V at *
        generalize enOk m u n v = R at *
        clear hq hf hu hv
        obtain ⟨u1, u2⟩ := u
        obtain ⟨v1, v2⟩ := v
        simp only at HQ HU HW ⊢
        go_enter Try.func29, Try.ntmps29
        go_wp2_with fail
        refine (HQ.out _).mono ?_
        rintro e w1 ⟨rfl, hb⟩
        have P1 := (PZ.at2 w _ _ 25).below hb
        have e0 : w1.cell? ⟨w.heap.size, 0, none⟩ = some (.int .i64 u1) := by rw [hb.cell (p := ⟨w.heap.size, 0, none⟩) (by simp; omega)]; simp [go_sem]
        have e1 : w1.cell? ⟨w.heap.size, 1, none⟩ = some (.int .i64 u2) := by rw [hb.cell (p := ⟨w.heap.size, 1, none⟩) (by simp; omega)]; simp [go_sem]
        have d0 : w1.cell? ⟨w.heap.size + 1, 0, none⟩ = some (.int .i64 v1) := by rw [hb.cell (p := ⟨w.heap.size + 1, 0, none⟩) (by simp)]; simp [go_sem]
        have d1 : w1.cell? ⟨w.heap.size + 1, 1, none⟩ = some (.int .i64 v2) := by rw [hb.cell (p := ⟨w.heap.size + 1, 1, none⟩) (by simp)]; simp [go_sem]
        have B1 := Lib.hid ((Below.three w _ _ _).trans (hb.mono (by simp; omega)))
        clear hb
        go_wp2_with fail
        refine (HU.out _).mono ?_
        rintro e w2 ⟨rfl, hb⟩
        have P2 := P1.below hb
        have e0 := Below.cell_some hb e0
        have e1 := Below.cell_some hb e1
        have d0 := Below.cell_some hb d0
        have d1 := Below.cell_some hb d1
        have B2 := Lib.hid (B1.out.trans (hb.mono B1.out.size))
        clear hb
        go_wp2_with fail
        refine (HW.out _).mono ?_
        rintro e w3 ⟨rfl, hb⟩
        have P3 := P2.below hb
        have B3 := Lib.hid (B2.out.trans (hb.mono B2.out.size))
        clear hb
        obtain ⟨sA, a0, a1, af0, af1⟩ := P3.parts
        go_wp2
        refine bodyPost_ret (v := .tuple #[.agg #[.int .i64 0, .int .i64 0], .bool false]) (by simp [results, Try.results29, go_sem, a0, a1]) rfl ⟨by rw [HV.out.1, HV.out.2], ?_⟩
        exact below_set2 B3.out _ _ (by omega)
      | true =>
        have HV := Lib.hid (en_t (m := m) (n := n) (u := u) (v := v) (by rw [hq, hu, hv]; rfl))
        have HW := Lib.hid (bLow_at v true hv)
        obtain ⟨q1, k1, k2⟩ := lo_sq hf.2.2.1 hu
        obtain ⟨q2, k3, k4⟩ := lo_sq hf.2.2.2 hv
        have HC := Lib.hid (fun w => baSum_any m n 1 (sqP u) (sqP v) w (by omega) (by omega) (by omega) q1 q2)
        generalize suV m (sqP u) n (sqP v) 1 = C at *
        generalize suOk m (sqP u) n (sqP v) 1 = R at *
        generalize enV m u n v = V at *
        generalize enOk m u n v = R' at *
        clear hq hf hu hv q1 q2
        obtain ⟨c1, c2⟩ := C
        unfold sqP at HC
        obtain ⟨u1, u2⟩ := u
        obtain ⟨v1, v2⟩ := v
        simp only at HQ HU HW HC k1 k2 k3 k4 ⊢
        go_enter Try.func29, Try.ntmps29
        go_wp2_with fail
        refine (HQ.out _).mono ?_
        rintro e w1 ⟨rfl, hb⟩
        have P1 := (PZ.at2 w _ _ 25).below hb
        have e0 : w1.cell? ⟨w.heap.size, 0, none⟩ = some (.int .i64 u1) := by rw [hb.cell (p := ⟨w.heap.size, 0, none⟩) (by simp; omega)]; simp [go_sem]
        have e1 : w1.cell? ⟨w.heap.size, 1, none⟩ = some (.int .i64 u2) := by rw [hb.cell (p := ⟨w.heap.size, 1, none⟩) (by simp; omega)]; simp [go_sem]
        have d0 : w1.cell? ⟨w.heap.size + 1, 0, none⟩ = some (.int .i64 v1) := by rw [hb.cell (p := ⟨w.heap.size + 1, 0, none⟩) (by simp)]; simp [go_sem]
        have d1 : w1.cell? ⟨w.heap.size + 1, 1, none⟩ = some (.int .i64 v2) := by rw [hb.cell (p := ⟨w.heap.size + 1, 1, none⟩) (by simp)]; simp [go_sem]
        have B1 := Lib.hid ((Below.three w _ _ _).trans (hb.mono (by simp; omega)))
        clear hb
        go_wp2_with fail
        refine (HU.out _).mono ?_
        rintro e w2 ⟨rfl, hb⟩
        have P2 := P1.below hb
        have e0 := Below.cell_some hb e0
        have e1 := Below.cell_some hb e1
        have d0 := Below.cell_some hb d0
        have d1 := Below.cell_some hb d1
        have B2 := Lib.hid (B1.out.trans (hb.mono B1.out.size))
        clear hb
        go_wp2_with fail
        refine (HW.out _).mono ?_
        rintro e w3 ⟨rfl, hb⟩
        have P3 := P2.below hb
        have e0 := Below.cell_some hb e0
        have e1 := Below.cell_some hb e1
        have d0 := Below.cell_some hb d0
        have d1 := Below.cell_some hb d1
        have B3 := Lib.hid (B2.out.trans (hb.mono B2.out.size))
        clear hb
        go_wp2_with fail
        refine (HC.out _).mono ?_
        rintro e w4 ⟨rfl, hb⟩
        have P4 := P3.below hb
        have B4 := Lib.hid (B3.out.trans (hb.mono B3.out.size))
        clear hb
        obtain ⟨sA, a0, a1, af0, af1⟩ := P4.parts
        go_wp2
        refine bodyPost_ret (v := .tuple #[.agg #[.int .i64 c1, .int .i64 c2], .bool R]) (by simp [results, Try.results29, go_sem, a0, a1]) rfl ⟨by rw [HV.out.1, HV.out.2], ?_⟩
        exact below_set2 B4.out _ _ (by omega)
end Go.Proofs.Ytikmkmpekjijpaa
