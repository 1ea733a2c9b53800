/- Balls on the model's side, third part: clacks and the calls on two balls. -/
import Derived.Test.YtikmkmpekjijpaaBalD
namespace Go.Proofs.Ytikmkmpekjijpaa
open Go.RowKit

theorem PZ.grow {g : Nat} {wr : World} (h : PZ g wr) (o : Obj) : PZ g (wr.alloc o) := h.below ((Below.refl _ _).alloc (Nat.le_refl _) _)
theorem PZ.at3 (w : World) (o1 o2 o3 : Obj) (e : TypeId) : PZ (w.heap.size + 1 + 1 + 1) ((((w.alloc o1).alloc o2).alloc o3).alloc (Obj.cells #[Value.int IntKind.i64 0, Value.int IntKind.i64 0] e)) := by
  have := PZ.start (((w.alloc o1).alloc o2).alloc o3) e
  simpa using this
theorem Below.four (w : World) (o1 o2 o3 o4 : Obj) : Below w.heap.size w ((((w.alloc o1).alloc o2).alloc o3).alloc o4) :=
  (Below.three w o1 o2 o3).alloc (by simp; omega) _

theorem below_set4 {w W : World} {b1 b2 : Nat} (h : Below w.heap.size w W) (v1 v2 v3 v4 : Value) (h1 : w.heap.size ≤ b1) (h2 : w.heap.size ≤ b2) :
    Below w.heap.size w ((((W.setCell ⟨b1, 0, none⟩ v1).setCell ⟨b1, 1, none⟩ v2).setCell ⟨b2, 0, none⟩ v3).setCell ⟨b2, 1, none⟩ v4) :=
  (((h.setCell h1 _).setCell h1 _).setCell h2 _).setCell h2 _

set_option maxHeartbeats 1000000 in
theorem bClack_any (m n : Int) (u v : Int × Int) (w : World) (hm : 1 ≤ m ∧ m ≤ 9) (hn : 1 ≤ n ∧ n ≤ 9) (hu : smP u) (hv : smP v) :
    Calls Try.prog 67 #[.int .i64 m, .agg #[.int .i64 u.1, .int .i64 u.2], .int .i64 n, .agg #[.int .i64 v.1, .int .i64 v.2]] w fun e w' =>
      e = .returned (.tuple #[.agg #[.int .i64 (clV m u n v).1.1, .int .i64 (clV m u n v).1.2], .agg #[.int .i64 (clV m u n v).2.1, .int .i64 (clV m u n v).2.2], .bool (clOk m u n v)]) ∧ Below w.heap.size w w' := by
  have H1 := Lib.hid (fun w => baSum_any (m - n) (2 * n) (m + n) u v w (by omega) (by omega) (by omega) hu hv)
  have H2 := Lib.hid (fun w => baSum_any (2 * m) (n - m) (m + n) u v w (by omega) (by omega) (by omega) hu hv)
  have k1 : IntKind.i64.wrap (m - n) = m - n := IntWalk.i64_in _ (by omega)
  have k2 : IntKind.i64.wrap (2 * n) = 2 * n := IntWalk.i64_in _ (by omega)
  have k3 : IntKind.i64.wrap (m + n) = m + n := IntWalk.i64_in _ (by omega)
  have k4 : IntKind.i64.wrap (2 * m) = 2 * m := IntWalk.i64_in _ (by omega)
  have k5 : IntKind.i64.wrap (n - m) = n - m := IntWalk.i64_in _ (by omega)
  have HO : Hid (clOk m u n v = (suOk (m - n) u (2 * n) v (m + n) && suOk (2 * m) u (n - m) v (m + n))) := rfl
  have HV : Hid (clV m u n v = if clOk m u n v then (suV (m - n) u (2 * n) v (m + n), suV (2 * m) u (n - m) v (m + n)) else ((0, 0), (0, 0))) := rfl
  generalize suV (m - n) u (2 * n) v (m + n) = X at *
  generalize suV (2 * m) u (n - m) v (m + n) = Y at *
  generalize suOk (m - n) u (2 * n) v (m + n) = R1 at *
  generalize suOk (2 * m) u (n - m) v (m + n) = R2 at *
  generalize clV m u n v = V at *
  generalize clOk m u n v = R at *
  clear hm hn hu hv
  obtain ⟨u1, u2⟩ := u
  obtain ⟨v1, v2⟩ := v
  obtain ⟨x1, x2⟩ := X
  obtain ⟨y1, y2⟩ := Y
  simp only at H1 H2 ⊢
  go_enter Try.func67, Try.ntmps67
  go_wp2_with fail
  refine (H1.out _).mono ?_
  rintro e w1 ⟨rfl, hb⟩
  have PA := ((PZ.at2 w _ _ 25).grow _).below hb
  have PB := (PZ.at3 w _ _ _ 25).below hb
  have e0 : w1.cell? ⟨w.heap.size, 0, none⟩ = some (.int .i64 u1) := by rw [hb.cell (p := ⟨w.heap.size, 0, none⟩) (by simp; omega)]; simp [go_sem]
  have e1 : w1.cell? ⟨w.heap.size, 1, none⟩ = some (.int .i64 u2) := by rw [hb.cell (p := ⟨w.heap.size, 1, none⟩) (by simp; omega)]; simp [go_sem]
  have d0 : w1.cell? ⟨w.heap.size + 1, 0, none⟩ = some (.int .i64 v1) := by rw [hb.cell (p := ⟨w.heap.size + 1, 0, none⟩) (by simp)]; simp [go_sem]
  have d1 : w1.cell? ⟨w.heap.size + 1, 1, none⟩ = some (.int .i64 v2) := by rw [hb.cell (p := ⟨w.heap.size + 1, 1, none⟩) (by simp)]; simp [go_sem]
  have s1 : w.heap.size + 1 + 1 < w1.heap.size := PA.lt
  have HB := Lib.hid ((Below.four w _ _ _ _).trans (hb.mono (by simp; omega)))
  clear hb
  have s2 : w.heap.size < w1.heap.size := by omega
  have s3 : w.heap.size + 1 < w1.heap.size := by omega
  go_wp2_with fail
  refine (H2.out _).mono ?_
  rintro e w2 ⟨rfl, hb⟩
  have x0 : w2.cell? ⟨w1.heap.size, 0, none⟩ = some (.int .i64 x1) := by rw [hb.cell (p := ⟨w1.heap.size, 0, none⟩) (by simp)]; simp [go_sem]
  have x1' : w2.cell? ⟨w1.heap.size, 1, none⟩ = some (.int .i64 x2) := by rw [hb.cell (p := ⟨w1.heap.size, 1, none⟩) (by simp)]; simp [go_sem]
  have hb12 : Below w1.heap.size w1 w2 := ((Below.refl _ w1).alloc (Nat.le_refl _) _).trans (hb.mono (by simp))
  obtain ⟨sA, a0, a1, af0, af1⟩ := (PA.below hb12).parts
  obtain ⟨sB, b0, b1, bf0, bf1⟩ := (PB.below hb12).parts
  have HB2 := Lib.hid (HB.out.trans (hb12.mono HB.out.size))
  have s4 : w1.heap.size < w2.heap.size := by have := hb.size; simp at this; omega
  clear hb hb12 e0 e1 d0 d1 HB PA PB H1 H2
  cases R1 with
  | false =>
    have HR : Hid (R = false) := by show _ = _; rw [HO.out]; rfl
    have HV2 : Hid (V = ((0, 0), (0, 0)) ∧ R = false) := ⟨by rw [HV.out, HR.out]; rfl, HR.out⟩
    clear HO HV HR
    go_wp2
    refine bodyPost_ret (v := .tuple #[.agg #[.int .i64 0, .int .i64 0], .agg #[.int .i64 0, .int .i64 0], .bool false]) (by simp [results, Try.results67, go_sem, a0, a1, b0, b1, sA, sB]) rfl ⟨by rw [HV2.out.1, HV2.out.2], ?_⟩
    exact (below_set4 HB2.out _ _ _ _ (by omega) (by omega)).alloc (by have := HB2.out.size; simp; omega) _
  | true =>
    cases R2 with
    | false =>
      have HR : Hid (R = false) := by show _ = _; rw [HO.out]; rfl
      have HV2 : Hid (V = ((0, 0), (0, 0)) ∧ R = false) := ⟨by rw [HV.out, HR.out]; rfl, HR.out⟩
      clear HO HV HR
      go_wp2
      refine bodyPost_ret (v := .tuple #[.agg #[.int .i64 0, .int .i64 0], .agg #[.int .i64 0, .int .i64 0], .bool false]) (by simp [results, Try.results67, go_sem, a0, a1, b0, b1, sA, sB]) rfl ⟨by rw [HV2.out.1, HV2.out.2], ?_⟩
      exact (below_set4 HB2.out _ _ _ _ (by omega) (by omega)).alloc (by have := HB2.out.size; simp; omega) _
    | true =>
      have HR : Hid (R = true) := by show _ = _; rw [HO.out]; rfl
      have HV2 : Hid (V = ((x1, x2), (y1, y2)) ∧ R = true) := ⟨by rw [HV.out, HR.out]; rfl, HR.out⟩
      clear HO HV HR
      go_wp2
      go_region
      go_wp2
      refine bodyPost_ret (v := .tuple #[.agg #[.int .i64 x1, .int .i64 x2], .agg #[.int .i64 y1, .int .i64 y2], .bool true]) (by simp [results, Try.results67, go_sem, a0, a1, b0, b1, sA, sB]) rfl ⟨by rw [HV2.out.1, HV2.out.2], ?_⟩
      exact ((below_set4 HB2.out _ _ _ _ (by omega) (by omega)).alloc (by have := HB2.out.size; simp; omega) _).drew

theorem as_facts {m n : Int} {u v : Int × Int} (h : asB m u n v = true) : (1 ≤ m ∧ m ≤ 9) ∧ (1 ≤ n ∧ n ≤ 9) ∧ smP u ∧ smP v := by
  unfold asB at h
  rw [Bool.and_eq_true, Bool.and_eq_true, Bool.and_eq_true] at h
  exact ⟨(maB_iff m).1 h.1.1, (maB_iff n).1 h.2.1, smP_of h.1.2, smP_of h.2.2⟩
theorem ck_f {m n : Int} {u v : Int × Int} (h : (asB m u n v && fstB u v) = false) : ckV m u n v = ((0, 0), (0, 0)) ∧ ckOk m u n v = false := by
  have e : ckOk m u n v = false := by unfold ckOk; rw [h]; rfl
  exact ⟨by unfold ckV; rw [e]; rfl, e⟩
theorem ck_t {m n : Int} {u v : Int × Int} (h : (asB m u n v && fstB u v) = true) : ckV m u n v = clV m u n v ∧ ckOk m u n v = clOk m u n v := by
  have e : ckOk m u n v = clOk m u n v := by unfold ckOk; rw [h]; rfl
  refine ⟨?_, e⟩
  unfold ckV clV
  rw [e]
  cases clOk m u n v <;> rfl

set_option maxHeartbeats 1000000 in
theorem specClack_any (m n : Int) (u v : Int × Int) (w : World) :
    Calls Try.prog 22 #[.int .i64 m, .agg #[.int .i64 u.1, .int .i64 u.2], .int .i64 n, .agg #[.int .i64 v.1, .int .i64 v.2]] w fun e w' =>
      e = .returned (.tuple #[.agg #[.int .i64 (ckV m u n v).1.1, .int .i64 (ckV m u n v).1.2], .agg #[.int .i64 (ckV m u n v).2.1, .int .i64 (ckV m u n v).2.2], .bool (ckOk m u n v)]) ∧ Below w.heap.size w w' := by
  cases hq : asB m u n v with
  | false =>
    have HV := Lib.hid (ck_f (m := m) (n := n) (u := u) (v := v) (by rw [hq]; rfl))
    have HQ := Lib.hid (bAsked_at m n u.1 u.2 v.1 v.2 false hq)
    generalize ckV m u n v = V at *
    generalize ckOk m u n v = R at *
    clear hq
    obtain ⟨u1, u2⟩ := u
    obtain ⟨v1, v2⟩ := v
    simp only at HQ ⊢
    go_enter Try.func22, Try.ntmps22
    go_wp2_with fail
    refine (HQ.out _).mono ?_
    rintro e w1 ⟨rfl, hb⟩
    obtain ⟨sA, a0, a1, af0, af1⟩ := (((PZ.at2 w _ _ 25).grow _).below hb).parts
    obtain ⟨sB, b0, b1, bf0, bf1⟩ := ((PZ.at3 w _ _ _ 25).below hb).parts
    have HB := Lib.hid ((Below.four w _ _ _ _).trans (hb.mono (by simp; omega)))
    clear hb
    go_wp2
    refine bodyPost_ret (v := .tuple #[.agg #[.int .i64 0, .int .i64 0], .agg #[.int .i64 0, .int .i64 0], .bool false]) (by simp [results, Try.results22, go_sem, a0, a1, b0, b1]) rfl ⟨by rw [HV.out.1, HV.out.2], ?_⟩
    exact below_set4 HB.out _ _ _ _ (by omega) (by omega)
  | true =>
    have hf := as_facts hq
    have HQ := Lib.hid (bAsked_at m n u.1 u.2 v.1 v.2 true hq)
    cases hs : fstB u v with
    | false =>
      have HV := Lib.hid (ck_f (m := m) (n := n) (u := u) (v := v) (by rw [hq, hs]; rfl))
      have HF := Lib.hid (fun w => bFaster_at u v false hs w hf.2.2.1 hf.2.2.2)
      generalize ckV m u n v = V at *
      generalize ckOk m u n v = R at *
      clear hq hs hf
      obtain ⟨u1, u2⟩ := u
      obtain ⟨v1, v2⟩ := v
      simp only at HQ HF ⊢
      go_enter Try.func22, Try.ntmps22
      go_wp2_with fail
      refine (HQ.out _).mono ?_
      rintro e w1 ⟨rfl, hb⟩
      have PA := ((PZ.at2 w _ _ 25).grow _).below hb
      have PB := (PZ.at3 w _ _ _ 25).below hb
      have e0 : w1.cell? ⟨w.heap.size, 0, none⟩ = some (.int .i64 u1) := by rw [hb.cell (p := ⟨w.heap.size, 0, none⟩) (by simp; omega)]; simp [go_sem]
      have e1 : w1.cell? ⟨w.heap.size, 1, none⟩ = some (.int .i64 u2) := by rw [hb.cell (p := ⟨w.heap.size, 1, none⟩) (by simp; omega)]; simp [go_sem]
      have d0 : w1.cell? ⟨w.heap.size + 1, 0, none⟩ = some (.int .i64 v1) := by rw [hb.cell (p := ⟨w.heap.size + 1, 0, none⟩) (by simp)]; simp [go_sem]
      have d1 : w1.cell? ⟨w.heap.size + 1, 1, none⟩ = some (.int .i64 v2) := by rw [hb.cell (p := ⟨w.heap.size + 1, 1, none⟩) (by simp)]; simp [go_sem]
      have HB := Lib.hid ((Below.four w _ _ _ _).trans (hb.mono (by simp; omega)))
      clear hb
      go_wp2_with fail
      refine (HF.out _).mono ?_
      rintro e w2 ⟨rfl, hb⟩
      obtain ⟨sA, a0, a1, af0, af1⟩ := (PA.below hb).parts
      obtain ⟨sB, b0, b1, bf0, bf1⟩ := (PB.below hb).parts
      have HB2 := Lib.hid (HB.out.trans (hb.mono HB.out.size))
      clear hb
      go_wp2
      refine bodyPost_ret (v := .tuple #[.agg #[.int .i64 0, .int .i64 0], .agg #[.int .i64 0, .int .i64 0], .bool false]) (by simp [results, Try.results22, go_sem, a0, a1, b0, b1]) rfl ⟨by rw [HV.out.1, HV.out.2], ?_⟩
      exact below_set4 HB2.out _ _ _ _ (by omega) (by omega)
    | true =>
      have HV := Lib.hid (ck_t (m := m) (n := n) (u := u) (v := v) (by rw [hq, hs]; rfl))
      have HF := Lib.hid (fun w => bFaster_at u v true hs w hf.2.2.1 hf.2.2.2)
      have HC := Lib.hid (fun w => bClack_any m n u v w hf.1 hf.2.1 hf.2.2.1 hf.2.2.2)
      generalize clV m u n v = C at *
      generalize clOk m u n v = R at *
      generalize ckV m u n v = V at *
      generalize ckOk m u n v = R' at *
      clear hq hs hf
      obtain ⟨u1, u2⟩ := u
      obtain ⟨v1, v2⟩ := v
      obtain ⟨⟨c1, c2⟩, ⟨c3, c4⟩⟩ := C
      simp only at HQ HF HC ⊢
      go_enter Try.func22, Try.ntmps22
      go_wp2_with fail
      refine (HQ.out _).mono ?_
      rintro e w1 ⟨rfl, hb⟩
      have PA := ((PZ.at2 w _ _ 25).grow _).below hb
      have PB := (PZ.at3 w _ _ _ 25).below hb
      have e0 : w1.cell? ⟨w.heap.size, 0, none⟩ = some (.int .i64 u1) := by rw [hb.cell (p := ⟨w.heap.size, 0, none⟩) (by simp; omega)]; simp [go_sem]
      have e1 : w1.cell? ⟨w.heap.size, 1, none⟩ = some (.int .i64 u2) := by rw [hb.cell (p := ⟨w.heap.size, 1, none⟩) (by simp; omega)]; simp [go_sem]
      have d0 : w1.cell? ⟨w.heap.size + 1, 0, none⟩ = some (.int .i64 v1) := by rw [hb.cell (p := ⟨w.heap.size + 1, 0, none⟩) (by simp)]; simp [go_sem]
      have d1 : w1.cell? ⟨w.heap.size + 1, 1, none⟩ = some (.int .i64 v2) := by rw [hb.cell (p := ⟨w.heap.size + 1, 1, none⟩) (by simp)]; simp [go_sem]
      have HB := Lib.hid ((Below.four w _ _ _ _).trans (hb.mono (by simp; omega)))
      clear hb
      go_wp2_with fail
      refine (HF.out _).mono ?_
      rintro e w2 ⟨rfl, hb⟩
      have e0' := Below.cell_some hb e0
      have e1' := Below.cell_some hb e1
      have d0' := Below.cell_some hb d0
      have d1' := Below.cell_some hb d1
      have PA2 := PA.below hb
      have PB2 := PB.below hb
      have HB2 := Lib.hid (HB.out.trans (hb.mono HB.out.size))
      clear hb e0 e1 d0 d1 PA PB HB
      go_wp2_with fail
      refine (HC.out _).mono ?_
      rintro e w3 ⟨rfl, hb⟩
      obtain ⟨sA, a0, a1, af0, af1⟩ := (PA2.below hb).parts
      obtain ⟨sB, b0, b1, bf0, bf1⟩ := (PB2.below hb).parts
      have HB3 := Lib.hid (HB2.out.trans (hb.mono HB2.out.size))
      clear hb
      go_wp2
      refine bodyPost_ret (v := .tuple #[.agg #[.int .i64 c1, .int .i64 c2], .agg #[.int .i64 c3, .int .i64 c4], .bool R]) (by simp [results, Try.results22, go_sem, a0, a1, b0, b1]) rfl ⟨by rw [HV.out.1, HV.out.2], ?_⟩
      exact below_set4 HB3.out _ _ _ _ (by omega) (by omega)
end Go.Proofs.Ytikmkmpekjijpaa
