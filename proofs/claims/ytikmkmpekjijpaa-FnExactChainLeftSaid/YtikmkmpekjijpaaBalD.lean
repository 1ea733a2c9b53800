/- Balls on the model's side, second part: sums, clacks, what the calls on two balls hand back. -/
import Derived.Test.YtikmkmpekjijpaaBalC
namespace Go.Proofs.Ytikmkmpekjijpaa
open Go.RowKit

theorem PZ.at2 (w : World) (o1 o2 : Obj) (e : TypeId) : PZ (w.heap.size + 1 + 1) (((w.alloc o1).alloc o2).alloc (Obj.cells #[Value.int IntKind.i64 0, Value.int IntKind.i64 0] e)) := by
  have := PZ.start ((w.alloc o1).alloc o2) e
  simpa using this
theorem Below.three (w : World) (o1 o2 o3 : Obj) : Below w.heap.size w (((w.alloc o1).alloc o2).alloc o3) :=
  (((Below.refl _ w).alloc (Nat.le_refl _) _).alloc (by simp) _).alloc (by simp; omega) _
theorem Below.two (w : World) (o1 o2 : Obj) : Below w.heap.size w ((w.alloc o1).alloc o2) :=
  ((Below.refl _ w).alloc (Nat.le_refl _) _).alloc (by simp) _

set_option maxHeartbeats 1000000 in
theorem baSum_any (a b c : Int) (u v : Int × Int) (w : World) (ha : -18 ≤ a ∧ a ≤ 18) (hb : -18 ≤ b ∧ b ≤ 18) (hc : 1 ≤ c ∧ c ≤ 18) (hu : smP u) (hv : smP v) :
    Calls Try.prog 71 #[.int .i64 a, .agg #[.int .i64 u.1, .int .i64 u.2], .int .i64 b, .agg #[.int .i64 v.1, .int .i64 v.2], .int .i64 c] w fun e w' =>
      e = .returned (.tuple #[.agg #[.int .i64 (suV a u b v c).1, .int .i64 (suV a u b v c).2], .bool (suOk a u b v c)]) ∧ Below w.heap.size w w' := by
  obtain ⟨⟨k1, k2, k3, k4, k5, k6, k7⟩, ⟨d0, d1⟩, n0, n1⟩ := su_bd ha hb hc hu hv
  have HM : Hid (∀ w, Calls Try.prog 98 #[.int .i64 (a * u.1 * v.2 + b * v.1 * u.2), .int .i64 (c * u.2 * v.2)] w fun e w' => e = .returned (.tuple #[.agg #[.int .i64 (suV a u b v c).1, .int .i64 (suV a u b v c).2], .bool (suOk a u b v c)]) ∧ Below w.heap.size w w') :=
    fun w => baMake_any (suN a u b v) (suD c u v) w d0 d1 n0 n1
  clear d0 d1 n0 n1 ha hb hc hu hv
  generalize suV a u b v c = V at *
  generalize suOk a u b v c = R at *
  obtain ⟨u1, u2⟩ := u
  obtain ⟨v1, v2⟩ := v
  obtain ⟨V1, V2⟩ := V
  simp only at k1 k2 k3 k4 k5 k6 k7 HM ⊢
  go_enter Try.func71, Try.ntmps71
  go_wp2_with fail
  refine (HM.out _).mono ?_
  rintro e w1 ⟨rfl, hb⟩
  obtain ⟨s, c0, c1, f0, f1⟩ := ((PZ.at2 w _ _ 25).below hb).parts
  have HB := Lib.hid ((Below.three w _ _ _).trans (hb.mono (by simp; omega)))
  clear hb
  go_wp2
  exact bodyPost_ret (v := .tuple #[.agg #[.int .i64 V1, .int .i64 V2], .bool R]) (by simp [results, Try.results71, go_sem, c0, c1]) rfl ⟨rfl, (HB.out.setCell (by simp; omega) _).setCell (by simp; omega) _⟩

theorem bMass_any (m : Int) (w : World) :
    Calls Try.prog 78 #[.int .i64 m] w fun e w' => e = .returned (.bool (maB m)) ∧ w = w' := by
  go_enter Try.func78, Try.ntmps78
  go_wp2_with fail
  refine (bIn_any _ _ _ _).mono ?_
  rintro e w1 ⟨rfl, rfl⟩
  go_wp2
  go_ret
  exact ⟨rfl, rfl⟩
theorem bMass_at (m : Int) (r : Bool) (h : maB m = r) (w : World) :
    Calls Try.prog 78 #[.int .i64 m] w fun e w' => e = .returned (.bool r) ∧ w = w' := by subst h; exact bMass_any m w

set_option maxHeartbeats 400000 in
theorem bFaster_any (u v : Int × Int) (w : World) (hu : smP u) (hv : smP v) :
    Calls Try.prog 66 #[.agg #[.int .i64 u.1, .int .i64 u.2], .agg #[.int .i64 v.1, .int .i64 v.2]] w fun e w' => e = .returned (.bool (fstB u v)) ∧ Below w.heap.size w w' := by
  obtain ⟨u1, u2⟩ := u
  obtain ⟨v1, v2⟩ := v
  obtain ⟨⟨a1, a2⟩, a3, a4⟩ := hu
  obtain ⟨⟨b1, b2⟩, b3, b4⟩ := hv
  simp only at a1 a2 a3 a4 b1 b2 b3 b4 ⊢
  have m1 := mul_bd (x := u1) (y := v2) (A := 1000000) (B := 1000000) (by omega) (by omega) (by omega) (by omega)
  have m2 := mul_bd (x := v1) (y := u2) (A := 1000000) (B := 1000000) (by omega) (by omega) (by omega) (by omega)
  have k1 : IntKind.i64.wrap (u1 * v2) = u1 * v2 := IntWalk.i64_in _ (by omega)
  have k2 : IntKind.i64.wrap (v1 * u2) = v1 * u2 := IntWalk.i64_in _ (by omega)
  have HV : Hid (fstB (u1, u2) (v1, v2) = decide (v1 * u2 < u1 * v2)) := rfl
  clear a1 a2 a3 a4 b1 b2 b3 b4 m1 m2
  go_enter Try.func66, Try.ntmps66
  go_wp2
  go_ret
  exact ⟨ret_bool HV.out.symm, Below.two w _ _⟩
theorem bFaster_at (u v : Int × Int) (r : Bool) (h : fstB u v = r) (w : World) (hu : smP u) (hv : smP v) :
    Calls Try.prog 66 #[.agg #[.int .i64 u.1, .int .i64 u.2], .agg #[.int .i64 v.1, .int .i64 v.2]] w fun e w' => e = .returned (.bool r) ∧ Below w.heap.size w w' := by subst h; exact bFaster_any u v w hu hv

/-! ### are there two balls -/
theorem asB_f1 {m n : Int} {u v : Int × Int} (h : maB m = false) : asB m u n v = false := by unfold asB; rw [h]; simp
theorem asB_f2 {m n : Int} {u v : Int × Int} (h : paB u.1 u.2 = false) : asB m u n v = false := by unfold asB paP; rw [h]; simp
theorem asB_f3 {m n : Int} {u v : Int × Int} (h : maB n = false) : asB m u n v = false := by unfold asB; rw [h]; simp
theorem asB_t {m n : Int} {u v : Int × Int} (h1 : maB m = true) (h2 : paB u.1 u.2 = true) (h3 : maB n = true) : asB m u n v = paB v.1 v.2 := by unfold asB paP; rw [h1, h2, h3]; simp
set_option maxHeartbeats 1000000 in
theorem bAsked_any (m n u1 u2 v1 v2 : Int) (w : World) :
    Calls Try.prog 65 #[.int .i64 m, .agg #[.int .i64 u1, .int .i64 u2], .int .i64 n, .agg #[.int .i64 v1, .int .i64 v2]] w fun e w' => e = .returned (.bool (asB m (u1, u2) n (v1, v2))) ∧ Below w.heap.size w w' := by
  have HB0 := Lib.hid (fun o1 o2 => Below.two w o1 o2)
  cases h1 : maB m with
  | false =>
    have HV := Lib.hid (asB_f1 (n := n) (u := (u1, u2)) (v := (v1, v2)) h1)
    have H1 := Lib.hid (bMass_at m false h1)
    clear h1
    go_enter Try.func65, Try.ntmps65
    go_wp2_with fail
    refine (H1.out _).mono ?_
    rintro e w1 ⟨rfl, rfl⟩
    go_wp2
    go_ret
    exact ⟨ret_bool HV.out.symm, HB0.out _ _⟩
  | true =>
    have H1 := Lib.hid (bMass_at m true h1)
    cases h2 : paB u1 u2 with
    | false =>
      have HV := Lib.hid (asB_f2 (m := m) (n := n) (u := (u1, u2)) (v := (v1, v2)) h2)
      have H2 := Lib.hid (baPace_at u1 u2 false h2)
      clear h1 h2
      go_enter Try.func65, Try.ntmps65
      go_wp2_with fail
      refine (H1.out _).mono ?_
      rintro e w1 ⟨rfl, rfl⟩
      go_wp2_with fail
      refine (H2.out _).mono ?_
      rintro e w1 ⟨rfl, hb⟩
      have HB := Lib.hid ((HB0.out _ _).trans (hb.mono (by simp; omega)))
      clear hb
      go_wp2
      go_ret
      exact ⟨ret_bool HV.out.symm, HB.out⟩
    | true =>
      have H2 := Lib.hid (baPace_at u1 u2 true h2)
      cases h3 : maB n with
      | false =>
        have HV := Lib.hid (asB_f3 (m := m) (u := (u1, u2)) (v := (v1, v2)) h3)
        have H3 := Lib.hid (bMass_at n false h3)
        clear h1 h2 h3
        go_enter Try.func65, Try.ntmps65
        go_wp2_with fail
        refine (H1.out _).mono ?_
        rintro e w1 ⟨rfl, rfl⟩
        go_wp2_with fail
        refine (H2.out _).mono ?_
        rintro e w1 ⟨rfl, hb⟩
        have HB := Lib.hid ((HB0.out _ _).trans (hb.mono (by simp; omega)))
        clear hb
        go_wp2_with fail
        refine (H3.out _).mono ?_
        rintro e w2 ⟨rfl, rfl⟩
        go_wp2
        go_ret
        exact ⟨ret_bool HV.out.symm, HB.out⟩
      | true =>
        have HV := Lib.hid (asB_t (u := (u1, u2)) (v := (v1, v2)) h1 h2 h3)
        have H3 := Lib.hid (bMass_at n true h3)
        have H4 := Lib.hid (baPace_any v1 v2)
        clear h1 h2 h3
        go_enter Try.func65, Try.ntmps65
        go_wp2_with fail
        refine (H1.out _).mono ?_
        rintro e w1 ⟨rfl, rfl⟩
        go_wp2_with fail
        refine (H2.out _).mono ?_
        rintro e w1 ⟨rfl, hb⟩
        have e0 : w1.cell? ⟨w.heap.size + 1, 0, none⟩ = some (.int .i64 v1) := by rw [hb.cell (p := ⟨w.heap.size + 1, 0, none⟩) (by simp)]; simp [go_sem]
        have e1 : w1.cell? ⟨w.heap.size + 1, 1, none⟩ = some (.int .i64 v2) := by rw [hb.cell (p := ⟨w.heap.size + 1, 1, none⟩) (by simp)]; simp [go_sem]
        have HB := Lib.hid ((HB0.out _ _).trans (hb.mono (by simp; omega)))
        clear hb
        go_wp2_with fail
        refine (H3.out _).mono ?_
        rintro e w2 ⟨rfl, rfl⟩
        go_wp2_with fail
        refine (H4.out _).mono ?_
        rintro e w2 ⟨rfl, hb⟩
        have HB2 := Lib.hid (HB.out.trans (hb.mono HB.out.size))
        clear hb
        go_wp2
        go_ret
        exact ⟨ret_bool HV.out.symm, HB2.out⟩
theorem bAsked_at (m n u1 u2 v1 v2 : Int) (r : Bool) (h : asB m (u1, u2) n (v1, v2) = r) (w : World) :
    Calls Try.prog 65 #[.int .i64 m, .agg #[.int .i64 u1, .int .i64 u2], .int .i64 n, .agg #[.int .i64 v1, .int .i64 v2]] w fun e w' => e = .returned (.bool r) ∧ Below w.heap.size w w' := by
  subst h; exact bAsked_any m n u1 u2 v1 v2 w
end Go.Proofs.Ytikmkmpekjijpaa
