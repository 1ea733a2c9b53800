/- Moments on the model's side: what is a moment, what a time; fractions made; how moments are compared on both sides; when a pair meets. -/
import Derived.Test.YtlepdphdflpoaaaMomC
import Derived.Test.YtlepdphdflpoaaaCmp
import Derived.Test.YtlepdphdflpoaaaFrac
namespace Go.Proofs.Ytlepdphdflpoaaa
open Go.RowKit

theorem most_any (a b : Int) (w : World) : Calls Try.prog 119 #[.int .i64 a, .int .i64 b] w fun e w' => e = .returned (.int .i64 (max a b)) ∧ w = w' := by
  by_cases h : b < a
  · have HV : Hid (max a b = a) := by show _ = _; omega
    go_enter Try.func119, Try.ntmps119
    go_wp2
    go_ret
    exact ⟨ret_int HV.out.symm, rfl⟩
  · have HV : Hid (max a b = b) := by show _ = _; omega
    go_enter Try.func119, Try.ntmps119
    go_wp2
    go_ret
    exact ⟨ret_int HV.out.symm, rfl⟩
theorem abs_any (x : Int) (w : World) (h0 : -1000000000000 ≤ x) (h1 : x ≤ 1000000000000) :
    Calls Try.prog 96 #[.int .i64 x] w fun e w' => e = .returned (.int .i64 (x.natAbs : Int)) ∧ w = w' := by
  have HM := Lib.hid (natAbs_max x)
  have hn : IntKind.i64.wrap (-x) = -x := IntWalk.i64_in _ (by omega)
  go_enter Try.func96, Try.ntmps96
  go_wp2_with fail
  refine (most_any _ _ _).mono ?_
  rintro e w' ⟨rfl, rfl⟩
  go_wp2
  go_ret
  exact ⟨ret_int HM.out, rfl⟩

set_option maxRecDepth 100000 in
set_option maxHeartbeats 1000000 in
theorem common_any (num den : Int) (w : World) (hd : 0 < den) (hd1 : den ≤ 1000000000000) (h0 : -1000000000000 ≤ num) (h1 : num ≤ 1000000000000) :
    Calls Try.prog 84 #[.int .i64 num, .int .i64 den] w fun e w' => e = .returned (.int .i64 (gcdN num den : Int)) ∧ Below w.heap.size w w' := by
  have HA := Lib.hid (abs_any num)
  go_enter Try.func84, Try.ntmps84
  go_wp2_with fail
  refine (HA.out _ h0 h1).mono ?_
  rintro e w1 ⟨rfl, rfl⟩
  go_wp2
  go_loopw [0, 1] (fun p r wr => ∃ P R : Nat, p = .int .i64 P ∧ r = .int .i64 R ∧ Nat.gcd P R = gcdN num den ∧ (P : Int) ≤ 1000000000000 ∧ (R : Int) ≤ 1000000000000 ∧ Below w.heap.size w wr) (fun _ r _ => (intOf r).toNat)
  case atStart => exact ⟨num.natAbs, den.natAbs, rfl, by congr 1; omega, by unfold gcdN; exact Nat.gcd_comm _ _, by omega, by omega, Below.refl _ _⟩
  case round =>
    obtain ⟨P, R, rfl, rfl, hg, hp1, hr1, hb⟩ := hrel
    have HB := Lib.hid hb
    clear hb
    by_cases hr : R = 0
    · subst hr
      have HG : Hid (P = gcdN num den) := by show _ = _; rw [← hg]; simp
      clear hg
      go_wp2
      go_ret
      exact ⟨ret_int (by rw [HG.out]), HB.out⟩
    · have hr0 : (0 : Int) < (R : Int) := by omega
      have hrb : (((R : Nat) : Int) == 0) = false := by simp; omega
      have hE : ((P : Nat) : Int) % ((R : Nat) : Int) = ((P % R : Nat) : Int) := rfl
      have hlt : P % R < R := Nat.mod_lt _ (by omega)
      have HG : Hid (Nat.gcd R (P % R) = gcdN num den) := by show _ = _; rw [gcd_step]; exact hg
      go_wp2
      go_region
      go_wp2
      go_roundw
      case rel => exact ⟨R, P % R, rfl, by rw [hE], HG.out, by omega, by omega, HB.out.drew⟩
      case measure =>
        have h2 : ((P : Int) % (R : Int)).toNat < R := by rw [hE, Int.toNat_natCast]; exact hlt
        simpa [intOf] using h2

set_option maxHeartbeats 1000000 in
theorem spMoment_any (n d : Int) (w : World) :
    Calls Try.prog 65 #[.agg #[.int .i64 n, .int .i64 d]] w fun e w' => e = .returned (.bool (momB n d)) ∧ Below w.heap.size w w' := by
  by_cases h1 : -1000000 ≤ n ∧ n ≤ 1000000
  · have HC1 : Hid (∀ w, Calls Try.prog 81 #[.int .i64 n, .int .i64 (-1000000), .int .i64 1000000] w fun e w' => e = .returned (.bool true) ∧ w = w') := fun w => in_at _ _ _ true (by simp; omega) w
    by_cases h2 : 1 ≤ d ∧ d ≤ 1000
    · have HC2 : Hid (∀ w, Calls Try.prog 81 #[.int .i64 d, .int .i64 1, .int .i64 1000] w fun e w' => e = .returned (.bool true) ∧ w = w') := fun w => in_at _ _ _ true (by simp; omega) w
      have HC3 := Lib.hid (fun w => common_any n d w (by omega) (by omega) (by omega) (by omega))
      have HV : Hid (momB n d = ((gcdN n d : Int) == 1)) := by
        show _ = _
        rw [Bool.eq_iff_iff, momB_iff]; simp; omega
      clear h1 h2
      go_enter Try.func65, Try.ntmps65
      go_wp2_with fail
      refine (HC1.out _).mono ?_
      rintro e w1 ⟨rfl, rfl⟩
      go_wp2_with fail
      refine (HC2.out _).mono ?_
      rintro e w1 ⟨rfl, rfl⟩
      go_wp2_with fail
      refine (HC3.out _).mono ?_
      rintro e w1 ⟨rfl, hb⟩
      go_wp2
      go_ret
      exact ⟨ret_bool HV.out.symm, ((Below.refl _ _).alloc (Nat.le_refl _) _).trans (hb.mono (by simp))⟩
    · have HC2 : Hid (∀ w, Calls Try.prog 81 #[.int .i64 d, .int .i64 1, .int .i64 1000] w fun e w' => e = .returned (.bool false) ∧ w = w') := fun w => in_at _ _ _ false (by simp; omega) w
      have HV : Hid (momB n d = false) := by
        show _ = _
        rw [← Bool.not_eq_true, momB_iff]; omega
      clear h1 h2
      go_enter Try.func65, Try.ntmps65
      go_wp2_with fail
      refine (HC1.out _).mono ?_
      rintro e w1 ⟨rfl, rfl⟩
      go_wp2_with fail
      refine (HC2.out _).mono ?_
      rintro e w1 ⟨rfl, rfl⟩
      go_wp2
      go_ret
      exact ⟨ret_bool HV.out.symm, (Below.refl _ _).alloc (Nat.le_refl _) _⟩
  · have HC1 : Hid (∀ w, Calls Try.prog 81 #[.int .i64 n, .int .i64 (-1000000), .int .i64 1000000] w fun e w' => e = .returned (.bool false) ∧ w = w') := fun w => in_at _ _ _ false (by simp; omega) w
    have HV : Hid (momB n d = false) := by
      show _ = _
      rw [← Bool.not_eq_true, momB_iff]; omega
    clear h1
    go_enter Try.func65, Try.ntmps65
    go_wp2_with fail
    refine (HC1.out _).mono ?_
    rintro e w1 ⟨rfl, rfl⟩
    go_wp2
    go_ret
    exact ⟨ret_bool HV.out.symm, (Below.refl _ _).alloc (Nat.le_refl _) _⟩

theorem isMoment_at (n d : Int) (r : Bool) (hr : momB n d = r) (w : World) :
    Calls Try.prog 25 #[.agg #[.int .i64 n, .int .i64 d]] w fun e w' => e = .returned (.bool r) ∧ Below w.heap.size w w' := by
  subst hr; exact isMoment_any n d w
theorem spMoment_at (n d : Int) (r : Bool) (hr : momB n d = r) (w : World) :
    Calls Try.prog 65 #[.agg #[.int .i64 n, .int .i64 d]] w fun e w' => e = .returned (.bool r) ∧ Below w.heap.size w w' := by
  subst hr; exact spMoment_any n d w
theorem specIsMoment_any (n d : Int) (w : World) :
    Calls Try.prog 23 #[.agg #[.int .i64 n, .int .i64 d]] w fun e w' => e = .returned (.bool (momB n d)) ∧ Below w.heap.size w w' := by
  go_enter Try.func23, Try.ntmps23
  go_wp2_with fail
  refine (spMoment_any _ _ _).mono ?_
  rintro e w1 ⟨rfl, hb⟩
  go_wp2
  go_ret
  exact ⟨rfl, ((Below.refl _ _).alloc (Nat.le_refl _) _).trans (hb.mono (by simp))⟩

set_option maxHeartbeats 400000 in
theorem isTime_any (n d : Int) (w : World) :
    Calls Try.prog 70 #[.agg #[.int .i64 n, .int .i64 d]] w fun e w' => e = .returned (.bool (timB n d)) ∧ Below w.heap.size w w' := by
  cases hm : momB n d with
  | false =>
    have HV : Hid (timB n d = false) := by show _ = _; simp [timB, hm]
    have HC := Lib.hid (isMoment_at n d false hm)
    go_enter Try.func70, Try.ntmps70
    go_wp2_with fail
    refine (HC.out _).mono ?_
    rintro e w1 ⟨rfl, hb⟩
    go_wp2
    go_ret
    exact ⟨ret_bool HV.out.symm, ((Below.refl _ _).alloc (Nat.le_refl _) _).trans (hb.mono (by simp))⟩
  | true =>
    have HV : Hid (timB n d = decide (0 ≤ n)) := by show _ = _; simp [timB, hm]
    have HC := Lib.hid (isMoment_at n d true hm)
    clear hm
    go_enter Try.func70, Try.ntmps70
    go_wp2_with fail
    refine (HC.out _).mono ?_
    rintro e w1 ⟨rfl, hb⟩
    have c0 : w1.cell? ⟨w.heap.size, 0, none⟩ = some (.int .i64 n) := by rw [hb.cell (p := ⟨w.heap.size, 0, none⟩) (by simp)]; simp
    go_wp2
    go_ret
    exact ⟨ret_bool HV.out.symm, ((Below.refl _ _).alloc (Nat.le_refl _) _).trans (hb.mono (by simp))⟩
set_option maxHeartbeats 400000 in
theorem spTime_any (n d : Int) (w : World) :
    Calls Try.prog 85 #[.agg #[.int .i64 n, .int .i64 d]] w fun e w' => e = .returned (.bool (timB n d)) ∧ Below w.heap.size w w' := by
  cases hm : momB n d with
  | false =>
    have HV : Hid (timB n d = false) := by show _ = _; simp [timB, hm]
    have HC := Lib.hid (spMoment_at n d false hm)
    go_enter Try.func85, Try.ntmps85
    go_wp2_with fail
    refine (HC.out _).mono ?_
    rintro e w1 ⟨rfl, hb⟩
    go_wp2
    go_ret
    exact ⟨ret_bool HV.out.symm, ((Below.refl _ _).alloc (Nat.le_refl _) _).trans (hb.mono (by simp))⟩
  | true =>
    have HV : Hid (timB n d = decide (0 ≤ n)) := by show _ = _; simp [timB, hm]
    have HC := Lib.hid (spMoment_at n d true hm)
    clear hm
    go_enter Try.func85, Try.ntmps85
    go_wp2_with fail
    refine (HC.out _).mono ?_
    rintro e w1 ⟨rfl, hb⟩
    have c0 : w1.cell? ⟨w.heap.size, 0, none⟩ = some (.int .i64 n) := by rw [hb.cell (p := ⟨w.heap.size, 0, none⟩) (by simp)]; simp
    go_wp2
    go_ret
    exact ⟨ret_bool HV.out.symm, ((Below.refl _ _).alloc (Nat.le_refl _) _).trans (hb.mono (by simp))⟩
theorem isTime_at (n d : Int) (r : Bool) (hr : timB n d = r) (w : World) :
    Calls Try.prog 70 #[.agg #[.int .i64 n, .int .i64 d]] w fun e w' => e = .returned (.bool r) ∧ Below w.heap.size w w' := by
  subst hr; exact isTime_any n d w
theorem spTime_at (n d : Int) (r : Bool) (hr : timB n d = r) (w : World) :
    Calls Try.prog 85 #[.agg #[.int .i64 n, .int .i64 d]] w fun e w' => e = .returned (.bool r) ∧ Below w.heap.size w w' := by
  subst hr; exact spTime_any n d w

/-- runners and a time are asked -/
def askB (l : List (Int × Int)) (n d : Int) : Bool := rnnB l && timB n d
set_option maxHeartbeats 400000 in
theorem asked_any (A : Option Addr) (c : Nat) (l : List (Int × Int)) (n d : Int) (w : World) (hA : AntsAt w A l) :
    Calls Try.prog 67 #[.slice A l.length c, .agg #[.int .i64 n, .int .i64 d]] w fun e w' => e = .returned (.bool (askB l n d)) ∧ Below w.heap.size w w' := by
  have HA := Lib.hid (hA.alloc (Obj.cells #[Value.int IntKind.i64 n, Value.int IntKind.i64 d] 32))
  clear hA
  cases hg : rnnB l with
  | false =>
    have HV : Hid (askB l n d = false) := by show _ = _; simp [askB, hg]
    have HC := Lib.hid (spGood_at A c l false hg)
    clear hg
    go_enter Try.func67, Try.ntmps67
    go_wp2_with fail
    refine (HC.out _ HA.out).mono ?_
    rintro e w1 ⟨rfl, hb⟩
    go_wp2
    go_ret
    exact ⟨ret_bool HV.out.symm, ((Below.refl _ _).alloc (Nat.le_refl _) _).trans (hb.mono (by simp))⟩
  | true =>
    have HV : Hid (askB l n d = timB n d) := by show _ = _; simp [askB, hg]
    have HC := Lib.hid (spGood_at A c l true hg)
    clear hg
    go_enter Try.func67, Try.ntmps67
    go_wp2_with fail
    refine (HC.out _ HA.out).mono ?_
    rintro e w1 ⟨rfl, hb⟩
    have c0 : w1.cell? ⟨w.heap.size, 0, none⟩ = some (.int .i64 n) := by rw [hb.cell (p := ⟨w.heap.size, 0, none⟩) (by simp)]; simp
    have c1 : w1.cell? ⟨w.heap.size, 1, none⟩ = some (.int .i64 d) := by rw [hb.cell (p := ⟨w.heap.size, 1, none⟩) (by simp)]; simp
    have HB := Lib.hid (((Below.refl _ w).alloc (Nat.le_refl _) _).trans (hb.mono (by simp)))
    clear hb
    go_wp2_with fail
    refine (spTime_any _ _ _).mono ?_
    rintro e w2 ⟨rfl, hb⟩
    go_wp2
    go_ret
    exact ⟨ret_bool HV.out.symm, HB.out.trans (hb.mono HB.out.size)⟩
theorem asked_at (A : Option Addr) (c : Nat) (l : List (Int × Int)) (n d : Int) (r : Bool) (hr : askB l n d = r) (w : World) (hA : AntsAt w A l) :
    Calls Try.prog 67 #[.slice A l.length c, .agg #[.int .i64 n, .int .i64 d]] w fun e w' => e = .returned (.bool r) ∧ Below w.heap.size w w' := by
  subst hr; exact asked_any A c l n d w hA

/-! ### how moments are compared -/
/-- numbers that no product of two leaves the limits of -/
def smallF (x : Int × Int) : Prop := -1000000000 ≤ x.1 ∧ x.1 ≤ 1000000000 ∧ -1000000000 ≤ x.2 ∧ x.2 ≤ 1000000000
theorem mul_small {a b : Int} (h0 : -1000000000 ≤ a) (h1 : a ≤ 1000000000) (h2 : -1000000000 ≤ b) (h3 : b ≤ 1000000000) : IntKind.i64.wrap (a * b) = a * b := by
  have h : (a * b).natAbs ≤ 1000000000 * 1000000000 := by rw [Int.natAbs_mul]; exact Nat.mul_le_mul (by omega) (by omega)
  exact IntWalk.i64_in _ (by omega)
set_option maxHeartbeats 400000 in
theorem spLess_any (x y : Int × Int) (w : World) (hx : smallF x) (hy : smallF y) :
    Calls Try.prog 75 #[.agg #[.int .i64 x.1, .int .i64 x.2], .agg #[.int .i64 y.1, .int .i64 y.2]] w fun e w' => e = .returned (.bool (fLt x y)) ∧ Below w.heap.size w w' := by
  obtain ⟨x1, x2⟩ := x
  obtain ⟨y1, y2⟩ := y
  obtain ⟨a0, a1, a2, a3⟩ := hx
  obtain ⟨b0, b1, b2, b3⟩ := hy
  simp only at a0 a1 a2 a3 b0 b1 b2 b3 ⊢
  have hw1 := mul_small a0 a1 b2 b3
  have hw2 := mul_small b0 b1 a2 a3
  have HV : Hid (fLt (x1, x2) (y1, y2) = decide (x1 * y2 < y1 * x2)) := rfl
  clear a0 a1 a2 a3 b0 b1 b2 b3
  go_enter Try.func75, Try.ntmps75
  go_wp2
  go_ret
  exact ⟨ret_bool HV.out.symm, ((Below.refl _ _).alloc (Nat.le_refl _) _).alloc (by simp) _⟩
def cmpF (x y : Int × Int) : Int := cmpI (x.1 * y.2) (y.1 * x.2)
set_option maxHeartbeats 400000 in
theorem cmpMoments_any (x y : Int × Int) (W : World) (hx : smallF x) (hy : smallF y) :
    Calls Try.prog 77 #[.agg #[.int .i64 x.1, .int .i64 x.2], .agg #[.int .i64 y.1, .int .i64 y.2]] W fun e w' => e = .returned (.int .i64 (cmpF x y)) ∧ ∃ o1 o2, w' = (W.alloc o1).alloc o2 := by
  obtain ⟨x1, x2⟩ := x
  obtain ⟨y1, y2⟩ := y
  obtain ⟨a0, a1, a2, a3⟩ := hx
  obtain ⟨b0, b1, b2, b3⟩ := hy
  simp only at a0 a1 a2 a3 b0 b1 b2 b3 ⊢
  have hw1 := mul_small a0 a1 b2 b3
  have hw2 := mul_small b0 b1 a2 a3
  have HV : Hid (cmpF (x1, x2) (y1, y2) = cmpI (x1 * y2) (y1 * x2)) := rfl
  clear a0 a1 a2 a3 b0 b1 b2 b3
  go_enter Try.func77, Try.ntmps77
  go_wp2_with fail
  refine (compare_any _ _ _).mono ?_
  rintro e w' ⟨rfl, rfl⟩
  go_wp2
  go_ret
  exact ⟨ret_int HV.out.symm, _, _, rfl⟩

/-! ### when a pair meets, made on the model's side -/
set_option maxRecDepth 100000 in
set_option maxHeartbeats 1000000 in
theorem pair_any (x y : Int × Int) (w : World) (hlt : y.2 < x.2) (hx : 0 ≤ x.1 ∧ x.1 ≤ 1000 ∧ -9 ≤ x.2 ∧ x.2 ≤ 9) (hy : 0 ≤ y.1 ∧ y.1 ≤ 1000 ∧ -9 ≤ y.2 ∧ y.2 ≤ 9) :
    Calls Try.prog 92 #[.agg #[.int .i64 x.1, .int .i64 x.2], .agg #[.int .i64 y.1, .int .i64 y.2]] w fun e w' => e = .returned (.agg #[.int .i64 (lowP (y.1 - x.1) (x.2 - y.2)).1, .int .i64 (lowP (y.1 - x.1) (x.2 - y.2)).2]) ∧ Below w.heap.size w w' := by
  obtain ⟨x1, x2⟩ := x
  obtain ⟨y1, y2⟩ := y
  simp only at hlt hx hy ⊢
  have hd : 0 < x2 - y2 := by omega
  have HC := Lib.hid (fun w => common_any (y1 - x1) (x2 - y2) w hd (by omega) (by omega) (by omega))
  have hw1 : IntKind.i64.wrap (y1 - x1) = y1 - x1 := IntWalk.i64_in _ (by omega)
  have hw2 : IntKind.i64.wrap (x2 - y2) = x2 - y2 := IntWalk.i64_in _ (by omega)
  have hg := gcdN_pos (num := y1 - x1) hd
  have HQ' := lowP_tnum (y1 - x1) (x2 - y2)
  have HP' := lowP_tden (y1 - x1) (x2 - y2)
  have hb1 := lowP_num_abs (num := y1 - x1) hd 1000 (by omega) (by omega)
  have hb2 := lowP_den_le (num := y1 - x1) hd
  have hb3 := lowP_pos (num := y1 - x1) hd
  generalize gcdN (y1 - x1) (x2 - y2) = G at *
  have hgne : (((G : Nat) : Int) == 0) = false := by simp; omega
  have hG0 : ¬ G = 0 := by omega
  obtain ⟨a, ha⟩ : ∃ a, (lowP (y1 - x1) (x2 - y2)).1 = a := ⟨_, rfl⟩
  obtain ⟨d, hd'⟩ : ∃ d, (lowP (y1 - x1) (x2 - y2)).2 = d := ⟨_, rfl⟩
  rw [ha] at hb1 HQ'
  rw [hd'] at hb2 hb3 HP'
  have HA := Lib.hid ha
  have HD := Lib.hid hd'
  clear ha hd'
  have hq1 : IntKind.i64.wrap a = a := IntWalk.i64_in _ (by omega)
  have hq2 : IntKind.i64.wrap d = d := IntWalk.i64_in _ (by omega)
  clear hb1 hb2 hb3 hg hd hx hy hlt
  go_enter Try.func92, Try.ntmps92
  go_wp2_with fail
  refine (HC.out _).mono ?_
  rintro e w1 ⟨rfl, hb⟩
  have s1 : w.heap.size + 3 ≤ w1.heap.size := by have := hb.size; simpa using this
  have c0 : w1.cell? ⟨w.heap.size, 0, none⟩ = some (.int .i64 x1) := by rw [hb.cell (p := ⟨w.heap.size, 0, none⟩) (by simp; omega)]; simp [go_sem]
  have c1 : w1.cell? ⟨w.heap.size, 1, none⟩ = some (.int .i64 x2) := by rw [hb.cell (p := ⟨w.heap.size, 1, none⟩) (by simp; omega)]; simp [go_sem]
  have d0 : w1.cell? ⟨w.heap.size + 1, 0, none⟩ = some (.int .i64 y1) := by rw [hb.cell (p := ⟨w.heap.size + 1, 0, none⟩) (by simp)]; simp [go_sem]
  have d1 : w1.cell? ⟨w.heap.size + 1, 1, none⟩ = some (.int .i64 y2) := by rw [hb.cell (p := ⟨w.heap.size + 1, 1, none⟩) (by simp)]; simp [go_sem]
  have e0 : w1.cell? ⟨w.heap.size + 1 + 1, 0, none⟩ = some (.int .i64 0) := by rw [hb.cell (p := ⟨w.heap.size + 1 + 1, 0, none⟩) (by simp)]; simp [go_sem]
  have e1 : w1.cell? ⟨w.heap.size + 1 + 1, 1, none⟩ = some (.int .i64 0) := by rw [hb.cell (p := ⟨w.heap.size + 1 + 1, 1, none⟩) (by simp)]; simp [go_sem]
  have f0 : w1.frozen? ⟨w.heap.size + 1 + 1, 0, none⟩ = false := by rw [hb.frozen (p := ⟨w.heap.size + 1 + 1, 0, none⟩) (by simp)]; simp [go_sem]
  have f1 : w1.frozen? ⟨w.heap.size + 1 + 1, 1, none⟩ = false := by rw [hb.frozen (p := ⟨w.heap.size + 1 + 1, 1, none⟩) (by simp)]; simp [go_sem]
  have g2 : w.heap.size + 1 + 1 < w1.heap.size := by omega
  have HB := Lib.hid (((((Below.refl _ w).alloc (Nat.le_refl _) _).alloc (by simp) _).alloc (by simp; omega) _).trans (hb.mono (by simp; omega)))
  clear hb
  go_wp2
  go_region
  go_wp2
  exact bodyPost_ret (v := .agg #[.int .i64 a, .int .i64 d]) (by simp [results, Try.results92, go_sem, e0, e1]) rfl ⟨by rw [HA.out, HD.out], ((HB.out.setCell (by simp; omega) _).setCell (by simp; omega) _).drew⟩
end Go.Proofs.Ytlepdphdflpoaaa
