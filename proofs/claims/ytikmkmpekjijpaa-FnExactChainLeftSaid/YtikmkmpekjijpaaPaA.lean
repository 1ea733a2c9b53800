/- Balls on the program's side, first part: fractions in lowest terms, what is a pace, sums and products of paces, masses. -/
import Derived.Test.YtikmkmpekjijpaaBalG
import Derived.Test.YtikmkmpekjijpaaPac
import Derived.BigQuiet
import Derived.Deep.RegionHeld3
import Derived.Deep.RegionLaw
import Derived.Deep.CutRange
namespace Go.Proofs.Ytikmkmpekjijpaa
open Go.RowKit

set_option maxRecDepth 100000 in
set_option maxHeartbeats 1000000 in
theorem lowestW_any (num den : Int) (w : World) (hd : 0 < den) (hd1 : den ≤ 100000000000000) (h0 : -100000000000000 ≤ num) (h1 : num ≤ 100000000000000) :
    Calls Try.prog 94 #[.int .i64 num, .int .i64 den] w fun e w' => e = .returned (.agg #[.int .i64 (lowP num den).1, .int .i64 (lowP num den).2]) ∧ Below w.heap.size w w' := by
  have HQ := Lib.hid (lowP_tnum num den)
  have HP := Lib.hid (lowP_tden num den)
  have hb1 := lowP_num_abs (num := num) hd 100000000000000 h0 h1
  have hb2 := lowP_den_le (num := num) hd
  have hb3 := lowP_pos (num := num) hd
  have hn : IntKind.i64.wrap (-num) = -num := IntWalk.i64_in _ (by omega)
  have HM := Lib.hid (ba_max num)
  go_enter Try.func94, Try.ntmps94
  go_wp2
  all_goals (
    go_loopw [5, 6] (fun p r wr => ∃ P R : Nat, p = .int .i64 P ∧ r = .int .i64 R ∧ Nat.gcd P R = gcdN num den ∧ 0 < P ∧ (P : Int) ≤ 100000000000000 ∧ (R : Int) ≤ 100000000000000 ∧ PZ w.heap.size wr ∧ Below w.heap.size w wr) (fun _ r _ => (intOf r).toNat)
    case atStart => exact ⟨den.natAbs, num.natAbs, by congr 1; omega, by congr 1; omega, rfl, by omega, by omega, by omega, PZ.start w _, (Below.refl _ _).alloc (Nat.le_refl _) _⟩
    case round =>
      obtain ⟨P, R, rfl, rfl, hg, hp, hp1, hr1, hres, hb⟩ := hrel
      obtain ⟨hs, c0, c1, f0, f1⟩ := hres.parts
      have HRES := Lib.hid hres
      have HB := Lib.hid hb
      clear hres hb
      by_cases hr : R = 0
      · subst hr
        have hg' : P = gcdN num den := by rw [← hg]; simp
        subst hg'
        have HQ' := HQ.out
        have HP' := HP.out
        have hgne : ((gcdN num den : Int) == 0) = false := by simp; omega
        generalize gcdN num den = G at *
        obtain ⟨a, ha⟩ : ∃ a, (lowP num den).1 = a := ⟨_, rfl⟩
        obtain ⟨d, hd'⟩ : ∃ d, (lowP num den).2 = d := ⟨_, rfl⟩
        rw [ha] at hb1 HQ'
        rw [hd'] at hb2 hb3 HP'
        have HA := Lib.hid ha
        have HD := Lib.hid hd'
        clear ha hd'
        have hq1 : IntKind.i64.wrap a = a := IntWalk.i64_in _ (by omega)
        have hq2 : IntKind.i64.wrap d = d := IntWalk.i64_in _ (by omega)
        clear hb1 hb2 hb3 hn hg
        go_wp2
        go_region
        go_wp2
        exact bodyPost_ret (v := .agg #[.int .i64 a, .int .i64 d]) (by simp [results, Try.results94, go_sem, c0, c1]) rfl ⟨by rw [HA.out, HD.out], ((HB.out.setCell (by simp) _).setCell (by simp) _).drew⟩
      · have hrb : (((R : Nat) : Int) == 0) = false := by simp; omega
        have hE : ((P : Nat) : Int) % ((R : Nat) : Int) = ((P % R : Nat) : Int) := rfl
        have hlt : P % R < R := Nat.mod_lt _ (by omega)
        have HG : Hid (Nat.gcd R (P % R) = gcdN num den) := by show _ = _; rw [gcd_step]; exact hg
        go_wp2
        go_region
        go_wp2
        go_roundw
        case rel => exact ⟨R, P % R, rfl, by rw [hE], HG.out, by omega, by omega, by omega, HRES.out.below (Below.refl _ _).drew, HB.out.drew⟩
        case measure =>
          have h2 : ((P : Int) % (R : Int)).toNat < R := by rw [hE, Int.toNat_natCast]; exact hlt
          simpa [intOf] using h2)

theorem reduced_any (n d : Int) (w : World) (hd : 0 < d) (hd1 : d ≤ 100000000000000) (h0 : -100000000000000 ≤ n) (h1 : n ≤ 100000000000000) :
    Calls Try.prog 64 #[.int .i64 n, .int .i64 d] w fun e w' => e = .returned (.agg #[.int .i64 (lowP n d).1, .int .i64 (lowP n d).2]) ∧ Below w.heap.size w w' := by
  have HL := Lib.hid (fun w => lowestW_any n d w hd hd1 h0 h1)
  generalize lowP n d = X at *
  clear hd hd1 h0 h1
  obtain ⟨x1, x2⟩ := X
  simp only at HL ⊢
  go_enter Try.func64, Try.ntmps64
  go_wp2_with fail
  refine (HL.out _).mono ?_
  rintro e w1 ⟨rfl, hb⟩
  obtain ⟨s, c0, c1, f0, f1⟩ := ((PZ.start w 25).below hb).parts
  have HB := Lib.hid (((Below.refl _ w).alloc (Nat.le_refl _) _).trans (hb.mono (by simp)))
  clear hb
  go_wp2
  exact bodyPost_ret (v := .agg #[.int .i64 x1, .int .i64 x2]) (by simp [results, Try.results64, go_sem, c0, c1]) rfl ⟨rfl, (HB.out.setCell (Nat.le_refl _) _).setCell (Nat.le_refl _) _⟩
theorem reduced_at (n d : Int) (x1 x2 : Int) (hx : lowP n d = (x1, x2)) (w : World) (hd : 0 < d) (hd1 : d ≤ 100000000000000) (h0 : -100000000000000 ≤ n) (h1 : n ≤ 100000000000000) :
    Calls Try.prog 64 #[.int .i64 n, .int .i64 d] w fun e w' => e = .returned (.agg #[.int .i64 x1, .int .i64 x2]) ∧ Below w.heap.size w w' := by
  have := reduced_any n d w hd hd1 h0 h1
  rwa [hx] at this

theorem whole_any (n : Int) (w : World) :
    Calls Try.prog 84 #[.int .i64 n] w fun e w' => e = .returned (.agg #[.int .i64 n, .int .i64 1]) ∧ Below w.heap.size w w' := by
  go_enter Try.func84, Try.ntmps84
  go_wp2
  exact bodyPost_ret (v := .agg #[.int .i64 n, .int .i64 1]) (by simp [results, Try.results84, go_sem]) rfl ⟨rfl, (Below.refl _ _).alloc (Nat.le_refl _) _⟩

/-- are a fraction's numbers at most of a size -/
def hnB (M n d : Int) : Bool := ((decide (-M ≤ n) && decide (n ≤ M)) && decide (1 ≤ d)) && decide (d ≤ M)
theorem hnB_iff (M n d : Int) : hnB M n d = true ↔ -M ≤ n ∧ n ≤ M ∧ 1 ≤ d ∧ d ≤ M := by simp [hnB]; omega
set_option maxHeartbeats 1000000 in
theorem hasNums_any (M n d : Int) (w : World) (h0 : 0 ≤ M) (h1 : M ≤ 1000000) :
    Calls Try.prog 63 #[.agg #[.int .i64 n, .int .i64 d], .int .i64 M] w fun e w' => e = .returned (.bool (hnB M n d)) ∧ Below w.heap.size w w' := by
  have HV : Hid (∀ r, (r = true ↔ -M ≤ n ∧ n ≤ M ∧ 1 ≤ d ∧ d ≤ M) → hnB M n d = r) := fun r hr => by rw [Bool.eq_iff_iff, hnB_iff, hr]
  have hw : IntKind.i64.wrap (-M) = -M := IntWalk.i64_in _ (by omega)
  generalize hnB M n d = V at *
  go_enter Try.func63, Try.ntmps63
  go_wp2
  all_goals go_ret
  all_goals (refine ⟨ret_bool (HV.out _ ?_).symm, (Below.refl _ _).alloc (Nat.le_refl _) _⟩)
  all_goals simp
  all_goals omega
theorem hasNums_at (M n d : Int) (r : Bool) (hr : hnB M n d = r) (w : World) (h0 : 0 ≤ M) (h1 : M ≤ 1000000) :
    Calls Try.prog 63 #[.agg #[.int .i64 n, .int .i64 d], .int .i64 M] w fun e w' => e = .returned (.bool r) ∧ Below w.heap.size w w' := by
  subst hr; exact hasNums_any M n d w h0 h1

set_option maxRecDepth 100000 in
set_option maxHeartbeats 2000000 in
theorem isPace_any (n d : Int) (w : World) :
    Calls Try.prog 21 #[.agg #[.int .i64 n, .int .i64 d]] w fun e w' => e = .returned (.bool (paB n d)) ∧ Below w.heap.size w w' := by
  have f0 := Ext.cell (p := ⟨w.heap.size, 0, none⟩) (v := .int .i64 n) (W := (w.alloc (Obj.cells #[Value.int IntKind.i64 n, Value.int IntKind.i64 d] 25))) (by simp)
  have f1 := Ext.cell (p := ⟨w.heap.size, 1, none⟩) (v := .int .i64 d) (W := (w.alloc (Obj.cells #[Value.int IntKind.i64 n, Value.int IntKind.i64 d] 25))) (by simp)
  cases hh : hnB 1000000 n d with
  | false =>
    have HV : Hid (paB n d = false) := by
      show _ = _
      rw [← Bool.not_eq_true, paB_iff]
      rw [← Bool.not_eq_true, hnB_iff] at hh
      omega
    have HN := Lib.hid (fun w => hasNums_at 1000000 n d false hh w (by decide) (by decide))
    clear hh
    go_enter Try.func21, Try.ntmps21
    go_wp2
    refine wp_region_ext (by kernel_rfl) (by kernel_rfl) ?_
    repeat (first | go_big_quiet_skip | (go_big_quiet_want; go_big_quiet_op; first | go_big_quiet_on | (apply Exists.intro; refine ⟨fun _ => ?_, ?_⟩; (go_at_call 63; with_reducible exact Ext.call (HN.out _)); go_big_quiet_on)))
    refine wpQuiet_nil ?_
    rintro _ ⟨x, rfl⟩
    go_wp2
    go_ret
    exact ⟨ret_bool HV.out.symm, ((Below.refl _ _).alloc (Nat.le_refl _) _).trans (x.h.mono (by simp))⟩
  | true =>
    have HN := Lib.hid (fun w => hasNums_at 1000000 n d true hh w (by decide) (by decide))
    rw [hnB_iff] at hh
    have h0 : 0 < d := by omega
    by_cases hg : gcdN n d = 1
    · have HV : Hid (paB n d = true) := (paB_iff n d).2 ⟨hh.1, hh.2.1, hh.2.2.1, hh.2.2.2, hg⟩
      have HL : Hid (∀ w, Calls Try.prog 64 #[.int .i64 n, .int .i64 d] w fun e w' => e = .returned (.agg #[.int .i64 n, .int .i64 d]) ∧ Below w.heap.size w w') := fun w => reduced_at n d n d ((lowP_self_iff h0).2 hg) w h0 (by omega) (by omega) (by omega)
      clear hg h0 hh
      go_enter Try.func21, Try.ntmps21
      go_wp2
      refine wp_region_ext (by kernel_rfl) (by kernel_rfl) ?_
      repeat (first | go_big_quiet_skip | (go_big_quiet_want; go_big_quiet_op; first | go_big_quiet_on | (apply Exists.intro; refine ⟨fun _ => ?_, ?_⟩; (first | (go_at_call 63; with_reducible exact Ext.call (HN.out _)) | (go_at_call 64; with_reducible exact Ext.call (HL.out _))); go_big_quiet_on)))
      refine wpQuiet_nil ?_
      rintro _ ⟨x, rfl⟩
      go_wp2
      go_ret
      exact ⟨ret_bool HV.out.symm, ((Below.refl _ _).alloc (Nat.le_refl _) _).trans (x.h.mono (by simp))⟩
    · have HV : Hid (paB n d = false) := by
        show _ = _
        rw [← Bool.not_eq_true, paB_iff]; intro h; exact hg h.2.2.2.2
      have hne : (d == (lowP n d).2) = false := by
        have e := lowP_den n d
        have hp := gcdN_pos (num := n) h0
        have hq := lowP_pos (num := n) h0
        have h5 : ¬ d = (lowP n d).2 := by
          intro h
          rw [← h] at e
          have e3 : d * (gcdN n d : Int) = d * 1 := by omega
          have := Int.eq_of_mul_eq_mul_left (by omega) e3
          omega
        simpa using h5
      have HL : Hid (∀ w, Calls Try.prog 64 #[.int .i64 n, .int .i64 d] w fun e w' => e = .returned (.agg #[.int .i64 (lowP n d).1, .int .i64 (lowP n d).2]) ∧ Below w.heap.size w w') := fun w => reduced_any n d w h0 (by omega) (by omega) (by omega)
      clear hg h0 hh
      generalize (lowP n d).1 = a at *
      generalize (lowP n d).2 = b at *
      go_enter Try.func21, Try.ntmps21
      go_wp2
      refine wp_region_ext (by kernel_rfl) (by kernel_rfl) ?_
      repeat (first | go_big_quiet_skip | (go_big_quiet_want; go_big_quiet_op; first | go_big_quiet_on | (apply Exists.intro; refine ⟨fun _ => ?_, ?_⟩; (first | (go_at_call 63; with_reducible exact Ext.call (HN.out _)) | (go_at_call 64; with_reducible exact Ext.call (HL.out _))); go_big_quiet_on)))
      refine wpQuiet_nil ?_
      rintro _ ⟨x, rfl⟩
      go_wp2
      go_ret
      exact ⟨ret_bool (by rw [HV.out]), ((Below.refl _ _).alloc (Nat.le_refl _) _).trans (x.h.mono (by simp))⟩
theorem isPace_at (n d : Int) (r : Bool) (hr : paB n d = r) (w : World) :
    Calls Try.prog 21 #[.agg #[.int .i64 n, .int .i64 d]] w fun e w' => e = .returned (.bool r) ∧ Below w.heap.size w w' := by
  subst hr; exact isPace_any n d w

/-- numbers of a size -/
def smB (A D : Int) (x : Int × Int) : Prop := (-A ≤ x.1 ∧ x.1 ≤ A) ∧ 1 ≤ x.2 ∧ x.2 ≤ D
theorem smB.up {A D A' D' : Int} {x : Int × Int} (h : smB A D x) (h1 : A ≤ A') (h2 : D ≤ D') : smB A' D' x := by
  obtain ⟨⟨a, b⟩, c, d⟩ := h; exact ⟨⟨by omega, by omega⟩, c, by omega⟩
theorem smB.low {n d A D : Int} (hd : 0 < d) (h0 : -A ≤ n ∧ n ≤ A) (h1 : d ≤ D) : smB A D (lowP n d) := by
  have b1 := lowP_num_abs (num := n) hd A h0.1 h0.2
  have b2 := lowP_den_le (num := n) hd
  have b3 := lowP_pos (num := n) hd
  exact ⟨b1, by omega, by omega⟩
/-- what a sum's numbers are, on the way to lowest terms -/
theorem pl_nums {A D A' D' : Int} {x y : Int × Int} (hx : smB A D x) (hy : smB A' D' y) (hA : 0 ≤ A) (hA' : 0 ≤ A') : (-(A * D' + A' * D) ≤ x.1 * y.2 + y.1 * x.2 ∧ x.1 * y.2 + y.1 * x.2 ≤ A * D' + A' * D) ∧
    (-(A * D') ≤ x.1 * y.2 ∧ x.1 * y.2 ≤ A * D') ∧ (-(A' * D) ≤ y.1 * x.2 ∧ y.1 * x.2 ≤ A' * D) ∧ 1 ≤ x.2 * y.2 ∧ x.2 * y.2 ≤ D * D' := by
  obtain ⟨a1, a2, a3⟩ := hx
  obtain ⟨b1, b2, b3⟩ := hy
  have m1 := mul_bd (x := x.1) (y := y.2) (A := A) (B := D') a1 (by omega) hA (by omega)
  have m2 := mul_bd (x := y.1) (y := x.2) (A := A') (B := D) b1 (by omega) hA' (by omega)
  have m3 := mul_bd (x := x.2) (y := y.2) (A := D) (B := D') (by omega) (by omega) (by omega) (by omega)
  have m4 := mul_pos1 a2 b2
  exact ⟨⟨by omega, by omega⟩, m1, m2, m4, m3.2⟩
theorem smB.pl {A D A' D' : Int} {x y : Int × Int} (hx : smB A D x) (hy : smB A' D' y) (hA : 0 ≤ A) (hA' : 0 ≤ A') : smB (A * D' + A' * D) (D * D') (plP x y) := by
  obtain ⟨h1, _, _, h4, h5⟩ := pl_nums hx hy hA hA'
  exact smB.low (by omega) h1 h5
theorem smB.pr {A D A' D' : Int} {x y : Int × Int} (hx : smB A D x) (hy : smB A' D' y) (hA : 0 ≤ A) (hA' : 0 ≤ A') : smB (A * A') (D * D') (prP x y) := by
  obtain ⟨a1, a2, a3⟩ := hx
  obtain ⟨b1, b2, b3⟩ := hy
  have m1 := mul_bd (x := x.1) (y := y.1) (A := A) (B := A') a1 b1 hA hA'
  have m3 := mul_bd (x := x.2) (y := y.2) (A := D) (B := D') (by omega) (by omega) (by omega) (by omega)
  have m4 := mul_pos1 a2 b2
  exact smB.low (by omega) m1 m3.2
theorem smB_one (n : Int) {A : Int} (h : -A ≤ n ∧ n ≤ A) : smB A 1 (n, 1) := ⟨h, by simp, by simp⟩
theorem smP_sm {u : Int × Int} (h : smP u) : smB 1000000 1000000 u := h

/-! ### sums and products -/
set_option maxHeartbeats 1000000 in
theorem plus_any (A D A' D' : Int) (x y : Int × Int) (w : World) (hx : smB A D x) (hy : smB A' D' y) (hA : 0 ≤ A) (hA' : 0 ≤ A') (hN : A * D' + A' * D ≤ 100000000000000) (hD : D * D' ≤ 100000000000000) :
    Calls Try.prog 90 #[.agg #[.int .i64 x.1, .int .i64 x.2], .agg #[.int .i64 y.1, .int .i64 y.2]] w fun e w' => e = .returned (.agg #[.int .i64 (plP x y).1, .int .i64 (plP x y).2]) ∧ Below w.heap.size w w' := by
  obtain ⟨h1, h2, h3, h4, h5⟩ := pl_nums hx hy hA hA'
  have q1 : 0 ≤ A * D' := Int.mul_nonneg hA (by have := hy.2; omega)
  have q2 : 0 ≤ A' * D := Int.mul_nonneg hA' (by have := hx.2; omega)
  have k1 : IntKind.i64.wrap (x.1 * y.2) = x.1 * y.2 := IntWalk.i64_in _ (by omega)
  have k2 : IntKind.i64.wrap (y.1 * x.2) = y.1 * x.2 := IntWalk.i64_in _ (by omega)
  have k3 : IntKind.i64.wrap (x.1 * y.2 + y.1 * x.2) = x.1 * y.2 + y.1 * x.2 := IntWalk.i64_in _ (by omega)
  have k4 : IntKind.i64.wrap (x.2 * y.2) = x.2 * y.2 := IntWalk.i64_in _ (by omega)
  have HL := Lib.hid (fun w => reduced_at _ _ (plP x y).1 (plP x y).2 rfl w (show 0 < x.2 * y.2 by omega) (by omega) (show -100000000000000 ≤ x.1 * y.2 + y.1 * x.2 by omega) (by omega))
  generalize plP x y = Z at *
  clear h1 h2 h3 h4 h5 q1 q2 hx hy hA hA' hN hD
  obtain ⟨x1, x2⟩ := x
  obtain ⟨y1, y2⟩ := y
  obtain ⟨z1, z2⟩ := Z
  simp only at k1 k2 k3 k4 HL ⊢
  go_enter Try.func90, Try.ntmps90
  go_wp2_with fail
  refine (HL.out _).mono ?_
  rintro e w1 ⟨rfl, hb⟩
  obtain ⟨s, c0, c1, f0, f1⟩ := ((PZ.at2 w _ _ 25).below hb).parts
  have HB := Lib.hid ((Below.three w _ _ _).trans (hb.mono (by simp; omega)))
  clear hb
  go_wp2
  exact bodyPost_ret (v := .agg #[.int .i64 z1, .int .i64 z2]) (by simp [results, Try.results90, go_sem, c0, c1]) rfl ⟨rfl, (HB.out.setCell (by simp; omega) _).setCell (by simp; omega) _⟩

set_option maxHeartbeats 1000000 in
theorem product_any (A D A' D' : Int) (x y : Int × Int) (w : World) (hx : smB A D x) (hy : smB A' D' y) (hA : 0 ≤ A) (hA' : 0 ≤ A') (hN : A * A' ≤ 100000000000000) (hD : D * D' ≤ 100000000000000) :
    Calls Try.prog 99 #[.agg #[.int .i64 x.1, .int .i64 x.2], .agg #[.int .i64 y.1, .int .i64 y.2]] w fun e w' => e = .returned (.agg #[.int .i64 (prP x y).1, .int .i64 (prP x y).2]) ∧ Below w.heap.size w w' := by
  obtain ⟨a1, a2, a3⟩ := hx
  obtain ⟨b1, b2, b3⟩ := hy
  have m1 := mul_bd (x := x.1) (y := y.1) (A := A) (B := A') a1 b1 hA hA'
  have m3 := mul_bd (x := x.2) (y := y.2) (A := D) (B := D') (by omega) (by omega) (by omega) (by omega)
  have m4 := mul_pos1 a2 b2
  have k1 : IntKind.i64.wrap (x.1 * y.1) = x.1 * y.1 := IntWalk.i64_in _ (by omega)
  have k4 : IntKind.i64.wrap (x.2 * y.2) = x.2 * y.2 := IntWalk.i64_in _ (by omega)
  have HL := Lib.hid (fun w => reduced_at _ _ (prP x y).1 (prP x y).2 rfl w (show 0 < x.2 * y.2 by omega) (by omega) (show -100000000000000 ≤ x.1 * y.1 by omega) (by omega))
  generalize prP x y = Z at *
  clear m1 m3 m4 a1 a2 a3 b1 b2 b3 hA hA' hN hD
  obtain ⟨x1, x2⟩ := x
  obtain ⟨y1, y2⟩ := y
  obtain ⟨z1, z2⟩ := Z
  simp only at k1 k4 HL ⊢
  go_enter Try.func99, Try.ntmps99
  go_wp2_with fail
  refine (HL.out _).mono ?_
  rintro e w1 ⟨rfl, hb⟩
  obtain ⟨s, c0, c1, f0, f1⟩ := ((PZ.at2 w _ _ 25).below hb).parts
  have HB := Lib.hid ((Below.three w _ _ _).trans (hb.mono (by simp; omega)))
  clear hb
  go_wp2
  exact bodyPost_ret (v := .agg #[.int .i64 z1, .int .i64 z2]) (by simp [results, Try.results99, go_sem, c0, c1]) rfl ⟨rfl, (HB.out.setCell (by simp; omega) _).setCell (by simp; omega) _⟩

/-! ### compared -/
def cmpJ (x y : Int) : Int := if x < y then -1 else if y < x then 1 else 0
theorem compareJ_any (x y : Int) (w : World) : Calls Try.prog 104 #[.int .i64 x, .int .i64 y] w fun e w' => e = .returned (.int .i64 (cmpJ x y)) ∧ w' = w := by
  by_cases h1 : x < y
  · have HV : Hid (cmpJ x y = -1) := by show _ = _; unfold cmpJ; rw [if_pos h1]
    go_enter Try.func104, Try.ntmps104
    go_wp2
    go_ret
    exact ⟨ret_int HV.out.symm, rfl⟩
  · by_cases h2 : y < x
    · have HV : Hid (cmpJ x y = 1) := by show _ = _; unfold cmpJ; rw [if_neg h1, if_pos h2]
      go_enter Try.func104, Try.ntmps104
      go_wp2
      go_ret
      exact ⟨ret_int HV.out.symm, rfl⟩
    · have HV : Hid (cmpJ x y = 0) := by show _ = _; unfold cmpJ; rw [if_neg h1, if_neg h2]
      go_enter Try.func104, Try.ntmps104
      go_wp2
      go_ret
      exact ⟨ret_int HV.out.symm, rfl⟩
/-- how two fractions compare -/
def cpJ (x y : Int × Int) : Int := cmpJ (x.1 * y.2) (y.1 * x.2)
theorem cpJ_pos (x y : Int × Int) : decide (0 < cpJ x y) = fstB x y := by
  unfold cpJ cmpJ fstB
  rw [decide_eq_decide]
  split <;> (try split) <;> omega
theorem cpJ_neg (x y : Int × Int) : decide (cpJ x y < 0) = fstB y x := by
  unfold cpJ cmpJ fstB
  rw [decide_eq_decide]
  split <;> (try split) <;> omega
set_option maxHeartbeats 1000000 in
theorem cmpMom_any (x y : Int × Int) (w : World) (hx : smB 100000000 100000000 x) (hy : smB 100000000 100000000 y) :
    Calls Try.prog 96 #[.agg #[.int .i64 x.1, .int .i64 x.2], .agg #[.int .i64 y.1, .int .i64 y.2]] w fun e w' => e = .returned (.int .i64 (cpJ x y)) ∧ Below w.heap.size w w' := by
  obtain ⟨_, h2, h3, h4, h5⟩ := pl_nums hx hy (by decide) (by decide)
  have k1 : IntKind.i64.wrap (x.1 * y.2) = x.1 * y.2 := IntWalk.i64_in _ (by omega)
  have k2 : IntKind.i64.wrap (y.1 * x.2) = y.1 * x.2 := IntWalk.i64_in _ (by omega)
  have HV : Hid (cpJ x y = cmpJ (x.1 * y.2) (y.1 * x.2)) := rfl
  generalize cpJ x y = V at *
  clear h2 h3 h4 h5 hx hy
  obtain ⟨x1, x2⟩ := x
  obtain ⟨y1, y2⟩ := y
  simp only at k1 k2 HV ⊢
  go_enter Try.func96, Try.ntmps96
  go_wp2_with fail
  refine (compareJ_any _ _ _).mono ?_
  rintro e w' ⟨rfl, rfl⟩
  go_wp2
  go_ret
  exact ⟨ret_int HV.out.symm, Below.two w _ _⟩
set_option maxHeartbeats 1000000 in
theorem cmpPaces_any (x y : Int × Int) (w : World) (hx : smB 100000000 100000000 x) (hy : smB 100000000 100000000 y) :
    Calls Try.prog 69 #[.agg #[.int .i64 x.1, .int .i64 x.2], .agg #[.int .i64 y.1, .int .i64 y.2]] w fun e w' => e = .returned (.int .i64 (cpJ x y)) ∧ Below w.heap.size w w' := by
  have HC := Lib.hid (fun w => cmpMom_any x y w hx hy)
  generalize cpJ x y = V at *
  clear hx hy
  obtain ⟨x1, x2⟩ := x
  obtain ⟨y1, y2⟩ := y
  simp only at HC ⊢
  go_enter Try.func69, Try.ntmps69
  go_wp2_with fail
  refine (HC.out _).mono ?_
  rintro e w1 ⟨rfl, hb⟩
  have HB := Lib.hid ((Below.two w _ _).trans (hb.mono (by simp; omega)))
  clear hb
  go_wp2
  go_ret
  exact ⟨rfl, HB.out⟩

/-! ### masses, balls, a fraction if it is a pace -/
theorem isMass_any (m : Int) (w : World) :
    Calls Try.prog 95 #[.int .i64 m] w fun e w' => e = .returned (.bool (maB m)) ∧ w = w' := by
  have HV : Hid (∀ r, (r = true ↔ 1 ≤ m ∧ m ≤ 9) → maB m = r) := fun r hr => by rw [Bool.eq_iff_iff, maB_iff, hr]
  generalize maB m = V at *
  go_enter Try.func95, Try.ntmps95
  go_wp2
  all_goals go_ret
  all_goals (refine ⟨ret_bool (HV.out _ ?_).symm, rfl⟩)
  all_goals simp
  all_goals omega
theorem isMass_at (m : Int) (r : Bool) (h : maB m = r) (w : World) :
    Calls Try.prog 95 #[.int .i64 m] w fun e w' => e = .returned (.bool r) ∧ w = w' := by subst h; exact isMass_any m w
set_option maxHeartbeats 1000000 in
theorem isBall_any (m a b : Int) (w : World) :
    Calls Try.prog 68 #[.agg #[.int .i64 m, .int .i64 a, .int .i64 b]] w fun e w' => e = .returned (.bool (maB m && paB a b)) ∧ Below w.heap.size w w' := by
  cases h : maB m with
  | false =>
    have H1 := Lib.hid (isMass_at m false h)
    clear h
    go_enter Try.func68, Try.ntmps68
    go_wp2_with fail
    refine (H1.out _).mono ?_
    rintro e w1 ⟨rfl, rfl⟩
    go_wp2
    go_ret
    exact ⟨ret_bool rfl, (Below.refl _ _).alloc (Nat.le_refl _) _⟩
  | true =>
    have H1 := Lib.hid (isMass_at m true h)
    have H2 := Lib.hid (isPace_any a b)
    clear h
    go_enter Try.func68, Try.ntmps68
    go_wp2_with fail
    refine (H1.out _).mono ?_
    rintro e w1 ⟨rfl, rfl⟩
    go_wp2_with fail
    refine (H2.out _).mono ?_
    rintro e w1 ⟨rfl, hb⟩
    have HB := Lib.hid (((Below.refl _ w).alloc (Nat.le_refl _) _).trans (hb.mono (by simp)))
    clear hb
    go_wp2
    go_ret
    exact ⟨ret_bool rfl, HB.out⟩
theorem isBall_at (m a b : Int) (r : Bool) (h : (maB m && paB a b) = r) (w : World) :
    Calls Try.prog 68 #[.agg #[.int .i64 m, .int .i64 a, .int .i64 b]] w fun e w' => e = .returned (.bool r) ∧ Below w.heap.size w w' := by subst h; exact isBall_any m a b w

def ifV (x : Int × Int) : Int × Int := if paP x then x else (0, 0)
set_option maxHeartbeats 1000000 in
theorem ifPace_any (x : Int × Int) (w : World) :
    Calls Try.prog 72 #[.agg #[.int .i64 x.1, .int .i64 x.2]] w fun e w' => e = .returned (.tuple #[.agg #[.int .i64 (ifV x).1, .int .i64 (ifV x).2], .bool (paP x)]) ∧ Below w.heap.size w w' := by
  obtain ⟨a, b⟩ := x
  cases h : paB a b with
  | false =>
    have HV : Hid (ifV (a, b) = (0, 0) ∧ paP (a, b) = false) := ⟨by unfold ifV paP; simp [h], h⟩
    have H1 := Lib.hid (isPace_at a b false h)
    generalize ifV (a, b) = V at *
    generalize paP (a, b) = R at *
    clear h
    go_enter Try.func72, Try.ntmps72
    go_wp2_with fail
    refine (H1.out _).mono ?_
    rintro e w1 ⟨rfl, hb⟩
    obtain ⟨s, c0, c1, f0, f1⟩ := ((PZ.start2 w _ 25).below hb).parts
    have HB := Lib.hid ((Below.two w _ _).trans (hb.mono (by simp; omega)))
    clear hb
    go_wp2
    exact bodyPost_ret (v := .tuple #[.agg #[.int .i64 0, .int .i64 0], .bool false]) (by simp [results, Try.results72, go_sem, c0, c1]) rfl ⟨by rw [HV.out.1, HV.out.2], below_set2 HB.out _ _ (by omega)⟩
  | true =>
    have HV : Hid (ifV (a, b) = (a, b) ∧ paP (a, b) = true) := ⟨by unfold ifV paP; simp [h], h⟩
    have H1 := Lib.hid (isPace_at a b true h)
    generalize ifV (a, b) = V at *
    generalize paP (a, b) = R at *
    clear h
    go_enter Try.func72, Try.ntmps72
    go_wp2_with fail
    refine (H1.out _).mono ?_
    rintro e w1 ⟨rfl, hb⟩
    obtain ⟨s, c0, c1, f0, f1⟩ := ((PZ.start2 w _ 25).below hb).parts
    have d0 : w1.cell? ⟨w.heap.size, 0, none⟩ = some (.int .i64 a) := by rw [hb.cell (p := ⟨w.heap.size, 0, none⟩) (by simp; omega)]; simp [go_sem]
    have d1 : w1.cell? ⟨w.heap.size, 1, none⟩ = some (.int .i64 b) := by rw [hb.cell (p := ⟨w.heap.size, 1, none⟩) (by simp; omega)]; simp [go_sem]
    have HB := Lib.hid ((Below.two w _ _).trans (hb.mono (by simp; omega)))
    clear hb
    go_wp2
    exact bodyPost_ret (v := .tuple #[.agg #[.int .i64 a, .int .i64 b], .bool true]) (by simp [results, Try.results72, go_sem, c0, c1]) rfl ⟨by rw [HV.out.1, HV.out.2], below_set2 HB.out _ _ (by omega)⟩
end Go.Proofs.Ytikmkmpekjijpaa
