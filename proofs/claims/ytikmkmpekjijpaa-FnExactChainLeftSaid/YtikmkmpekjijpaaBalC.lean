/- Balls on the model's side, first part: what is a pace, fractions made, sums of two, faster, masses. -/
import Derived.Test.YtikmkmpekjijpaaProg
import Derived.Test.YtikmkmpekjijpaaBase
import Derived.Test.YtikmkmpekjijpaaBal
namespace Go.Proofs.Ytikmkmpekjijpaa
open Go.RowKit

theorem ba_max (x : Int) : max x (-x) = (x.natAbs : Int) := by omega
theorem bIn_any (n lo hi : Int) (w : World) :
    Calls Try.prog 86 #[.int .i64 n, .int .i64 lo, .int .i64 hi] w fun e w' => e = .returned (.bool (decide (lo ≤ n) && decide (n ≤ hi))) ∧ w = w' := by
  go_enter Try.func86, Try.ntmps86
  go_wp2
  all_goals go_ret
  all_goals (refine ⟨ret_bool ?_, rfl⟩)
  all_goals simp [*]
  all_goals omega
theorem bIn_at (n lo hi : Int) (r : Bool) (hr : (decide (lo ≤ n) && decide (n ≤ hi)) = r) (w : World) :
    Calls Try.prog 86 #[.int .i64 n, .int .i64 lo, .int .i64 hi] w fun e w' => e = .returned (.bool r) ∧ w = w' := by
  subst hr; exact bIn_any n lo hi w
theorem bMost_any (a b : Int) (w : World) : Calls Try.prog 105 #[.int .i64 a, .int .i64 b] w fun e w' => e = .returned (.int .i64 (max a b)) ∧ w = w' := by
  by_cases h : b < a
  · have HV : Hid (max a b = a) := by show _ = _; omega
    go_enter Try.func105, Try.ntmps105
    go_wp2
    go_ret
    exact ⟨ret_int HV.out.symm, rfl⟩
  · have HV : Hid (max a b = b) := by show _ = _; omega
    go_enter Try.func105, Try.ntmps105
    go_wp2
    go_ret
    exact ⟨ret_int HV.out.symm, rfl⟩
theorem bAbs_any (x : Int) (w : World) (h0 : -100000000000000 ≤ x) (h1 : x ≤ 100000000000000) :
    Calls Try.prog 103 #[.int .i64 x] w fun e w' => e = .returned (.int .i64 (x.natAbs : Int)) ∧ w = w' := by
  have HM := Lib.hid (ba_max x)
  have hn : IntKind.i64.wrap (-x) = -x := IntWalk.i64_in _ (by omega)
  go_enter Try.func103, Try.ntmps103
  go_wp2_with fail
  refine (bMost_any _ _ _).mono ?_
  rintro e w' ⟨rfl, rfl⟩
  go_wp2
  go_ret
  exact ⟨ret_int HM.out, rfl⟩

set_option maxRecDepth 100000 in
set_option maxHeartbeats 1000000 in
theorem bCommon_any (num den : Int) (w : World) (hd : 0 < den) (hd1 : den ≤ 100000000000000) (h0 : -100000000000000 ≤ num) (h1 : num ≤ 100000000000000) :
    Calls Try.prog 93 #[.int .i64 num, .int .i64 den] w fun e w' => e = .returned (.int .i64 (gcdN num den : Int)) ∧ Below w.heap.size w w' := by
  have HA := Lib.hid (bAbs_any num)
  go_enter Try.func93, Try.ntmps93
  go_wp2_with fail
  refine (HA.out _ h0 h1).mono ?_
  rintro e w1 ⟨rfl, rfl⟩
  go_wp2
  go_loopw [0, 1] (fun p r wr => ∃ P R : Nat, p = .int .i64 P ∧ r = .int .i64 R ∧ Nat.gcd P R = gcdN num den ∧ (P : Int) ≤ 100000000000000 ∧ (R : Int) ≤ 100000000000000 ∧ Below w.heap.size w wr) (fun _ r _ => (intOf r).toNat)
  case atStart => exact ⟨num.natAbs, den.natAbs, rfl, by congr 1; omega, by unfold gcdN; exact Nat.gcd_comm _ _, by omega, by omega, Below.refl _ _⟩
  case round =>
    obtain ⟨P, R, rfl, rfl, hg, hp1, hr1, hb⟩ := hrel
    have HB := Lib.hid hb
    clear hb
    by_cases hr : R = 0
    · subst hr
      have HG : Hid (P = gcdN num den) := by show _ = _; rw [← hg]; simp
      clear hg
      go_wp2
      go_ret
      exact ⟨ret_int (by rw [HG.out]), HB.out⟩
    · have hr0 : (0 : Int) < (R : Int) := by omega
      have hrb : (((R : Nat) : Int) == 0) = false := by simp; omega
      have hE : ((P : Nat) : Int) % ((R : Nat) : Int) = ((P % R : Nat) : Int) := rfl
      have hlt : P % R < R := Nat.mod_lt _ (by omega)
      have HG : Hid (Nat.gcd R (P % R) = gcdN num den) := by show _ = _; rw [gcd_step]; exact hg
      go_wp2
      go_region
      go_wp2
      go_roundw
      case rel => exact ⟨R, P % R, rfl, by rw [hE], HG.out, by omega, by omega, HB.out.drew⟩
      case measure =>
        have h2 : ((P : Int) % (R : Int)).toNat < R := by rw [hE, Int.toNat_natCast]; exact hlt
        simpa [intOf] using h2

set_option maxHeartbeats 1000000 in
theorem baPace_any (n d : Int) (w : World) :
    Calls Try.prog 62 #[.agg #[.int .i64 n, .int .i64 d]] w fun e w' => e = .returned (.bool (paB n d)) ∧ Below w.heap.size w w' := by
  by_cases h1 : -1000000 ≤ n ∧ n ≤ 1000000
  · have HC1 : Hid (∀ w, Calls Try.prog 86 #[.int .i64 n, .int .i64 (-1000000), .int .i64 1000000] w fun e w' => e = .returned (.bool true) ∧ w = w') := fun w => bIn_at _ _ _ true (by simp; omega) w
    by_cases h2 : 1 ≤ d ∧ d ≤ 1000000
    · have HC2 : Hid (∀ w, Calls Try.prog 86 #[.int .i64 d, .int .i64 1, .int .i64 1000000] w fun e w' => e = .returned (.bool true) ∧ w = w') := fun w => bIn_at _ _ _ true (by simp; omega) w
      have HC3 := Lib.hid (fun w => bCommon_any n d w (by omega) (by omega) (by omega) (by omega))
      have HV : Hid (paB n d = ((gcdN n d : Int) == 1)) := by
        show _ = _
        rw [Bool.eq_iff_iff, paB_iff]; simp; omega
      clear h1 h2
      go_enter Try.func62, Try.ntmps62
      go_wp2_with fail
      refine (HC1.out _).mono ?_
      rintro e w1 ⟨rfl, rfl⟩
      go_wp2_with fail
      refine (HC2.out _).mono ?_
      rintro e w1 ⟨rfl, rfl⟩
      go_wp2_with fail
      refine (HC3.out _).mono ?_
      rintro e w1 ⟨rfl, hb⟩
      go_wp2
      go_ret
      exact ⟨ret_bool HV.out.symm, ((Below.refl _ _).alloc (Nat.le_refl _) _).trans (hb.mono (by simp))⟩
    · have HC2 : Hid (∀ w, Calls Try.prog 86 #[.int .i64 d, .int .i64 1, .int .i64 1000000] w fun e w' => e = .returned (.bool false) ∧ w = w') := fun w => bIn_at _ _ _ false (by simp; omega) w
      have HV : Hid (paB n d = false) := by
        show _ = _
        rw [← Bool.not_eq_true, paB_iff]; omega
      clear h1 h2
      go_enter Try.func62, Try.ntmps62
      go_wp2_with fail
      refine (HC1.out _).mono ?_
      rintro e w1 ⟨rfl, rfl⟩
      go_wp2_with fail
      refine (HC2.out _).mono ?_
      rintro e w1 ⟨rfl, rfl⟩
      go_wp2
      go_ret
      exact ⟨ret_bool HV.out.symm, (Below.refl _ _).alloc (Nat.le_refl _) _⟩
  · have HC1 : Hid (∀ w, Calls Try.prog 86 #[.int .i64 n, .int .i64 (-1000000), .int .i64 1000000] w fun e w' => e = .returned (.bool false) ∧ w = w') := fun w => bIn_at _ _ _ false (by simp; omega) w
    have HV : Hid (paB n d = false) := by
      show _ = _
      rw [← Bool.not_eq_true, paB_iff]; omega
    clear h1
    go_enter Try.func62, Try.ntmps62
    go_wp2_with fail
    refine (HC1.out _).mono ?_
    rintro e w1 ⟨rfl, rfl⟩
    go_wp2
    go_ret
    exact ⟨ret_bool HV.out.symm, (Below.refl _ _).alloc (Nat.le_refl _) _⟩

theorem baPace_at (n d : Int) (r : Bool) (hr : paB n d = r) (w : World) :
    Calls Try.prog 62 #[.agg #[.int .i64 n, .int .i64 d]] w fun e w' => e = .returned (.bool r) ∧ Below w.heap.size w w' := by
  subst hr; exact baPace_any n d w
theorem specIsPace_any (n d : Int) (w : World) :
    Calls Try.prog 19 #[.agg #[.int .i64 n, .int .i64 d]] w fun e w' => e = .returned (.bool (paB n d)) ∧ Below w.heap.size w w' := by
  go_enter Try.func19, Try.ntmps19
  go_wp2_with fail
  refine (baPace_any _ _ _).mono ?_
  rintro e w1 ⟨rfl, hb⟩
  go_wp2
  go_ret
  exact ⟨rfl, ((Below.refl _ _).alloc (Nat.le_refl _) _).trans (hb.mono (by simp))⟩

/-- a result of two numbers lies in block g, as it was made -/
structure PZ (g : Nat) (wr : World) : Prop where
  lt : g < wr.heap.size
  c0 : wr.cell? ⟨g, 0, none⟩ = some (.int .i64 0)
  c1 : wr.cell? ⟨g, 1, none⟩ = some (.int .i64 0)
  f0 : wr.frozen? ⟨g, 0, none⟩ = false
  f1 : wr.frozen? ⟨g, 1, none⟩ = false
theorem PZ.parts {g : Nat} {wr : World} (h : PZ g wr) : g < wr.heap.size ∧ wr.cell? ⟨g, 0, none⟩ = some (.int .i64 0) ∧ wr.cell? ⟨g, 1, none⟩ = some (.int .i64 0) ∧ wr.frozen? ⟨g, 0, none⟩ = false ∧ wr.frozen? ⟨g, 1, none⟩ = false := ⟨h.lt, h.c0, h.c1, h.f0, h.f1⟩
theorem PZ.below {g : Nat} {wr w2 : World} (h : PZ g wr) (hb : Below wr.heap.size wr w2) : PZ g w2 :=
  ⟨Nat.lt_of_lt_of_le h.lt hb.size, Below.cell_some hb h.c0, Below.cell_some hb h.c1, (hb.frozen (p := ⟨g, 0, none⟩) h.lt).trans h.f0, (hb.frozen (p := ⟨g, 1, none⟩) h.lt).trans h.f1⟩
theorem PZ.start (w : World) (e : TypeId) : PZ w.heap.size (w.alloc (Obj.cells #[Value.int IntKind.i64 0, Value.int IntKind.i64 0] e)) := ⟨by simp, by simp, by simp, by simp, by simp⟩
theorem PZ.start2 (w : World) (o : Obj) (e : TypeId) : PZ (w.heap.size + 1) ((w.alloc o).alloc (Obj.cells #[Value.int IntKind.i64 0, Value.int IntKind.i64 0] e)) := by
  have := PZ.start (w.alloc o) e
  simpa using this

theorem ret_pb {a b a' b' : Int} {x y : Bool} (h1 : a = a') (h2 : b = b') (h3 : x = y) : Ending.returned (.tuple #[.agg #[.int .i64 a, .int .i64 b], .bool x]) = .returned (.tuple #[.agg #[.int .i64 a', .int .i64 b'], .bool y]) := by rw [h1, h2, h3]

set_option maxRecDepth 100000 in
set_option maxHeartbeats 1000000 in
theorem baMake_any (num den : Int) (w : World) (hd : 0 < den) (hd1 : den ≤ 100000000000000) (h0 : -100000000000000 ≤ num) (h1 : num ≤ 100000000000000) :
    Calls Try.prog 98 #[.int .i64 num, .int .i64 den] w fun e w' => e = .returned (.tuple #[.agg #[.int .i64 (mkV num den).1, .int .i64 (mkV num den).2], .bool (mkOk num den)]) ∧ Below w.heap.size w w' := by
  have HC := Lib.hid (fun w => bCommon_any num den w hd hd1 h0 h1)
  have HVV : Hid (mkV num den = if mkOk num den then ((lowP num den).1, (lowP num den).2) else (0, 0)) := rfl
  have HBB : Hid (mkOk num den = paB (lowP num den).1 (lowP num den).2) := rfl
  have hg := gcdN_pos (num := num) hd
  have HQ' := lowP_tnum num den
  have HP' := lowP_tden num den
  have hb1 := lowP_num_abs (num := num) hd 100000000000000 h0 h1
  have hb2 := lowP_den_le (num := num) hd
  have hb3 := lowP_pos (num := num) hd
  generalize gcdN num den = G at *
  have hG0 : ¬ G = 0 := by omega
  have hgne : (((G : Nat) : Int) == 0) = false := by simp; omega
  generalize (lowP num den).1 = a at *
  generalize (lowP num den).2 = d at *
  generalize mkV num den = V at *
  generalize mkOk num den = R at *
  have hq1 : IntKind.i64.wrap a = a := IntWalk.i64_in _ (by omega)
  have hq2 : IntKind.i64.wrap d = d := IntWalk.i64_in _ (by omega)
  clear hb1 hb2 hb3 hg hd
  go_enter Try.func98, Try.ntmps98
  go_wp2_with fail
  refine (HC.out _).mono ?_
  rintro e w1 ⟨rfl, hb⟩
  have HR1 := (PZ.start w 25).below hb
  have HB := Lib.hid (((Below.refl _ w).alloc (Nat.le_refl _) _).trans (hb.mono (by simp)))
  clear hb
  go_wp2
  go_region
  cases R with
  | false =>
    have HM := Lib.hid (baPace_at a d false HBB.out.symm)
    have HV2 : Hid (V = (0, 0)) := by show _ = _; rw [HVV.out]; rfl
    go_wp2_with fail
    refine (HM.out _).mono ?_
    rintro e w3 ⟨rfl, hb3⟩
    have hb13 : Below w1.heap.size w1 w3 := (((Below.refl _ w1).alloc (Nat.le_refl _) _).drew).trans (hb3.mono (by simp))
    obtain ⟨s3, c0, c1, f0, f1⟩ := (HR1.below hb13).parts
    have HB3 := Lib.hid (HB.out.trans (hb13.mono HB.out.size))
    clear hb3 hb13
    go_wp2
    exact bodyPost_ret (v := .tuple #[.agg #[.int .i64 0, .int .i64 0], .bool false]) (by simp [results, Try.results98, go_sem, c0, c1]) rfl ⟨ret_pb (by rw [HV2.out]) (by rw [HV2.out]) rfl, (HB3.out.setCell (Nat.le_refl _) _).setCell (Nat.le_refl _) _⟩
  | true =>
    have HM := Lib.hid (baPace_at a d true HBB.out.symm)
    have HV2 : Hid (V = (a, d)) := by show _ = _; rw [HVV.out]; rfl
    go_wp2_with fail
    refine (HM.out _).mono ?_
    rintro e w3 ⟨rfl, hb3⟩
    have e0 : w3.cell? ⟨w1.heap.size, 0, none⟩ = some (.int .i64 a) := by rw [hb3.cell (p := ⟨w1.heap.size, 0, none⟩) (by simp)]; simp [go_sem]
    have e1 : w3.cell? ⟨w1.heap.size, 1, none⟩ = some (.int .i64 d) := by rw [hb3.cell (p := ⟨w1.heap.size, 1, none⟩) (by simp)]; simp [go_sem]
    have hb13 : Below w1.heap.size w1 w3 := (((Below.refl _ w1).alloc (Nat.le_refl _) _).drew).trans (hb3.mono (by simp))
    obtain ⟨s3, c0, c1, f0, f1⟩ := (HR1.below hb13).parts
    have HB3 := Lib.hid (HB.out.trans (hb13.mono HB.out.size))
    clear hb3 hb13
    go_wp2
    exact bodyPost_ret (v := .tuple #[.agg #[.int .i64 a, .int .i64 d], .bool true]) (by simp [results, Try.results98, go_sem, c0, c1]) rfl ⟨ret_pb (by rw [HV2.out]) (by rw [HV2.out]) rfl, (HB3.out.setCell (Nat.le_refl _) _).setCell (Nat.le_refl _) _⟩


/-! ### sums of two -/
/-- numbers of paces, in lowest terms or not -/
def smP (u : Int × Int) : Prop := (-1000000 ≤ u.1 ∧ u.1 ≤ 1000000) ∧ 1 ≤ u.2 ∧ u.2 ≤ 1000000
theorem smP_of {u : Int × Int} (h : paP u = true) : smP u := by
  unfold paP at h; rw [paB_iff] at h; exact ⟨⟨h.1, h.2.1⟩, h.2.2.1, h.2.2.2.1⟩
theorem su_bd {a b c : Int} {u v : Int × Int} (ha : -18 ≤ a ∧ a ≤ 18) (hb : -18 ≤ b ∧ b ≤ 18) (hc : 1 ≤ c ∧ c ≤ 18) (hu : smP u) (hv : smP v) :
    (IntKind.i64.wrap (a * u.1) = a * u.1 ∧ IntKind.i64.wrap (a * u.1 * v.2) = a * u.1 * v.2 ∧ IntKind.i64.wrap (b * v.1) = b * v.1 ∧ IntKind.i64.wrap (b * v.1 * u.2) = b * v.1 * u.2 ∧
     IntKind.i64.wrap (a * u.1 * v.2 + b * v.1 * u.2) = a * u.1 * v.2 + b * v.1 * u.2 ∧ IntKind.i64.wrap (c * u.2) = c * u.2 ∧ IntKind.i64.wrap (c * u.2 * v.2) = c * u.2 * v.2) ∧
    (0 < suD c u v ∧ suD c u v ≤ 100000000000000) ∧ -100000000000000 ≤ suN a u b v ∧ suN a u b v ≤ 100000000000000 := by
  obtain ⟨⟨u1, u2⟩, u3, u4⟩ := hu
  obtain ⟨⟨v1, v2⟩, v3, v4⟩ := hv
  have m1 := mul_bd (x := a) (y := u.1) (A := 18) (B := 1000000) (by omega) (by omega) (by omega) (by omega)
  have m2 := mul_bd (x := a * u.1) (y := v.2) (A := 18000000) (B := 1000000) (by omega) (by omega) (by omega) (by omega)
  have m3 := mul_bd (x := b) (y := v.1) (A := 18) (B := 1000000) (by omega) (by omega) (by omega) (by omega)
  have m4 := mul_bd (x := b * v.1) (y := u.2) (A := 18000000) (B := 1000000) (by omega) (by omega) (by omega) (by omega)
  have m5 := mul_bd (x := c) (y := u.2) (A := 18) (B := 1000000) (by omega) (by omega) (by omega) (by omega)
  have m6 := mul_bd (x := c * u.2) (y := v.2) (A := 18000000) (B := 1000000) (by omega) (by omega) (by omega) (by omega)
  have p5 := mul_pos1 (x := c) (y := u.2) hc.1 u3
  have p6 := mul_pos1 (x := c * u.2) (y := v.2) p5 v3
  unfold suD suN
  generalize a * u.1 * v.2 = A2 at *
  generalize a * u.1 = A1 at *
  generalize b * v.1 * u.2 = B2 at *
  generalize b * v.1 = B1 at *
  generalize c * u.2 * v.2 = C2 at *
  generalize c * u.2 = C1 at *
  exact ⟨⟨IntWalk.i64_in _ (by omega), IntWalk.i64_in _ (by omega), IntWalk.i64_in _ (by omega), IntWalk.i64_in _ (by omega), IntWalk.i64_in _ (by omega), IntWalk.i64_in _ (by omega), IntWalk.i64_in _ (by omega)⟩, ⟨by omega, by omega⟩, by omega, by omega⟩
end Go.Proofs.Ytikmkmpekjijpaa
