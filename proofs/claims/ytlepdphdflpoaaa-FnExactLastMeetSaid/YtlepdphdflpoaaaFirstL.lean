/- The first and the last time at which some meet, on both sides. -/
import Derived.Test.YtlepdphdflpoaaaMMo
namespace Go.Proofs.Ytlepdphdflpoaaa
open Go.RowKit

def fmB (l : List (Int × Int)) : Bool := decide (0 < (mmV l).length)
def fmV (l : List (Int × Int)) : Int × Int := (mmV l).getD 0 (0, 0)
def lmV (l : List (Int × Int)) : Int × Int := (mmV l).getD ((mmV l).length - 1) (0, 0)
theorem getD_nil0 (k : Nat) : ([] : List (Int × Int)).getD k (0, 0) = (0, 0) := by simp

set_option maxRecDepth 100000 in
set_option maxHeartbeats 1000000 in
theorem implFirstMeet_any (A : Option Addr) (c : Nat) (l : List (Int × Int)) (w : World) (hcap : l.length ≤ c) (hA : AntsAt w A l) :
    Calls Try.prog 42 #[.slice A l.length c] w fun e w' => e = .returned (.tuple #[.agg #[.int .i64 (fmV l).1, .int .i64 (fmV l).2], .bool (fmB l)]) ∧ Below w.heap.size w w' := by
  have HM := Lib.hid (implMeetMoments_any A c l _ hcap (hA.alloc (Obj.cells #[Value.int IntKind.i64 0, Value.int IntKind.i64 0] 32)))
  have HR0 := Lib.hid (RZ.start w 32)
  have HFB : Hid (fmB l = decide (0 < (mmV l).length)) := rfl
  have HFV : Hid (fmV l = (mmV l).getD (0) (0, 0)) := rfl
  have HLEN := Lib.hid (mmV_len l)
  clear hA
  generalize mmV l = s at *
  go_enter Try.func42, Try.ntmps42
  go_wp2_with fail
  refine HM.out.mono ?_
  rintro e w1 ⟨A1, n1, c1, rfl, hn1, ho1, hb1⟩
  have HN1 := Lib.hid hn1
  have HS1 := Lib.hid ho1.ants
  obtain ⟨s3, r0, r1, f0, f1⟩ := (HR0.out.below hb1).parts
  have HB := Lib.hid (((Below.refl _ w).alloc (Nat.le_refl _) _).trans (hb1.mono (by simp)))
  obtain ⟨N, hN⟩ : ∃ N, N = n1 := ⟨_, rfl⟩
  have HNN : Hid (N = s.length) := by show _ = _; rw [hN]; exact hn1
  subst hN
  clear hn1 ho1 hb1
  have hN200 : N ≤ 144 := by rw [HNN.out]; exact HLEN.out
  by_cases hz : N = 0
  · have HV : Hid (fmV l = (0, 0) ∧ fmB l = false) := by
      show _ ∧ _
      have hs : s = [] := List.eq_nil_of_length_eq_zero (by rw [← HNN.out]; exact hz)
      rw [HFV.out, HFB.out, hs]
      exact ⟨getD_nil0 _, rfl⟩
    have hzb : ((N : Int) == 0) = true := by rw [hz]; rfl
    clear hz
    go_wp2
    exact bodyPost_ret (v := .tuple #[.agg #[.int .i64 0, .int .i64 0], .bool false]) (by simp [results, Try.results42, go_sem, r0, r1]) rfl ⟨ret_mb (by rw [HV.out.1]) (by rw [HV.out.1]) HV.out.2.symm, (HB.out.setCell (Nat.le_refl _) _).setCell (Nat.le_refl _) _⟩
  · have hzb : ((N : Int) == 0) = false := beq_eq_false_iff_ne.2 (by omega)
    have hlt : 0 < s.length := by rw [← HNN.out]; omega
    obtain ⟨b, off, rfl, l0, hc⟩ := HS1.out.at_ hlt
    obtain ⟨a0, a1⟩ := hc _ hlt
    have HFV2 : Hid (fmV l = s.getD (0) (0, 0)) := by show _ = _; rw [HFV.out]
    have HB2 : Hid (fmB l = true) := by show _ = _; rw [HFB.out]; exact decide_eq_true (by omega)
    clear hc
    generalize s.getD (0) (0, 0) = x at *
    obtain ⟨x1, x2⟩ := x
    simp only at a0 a1
    have hNp : (0 : Int) < (N : Int) := by omega
    have HV : Hid (fmV l = (x1, x2)) := HFV2
    clear hlt
    simp only [Nat.zero_mul, Nat.add_zero] at a0 a1
    go_wp2
    exact bodyPost_ret (v := .tuple #[.agg #[.int .i64 x1, .int .i64 x2], .bool true]) (by simp [results, Try.results42, go_sem, r0, r1]) rfl ⟨ret_mb (by rw [HV.out]) (by rw [HV.out]) HB2.out.symm, (HB.out.setCell (Nat.le_refl _) _).setCell (Nat.le_refl _) _⟩

set_option maxRecDepth 100000 in
set_option maxHeartbeats 1000000 in
theorem implLastMeet_any (A : Option Addr) (c : Nat) (l : List (Int × Int)) (w : World) (hcap : l.length ≤ c) (hA : AntsAt w A l) :
    Calls Try.prog 45 #[.slice A l.length c] w fun e w' => e = .returned (.tuple #[.agg #[.int .i64 (lmV l).1, .int .i64 (lmV l).2], .bool (fmB l)]) ∧ Below w.heap.size w w' := by
  have HM := Lib.hid (implMeetMoments_any A c l _ hcap (hA.alloc (Obj.cells #[Value.int IntKind.i64 0, Value.int IntKind.i64 0] 32)))
  have HR0 := Lib.hid (RZ.start w 32)
  have HFB : Hid (fmB l = decide (0 < (mmV l).length)) := rfl
  have HFV : Hid (lmV l = (mmV l).getD ((mmV l).length - 1) (0, 0)) := rfl
  have HLEN := Lib.hid (mmV_len l)
  clear hA
  generalize mmV l = s at *
  go_enter Try.func45, Try.ntmps45
  go_wp2_with fail
  refine HM.out.mono ?_
  rintro e w1 ⟨A1, n1, c1, rfl, hn1, ho1, hb1⟩
  have HN1 := Lib.hid hn1
  have HS1 := Lib.hid ho1.ants
  obtain ⟨s3, r0, r1, f0, f1⟩ := (HR0.out.below hb1).parts
  have HB := Lib.hid (((Below.refl _ w).alloc (Nat.le_refl _) _).trans (hb1.mono (by simp)))
  obtain ⟨N, hN⟩ : ∃ N, N = n1 := ⟨_, rfl⟩
  have HNN : Hid (N = s.length) := by show _ = _; rw [hN]; exact hn1
  subst hN
  clear hn1 ho1 hb1
  have hN200 : N ≤ 144 := by rw [HNN.out]; exact HLEN.out
  by_cases hz : N = 0
  · have HV : Hid (lmV l = (0, 0) ∧ fmB l = false) := by
      show _ ∧ _
      have hs : s = [] := List.eq_nil_of_length_eq_zero (by rw [← HNN.out]; exact hz)
      rw [HFV.out, HFB.out, hs]
      exact ⟨getD_nil0 _, rfl⟩
    have hzb : ((N : Int) == 0) = true := by rw [hz]; rfl
    clear hz
    go_wp2
    exact bodyPost_ret (v := .tuple #[.agg #[.int .i64 0, .int .i64 0], .bool false]) (by simp [results, Try.results45, go_sem, r0, r1]) rfl ⟨ret_mb (by rw [HV.out.1]) (by rw [HV.out.1]) HV.out.2.symm, (HB.out.setCell (Nat.le_refl _) _).setCell (Nat.le_refl _) _⟩
  · have hzb : ((N : Int) == 0) = false := beq_eq_false_iff_ne.2 (by omega)
    have hlt : N - 1 < s.length := by rw [← HNN.out]; omega
    obtain ⟨b, off, rfl, l0, hc⟩ := HS1.out.at_ hlt
    obtain ⟨a0, a1⟩ := hc _ hlt
    have HFV2 : Hid (lmV l = s.getD (N - 1) (0, 0)) := by show _ = _; rw [HFV.out, ← HNN.out]
    have HB2 : Hid (fmB l = true) := by show _ = _; rw [HFB.out]; exact decide_eq_true (by omega)
    clear hc
    generalize s.getD (N - 1) (0, 0) = x at *
    obtain ⟨x1, x2⟩ := x
    simp only at a0 a1
    have hNp : (0 : Int) < (N : Int) := by omega
    have HV : Hid (lmV l = (x1, x2)) := HFV2
    clear hlt
    have hw : IntKind.i64.wrap ((N : Int) - 1) = (N : Int) - 1 := IntWalk.i64_in _ (by omega)
    have hi0 : (0 : Int) ≤ (N : Int) - 1 := by omega
    have hi1 : (N : Int) - 1 < (N : Int) := by omega
    have hi2 : ((N : Int) - 1).toNat = N - 1 := by omega
    skip
    go_wp2
    exact bodyPost_ret (v := .tuple #[.agg #[.int .i64 x1, .int .i64 x2], .bool true]) (by simp [results, Try.results45, go_sem, r0, r1]) rfl ⟨ret_mb (by rw [HV.out]) (by rw [HV.out]) HB2.out.symm, (HB.out.setCell (Nat.le_refl _) _).setCell (Nat.le_refl _) _⟩

set_option maxRecDepth 100000 in
set_option maxHeartbeats 1000000 in
theorem specFirstMeet_any (A : Option Addr) (c : Nat) (l : List (Int × Int)) (w : World) (hcap : l.length ≤ c) (hA : AntsAt w A l) :
    Calls Try.prog 41 #[.slice A l.length c] w fun e w' => e = .returned (.tuple #[.agg #[.int .i64 (fmV l).1, .int .i64 (fmV l).2], .bool (fmB l)]) ∧ Below w.heap.size w w' := by
  have HA := Lib.hid (hA.alloc (Obj.cells #[Value.int IntKind.i64 0, Value.int IntKind.i64 0] 32))
  have HR0 := Lib.hid (RZ.start w 32)
  clear hA
  cases hg : rnnB l with
  | false =>
    have HV : Hid (fmV l = (0, 0) ∧ fmB l = false) := by
      show _ ∧ _
      have hm : mmV l = [] := by simp [mmV, hg]
      simp [fmV, fmB, hm]
    have HG := Lib.hid (spGood_at A c l false hg)
    clear hg
    go_enter Try.func41, Try.ntmps41
    go_wp2_with fail
    refine (HG.out _ HA.out).mono ?_
    rintro e w1 ⟨rfl, hb1⟩
    obtain ⟨s3, r0, r1, f0, f1⟩ := (HR0.out.below hb1).parts
    have HB := Lib.hid (((Below.refl _ w).alloc (Nat.le_refl _) _).trans (hb1.mono (by simp)))
    clear hb1
    go_wp2
    exact bodyPost_ret (v := .tuple #[.agg #[.int .i64 0, .int .i64 0], .bool false]) (by simp [results, Try.results41, go_sem, r0, r1]) rfl ⟨ret_mb (by rw [HV.out.1]) (by rw [HV.out.1]) HV.out.2.symm, (HB.out.setCell (Nat.le_refl _) _).setCell (Nat.le_refl _) _⟩
  | true =>
    have HG := Lib.hid (spGood_at A c l true hg)
    have HT := Lib.hid (fun w h => spTimes_any A c l w hg hcap h)
    have HFB : Hid (fmB l = decide (0 < (mmL l).length)) := by show _ = _; simp [fmB, mmV, hg]
    have HFV : Hid (fmV l = (mmL l).getD (0) (0, 0)) := by show _ = _; simp [fmV, mmV, hg]
    have HLEN := Lib.hid (mmL_len hg)
    clear hg
    generalize mmL l = s at *
    go_enter Try.func41, Try.ntmps41
    go_wp2_with fail
    refine (HG.out _ HA.out).mono ?_
    rintro e w0 ⟨rfl, hb0⟩
    have HR1 := Lib.hid (HR0.out.below hb0)
    have HA1 := Lib.hid (HA.out.below hb0)
    have HB0 := Lib.hid (((Below.refl _ w).alloc (Nat.le_refl _) _).trans (hb0.mono (by simp)))
    clear hb0
    go_wp2_with fail
    refine (HT.out _ HA1.out).mono ?_
    rintro e w1 ⟨A1, n1, c1, rfl, hn1, ho1, hb1⟩
    have HR2 := Lib.hid (HR1.out.below hb1)
    have HA2 := Lib.hid (HA1.out.below hb1)
    have HB := Lib.hid (HB0.out.trans (hb1.mono HB0.out.size))
    obtain ⟨N, hN⟩ : ∃ N, N = n1 := ⟨_, rfl⟩
    have HNN : Hid (N = s.length) := by show _ = _; rw [hN]; exact hn1
    subst hN
    clear hn1 ho1 hb1
    have hN200 : N ≤ 144 := by rw [HNN.out]; exact HLEN.out
    by_cases hz : N = 0
    · have HV : Hid (fmV l = (0, 0) ∧ fmB l = false) := by
        show _ ∧ _
        have hs : s = [] := List.eq_nil_of_length_eq_zero (by rw [← HNN.out]; exact hz)
        rw [HFV.out, HFB.out, hs]
        exact ⟨getD_nil0 _, rfl⟩
      have hzb : ((N : Int) == 0) = true := by rw [hz]; rfl
      obtain ⟨s3, r0, r1, f0, f1⟩ := HR2.out.parts
      clear hz
      go_wp2
      exact bodyPost_ret (v := .tuple #[.agg #[.int .i64 0, .int .i64 0], .bool false]) (by simp [results, Try.results41, go_sem, r0, r1]) rfl ⟨ret_mb (by rw [HV.out.1]) (by rw [HV.out.1]) HV.out.2.symm, (HB.out.setCell (Nat.le_refl _) _).setCell (Nat.le_refl _) _⟩
    · have hzb : ((N : Int) == 0) = false := beq_eq_false_iff_ne.2 (by omega)
      go_wp2_with fail
      refine (HT.out _ HA2.out).mono ?_
      rintro e w2 ⟨A3, n3, c3, rfl, hn3, ho3, hb3⟩
      have HS1 := Lib.hid (slAt_ants ho3.sl)
      obtain ⟨s3, r0, r1, f0, f1⟩ := (HR2.out.below hb3).parts
      have HB3 := Lib.hid (HB.out.trans (hb3.mono HB.out.size))
      obtain rfl : n3 = N := by rw [hn3, HNN.out]
      clear hn3 ho3 hb3
      obtain ⟨N, rfl⟩ : ∃ N, N = n3 := ⟨_, rfl⟩
      have hlt : 0 < s.length := by rw [← HNN.out]; omega
      obtain ⟨b, off, rfl, l0, hc⟩ := HS1.out.at_ hlt
      obtain ⟨a0, a1⟩ := hc _ hlt
      have HFV2 : Hid (fmV l = s.getD (0) (0, 0)) := by show _ = _; rw [HFV.out]
      have HB2 : Hid (fmB l = true) := by show _ = _; rw [HFB.out]; exact decide_eq_true (by omega)
      clear hc
      generalize s.getD (0) (0, 0) = x at *
      obtain ⟨x1, x2⟩ := x
      simp only at a0 a1
      have hNp : (0 : Int) < (N : Int) := by omega
      have HV : Hid (fmV l = (x1, x2)) := HFV2
      clear hlt
      simp only [Nat.zero_mul, Nat.add_zero] at a0 a1
      go_wp2
      exact bodyPost_ret (v := .tuple #[.agg #[.int .i64 x1, .int .i64 x2], .bool true]) (by simp [results, Try.results41, go_sem, r0, r1]) rfl ⟨ret_mb (by rw [HV.out]) (by rw [HV.out]) HB2.out.symm, (HB3.out.setCell (Nat.le_refl _) _).setCell (Nat.le_refl _) _⟩

set_option maxRecDepth 100000 in
set_option maxHeartbeats 1000000 in
theorem specLastMeet_any (A : Option Addr) (c : Nat) (l : List (Int × Int)) (w : World) (hcap : l.length ≤ c) (hA : AntsAt w A l) :
    Calls Try.prog 44 #[.slice A l.length c] w fun e w' => e = .returned (.tuple #[.agg #[.int .i64 (lmV l).1, .int .i64 (lmV l).2], .bool (fmB l)]) ∧ Below w.heap.size w w' := by
  have HA := Lib.hid (hA.alloc (Obj.cells #[Value.int IntKind.i64 0, Value.int IntKind.i64 0] 32))
  have HR0 := Lib.hid (RZ.start w 32)
  clear hA
  cases hg : rnnB l with
  | false =>
    have HV : Hid (lmV l = (0, 0) ∧ fmB l = false) := by
      show _ ∧ _
      have hm : mmV l = [] := by simp [mmV, hg]
      simp [lmV, fmB, hm]
    have HG := Lib.hid (spGood_at A c l false hg)
    clear hg
    go_enter Try.func44, Try.ntmps44
    go_wp2_with fail
    refine (HG.out _ HA.out).mono ?_
    rintro e w1 ⟨rfl, hb1⟩
    obtain ⟨s3, r0, r1, f0, f1⟩ := (HR0.out.below hb1).parts
    have HB := Lib.hid (((Below.refl _ w).alloc (Nat.le_refl _) _).trans (hb1.mono (by simp)))
    clear hb1
    go_wp2
    exact bodyPost_ret (v := .tuple #[.agg #[.int .i64 0, .int .i64 0], .bool false]) (by simp [results, Try.results44, go_sem, r0, r1]) rfl ⟨ret_mb (by rw [HV.out.1]) (by rw [HV.out.1]) HV.out.2.symm, (HB.out.setCell (Nat.le_refl _) _).setCell (Nat.le_refl _) _⟩
  | true =>
    have HG := Lib.hid (spGood_at A c l true hg)
    have HT := Lib.hid (fun w h => spTimes_any A c l w hg hcap h)
    have HFB : Hid (fmB l = decide (0 < (mmL l).length)) := by show _ = _; simp [fmB, mmV, hg]
    have HFV : Hid (lmV l = (mmL l).getD ((mmL l).length - 1) (0, 0)) := by show _ = _; simp [lmV, mmV, hg]
    have HLEN := Lib.hid (mmL_len hg)
    clear hg
    generalize mmL l = s at *
    go_enter Try.func44, Try.ntmps44
    go_wp2_with fail
    refine (HG.out _ HA.out).mono ?_
    rintro e w0 ⟨rfl, hb0⟩
    have HR1 := Lib.hid (HR0.out.below hb0)
    have HA1 := Lib.hid (HA.out.below hb0)
    have HB0 := Lib.hid (((Below.refl _ w).alloc (Nat.le_refl _) _).trans (hb0.mono (by simp)))
    clear hb0
    go_wp2_with fail
    refine (HT.out _ HA1.out).mono ?_
    rintro e w1 ⟨A1, n1, c1, rfl, hn1, ho1, hb1⟩
    have HR2 := Lib.hid (HR1.out.below hb1)
    have HA2 := Lib.hid (HA1.out.below hb1)
    have HB := Lib.hid (HB0.out.trans (hb1.mono HB0.out.size))
    obtain ⟨N, hN⟩ : ∃ N, N = n1 := ⟨_, rfl⟩
    have HNN : Hid (N = s.length) := by show _ = _; rw [hN]; exact hn1
    subst hN
    clear hn1 ho1 hb1
    have hN200 : N ≤ 144 := by rw [HNN.out]; exact HLEN.out
    by_cases hz : N = 0
    · have HV : Hid (lmV l = (0, 0) ∧ fmB l = false) := by
        show _ ∧ _
        have hs : s = [] := List.eq_nil_of_length_eq_zero (by rw [← HNN.out]; exact hz)
        rw [HFV.out, HFB.out, hs]
        exact ⟨getD_nil0 _, rfl⟩
      have hzb : ((N : Int) == 0) = true := by rw [hz]; rfl
      obtain ⟨s3, r0, r1, f0, f1⟩ := HR2.out.parts
      clear hz
      go_wp2
      exact bodyPost_ret (v := .tuple #[.agg #[.int .i64 0, .int .i64 0], .bool false]) (by simp [results, Try.results44, go_sem, r0, r1]) rfl ⟨ret_mb (by rw [HV.out.1]) (by rw [HV.out.1]) HV.out.2.symm, (HB.out.setCell (Nat.le_refl _) _).setCell (Nat.le_refl _) _⟩
    · have hzb : ((N : Int) == 0) = false := beq_eq_false_iff_ne.2 (by omega)
      go_wp2_with fail
      refine (HT.out _ HA2.out).mono ?_
      rintro e w2 ⟨A3, n3, c3, rfl, hn3, ho3, hb3⟩
      have HS1 := Lib.hid (slAt_ants ho3.sl)
      obtain ⟨s3, r0, r1, f0, f1⟩ := (HR2.out.below hb3).parts
      have HB3 := Lib.hid (HB.out.trans (hb3.mono HB.out.size))
      obtain rfl : n3 = N := by rw [hn3, HNN.out]
      clear hn3 ho3 hb3
      obtain ⟨N, rfl⟩ : ∃ N, N = n3 := ⟨_, rfl⟩
      have hlt : N - 1 < s.length := by rw [← HNN.out]; omega
      obtain ⟨b, off, rfl, l0, hc⟩ := HS1.out.at_ hlt
      obtain ⟨a0, a1⟩ := hc _ hlt
      have HFV2 : Hid (lmV l = s.getD (N - 1) (0, 0)) := by show _ = _; rw [HFV.out, ← HNN.out]
      have HB2 : Hid (fmB l = true) := by show _ = _; rw [HFB.out]; exact decide_eq_true (by omega)
      clear hc
      generalize s.getD (N - 1) (0, 0) = x at *
      obtain ⟨x1, x2⟩ := x
      simp only at a0 a1
      have hNp : (0 : Int) < (N : Int) := by omega
      have HV : Hid (lmV l = (x1, x2)) := HFV2
      clear hlt
      have hw : IntKind.i64.wrap ((N : Int) - 1) = (N : Int) - 1 := IntWalk.i64_in _ (by omega)
      have hi0 : (0 : Int) ≤ (N : Int) - 1 := by omega
      have hi1 : (N : Int) - 1 < (N : Int) := by omega
      have hi2 : ((N : Int) - 1).toNat = N - 1 := by omega
      skip
      go_wp2
      exact bodyPost_ret (v := .tuple #[.agg #[.int .i64 x1, .int .i64 x2], .bool true]) (by simp [results, Try.results44, go_sem, r0, r1]) rfl ⟨ret_mb (by rw [HV.out]) (by rw [HV.out]) HB2.out.symm, (HB3.out.setCell (Nat.le_refl _) _).setCell (Nat.le_refl _) _⟩

end Go.Proofs.Ytlepdphdflpoaaa
