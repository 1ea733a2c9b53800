/- The contract of impl.IsCircle: the same plain function as the model's. -/
import Derived.Test.YtpchgmcegholoaaDoorGoodC
import Derived.Test.YtpchgmcegholoaaDoorGoodF
namespace Go.Proofs.YtpchgmcegholoaaDoor
open Go.RowKit

def cirB (L : Int) (l : List (Int × Int)) : Bool := decide (L ≤ 400) && (goodB L l && (l.length == 0 || decide ((l.getD (l.length - 1) (0, 0)).1 < L)))

theorem isAntB_iff (a y L : Int) : isAntB a y L = true ↔ 0 ≤ a ∧ a ≤ L ∧ a % 2 = 0 ∧ (y = -1 ∨ y = 1) := by
  simp [isAntB, and_assoc]
theorem ciB_good {L : Int} {l : List (Int × Int)} (h : ciB L l = true) : goodB L l = true := by
  simp only [ciB, Bool.and_eq_true] at h
  obtain ⟨h1, h2⟩ := h
  rw [hdrC_iff] at h1
  simp only [goodB, Bool.and_eq_true]
  refine ⟨(hdr_iff _ _).2 (by omega), ?_⟩
  rw [List.all_eq_true] at *
  intro k hk
  have h3 := h2 k hk
  simp only [okAt, Bool.and_eq_true] at *
  refine ⟨?_, h3.2⟩
  have h4 := h3.1
  rw [isAntB_iff] at *
  omega
theorem ciB_ant {L : Int} {l : List (Int × Int)} (h : ciB L l = true) {k : Nat} (hk : k < l.length) : 0 ≤ (l.getD k (0, 0)).1 ∧ (l.getD k (0, 0)).1 ≤ L - 2 := by
  simp only [ciB, Bool.and_eq_true] at h
  obtain ⟨h1, h2⟩ := h
  rw [List.all_eq_true] at h2
  have h3 := h2 k (List.mem_range.2 hk)
  simp only [okAt, Bool.and_eq_true] at h3
  have h4 := h3.1
  rw [isAntB_iff] at h4
  omega
theorem ciB_len {L : Int} {l : List (Int × Int)} (h : ciB L l = true) : 2 ≤ L ∧ L ≤ 400 ∧ L % 2 = 0 ∧ l.length ≤ 16 := by
  simp only [ciB, Bool.and_eq_true] at h
  exact (hdrC_iff _ _).1 h.1
theorem cirB_eq (L : Int) (l : List (Int × Int)) : cirB L l = ciB L l := by
  rw [Bool.eq_iff_iff]
  constructor
  · intro h
    simp only [cirB, Bool.and_eq_true, Bool.or_eq_true, decide_eq_true_eq, beq_iff_eq] at h
    obtain ⟨h1, h2, h3⟩ := h
    have hg := h2
    simp only [goodB, Bool.and_eq_true] at h2
    obtain ⟨h4, h5⟩ := h2
    rw [hdr_iff] at h4
    simp only [ciB, Bool.and_eq_true]
    refine ⟨(hdrC_iff _ _).2 (by omega), ?_⟩
    rw [List.all_eq_true] at *
    intro k hk
    have h6 := h5 k hk
    have hkl := List.mem_range.1 hk
    have h7 : (l.getD k (0, 0)).1 ≤ (l.getD (l.length - 1) (0, 0)).1 := by
      by_cases hkk : k = l.length - 1
      · rw [hkk]; exact Int.le_refl _
      · have := good_lt hg k (l.length - 1) (by omega) (by omega)
        rw [antLt_iff] at this
        omega
    simp only [okAt, Bool.and_eq_true] at *
    refine ⟨?_, h6.2⟩
    have h8 := h6.1
    rw [isAntB_iff] at *
    omega
  · intro h
    have hl := ciB_len h
    simp only [cirB, Bool.and_eq_true, Bool.or_eq_true, decide_eq_true_eq, beq_iff_eq]
    refine ⟨hl.2.1, ciB_good h, ?_⟩
    by_cases h0 : l.length = 0
    · exact .inl h0
    · have := ciB_ant h (k := l.length - 1) (by omega)
      exact .inr (by omega)

set_option maxRecDepth 100000 in
set_option maxHeartbeats 1000000 in
theorem isCircle_at (L : Int) (A : Option Addr) (c n : Nat) (l : List (Int × Int)) (hn : l.length = n) (w : World) (hA : AntsAt w A l) :
    Calls Tryd.prog 39 #[.agg #[.int .i64 L, .slice A n c]] w fun e w' => e = .returned (.bool (ciB L l)) ∧ Below w.heap.size w w' := by
  have HV := Lib.hid (cirB_eq L l).symm
  have HA := Lib.hid (hA.alloc (Obj.cells #[Value.int IntKind.i64 L, Value.slice A n c] 30))
  clear hA
  by_cases h4 : L ≤ 400
  · have d1 : decide (400 < L) = false := by simp; omega
    cases hg : goodB L l with
    | false =>
      have HC : Hid (cirB L l = false) := by show _ = _; simp [cirB, hg]
      have HG : Hid (∀ w, AntsAt w A l → Calls Tryd.prog 33 #[.agg #[.int .i64 L, .slice A n c]] w fun e w' => e = .returned (.bool false) ∧ Below w.heap.size w w') := fun w h => by
        rw [← hg, ← hn]; exact isRod_any L A c l w h
      clear hg hn
      go_enter Tryd.func39, Tryd.ntmps39
      go_wp2_with fail
      refine (HG.out _ HA.out).mono ?_
      rintro e w1 ⟨rfl, hb⟩
      go_wp2
      go_ret
      exact ⟨ret_bool (by rw [HV.out, HC.out]), ((Below.refl _ _).alloc (Nat.le_refl _) _).trans (hb.mono (by simp))⟩
    | true =>
      have HG : Hid (∀ w, AntsAt w A l → Calls Tryd.prog 33 #[.agg #[.int .i64 L, .slice A n c]] w fun e w' => e = .returned (.bool true) ∧ Below w.heap.size w w') := fun w h => by
        rw [← hg, ← hn]; exact isRod_any L A c l w h
      have hlen := good_len hg
      have HC : Hid (cirB L l = (l.length == 0 || decide ((l.getD (l.length - 1) (0, 0)).1 < L))) := by show _ = _; simp [cirB, hg, h4]
      have HL := Lib.hid hn
      clear hg
      go_enter Tryd.func39, Tryd.ntmps39
      go_wp2_with fail
      refine (HG.out _ HA.out).mono ?_
      rintro e w1 ⟨rfl, hb⟩
      have c0 : w1.cell? ⟨w.heap.size, 0, none⟩ = some (.int .i64 L) := by rw [hb.cell (p := ⟨w.heap.size, 0, none⟩) (by simp)]; simp
      have c1 : w1.cell? ⟨w.heap.size, 1, none⟩ = some (.slice A n c) := by rw [hb.cell (p := ⟨w.heap.size, 1, none⟩) (by simp)]; simp
      have HB := Lib.hid (((Below.refl _ w).alloc (Nat.le_refl _) _).trans (hb.mono (by simp)))
      have HA1 := Lib.hid (HA.out.below hb)
      clear hb
      cases n with
      | zero =>
        have hz : (((0 : Nat) : Int) == 0) = true := by decide
        go_wp2
        go_quiet (fail)
        go_wp2
        go_ret
        exact ⟨ret_bool (by rw [HV.out, HC.out, HL.out]; rfl), ⟨HB.out.os, HB.out.tape, HB.out.output, HB.out.size, HB.out.block⟩⟩
      | succ k =>
        have hkl : k < l.length := by omega
        obtain ⟨b, off, rfl, l0, hc⟩ := HA1.out.at_ hkl
        obtain ⟨a0, a1⟩ := hc k hkl
        have hz : ((k : Int) + 1 == 0) = false := by simp; omega
        have hz2 : (((k + 1 : Nat) : Int) == 0) = false := by simp; omega
        have hw : IntKind.i64.wrap (((k + 1 : Nat) : Int) - 1) = (k : Int) := by rw [IntWalk.i64_in _ (by omega)]; omega
        have hw2 : IntKind.i64.wrap ((k : Int) + 1 - 1) = (k : Int) := by rw [IntWalk.i64_in _ (by omega)]; omega
        have hw3 : IntKind.i64.wrap (k : Int) = (k : Int) := IntWalk.i64_in _ (by omega)
        have hj0 : (0 : Int) ≤ (k : Int) := by omega
        have hj1 : (k : Int) < ((k + 1 : Nat) : Int) := by omega
        have HX : Hid (cirB L l = decide ((l.getD k (0, 0)).1 < L)) := by
          show _ = _
          rw [HC.out, HL.out, Nat.add_sub_cancel]
          rfl
        clear hc
        generalize l.getD k (0, 0) = x at *
        obtain ⟨x1, x2⟩ := x
        simp only at a0 a1
        clear hn hkl
        go_wp2
        go_quiet (fail)
        go_wp2
        go_ret
        exact ⟨ret_bool (by rw [HV.out, HX.out]), ⟨HB.out.os, HB.out.tape, HB.out.output, HB.out.size, HB.out.block⟩⟩
  · have d1 : decide (400 < L) = true := by simp; omega
    have HC : Hid (cirB L l = false) := by show _ = _; simp [cirB, h4]
    go_enter Tryd.func39, Tryd.ntmps39
    go_wp2
    go_ret
    exact ⟨ret_bool (by rw [HV.out, HC.out]), (Below.refl _ _).alloc (Nat.le_refl _) _⟩

theorem isCircle_any (L : Int) (A : Option Addr) (c : Nat) (l : List (Int × Int)) (w : World) (hA : AntsAt w A l) :
    Calls Tryd.prog 39 #[.agg #[.int .i64 L, .slice A l.length c]] w fun e w' => e = .returned (.bool (ciB L l)) ∧ Below w.heap.size w w' := isCircle_at L A c _ l rfl w hA
end Go.Proofs.YtpchgmcegholoaaDoor
