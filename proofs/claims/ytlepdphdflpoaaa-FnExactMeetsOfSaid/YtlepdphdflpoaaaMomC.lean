/- Moments on both sides: what is a moment, what a time; how moments are compared; when a pair meets. -/
import Derived.Test.YtlepdphdflpoaaaLow
namespace Go.Proofs.Ytlepdphdflpoaaa
open Go.RowKit

theorem lowest_b (num den : Int) (w : World) (hd : 0 < den) (hd1 : den ≤ 1000000000000) (h0 : -1000000000000 ≤ num) (h1 : num ≤ 1000000000000) (a d : Int) (hl : lowP num den = (a, d)) :
    Calls Try.prog 66 #[.int .i64 num, .int .i64 den] w fun e w' => e = .returned (.agg #[.int .i64 a, .int .i64 d]) ∧ Below w.heap.size w w' := by
  have := lowest_any num den w hd hd1 h0 h1
  rwa [hl] at this

/-- not in the limits of moments -/
def momOut (n d : Int) : Prop := ¬ (-1000000 ≤ n ∧ n ≤ 1000000 ∧ 1 ≤ d ∧ d ≤ 1000)

set_option maxRecDepth 100000 in
set_option maxHeartbeats 2000000 in
theorem isMoment_any (n d : Int) (w : World) :
    Calls Try.prog 25 #[.agg #[.int .i64 n, .int .i64 d]] w fun e w' => e = .returned (.bool (momB n d)) ∧ Below w.heap.size w w' := by
  have f0 := Ext.cell (p := ⟨w.heap.size, 0, none⟩) (v := .int .i64 n) (W := (w.alloc (Obj.cells #[Value.int IntKind.i64 n, Value.int IntKind.i64 d] 32))) (by simp)
  have f1 := Ext.cell (p := ⟨w.heap.size, 1, none⟩) (v := .int .i64 d) (W := (w.alloc (Obj.cells #[Value.int IntKind.i64 n, Value.int IntKind.i64 d] 32))) (by simp)
  by_cases h1 : -1000000 ≤ n
  · by_cases h2 : n ≤ 1000000
    · by_cases h3 : 1 ≤ d
      · by_cases h4 : d ≤ 1000
        · have h0 : 0 < d := by omega
          by_cases hg : gcdN n d = 1
          · have HV : Hid (momB n d = true) := (momB_iff n d).2 ⟨h1, h2, h3, h4, hg⟩
            have HL : Hid (∀ w, Calls Try.prog 66 #[.int .i64 n, .int .i64 d] w fun e w' => e = .returned (.agg #[.int .i64 n, .int .i64 d]) ∧ Below w.heap.size w w') := fun w => lowest_b n d w h0 (by omega) (by omega) (by omega) n d ((lowP_self_iff h0).2 hg)
            clear hg h0
            go_enter Try.func25, Try.ntmps25
            go_wp2
            refine wp_region_ext (by kernel_rfl) (by kernel_rfl) ?_
            repeat (first | go_big_quiet_skip | (go_big_quiet_want; go_big_quiet_op; first | go_big_quiet_on | (apply Exists.intro; refine ⟨fun _ => ?_, ?_⟩; (go_at_call 66; with_reducible exact Ext.call (HL.out _)); go_big_quiet_on)))
            refine wpQuiet_nil ?_
            rintro _ ⟨x, rfl⟩
            go_wp2
            go_ret
            exact ⟨ret_bool HV.out.symm, ((Below.refl _ _).alloc (Nat.le_refl _) _).trans (x.h.mono (by simp))⟩
          · have HV : Hid (momB n d = false) := by
              show _ = _
              rw [← Bool.not_eq_true, momB_iff]; intro h; exact hg h.2.2.2.2
            have hne : (d == (lowP n d).2) = false := by
              have e := lowP_den n d
              have hp := gcdN_pos (num := n) h0
              have hq := lowP_pos (num := n) h0
              have h5 : ¬ d = (lowP n d).2 := by
                intro h
                rw [← h] at e
                have e3 : d * (gcdN n d : Int) = d * 1 := by omega
                have := Int.eq_of_mul_eq_mul_left (by omega) e3
                omega
              simpa using h5
            have HL : Hid (∀ w, Calls Try.prog 66 #[.int .i64 n, .int .i64 d] w fun e w' => e = .returned (.agg #[.int .i64 (lowP n d).1, .int .i64 (lowP n d).2]) ∧ Below w.heap.size w w') := fun w => lowest_any n d w h0 (by omega) (by omega) (by omega)
            clear hg h0
            generalize (lowP n d).1 = a at *
            generalize (lowP n d).2 = b at *
            go_enter Try.func25, Try.ntmps25
            go_wp2
            refine wp_region_ext (by kernel_rfl) (by kernel_rfl) ?_
            repeat (first | go_big_quiet_skip | (go_big_quiet_want; go_big_quiet_op; first | go_big_quiet_on | (apply Exists.intro; refine ⟨fun _ => ?_, ?_⟩; (go_at_call 66; with_reducible exact Ext.call (HL.out _)); go_big_quiet_on)))
            refine wpQuiet_nil ?_
            rintro _ ⟨x, rfl⟩
            go_wp2
            go_ret
            exact ⟨ret_bool (by rw [HV.out]), ((Below.refl _ _).alloc (Nat.le_refl _) _).trans (x.h.mono (by simp))⟩
        · have HV : Hid (momB n d = false) := by
            show _ = _
            rw [← Bool.not_eq_true, momB_iff]; omega
          have hd4 : decide (d ≤ 1000) = false := by simpa using h4
          go_enter Try.func25, Try.ntmps25
          go_wp2
          refine wp_region_ext (by kernel_rfl) (by kernel_rfl) ?_
          repeat (first | go_big_quiet_skip | (go_big_quiet_want; go_big_quiet_op; go_big_quiet_on))
          refine wpQuiet_nil ?_
          rintro _ ⟨x, rfl⟩
          go_wp2
          go_ret
          exact ⟨ret_bool HV.out.symm, ((Below.refl _ _).alloc (Nat.le_refl _) _).trans (x.h.mono (by simp))⟩
      · have HV : Hid (momB n d = false) := by
          show _ = _
          rw [← Bool.not_eq_true, momB_iff]; omega
        have hd4 : decide (1 ≤ d) = false := by simpa using h3
        go_enter Try.func25, Try.ntmps25
        go_wp2
        refine wp_region_ext (by kernel_rfl) (by kernel_rfl) ?_
        repeat (first | go_big_quiet_skip | (go_big_quiet_want; go_big_quiet_op; go_big_quiet_on))
        refine wpQuiet_nil ?_
        rintro _ ⟨x, rfl⟩
        go_wp2
        go_ret
        exact ⟨ret_bool HV.out.symm, ((Below.refl _ _).alloc (Nat.le_refl _) _).trans (x.h.mono (by simp))⟩
    · have HV : Hid (momB n d = false) := by
        show _ = _
        rw [← Bool.not_eq_true, momB_iff]; omega
      have hd4 : decide (n ≤ 1000000) = false := by simpa using h2
      go_enter Try.func25, Try.ntmps25
      go_wp2
      refine wp_region_ext (by kernel_rfl) (by kernel_rfl) ?_
      repeat (first | go_big_quiet_skip | (go_big_quiet_want; go_big_quiet_op; go_big_quiet_on))
      refine wpQuiet_nil ?_
      rintro _ ⟨x, rfl⟩
      go_wp2
      go_ret
      exact ⟨ret_bool HV.out.symm, ((Below.refl _ _).alloc (Nat.le_refl _) _).trans (x.h.mono (by simp))⟩
  · have HV : Hid (momB n d = false) := by
      show _ = _
      rw [← Bool.not_eq_true, momB_iff]; omega
    have hd4 : decide (-1000000 ≤ n) = false := by simpa using h1
    go_enter Try.func25, Try.ntmps25
    go_wp2
    refine wp_region_ext (by kernel_rfl) (by kernel_rfl) ?_
    repeat (first | go_big_quiet_skip | (go_big_quiet_want; go_big_quiet_op; go_big_quiet_on))
    refine wpQuiet_nil ?_
    rintro _ ⟨x, rfl⟩
    go_wp2
    go_ret
    exact ⟨ret_bool HV.out.symm, ((Below.refl _ _).alloc (Nat.le_refl _) _).trans (x.h.mono (by simp))⟩
end Go.Proofs.Ytlepdphdflpoaaa
