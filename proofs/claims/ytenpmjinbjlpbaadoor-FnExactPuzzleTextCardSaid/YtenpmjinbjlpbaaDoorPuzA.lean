/- Clues on the model's side: pzLength, pzClue, IsClue. -/
import Derived.Test.YtenpmjinbjlpbaaDoorPuz
namespace Go.Proofs.YtenpmjinbjlpbaaDoor
open Go.RowKit

theorem inB_any (n lo hi : Int) (w : World) :
    Calls Tryd.prog 90 #[.int .i64 n, .int .i64 lo, .int .i64 hi] w fun e w' => e = .returned (.bool (inB n lo hi)) ∧ w = w' := in_any n lo hi w
theorem inB_at (n lo hi : Int) (r : Bool) (hr : inB n lo hi = r) (w : World) :
    Calls Tryd.prog 90 #[.int .i64 n, .int .i64 lo, .int .i64 hi] w fun e w' => e = .returned (.bool r) ∧ w = w' := by
  subst hr; exact in_any n lo hi w
theorem hdr0 (L : Int) : hdr L 0 = (inB L 2 1000 && L % 2 == 0) := by unfold hdr inB; simp

set_option maxHeartbeats 400000 in
theorem pzLength_any (L : Int) (w : World) :
    Calls Tryd.prog 100 #[.int .i64 L] w fun e w' => e = .returned (.bool (hdr L 0)) ∧ w = w' := by
  cases h1 : inB L 2 1000 with
  | false =>
    have HV : Hid (hdr L 0 = false) := by show _ = _; rw [hdr0, h1]; rfl
    have HI := Lib.hid (fun w => inB_at L 2 1000 false h1 w)
    clear h1
    go_enter Tryd.func100, Tryd.ntmps100
    go_wp2_with (go_at_call 90; refine (HI.out _).mono ?_; rintro e w' ⟨rfl, rfl⟩)
    go_ret
    exact ⟨ret_bool HV.out.symm, rfl⟩
  | true =>
    have HI := Lib.hid (fun w => inB_at L 2 1000 true h1 w)
    have HV : Hid ((Int.tmod L 2 == 0) = hdr L 0) := by
      show _ = _
      rw [hdr0, h1, Int.tmod_eq_emod_of_nonneg (by have := (inB_iff _ _ _).1 h1; omega)]; rfl
    clear h1
    go_enter Tryd.func100, Tryd.ntmps100
    go_wp2_with (go_at_call 90; refine (HI.out _).mono ?_; rintro e w' ⟨rfl, rfl⟩)
    go_ret
    exact ⟨ret_bool HV.out, rfl⟩
theorem pzLength_at (L : Int) (r : Bool) (hr : hdr L 0 = r) (w : World) :
    Calls Tryd.prog 100 #[.int .i64 L] w fun e w' => e = .returned (.bool r) ∧ w = w' := by
  subst hr; exact pzLength_any L w

set_option maxRecDepth 100000 in
set_option maxHeartbeats 1000000 in
theorem pzClue_0 (n a b : Int) (w : World) (_ : 1 ≤ n) (_ : n ≤ 16) :
    Calls Tryd.prog 69 #[.int .i64 n, .agg #[.int .i64 0, .int .i64 a, .int .i64 b]] w fun e w' => e = .returned (.bool (clB n 0 a b)) ∧ Below w.heap.size w w' := by
  cases h1 : inB a 0 (n - 1) with
  | false =>
    have HV : Hid (clB n 0 a b = false) := by show _ = _; unfold clB; simp [h1]
    have HI := Lib.hid (fun w => inB_at a 0 (n - 1) false h1 w)
    clear h1
    go_enter Tryd.func69, Tryd.ntmps69
    go_wp2_with fail
    refine (HI.out _).mono ?_
    rintro e w' ⟨rfl, rfl⟩
    go_wp2
    go_ret
    exact ⟨ret_bool HV.out.symm, (Below.refl _ _).alloc (Nat.le_refl _) _⟩
  | true =>
    have HI := Lib.hid (fun w => inB_at a 0 (n - 1) true h1 w)
    cases h2 : inB b 0 1 with
    | false =>
      have HV : Hid (clB n 0 a b = false) := by show _ = _; unfold clB; simp [h2]
      have HJ := Lib.hid (fun w => inB_at b 0 1 false h2 w)
      clear h1 h2
      go_enter Tryd.func69, Tryd.ntmps69
      go_wp2_with fail
      refine (HI.out _).mono ?_
      rintro e w' ⟨rfl, rfl⟩
      go_wp2_with fail
      refine (HJ.out _).mono ?_
      rintro e w' ⟨rfl, rfl⟩
      go_wp2
      go_ret
      exact ⟨ret_bool HV.out.symm, (Below.refl _ _).alloc (Nat.le_refl _) _⟩
    | true =>
      have HV : Hid (clB n 0 a b = true) := by show _ = _; unfold clB; simp [h1, h2]
      have HJ := Lib.hid (fun w => inB_at b 0 1 true h2 w)
      clear h1 h2
      go_enter Tryd.func69, Tryd.ntmps69
      go_wp2_with fail
      refine (HI.out _).mono ?_
      rintro e w' ⟨rfl, rfl⟩
      go_wp2_with fail
      refine (HJ.out _).mono ?_
      rintro e w' ⟨rfl, rfl⟩
      go_wp2
      go_ret
      exact ⟨ret_bool HV.out.symm, (Below.refl _ _).alloc (Nat.le_refl _) _⟩
set_option maxRecDepth 100000 in
set_option maxHeartbeats 1000000 in
theorem pzClue_1 (n a b : Int) (w : World) (_ : 1 ≤ n) (_ : n ≤ 16) :
    Calls Tryd.prog 69 #[.int .i64 n, .agg #[.int .i64 1, .int .i64 a, .int .i64 b]] w fun e w' => e = .returned (.bool (clB n 1 a b)) ∧ Below w.heap.size w w' := by
  cases h1 : inB a 0 n with
  | false =>
    have HV : Hid (clB n 1 a b = false) := by show _ = _; unfold clB; simp [h1]
    have HI := Lib.hid (fun w => inB_at a 0 n false h1 w)
    clear h1
    go_enter Tryd.func69, Tryd.ntmps69
    go_wp2_with fail
    refine (HI.out _).mono ?_
    rintro e w' ⟨rfl, rfl⟩
    go_wp2
    go_ret
    exact ⟨ret_bool HV.out.symm, (Below.refl _ _).alloc (Nat.le_refl _) _⟩
  | true =>
    have HI := Lib.hid (fun w => inB_at a 0 n true h1 w)
    by_cases hb : b = 0
    · have HV : Hid (clB n 1 a b = true) := by show _ = _; unfold clB; simp [h1, hb]
      subst hb
      clear h1
      go_enter Tryd.func69, Tryd.ntmps69
      go_wp2_with fail
      refine (HI.out _).mono ?_
      rintro e w' ⟨rfl, rfl⟩
      go_wp2
      go_ret
      exact ⟨ret_bool HV.out.symm, (Below.refl _ _).alloc (Nat.le_refl _) _⟩
    · have e1 : (b == 0) = false := by simpa using hb
      have HV : Hid (clB n 1 a b = false) := by show _ = _; unfold clB; simp [e1]
      clear h1 hb
      go_enter Tryd.func69, Tryd.ntmps69
      go_wp2_with fail
      refine (HI.out _).mono ?_
      rintro e w' ⟨rfl, rfl⟩
      go_wp2
      go_ret
      exact ⟨ret_bool HV.out.symm, (Below.refl _ _).alloc (Nat.le_refl _) _⟩
set_option maxRecDepth 100000 in
set_option maxHeartbeats 1000000 in
theorem pzClue_2 (n a b : Int) (w : World) (_ : 1 ≤ n) (_ : n ≤ 16) :
    Calls Tryd.prog 69 #[.int .i64 n, .agg #[.int .i64 2, .int .i64 a, .int .i64 b]] w fun e w' => e = .returned (.bool (clB n 2 a b)) ∧ Below w.heap.size w w' := by
  cases h1 : inB a 0 100 with
  | false =>
    have HV : Hid (clB n 2 a b = false) := by show _ = _; unfold clB; simp [h1]
    have HI := Lib.hid (fun w => inB_at a 0 100 false h1 w)
    clear h1
    go_enter Tryd.func69, Tryd.ntmps69
    go_wp2_with fail
    refine (HI.out _).mono ?_
    rintro e w' ⟨rfl, rfl⟩
    go_wp2
    go_ret
    exact ⟨ret_bool HV.out.symm, (Below.refl _ _).alloc (Nat.le_refl _) _⟩
  | true =>
    have HI := Lib.hid (fun w => inB_at a 0 100 true h1 w)
    by_cases hb : b = 0
    · have HV : Hid (clB n 2 a b = true) := by show _ = _; unfold clB; simp [h1, hb]
      subst hb
      clear h1
      go_enter Tryd.func69, Tryd.ntmps69
      go_wp2_with fail
      refine (HI.out _).mono ?_
      rintro e w' ⟨rfl, rfl⟩
      go_wp2
      go_ret
      exact ⟨ret_bool HV.out.symm, (Below.refl _ _).alloc (Nat.le_refl _) _⟩
    · have e1 : (b == 0) = false := by simpa using hb
      have HV : Hid (clB n 2 a b = false) := by show _ = _; unfold clB; simp [e1]
      clear h1 hb
      go_enter Tryd.func69, Tryd.ntmps69
      go_wp2_with fail
      refine (HI.out _).mono ?_
      rintro e w' ⟨rfl, rfl⟩
      go_wp2
      go_ret
      exact ⟨ret_bool HV.out.symm, (Below.refl _ _).alloc (Nat.le_refl _) _⟩
set_option maxRecDepth 100000 in
set_option maxHeartbeats 1000000 in
theorem pzClue_3 (n a b : Int) (w : World) (_ : 1 ≤ n) (_ : n ≤ 16) :
    Calls Tryd.prog 69 #[.int .i64 n, .agg #[.int .i64 3, .int .i64 a, .int .i64 b]] w fun e w' => e = .returned (.bool (clB n 3 a b)) ∧ Below w.heap.size w w' := by
  cases h1 : inB a 0 1000 with
  | false =>
    have HV : Hid (clB n 3 a b = false) := by show _ = _; unfold clB; simp [h1]
    have HI := Lib.hid (fun w => inB_at a 0 1000 false h1 w)
    clear h1
    go_enter Tryd.func69, Tryd.ntmps69
    go_wp2_with fail
    refine (HI.out _).mono ?_
    rintro e w' ⟨rfl, rfl⟩
    go_wp2
    go_ret
    exact ⟨ret_bool HV.out.symm, (Below.refl _ _).alloc (Nat.le_refl _) _⟩
  | true =>
    have HI := Lib.hid (fun w => inB_at a 0 1000 true h1 w)
    by_cases hb : b = 0
    · have HV : Hid (clB n 3 a b = true) := by show _ = _; unfold clB; simp [h1, hb]
      subst hb
      clear h1
      go_enter Tryd.func69, Tryd.ntmps69
      go_wp2_with fail
      refine (HI.out _).mono ?_
      rintro e w' ⟨rfl, rfl⟩
      go_wp2
      go_ret
      exact ⟨ret_bool HV.out.symm, (Below.refl _ _).alloc (Nat.le_refl _) _⟩
    · have e1 : (b == 0) = false := by simpa using hb
      have HV : Hid (clB n 3 a b = false) := by show _ = _; unfold clB; simp [e1]
      clear h1 hb
      go_enter Tryd.func69, Tryd.ntmps69
      go_wp2_with fail
      refine (HI.out _).mono ?_
      rintro e w' ⟨rfl, rfl⟩
      go_wp2
      go_ret
      exact ⟨ret_bool HV.out.symm, (Below.refl _ _).alloc (Nat.le_refl _) _⟩
set_option maxRecDepth 100000 in
set_option maxHeartbeats 1000000 in
theorem pzClue_4 (n a b : Int) (w : World) (_ : 1 ≤ n) (_ : n ≤ 16) :
    Calls Tryd.prog 69 #[.int .i64 n, .agg #[.int .i64 4, .int .i64 a, .int .i64 b]] w fun e w' => e = .returned (.bool (clB n 4 a b)) ∧ Below w.heap.size w w' := by
  cases h1 : inB a 0 (n - 1) with
  | false =>
    have HV : Hid (clB n 4 a b = false) := by show _ = _; unfold clB; simp [h1]
    have HI := Lib.hid (fun w => inB_at a 0 (n - 1) false h1 w)
    clear h1
    go_enter Tryd.func69, Tryd.ntmps69
    go_wp2_with fail
    refine (HI.out _).mono ?_
    rintro e w' ⟨rfl, rfl⟩
    go_wp2
    go_ret
    exact ⟨ret_bool HV.out.symm, (Below.refl _ _).alloc (Nat.le_refl _) _⟩
  | true =>
    have HI := Lib.hid (fun w => inB_at a 0 (n - 1) true h1 w)
    cases h2 : inB b 0 1000 with
    | false =>
      have HV : Hid (clB n 4 a b = false) := by show _ = _; unfold clB; simp [h2]
      have HJ := Lib.hid (fun w => inB_at b 0 1000 false h2 w)
      clear h1 h2
      go_enter Tryd.func69, Tryd.ntmps69
      go_wp2_with fail
      refine (HI.out _).mono ?_
      rintro e w' ⟨rfl, rfl⟩
      go_wp2_with fail
      refine (HJ.out _).mono ?_
      rintro e w' ⟨rfl, rfl⟩
      go_wp2
      go_ret
      exact ⟨ret_bool HV.out.symm, (Below.refl _ _).alloc (Nat.le_refl _) _⟩
    | true =>
      have HV : Hid (clB n 4 a b = true) := by show _ = _; unfold clB; simp [h1, h2]
      have HJ := Lib.hid (fun w => inB_at b 0 1000 true h2 w)
      clear h1 h2
      go_enter Tryd.func69, Tryd.ntmps69
      go_wp2_with fail
      refine (HI.out _).mono ?_
      rintro e w' ⟨rfl, rfl⟩
      go_wp2_with fail
      refine (HJ.out _).mono ?_
      rintro e w' ⟨rfl, rfl⟩
      go_wp2
      go_ret
      exact ⟨ret_bool HV.out.symm, (Below.refl _ _).alloc (Nat.le_refl _) _⟩
set_option maxRecDepth 100000 in
set_option maxHeartbeats 1000000 in
theorem pzClue_5 (n a b : Int) (w : World) (_ : 1 ≤ n) (_ : n ≤ 16) :
    Calls Tryd.prog 69 #[.int .i64 n, .agg #[.int .i64 5, .int .i64 a, .int .i64 b]] w fun e w' => e = .returned (.bool (clB n 5 a b)) ∧ Below w.heap.size w w' := by
  cases h1 : inB a 0 1000 with
  | false =>
    have HV : Hid (clB n 5 a b = false) := by show _ = _; unfold clB; simp [h1]
    have HI := Lib.hid (fun w => inB_at a 0 1000 false h1 w)
    clear h1
    go_enter Tryd.func69, Tryd.ntmps69
    go_wp2_with fail
    refine (HI.out _).mono ?_
    rintro e w' ⟨rfl, rfl⟩
    go_wp2
    go_ret
    exact ⟨ret_bool HV.out.symm, (Below.refl _ _).alloc (Nat.le_refl _) _⟩
  | true =>
    have HI := Lib.hid (fun w => inB_at a 0 1000 true h1 w)
    by_cases hev : a % 2 = 0
    · have e1 : (a % 2 == 0) = true := by simpa using hev
      have e2 : (Int.tmod a 2 == 0) = true := by rw [Int.tmod_eq_emod_of_nonneg (by have := (inB_iff _ _ _).1 h1; omega)]; exact e1
      cases h2 : inB b 0 n with
      | false =>
        have HV : Hid (clB n 5 a b = false) := by show _ = _; unfold clB; simp [h2]
        have HJ := Lib.hid (fun w => inB_at b 0 n false h2 w)
        clear h1 h2 hev
        go_enter Tryd.func69, Tryd.ntmps69
        go_wp2_with fail
        refine (HI.out _).mono ?_
        rintro e w' ⟨rfl, rfl⟩
        go_wp2_with fail
        refine (HJ.out _).mono ?_
        rintro e w' ⟨rfl, rfl⟩
        go_wp2
        go_ret
        exact ⟨ret_bool HV.out.symm, (Below.refl _ _).alloc (Nat.le_refl _) _⟩
      | true =>
        have HV : Hid (clB n 5 a b = true) := by show _ = _; unfold clB; simp [h1, h2, e1]
        have HJ := Lib.hid (fun w => inB_at b 0 n true h2 w)
        clear h1 h2 hev
        go_enter Tryd.func69, Tryd.ntmps69
        go_wp2_with fail
        refine (HI.out _).mono ?_
        rintro e w' ⟨rfl, rfl⟩
        go_wp2_with fail
        refine (HJ.out _).mono ?_
        rintro e w' ⟨rfl, rfl⟩
        go_wp2
        go_ret
        exact ⟨ret_bool HV.out.symm, (Below.refl _ _).alloc (Nat.le_refl _) _⟩
    · have e1 : (a % 2 == 0) = false := by simpa using hev
      have e2 : (Int.tmod a 2 == 0) = false := by rw [Int.tmod_eq_emod_of_nonneg (by have := (inB_iff _ _ _).1 h1; omega)]; exact e1
      have HV : Hid (clB n 5 a b = false) := by show _ = _; unfold clB; simp [e1]
      clear h1 hev
      go_enter Tryd.func69, Tryd.ntmps69
      go_wp2_with fail
      refine (HI.out _).mono ?_
      rintro e w' ⟨rfl, rfl⟩
      go_wp2
      go_ret
      exact ⟨ret_bool HV.out.symm, (Below.refl _ _).alloc (Nat.le_refl _) _⟩
set_option maxRecDepth 100000 in
set_option maxHeartbeats 1000000 in
theorem pzClue_no (n k a b : Int) (w : World) (_ : 1 ≤ n) (_ : n ≤ 16) (h0 : k ≠ 0) (h1 : k ≠ 1) (h2 : k ≠ 2) (h3 : k ≠ 3) (h4 : k ≠ 4) (h5 : k ≠ 5) :
    Calls Tryd.prog 69 #[.int .i64 n, .agg #[.int .i64 k, .int .i64 a, .int .i64 b]] w fun e w' => e = .returned (.bool (clB n k a b)) ∧ Below w.heap.size w w' := by
  have HV : Hid (clB n k a b = false) := by show _ = _; unfold clB; simp [h0, h1, h2, h3, h4, h5]
  have e0 : (k == 0) = false := by simpa using h0
  have e1 : (k == 1) = false := by simpa using h1
  have e2 : (k == 2) = false := by simpa using h2
  have e3 : (k == 3) = false := by simpa using h3
  have e4 : (k == 4) = false := by simpa using h4
  have e5 : (k == 5) = false := by simpa using h5
  clear h0 h1 h2 h3 h4 h5
  go_enter Tryd.func69, Tryd.ntmps69
  go_wp2
  go_ret
  exact ⟨ret_bool HV.out.symm, (Below.refl _ _).alloc (Nat.le_refl _) _⟩
theorem pzClue_any (n k a b : Int) (w : World) (hn0 : 1 ≤ n) (hn1 : n ≤ 16) :
    Calls Tryd.prog 69 #[.int .i64 n, .agg #[.int .i64 k, .int .i64 a, .int .i64 b]] w fun e w' => e = .returned (.bool (clB n k a b)) ∧ Below w.heap.size w w' := by
  by_cases h0 : k = 0
  · subst h0; exact pzClue_0 n a b w hn0 hn1
  by_cases h1 : k = 1
  · subst h1; exact pzClue_1 n a b w hn0 hn1
  by_cases h2 : k = 2
  · subst h2; exact pzClue_2 n a b w hn0 hn1
  by_cases h3 : k = 3
  · subst h3; exact pzClue_3 n a b w hn0 hn1
  by_cases h4 : k = 4
  · subst h4; exact pzClue_4 n a b w hn0 hn1
  by_cases h5 : k = 5
  · subst h5; exact pzClue_5 n a b w hn0 hn1
  exact pzClue_no n k a b w hn0 hn1 h0 h1 h2 h3 h4 h5
theorem pzClue_at (n k a b : Int) (r : Bool) (hr : clB n k a b = r) (w : World) (hn0 : 1 ≤ n) (hn1 : n ≤ 16) :
    Calls Tryd.prog 69 #[.int .i64 n, .agg #[.int .i64 k, .int .i64 a, .int .i64 b]] w fun e w' => e = .returned (.bool r) ∧ Below w.heap.size w w' := by
  subst hr; exact pzClue_any n k a b w hn0 hn1

end Go.Proofs.YtenpmjinbjlpbaaDoor
