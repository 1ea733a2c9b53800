/- Puz, PuzA, PuzB, PuzC, PuzD, PuzE, PuzF, PuzG in one text. -/
import Derived.Test.YtiodlclaempihaaGreatPlac
import Derived.Test.YtiodlclaempihaaGreatZaA
import Derived.Test.YtiodlclaempihaaGreatBits
/- Puz -/
namespace Go.Proofs.YtiodlclaempihaaGreat
open Go.RowKit

def inB (x lo hi : Int) : Bool := decide (lo ≤ x) && decide (x ≤ hi)
theorem inB_iff (x lo hi : Int) : inB x lo hi = true ↔ lo ≤ x ∧ x ≤ hi := by unfold inB; simp
/-- what a clue of a rod with n ants is -/
def clB (n k a b : Int) : Bool :=
  if k = 0 then inB a 0 (n - 1) && inB b 0 1
  else if k = 1 then inB a 0 n && b == 0
  else if k = 2 then inB a 0 100 && b == 0
  else if k = 3 then inB a 0 1000 && b == 0
  else if k = 4 then inB a 0 (n - 1) && inB b 0 1000
  else if k = 5 then inB a 0 1000 && a % 2 == 0 && inB b 0 n
  else false
def pclB (n : Int) (c : Int × Int × Int) : Bool := clB n c.1 c.2.1 c.2.2
/-- what IsClue reports -/
def iclB (L n k a b : Int) : Bool := hdr L 0 && inB n 1 8 && clB n k a b
/-- numbers of 0..L that increase -/
def risAt (L : Int) (l : List Int) (k : Nat) : Bool := inB (l.getD k 0) 0 L && (k == 0 || decide (l.getD (k - 1) 0 < l.getD k 0))
def risB (L : Int) (l : List Int) : Bool := (List.range l.length).all (risAt L l)
def evAt (l : List Int) (k : Nat) : Bool := l.getD k 0 % 2 == 0
def evB (l : List Int) : Bool := (List.range l.length).all (evAt l)
theorem rowB_parts (L : Int) (l : List Int) : rowB L l = (risB L l && evB l) := by
  unfold rowB risB evB
  rw [Bool.eq_iff_iff]
  simp only [List.all_eq_true, Bool.and_eq_true]
  constructor
  · intro h
    refine ⟨fun k hk => ?_, fun k hk => ?_⟩
    · have := h k hk
      unfold numAt at this
      unfold risAt inB
      simp only [Bool.and_eq_true] at this ⊢
      exact ⟨⟨this.1.1.1, this.1.1.2⟩, this.2⟩
    · have := h k hk
      unfold numAt at this
      simp only [Bool.and_eq_true] at this
      exact this.1.2
  · rintro ⟨h1, h2⟩ k hk
    have h3 := h1 k hk
    have h4 := h2 k hk
    unfold risAt inB at h3
    unfold evAt at h4
    unfold numAt
    simp only [Bool.and_eq_true] at h3 ⊢
    exact ⟨⟨⟨h3.1.1, h3.1.2⟩, h4⟩, h3.2⟩
/-- places of at most 8 ants -/
def hplB (L : Int) (l : List Int) : Bool := hdr L 0 && inB l.length 1 8 && risB L l && evB l
theorem hplB_plB {L : Int} {l : List Int} (h : hplB L l = true) : plB L l = true := by
  unfold hplB at h
  simp only [Bool.and_eq_true] at h
  obtain ⟨⟨⟨h1, h2⟩, h3⟩, h4⟩ := h
  rw [inB_iff] at h2
  unfold plB
  rw [rowB_parts, h1, h3, h4]
  simp
  omega
def cluesB (n : Int) (cs : List (Int × Int × Int)) : Bool := cs.all (pclB n)
/-- what a puzzle is -/
def puzB (L : Int) (l : List Int) (cs : List (Int × Int × Int)) : Bool := hplB L l && decide (cs.length ≤ 6) && cluesB l.length cs
end Go.Proofs.YtiodlclaempihaaGreat

/- PuzA -/
namespace Go.Proofs.YtiodlclaempihaaGreat
open Go.RowKit

theorem inB_any (n lo hi : Int) (w : World) :
    Calls Tryz.prog 78 #[.int .i64 n, .int .i64 lo, .int .i64 hi] w fun e w' => e = .returned (.bool (inB n lo hi)) ∧ w = w' := in_any n lo hi w
theorem inB_at (n lo hi : Int) (r : Bool) (hr : inB n lo hi = r) (w : World) :
    Calls Tryz.prog 78 #[.int .i64 n, .int .i64 lo, .int .i64 hi] w fun e w' => e = .returned (.bool r) ∧ w = w' := by
  subst hr; exact in_any n lo hi w
theorem hdr0 (L : Int) : hdr L 0 = (inB L 2 1000 && L % 2 == 0) := by unfold hdr inB; simp

set_option maxHeartbeats 400000 in
theorem pzLength_any (L : Int) (w : World) :
    Calls Tryz.prog 77 #[.int .i64 L] w fun e w' => e = .returned (.bool (hdr L 0)) ∧ w = w' := by
  cases h1 : inB L 2 1000 with
  | false =>
    have HV : Hid (hdr L 0 = false) := by show _ = _; rw [hdr0, h1]; rfl
    have HI := Lib.hid (fun w => inB_at L 2 1000 false h1 w)
    clear h1
    go_enter Tryz.func77, Tryz.ntmps77
    go_wp2_with (go_at_call 78; refine (HI.out _).mono ?_; rintro e w' ⟨rfl, rfl⟩)
    go_ret
    exact ⟨ret_bool HV.out.symm, rfl⟩
  | true =>
    have HI := Lib.hid (fun w => inB_at L 2 1000 true h1 w)
    have HV : Hid ((Int.tmod L 2 == 0) = hdr L 0) := by
      show _ = _
      rw [hdr0, h1, Int.tmod_eq_emod_of_nonneg (by have := (inB_iff _ _ _).1 h1; omega)]; rfl
    clear h1
    go_enter Tryz.func77, Tryz.ntmps77
    go_wp2_with (go_at_call 78; refine (HI.out _).mono ?_; rintro e w' ⟨rfl, rfl⟩)
    go_ret
    exact ⟨ret_bool HV.out, rfl⟩
theorem pzLength_at (L : Int) (r : Bool) (hr : hdr L 0 = r) (w : World) :
    Calls Tryz.prog 77 #[.int .i64 L] w fun e w' => e = .returned (.bool r) ∧ w = w' := by
  subst hr; exact pzLength_any L w

set_option maxRecDepth 100000 in
set_option maxHeartbeats 1000000 in
theorem pzClue_0 (n a b : Int) (w : World) (_ : 1 ≤ n) (_ : n ≤ 16) :
    Calls Tryz.prog 61 #[.int .i64 n, .agg #[.int .i64 0, .int .i64 a, .int .i64 b]] w fun e w' => e = .returned (.bool (clB n 0 a b)) ∧ Below w.heap.size w w' := by
  cases h1 : inB a 0 (n - 1) with
  | false =>
    have HV : Hid (clB n 0 a b = false) := by show _ = _; unfold clB; simp [h1]
    have HI := Lib.hid (fun w => inB_at a 0 (n - 1) false h1 w)
    clear h1
    go_enter Tryz.func61, Tryz.ntmps61
    go_wp2_with fail
    refine (HI.out _).mono ?_
    rintro e w' ⟨rfl, rfl⟩
    go_wp2
    go_ret
    exact ⟨ret_bool HV.out.symm, (Below.refl _ _).alloc (Nat.le_refl _) _⟩
  | true =>
    have HI := Lib.hid (fun w => inB_at a 0 (n - 1) true h1 w)
    cases h2 : inB b 0 1 with
    | false =>
      have HV : Hid (clB n 0 a b = false) := by show _ = _; unfold clB; simp [h2]
      have HJ := Lib.hid (fun w => inB_at b 0 1 false h2 w)
      clear h1 h2
      go_enter Tryz.func61, Tryz.ntmps61
      go_wp2_with fail
      refine (HI.out _).mono ?_
      rintro e w' ⟨rfl, rfl⟩
      go_wp2_with fail
      refine (HJ.out _).mono ?_
      rintro e w' ⟨rfl, rfl⟩
      go_wp2
      go_ret
      exact ⟨ret_bool HV.out.symm, (Below.refl _ _).alloc (Nat.le_refl _) _⟩
    | true =>
      have HV : Hid (clB n 0 a b = true) := by show _ = _; unfold clB; simp [h1, h2]
      have HJ := Lib.hid (fun w => inB_at b 0 1 true h2 w)
      clear h1 h2
      go_enter Tryz.func61, Tryz.ntmps61
      go_wp2_with fail
      refine (HI.out _).mono ?_
      rintro e w' ⟨rfl, rfl⟩
      go_wp2_with fail
      refine (HJ.out _).mono ?_
      rintro e w' ⟨rfl, rfl⟩
      go_wp2
      go_ret
      exact ⟨ret_bool HV.out.symm, (Below.refl _ _).alloc (Nat.le_refl _) _⟩
set_option maxRecDepth 100000 in
set_option maxHeartbeats 1000000 in
theorem pzClue_1 (n a b : Int) (w : World) (_ : 1 ≤ n) (_ : n ≤ 16) :
    Calls Tryz.prog 61 #[.int .i64 n, .agg #[.int .i64 1, .int .i64 a, .int .i64 b]] w fun e w' => e = .returned (.bool (clB n 1 a b)) ∧ Below w.heap.size w w' := by
  cases h1 : inB a 0 n with
  | false =>
    have HV : Hid (clB n 1 a b = false) := by show _ = _; unfold clB; simp [h1]
    have HI := Lib.hid (fun w => inB_at a 0 n false h1 w)
    clear h1
    go_enter Tryz.func61, Tryz.ntmps61
    go_wp2_with fail
    refine (HI.out _).mono ?_
    rintro e w' ⟨rfl, rfl⟩
    go_wp2
    go_ret
    exact ⟨ret_bool HV.out.symm, (Below.refl _ _).alloc (Nat.le_refl _) _⟩
  | true =>
    have HI := Lib.hid (fun w => inB_at a 0 n true h1 w)
    by_cases hb : b = 0
    · have HV : Hid (clB n 1 a b = true) := by show _ = _; unfold clB; simp [h1, hb]
      subst hb
      clear h1
      go_enter Tryz.func61, Tryz.ntmps61
      go_wp2_with fail
      refine (HI.out _).mono ?_
      rintro e w' ⟨rfl, rfl⟩
      go_wp2
      go_ret
      exact ⟨ret_bool HV.out.symm, (Below.refl _ _).alloc (Nat.le_refl _) _⟩
    · have e1 : (b == 0) = false := by simpa using hb
      have HV : Hid (clB n 1 a b = false) := by show _ = _; unfold clB; simp [e1]
      clear h1 hb
      go_enter Tryz.func61, Tryz.ntmps61
      go_wp2_with fail
      refine (HI.out _).mono ?_
      rintro e w' ⟨rfl, rfl⟩
      go_wp2
      go_ret
      exact ⟨ret_bool HV.out.symm, (Below.refl _ _).alloc (Nat.le_refl _) _⟩
set_option maxRecDepth 100000 in
set_option maxHeartbeats 1000000 in
theorem pzClue_2 (n a b : Int) (w : World) (_ : 1 ≤ n) (_ : n ≤ 16) :
    Calls Tryz.prog 61 #[.int .i64 n, .agg #[.int .i64 2, .int .i64 a, .int .i64 b]] w fun e w' => e = .returned (.bool (clB n 2 a b)) ∧ Below w.heap.size w w' := by
  cases h1 : inB a 0 100 with
  | false =>
    have HV : Hid (clB n 2 a b = false) := by show _ = _; unfold clB; simp [h1]
    have HI := Lib.hid (fun w => inB_at a 0 100 false h1 w)
    clear h1
    go_enter Tryz.func61, Tryz.ntmps61
    go_wp2_with fail
    refine (HI.out _).mono ?_
    rintro e w' ⟨rfl, rfl⟩
    go_wp2
    go_ret
    exact ⟨ret_bool HV.out.symm, (Below.refl _ _).alloc (Nat.le_refl _) _⟩
  | true =>
    have HI := Lib.hid (fun w => inB_at a 0 100 true h1 w)
    by_cases hb : b = 0
    · have HV : Hid (clB n 2 a b = true) := by show _ = _; unfold clB; simp [h1, hb]
      subst hb
      clear h1
      go_enter Tryz.func61, Tryz.ntmps61
      go_wp2_with fail
      refine (HI.out _).mono ?_
      rintro e w' ⟨rfl, rfl⟩
      go_wp2
      go_ret
      exact ⟨ret_bool HV.out.symm, (Below.refl _ _).alloc (Nat.le_refl _) _⟩
    · have e1 : (b == 0) = false := by simpa using hb
      have HV : Hid (clB n 2 a b = false) := by show _ = _; unfold clB; simp [e1]
      clear h1 hb
      go_enter Tryz.func61, Tryz.ntmps61
      go_wp2_with fail
      refine (HI.out _).mono ?_
      rintro e w' ⟨rfl, rfl⟩
      go_wp2
      go_ret
      exact ⟨ret_bool HV.out.symm, (Below.refl _ _).alloc (Nat.le_refl _) _⟩
set_option maxRecDepth 100000 in
set_option maxHeartbeats 1000000 in
theorem pzClue_3 (n a b : Int) (w : World) (_ : 1 ≤ n) (_ : n ≤ 16) :
    Calls Tryz.prog 61 #[.int .i64 n, .agg #[.int .i64 3, .int .i64 a, .int .i64 b]] w fun e w' => e = .returned (.bool (clB n 3 a b)) ∧ Below w.heap.size w w' := by
  cases h1 : inB a 0 1000 with
  | false =>
    have HV : Hid (clB n 3 a b = false) := by show _ = _; unfold clB; simp [h1]
    have HI := Lib.hid (fun w => inB_at a 0 1000 false h1 w)
    clear h1
    go_enter Tryz.func61, Tryz.ntmps61
    go_wp2_with fail
    refine (HI.out _).mono ?_
    rintro e w' ⟨rfl, rfl⟩
    go_wp2
    go_ret
    exact ⟨ret_bool HV.out.symm, (Below.refl _ _).alloc (Nat.le_refl _) _⟩
  | true =>
    have HI := Lib.hid (fun w => inB_at a 0 1000 true h1 w)
    by_cases hb : b = 0
    · have HV : Hid (clB n 3 a b = true) := by show _ = _; unfold clB; simp [h1, hb]
      subst hb
      clear h1
      go_enter Tryz.func61, Tryz.ntmps61
      go_wp2_with fail
      refine (HI.out _).mono ?_
      rintro e w' ⟨rfl, rfl⟩
      go_wp2
      go_ret
      exact ⟨ret_bool HV.out.symm, (Below.refl _ _).alloc (Nat.le_refl _) _⟩
    · have e1 : (b == 0) = false := by simpa using hb
      have HV : Hid (clB n 3 a b = false) := by show _ = _; unfold clB; simp [e1]
      clear h1 hb
      go_enter Tryz.func61, Tryz.ntmps61
      go_wp2_with fail
      refine (HI.out _).mono ?_
      rintro e w' ⟨rfl, rfl⟩
      go_wp2
      go_ret
      exact ⟨ret_bool HV.out.symm, (Below.refl _ _).alloc (Nat.le_refl _) _⟩
set_option maxRecDepth 100000 in
set_option maxHeartbeats 1000000 in
theorem pzClue_4 (n a b : Int) (w : World) (_ : 1 ≤ n) (_ : n ≤ 16) :
    Calls Tryz.prog 61 #[.int .i64 n, .agg #[.int .i64 4, .int .i64 a, .int .i64 b]] w fun e w' => e = .returned (.bool (clB n 4 a b)) ∧ Below w.heap.size w w' := by
  cases h1 : inB a 0 (n - 1) with
  | false =>
    have HV : Hid (clB n 4 a b = false) := by show _ = _; unfold clB; simp [h1]
    have HI := Lib.hid (fun w => inB_at a 0 (n - 1) false h1 w)
    clear h1
    go_enter Tryz.func61, Tryz.ntmps61
    go_wp2_with fail
    refine (HI.out _).mono ?_
    rintro e w' ⟨rfl, rfl⟩
    go_wp2
    go_ret
    exact ⟨ret_bool HV.out.symm, (Below.refl _ _).alloc (Nat.le_refl _) _⟩
  | true =>
    have HI := Lib.hid (fun w => inB_at a 0 (n - 1) true h1 w)
    cases h2 : inB b 0 1000 with
    | false =>
      have HV : Hid (clB n 4 a b = false) := by show _ = _; unfold clB; simp [h2]
      have HJ := Lib.hid (fun w => inB_at b 0 1000 false h2 w)
      clear h1 h2
      go_enter Tryz.func61, Tryz.ntmps61
      go_wp2_with fail
      refine (HI.out _).mono ?_
      rintro e w' ⟨rfl, rfl⟩
      go_wp2_with fail
      refine (HJ.out _).mono ?_
      rintro e w' ⟨rfl, rfl⟩
      go_wp2
      go_ret
      exact ⟨ret_bool HV.out.symm, (Below.refl _ _).alloc (Nat.le_refl _) _⟩
    | true =>
      have HV : Hid (clB n 4 a b = true) := by show _ = _; unfold clB; simp [h1, h2]
      have HJ := Lib.hid (fun w => inB_at b 0 1000 true h2 w)
      clear h1 h2
      go_enter Tryz.func61, Tryz.ntmps61
      go_wp2_with fail
      refine (HI.out _).mono ?_
      rintro e w' ⟨rfl, rfl⟩
      go_wp2_with fail
      refine (HJ.out _).mono ?_
      rintro e w' ⟨rfl, rfl⟩
      go_wp2
      go_ret
      exact ⟨ret_bool HV.out.symm, (Below.refl _ _).alloc (Nat.le_refl _) _⟩
set_option maxRecDepth 100000 in
set_option maxHeartbeats 1000000 in
theorem pzClue_5 (n a b : Int) (w : World) (_ : 1 ≤ n) (_ : n ≤ 16) :
    Calls Tryz.prog 61 #[.int .i64 n, .agg #[.int .i64 5, .int .i64 a, .int .i64 b]] w fun e w' => e = .returned (.bool (clB n 5 a b)) ∧ Below w.heap.size w w' := by
  cases h1 : inB a 0 1000 with
  | false =>
    have HV : Hid (clB n 5 a b = false) := by show _ = _; unfold clB; simp [h1]
    have HI := Lib.hid (fun w => inB_at a 0 1000 false h1 w)
    clear h1
    go_enter Tryz.func61, Tryz.ntmps61
    go_wp2_with fail
    refine (HI.out _).mono ?_
    rintro e w' ⟨rfl, rfl⟩
    go_wp2
    go_ret
    exact ⟨ret_bool HV.out.symm, (Below.refl _ _).alloc (Nat.le_refl _) _⟩
  | true =>
    have HI := Lib.hid (fun w => inB_at a 0 1000 true h1 w)
    by_cases hev : a % 2 = 0
    · have e1 : (a % 2 == 0) = true := by simpa using hev
      have e2 : (Int.tmod a 2 == 0) = true := by rw [Int.tmod_eq_emod_of_nonneg (by have := (inB_iff _ _ _).1 h1; omega)]; exact e1
      cases h2 : inB b 0 n with
      | false =>
        have HV : Hid (clB n 5 a b = false) := by show _ = _; unfold clB; simp [h2]
        have HJ := Lib.hid (fun w => inB_at b 0 n false h2 w)
        clear h1 h2 hev
        go_enter Tryz.func61, Tryz.ntmps61
        go_wp2_with fail
        refine (HI.out _).mono ?_
        rintro e w' ⟨rfl, rfl⟩
        go_wp2_with fail
        refine (HJ.out _).mono ?_
        rintro e w' ⟨rfl, rfl⟩
        go_wp2
        go_ret
        exact ⟨ret_bool HV.out.symm, (Below.refl _ _).alloc (Nat.le_refl _) _⟩
      | true =>
        have HV : Hid (clB n 5 a b = true) := by show _ = _; unfold clB; simp [h1, h2, e1]
        have HJ := Lib.hid (fun w => inB_at b 0 n true h2 w)
        clear h1 h2 hev
        go_enter Tryz.func61, Tryz.ntmps61
        go_wp2_with fail
        refine (HI.out _).mono ?_
        rintro e w' ⟨rfl, rfl⟩
        go_wp2_with fail
        refine (HJ.out _).mono ?_
        rintro e w' ⟨rfl, rfl⟩
        go_wp2
        go_ret
        exact ⟨ret_bool HV.out.symm, (Below.refl _ _).alloc (Nat.le_refl _) _⟩
    · have e1 : (a % 2 == 0) = false := by simpa using hev
      have e2 : (Int.tmod a 2 == 0) = false := by rw [Int.tmod_eq_emod_of_nonneg (by have := (inB_iff _ _ _).1 h1; omega)]; exact e1
      have HV : Hid (clB n 5 a b = false) := by show _ = _; unfold clB; simp [e1]
      clear h1 hev
      go_enter Tryz.func61, Tryz.ntmps61
      go_wp2_with fail
      refine (HI.out _).mono ?_
      rintro e w' ⟨rfl, rfl⟩
      go_wp2
      go_ret
      exact ⟨ret_bool HV.out.symm, (Below.refl _ _).alloc (Nat.le_refl _) _⟩
set_option maxRecDepth 100000 in
set_option maxHeartbeats 1000000 in
theorem pzClue_no (n k a b : Int) (w : World) (_ : 1 ≤ n) (_ : n ≤ 16) (h0 : k ≠ 0) (h1 : k ≠ 1) (h2 : k ≠ 2) (h3 : k ≠ 3) (h4 : k ≠ 4) (h5 : k ≠ 5) :
    Calls Tryz.prog 61 #[.int .i64 n, .agg #[.int .i64 k, .int .i64 a, .int .i64 b]] w fun e w' => e = .returned (.bool (clB n k a b)) ∧ Below w.heap.size w w' := by
  have HV : Hid (clB n k a b = false) := by show _ = _; unfold clB; simp [h0, h1, h2, h3, h4, h5]
  have e0 : (k == 0) = false := by simpa using h0
  have e1 : (k == 1) = false := by simpa using h1
  have e2 : (k == 2) = false := by simpa using h2
  have e3 : (k == 3) = false := by simpa using h3
  have e4 : (k == 4) = false := by simpa using h4
  have e5 : (k == 5) = false := by simpa using h5
  clear h0 h1 h2 h3 h4 h5
  go_enter Tryz.func61, Tryz.ntmps61
  go_wp2
  go_ret
  exact ⟨ret_bool HV.out.symm, (Below.refl _ _).alloc (Nat.le_refl _) _⟩
theorem pzClue_any (n k a b : Int) (w : World) (hn0 : 1 ≤ n) (hn1 : n ≤ 16) :
    Calls Tryz.prog 61 #[.int .i64 n, .agg #[.int .i64 k, .int .i64 a, .int .i64 b]] w fun e w' => e = .returned (.bool (clB n k a b)) ∧ Below w.heap.size w w' := by
  by_cases h0 : k = 0
  · subst h0; exact pzClue_0 n a b w hn0 hn1
  by_cases h1 : k = 1
  · subst h1; exact pzClue_1 n a b w hn0 hn1
  by_cases h2 : k = 2
  · subst h2; exact pzClue_2 n a b w hn0 hn1
  by_cases h3 : k = 3
  · subst h3; exact pzClue_3 n a b w hn0 hn1
  by_cases h4 : k = 4
  · subst h4; exact pzClue_4 n a b w hn0 hn1
  by_cases h5 : k = 5
  · subst h5; exact pzClue_5 n a b w hn0 hn1
  exact pzClue_no n k a b w hn0 hn1 h0 h1 h2 h3 h4 h5
theorem pzClue_at (n k a b : Int) (r : Bool) (hr : clB n k a b = r) (w : World) (hn0 : 1 ≤ n) (hn1 : n ≤ 16) :
    Calls Tryz.prog 61 #[.int .i64 n, .agg #[.int .i64 k, .int .i64 a, .int .i64 b]] w fun e w' => e = .returned (.bool r) ∧ Below w.heap.size w w' := by
  subst hr; exact pzClue_any n k a b w hn0 hn1

end Go.Proofs.YtiodlclaempihaaGreat

/- PuzB -/
namespace Go.Proofs.YtiodlclaempihaaGreat
open Go.RowKit

set_option maxRecDepth 100000 in
set_option maxHeartbeats 2000000 in
theorem l1Rising_any (L : Int) (A : Option Addr) (c : Nat) (l : List Int) (w : World) (hn : (l.length : Int) ≤ 9223372036854775807) (hA : SlAt intS w A l) :
    Calls Tryz.prog 79 #[.slice A l.length c, .int .i64 0, .int .i64 L] w fun e w' => e = .returned (.bool (risB L l)) ∧ w = w' := by
  have HA := Lib.hid hA
  clear hA
  go_enter Tryz.func79, Tryz.ntmps79
  go_wp2
  go_loop [11] (fun i => ∃ k : Nat, k ≤ l.length ∧ i = .int .i64 k ∧ ∀ j, j < k → risAt L l j = true)
    (fun i => l.length - (intOf i).toNat)
  case atStart => exact ⟨0, Nat.zero_le _, rfl, fun j hj => absurd hj (by omega)⟩
  case round =>
    obtain ⟨k, hk, rfl, hall⟩ := hrel
    have HALL := Lib.hid hall
    clear hall
    by_cases hlt : k < l.length
    · obtain ⟨b, off, rfl, l0, hc⟩ := HA.out.int_at hlt
      have a0 := hc k _ (List.getElem?_eq_getElem hlt)
      have hp := hc (k - 1) _ (List.getElem?_eq_getElem (show k - 1 < l.length by omega))
      have hok : risAt L l k = (inB l[k] 0 L && (k == 0 || decide (l[k - 1] < l[k]))) := by
        unfold risAt
        rw [List.getD_eq_getElem?_getD, List.getD_eq_getElem?_getD, List.getElem?_eq_getElem hlt, List.getElem?_eq_getElem (show k - 1 < l.length by omega)]
        rfl
      clear hc
      generalize l[k] = x at *
      generalize l[k - 1] = y at *
      have HOK := Lib.hid hok
      clear hok
      have hkl : (k : Int) < (l.length : Int) := by omega
      cases hi : inB x 0 L with
      | true =>
        have HI := Lib.hid (fun w => inB_at x 0 L true hi w)
        have HIB := Lib.hid hi
        clear hi
        by_cases hk0 : 0 < k
        · have q1 : (0 : Int) < (k : Int) := by omega
          have q2 : (1 : Int) ≤ (k : Int) := by omega
          have q3 : ((k : Int) - 1).toNat = k - 1 := by omega
          have q4 : (k : Int) - 1 < (l.length : Int) := by omega
          by_cases h3 : x ≤ y
          · go_wp2_with (go_at_call 78; refine (HI.out _).mono ?_; rintro e w' ⟨rfl, rfl⟩)
            go_ret
            exact ⟨ret_bool (all_no hlt (by rw [HOK.out]; simp; omega)).symm, rfl⟩
          · go_wp2_with (go_at_call 78; refine (HI.out _).mono ?_; rintro e w' ⟨rfl, rfl⟩)
            go_round
            case rel => exact ⟨k + 1, by omega, by go_num, below_succ HALL.out (by rw [HOK.out, HIB.out]; simp; omega)⟩
            case measure => simp [intOf]; omega
        · have q1 : ¬ (0 : Int) < (k : Int) := by omega
          clear hp
          go_wp2_with (go_at_call 78; refine (HI.out _).mono ?_; rintro e w' ⟨rfl, rfl⟩)
          go_round
          case rel => exact ⟨k + 1, by omega, by go_num, below_succ HALL.out (by rw [HOK.out, HIB.out]; simp; omega)⟩
          case measure => simp [intOf]; omega
      | false =>
        have HI := Lib.hid (fun w => inB_at x 0 L false hi w)
        have HIB := Lib.hid hi
        clear hi hp
        go_wp2_with (go_at_call 78; refine (HI.out _).mono ?_; rintro e w' ⟨rfl, rfl⟩)
        go_ret
        exact ⟨ret_bool (all_no hlt (by rw [HOK.out, HIB.out]; rfl)).symm, rfl⟩
    · have hkl : ¬ (k : Int) < (l.length : Int) := by omega
      go_wp2
      go_ret
      exact ⟨ret_bool (all_yes (fun j hj => HALL.out j (by omega))).symm, rfl⟩
theorem l1Rising_at (L : Int) (A : Option Addr) (c : Nat) (l : List Int) (r : Bool) (hr : risB L l = r) (w : World) (hn : (l.length : Int) ≤ 9223372036854775807) (hA : SlAt intS w A l) :
    Calls Tryz.prog 79 #[.slice A l.length c, .int .i64 0, .int .i64 L] w fun e w' => e = .returned (.bool r) ∧ w = w' := by
  subst hr; exact l1Rising_any L A c l w hn hA

theorem risB_nn {L : Int} {l : List Int} (h : risB L l = true) {k : Nat} (hk : k < l.length) : 0 ≤ l[k] := by
  have := List.all_eq_true.1 h k (List.mem_range.2 hk)
  unfold risAt at this
  rw [Bool.and_eq_true, inB_iff, List.getD_eq_getElem?_getD, List.getElem?_eq_getElem hk] at this
  exact this.1.1
set_option maxRecDepth 100000 in
set_option maxHeartbeats 2000000 in
theorem pzPlaces_in (L : Int) (A : Option Addr) (c : Nat) (l : List Int) (w : World) (h1 : hdr L 0 = true) (h2 : inB l.length 1 8 = true) (h3 : risB L l = true) (hA : SlAt intS w A l) :
    Calls Tryz.prog 60 #[.int .i64 L, .slice A l.length c] w fun e w' => e = .returned (.bool (evB l)) ∧ w = w' := by
  have hln := (inB_iff _ _ _).1 h2
  have HL := Lib.hid (fun w => pzLength_at L true h1 w)
  have HI := Lib.hid (fun w => inB_at l.length 1 8 true h2 w)
  have HR := Lib.hid (fun w h => l1Rising_at L A c l true h3 w (by omega) h)
  have HNN := Lib.hid (fun k (hk : k < l.length) => risB_nn h3 hk)
  clear h1 h2 h3
  have HA := Lib.hid hA
  clear hA
  go_enter Tryz.func60, Tryz.ntmps60
  go_wp2_with fail
  refine (HL.out _).mono ?_
  rintro e w' ⟨rfl, rfl⟩
  go_wp2_with fail
  refine (HI.out _).mono ?_
  rintro e w' ⟨rfl, rfl⟩
  go_wp2_with fail
  refine (HR.out _ HA.out).mono ?_
  rintro e w' ⟨rfl, rfl⟩
  go_wp2
  go_loop [24] (fun i => ∃ k : Nat, k ≤ l.length ∧ i = .int .i64 k ∧ ∀ j, j < k → evAt l j = true)
    (fun i => l.length - (intOf i).toNat)
  case atStart => exact ⟨0, Nat.zero_le _, rfl, fun j hj => absurd hj (by omega)⟩
  case round =>
    obtain ⟨k, hk, rfl, hall⟩ := hrel
    have HALL := Lib.hid hall
    clear hall
    by_cases hlt : k < l.length
    · obtain ⟨b, off, rfl, l0, hc⟩ := HA.out.int_at hlt
      have a0 := hc k _ (List.getElem?_eq_getElem hlt)
      have hok : evAt l k = (l[k] % 2 == 0) := by
        unfold evAt
        rw [List.getD_eq_getElem?_getD, List.getElem?_eq_getElem hlt]
        rfl
      have hnn := HNN.out k hlt
      clear hc
      generalize l[k] = x at *
      have htm : Int.tmod x 2 = x % 2 := Int.tmod_eq_emod_of_nonneg hnn
      have HOK := Lib.hid hok
      clear hok
      have hkl : (k : Int) < (l.length : Int) := by omega
      by_cases h2 : x % 2 = 0
      · have e1 : (x % 2 == 0) = true := by simpa using h2
        have e2 : (x % 2 != 0) = false := by simpa using h2
        have HM := Lib.hid e1
        clear h2
        go_wp2
        go_round
        case rel => exact ⟨k + 1, by omega, by go_num, below_succ HALL.out (by rw [HOK.out]; exact HM.out)⟩
        case measure => simp [intOf]; omega
      · have e1 : (x % 2 == 0) = false := by simpa using h2
        have e2 : (x % 2 != 0) = true := by simpa using h2
        have HM := Lib.hid e1
        clear h2
        go_wp2
        go_ret
        exact ⟨ret_bool (all_no hlt (by rw [HOK.out]; exact HM.out)).symm, rfl⟩
    · have hkl : ¬ (k : Int) < (l.length : Int) := by omega
      go_wp2
      go_ret
      exact ⟨ret_bool (all_yes (fun j hj => HALL.out j (by omega))).symm, rfl⟩

set_option maxHeartbeats 1000000 in
theorem pzPlaces_any (L : Int) (A : Option Addr) (c : Nat) (l : List Int) (w : World) (hn : (l.length : Int) ≤ 9223372036854775807) (hA : SlAt intS w A l) :
    Calls Tryz.prog 60 #[.int .i64 L, .slice A l.length c] w fun e w' => e = .returned (.bool (hplB L l)) ∧ w = w' := by
  cases h1 : hdr L 0 with
  | false =>
    have HV : Hid (hplB L l = false) := by show _ = _; unfold hplB; simp [h1]
    have HL := Lib.hid (fun w => pzLength_at L false h1 w)
    clear h1 hA
    go_enter Tryz.func60, Tryz.ntmps60
    go_wp2_with (go_at_call 77; refine (HL.out _).mono ?_; rintro e w' ⟨rfl, rfl⟩)
    go_ret
    exact ⟨ret_bool HV.out.symm, rfl⟩
  | true =>
    have HL := Lib.hid (fun w => pzLength_at L true h1 w)
    cases h2 : inB l.length 1 8 with
    | false =>
      have HV : Hid (hplB L l = false) := by show _ = _; unfold hplB; simp [h2]
      have HI := Lib.hid (fun w => inB_at l.length 1 8 false h2 w)
      clear h1 h2 hA
      go_enter Tryz.func60, Tryz.ntmps60
      go_wp2_with (first | (go_at_call 77; refine (HL.out _).mono ?_; rintro e w' ⟨rfl, rfl⟩) | (go_at_call 78; refine (HI.out _).mono ?_; rintro e w' ⟨rfl, rfl⟩))
      go_ret
      exact ⟨ret_bool HV.out.symm, rfl⟩
    | true =>
      cases h3 : risB L l with
      | true =>
        have e : hplB L l = evB l := by unfold hplB; simp [h1, h2, h3]
        rw [e]
        exact pzPlaces_in L A c l w h1 h2 h3 hA
      | false =>
        have HV : Hid (hplB L l = false) := by show _ = _; unfold hplB; simp [h3]
        have HI := Lib.hid (fun w => inB_at l.length 1 8 true h2 w)
        have HR := Lib.hid (fun w h => l1Rising_at L A c l false h3 w hn h)
        have HA := Lib.hid hA
        clear h1 h2 h3 hA
        go_enter Tryz.func60, Tryz.ntmps60
        go_wp2_with (first | (go_at_call 77; refine (HL.out _).mono ?_; rintro e w' ⟨rfl, rfl⟩) | (go_at_call 78; refine (HI.out _).mono ?_; rintro e w' ⟨rfl, rfl⟩) | (go_at_call 79; refine (HR.out _ HA.out).mono ?_; rintro e w' ⟨rfl, rfl⟩))
        go_ret
        exact ⟨ret_bool HV.out.symm, rfl⟩
theorem pzPlaces_at (L : Int) (A : Option Addr) (c : Nat) (l : List Int) (r : Bool) (hr : hplB L l = r) (w : World) (hn : (l.length : Int) ≤ 9223372036854775807) (hA : SlAt intS w A l) :
    Calls Tryz.prog 60 #[.int .i64 L, .slice A l.length c] w fun e w' => e = .returned (.bool r) ∧ w = w' := by
  subst hr; exact pzPlaces_any L A c l w hn hA
end Go.Proofs.YtiodlclaempihaaGreat

/- PuzC -/
namespace Go.Proofs.YtiodlclaempihaaGreat
open Go.RowKit

theorem trip_at {w : World} {A : Option Addr} {l : List (Int × Int × Int)} (h : SlAt tripS w A l) {k : Nat} (hk : k < l.length) :
    ∃ b off, A = some ⟨b, off, none⟩ ∧ b < w.heap.size ∧ w.cell? ⟨b, off + k * 3, none⟩ = some (.int .i64 (l[k]'hk).1) ∧ w.cell? ⟨b, off + k * 3 + 1, none⟩ = some (.int .i64 (l[k]'hk).2.1) ∧ w.cell? ⟨b, off + k * 3 + 2, none⟩ = some (.int .i64 (l[k]'hk).2.2) := by
  obtain ⟨b, off, hA, hlt, hc⟩ := h.at_ hk
  have hx := List.getElem?_eq_getElem hk
  exact ⟨b, off, hA, hlt, hc k _ hx 0 (by decide), hc k _ hx 1 (by decide), hc k _ hx 2 (by decide)⟩
theorem clues_take {n : Int} {cs : List (Int × Int × Int)} {k : Nat} (hk : k < cs.length) (h : ∀ j, j < k → ∀ x, cs[j]? = some x → pclB n x = true) (hx : pclB n cs[k] = true) : ∀ j, j < k + 1 → ∀ x, cs[j]? = some x → pclB n x = true := by
  intro j hj x hjx
  by_cases he : j < k
  · exact h j he x hjx
  · obtain rfl : j = k := by omega
    rw [List.getElem?_eq_getElem hk] at hjx
    injection hjx with hjx
    rw [← hjx]; exact hx
theorem clues_yes {n : Int} {cs : List (Int × Int × Int)} (h : ∀ j, j < cs.length → ∀ x, cs[j]? = some x → pclB n x = true) : cluesB n cs = true := by
  unfold cluesB
  rw [List.all_eq_true]
  intro x hx
  obtain ⟨j, hj, rfl⟩ := List.getElem_of_mem hx
  exact h j hj _ (List.getElem?_eq_getElem hj)
theorem clues_no {n : Int} {cs : List (Int × Int × Int)} {k : Nat} (hk : k < cs.length) (hx : pclB n cs[k] = false) : cluesB n cs = false := by
  unfold cluesB
  rw [List.all_eq_false]
  exact ⟨_, List.getElem_mem hk, by rw [hx]; simp⟩

set_option maxRecDepth 100000 in
set_option maxHeartbeats 2000000 in
theorem pzGood_in (L : Int) (A C : Option Addr) (c d : Nat) (l : List Int) (cs : List (Int × Int × Int)) (w : World) (h1 : hplB L l = true) (h2 : cs.length ≤ 6) (hl : l.length ≤ 8) (hl0 : 1 ≤ l.length) (hA : SlAt intS w A l) (hC : SlAt tripS w C cs) :
    Calls Tryz.prog 43 #[.agg #[.int .i64 L, .slice A l.length c, .slice C cs.length d]] w fun e w' => e = .returned (.bool (cluesB l.length cs)) ∧ Below w.heap.size w w' := by
  have HA := Lib.hid (hA.alloc (Obj.cells #[Value.int IntKind.i64 L, Value.slice A l.length c, Value.slice C cs.length d] 32))
  have HC := Lib.hid (hC.alloc (Obj.cells #[Value.int IntKind.i64 L, Value.slice A l.length c, Value.slice C cs.length d] 32))
  have HP := Lib.hid (fun w h => pzPlaces_at L A c l true h1 w (by omega) h)
  have HCL := Lib.hid (fun k a b w => pzClue_any l.length k a b w (by omega) (by omega))
  clear hA hC h1
  have hc6 : (cs.length : Int) ≤ 6 := by omega
  go_enter Tryz.func43, Tryz.ntmps43
  go_wp2_with fail
  refine (HP.out _ HA.out).mono ?_
  rintro e w' ⟨rfl, rfl⟩
  go_wp2
  go_loopw [20] (fun i wr => ∃ k : Nat, k ≤ cs.length ∧ i = .int .i64 k ∧ Below w.heap.size w wr ∧ w.heap.size < wr.heap.size ∧ wr.cell? ⟨w.heap.size, 1, none⟩ = some (.slice A l.length c) ∧ SlAt tripS wr C cs ∧ ∀ j, j < k → ∀ x, cs[j]? = some x → pclB l.length x = true)
    (fun i _ => cs.length - (intOf i).toNat)
  case atStart => exact ⟨0, Nat.zero_le _, rfl, (Below.refl _ _).alloc (Nat.le_refl _) _, by simp, by simp [go_sem], HC.out, fun j hj => absurd hj (by omega)⟩
  case round =>
    obtain ⟨k, hk, rfl, hb, hsz, z1, hcs, hall⟩ := hrel
    have HB := Lib.hid hb
    have HALL := Lib.hid hall
    have HCS := Lib.hid hcs
    clear hall hb hcs
    by_cases hlt : k < cs.length
    · obtain ⟨b, off, rfl, l0, a0, a1, a2⟩ := trip_at HCS.out hlt
      have HT := Lib.hid (clues_take hlt HALL.out)
      have HN := Lib.hid (clues_no (n := l.length) hlt)
      generalize cs[k] = x at *
      obtain ⟨x1, x2, x3⟩ := x
      simp only at a0 a1 a2
      have hkl : (k : Int) < (cs.length : Int) := by omega
      cases hx : clB l.length x1 x2 x3 with
      | true =>
        have HX := Lib.hid (fun w => pzClue_at l.length x1 x2 x3 true hx w (by omega) (by omega))
        have HTX : Hid (pclB l.length (x1, x2, x3) = true) := hx
        clear hx
        go_wp2_with fail
        refine (HX.out _).mono ?_
        rintro e w1 ⟨rfl, hb1⟩
        have HB1 : Hid (Below wr.heap.size wr w1) := ((Below.refl _ _).alloc (Nat.le_refl _) _).trans (hb1.mono (by simp))
        have z1' : w1.cell? ⟨w.heap.size, 1, none⟩ = some (.slice A l.length c) := (HB1.out.cell (p := ⟨w.heap.size, 1, none⟩) (by simp; omega)).trans z1
        clear hb1
        go_wp2
        go_roundw
        case rel => exact ⟨k + 1, by omega, by go_num, HB.out.trans (HB1.out.mono (by omega)), by have := HB1.out.size; omega, z1', HCS.out.below HB1.out, HT.out HTX.out⟩
        case measure => simp [intOf]; omega
      | false =>
        have HX := Lib.hid (fun w => pzClue_at l.length x1 x2 x3 false hx w (by omega) (by omega))
        have HTX : Hid (pclB l.length (x1, x2, x3) = false) := hx
        clear hx
        go_wp2_with fail
        refine (HX.out _).mono ?_
        rintro e w1 ⟨rfl, hb1⟩
        have HB1 : Hid (Below wr.heap.size wr w1) := ((Below.refl _ _).alloc (Nat.le_refl _) _).trans (hb1.mono (by simp))
        clear hb1
        go_wp2
        go_ret
        exact ⟨ret_bool (HN.out HTX.out).symm, HB.out.trans (HB1.out.mono (by omega))⟩
    · have hkl : ¬ (k : Int) < (cs.length : Int) := by omega
      go_wp2
      go_ret
      exact ⟨ret_bool (clues_yes (fun j hj => HALL.out j (by omega))).symm, HB.out⟩

set_option maxHeartbeats 1000000 in
theorem pzGood_any (L : Int) (A C : Option Addr) (c d : Nat) (l : List Int) (cs : List (Int × Int × Int)) (w : World) (hn : (l.length : Int) ≤ 9223372036854775807) (hA : SlAt intS w A l) (hC : SlAt tripS w C cs) :
    Calls Tryz.prog 43 #[.agg #[.int .i64 L, .slice A l.length c, .slice C cs.length d]] w fun e w' => e = .returned (.bool (puzB L l cs)) ∧ Below w.heap.size w w' := by
  have HA := Lib.hid (hA.alloc (Obj.cells #[Value.int IntKind.i64 L, Value.slice A l.length c, Value.slice C cs.length d] 32))
  cases h1 : hplB L l with
  | false =>
    have HV : Hid (puzB L l cs = false) := by show _ = _; unfold puzB; simp [h1]
    have HP := Lib.hid (fun w h => pzPlaces_at L A c l false h1 w hn h)
    clear h1 hA hC
    go_enter Tryz.func43, Tryz.ntmps43
    go_wp2_with (go_at_call 60; refine (HP.out _ HA.out).mono ?_; rintro e w' ⟨rfl, rfl⟩)
    go_ret
    exact ⟨ret_bool HV.out.symm, (Below.refl _ _).alloc (Nat.le_refl _) _⟩
  | true =>
    by_cases h2 : cs.length ≤ 6
    · have hl := h1
      unfold hplB at hl
      simp only [Bool.and_eq_true] at hl
      have hl2 := (inB_iff _ _ _).1 hl.1.1.2
      have e : puzB L l cs = cluesB l.length cs := by unfold puzB; simp [h1, h2]
      rw [e]
      exact pzGood_in L A C c d l cs w h1 h2 (by omega) (by omega) hA hC
    · have HV : Hid (puzB L l cs = false) := by show _ = _; unfold puzB; simp [h2]
      have HP := Lib.hid (fun w h => pzPlaces_at L A c l true h1 w hn h)
      have hc6 : ¬ (cs.length : Int) ≤ 6 := by omega
      have hc7 : (6 : Int) < (cs.length : Int) := by omega
      clear h1 h2 hA hC
      go_enter Tryz.func43, Tryz.ntmps43
      go_wp2_with (go_at_call 60; refine (HP.out _ HA.out).mono ?_; rintro e w' ⟨rfl, rfl⟩)
      go_ret
      exact ⟨ret_bool HV.out.symm, (Below.refl _ _).alloc (Nat.le_refl _) _⟩
theorem pzGood_at (L : Int) (A C : Option Addr) (c d : Nat) (l : List Int) (cs : List (Int × Int × Int)) (r : Bool) (hr : puzB L l cs = r) (w : World) (hn : (l.length : Int) ≤ 9223372036854775807) (hA : SlAt intS w A l) (hC : SlAt tripS w C cs) :
    Calls Tryz.prog 43 #[.agg #[.int .i64 L, .slice A l.length c, .slice C cs.length d]] w fun e w' => e = .returned (.bool r) ∧ Below w.heap.size w w' := by
  subst hr; exact pzGood_any L A C c d l cs w hn hA hC
end Go.Proofs.YtiodlclaempihaaGreat

/- PuzD -/
namespace Go.Proofs.YtiodlclaempihaaGreat
open Go.RowKit

/-- the ants at places that go those ways -/
def rdP (l : List Int) (ys : List Int) : List (Int × Int) := l.zip ys
theorem rdP_snoc (l ys : List Int) (k : Nat) (x y : Int) (hx : l[k]? = some x) (hy : ys[k]? = some y) : (rdP l ys).take (k + 1) = (rdP l ys).take k ++ [(x, y)] := by
  have h : (rdP l ys)[k]? = some (x, y) := by
    unfold rdP
    rw [List.getElem?_zip_eq_some]
    exact ⟨hx, hy⟩
  obtain ⟨hk, h2⟩ := List.getElem?_eq_some_iff.1 h
  rw [List.take_succ_eq_append_getElem hk, h2]
theorem slAt_pairP {w : World} {g : Nat} {x y : Int} {e : TypeId} {m : Nat × Nat} (h : w.heap[g]? = some (.cells #[.int .i64 x, .int .i64 y] e m)) : SlAt pairS w (some ⟨g, 0, none⟩) [(x, y)] := by
  refine .inr ⟨g, 0, rfl, (Array.getElem?_eq_some_iff.1 h).1, fun k z hk j hj => ?_⟩
  cases k with
  | succ k => simp at hk
  | zero =>
    simp only [List.getElem?_cons_zero, Option.some.injEq] at hk
    subst hk
    simp only [Nat.zero_mul, Nat.zero_add]
    rw [cell_of_row w g j _ _ _ h, ← Array.getElem?_toList]
    rfl
theorem own_lenP {α : Type} {S : Shape α} {w : World} {B n c : Nat} {e : TypeId} {A : Option Addr} {l : List α} (h : SlOwn S w B e (.slice A n c) l) : n = l.length := by
  rcases h.2 with ⟨h', h0⟩ | ⟨g, cap, cur, hv, _⟩
  · simp only [Value.slice.injEq] at h'; omega
  · simp only [Value.slice.injEq] at hv; exact hv.2.1
/-- the ways that letters tell -/
def ysB (b : List UInt8) : List Int := b.map fun u => if u = 108 then -1 else 1
theorem ysB_len (b : List UInt8) : (ysB b).length = b.length := by simp [ysB]
theorem ysB_at (b : List UInt8) (k : Nat) (h : k < b.length) : (ysB b)[k]? = some (if (b.getD k 0).toNat = 108 then -1 else 1) := by
  unfold ysB
  rw [List.getElem?_map, List.getD_eq_getElem?_getD, List.getElem?_eq_getElem h]
  show some _ = some _
  congr 1
  show (if b[k] = 108 then (-1 : Int) else 1) = if (b[k]).toNat = 108 then -1 else 1
  by_cases hu : b[k] = 108
  · rw [if_pos hu, if_pos (by rw [hu]; rfl)]
  · rw [if_neg hu, if_neg (fun h2 => hu (UInt8.toNat_inj.mp (by rw [h2]; rfl)))]
theorem byte_at (s : ByteArray) : ∀ (n : Nat) (h : n < s.size), ((s[n]'h).toNat : Int) = ((s.data.toList.getD n 0).toNat : Int) := fun n h => by
  have h' : n < s.data.size := h
  rw [List.getD_eq_getElem?_getD, Array.getElem?_toList, Array.getElem?_eq_getElem h']
  rfl

set_option maxRecDepth 100000 in
set_option maxHeartbeats 2000000 in
theorem pzRod_any (L : Int) (A : Option Addr) (c : Nat) (l : List Int) (s : ByteArray) (w : World) (hn : l.length ≤ 12) (hs : s.size = l.length) (hA : SlAt intS w A l) :
    Calls Tryz.prog 62 #[.int .i64 L, .slice A l.length c, .string s] w fun e w' => ∃ A' n' c', e = .returned (.agg #[.int .i64 L, .slice A' n' c']) ∧ n' = l.length ∧ SlOwn pairS w' w.heap.size 90 (.slice A' n' c') (rdP l (ysB s.data.toList)) ∧ Below w.heap.size w w' := by
  obtain ⟨i0, hi, hz0, hz1, hz2⟩ := info_parts antI
  have HA := Lib.hid hA
  clear hA
  have hl0 : s.data.toList.length = s.size := Array.length_toList
  have hyl : (ysB s.data.toList).length = l.length := by rw [ysB_len, hl0, hs]
  have hrl : (rdP l (ysB s.data.toList)).length = l.length := by unfold rdP; rw [List.length_zip, hyl]; omega
  have HYA := Lib.hid (fun k (h : k < l.length) => ysB_at s.data.toList k (by rw [hl0, hs]; exact h))
  have HBT := Lib.hid (byte_at s)
  have HRL := Lib.hid hrl
  have HS := Lib.hid hs
  clear hrl hyl hl0
  generalize hys : ysB s.data.toList = ys at *
  clear hys
  go_enter Tryz.func62, Tryz.ntmps62
  go_wp2
  go_loopw [15] (fun i wr => ∃ (k : Nat) (A5 : Option Addr) (n5 c5 : Nat), k ≤ l.length ∧ i = .int .i64 k ∧ Below w.heap.size w wr ∧ w.heap.size + 1 < wr.heap.size ∧
      wr.cell? ⟨w.heap.size, 0, none⟩ = some (.int .i64 0) ∧ wr.cell? ⟨w.heap.size, 1, none⟩ = some (.slice none 0 0) ∧ wr.frozen? ⟨w.heap.size, 0, none⟩ = false ∧ wr.frozen? ⟨w.heap.size, 1, none⟩ = false ∧
      wr.cell? ⟨w.heap.size + 1, 0, none⟩ = some (.int .i64 L) ∧ wr.cell? ⟨w.heap.size + 1, 1, none⟩ = some (.slice A5 n5 c5) ∧ wr.frozen? ⟨w.heap.size + 1, 0, none⟩ = false ∧ wr.frozen? ⟨w.heap.size + 1, 1, none⟩ = false ∧
      SlOwn pairS wr (w.heap.size + 2) 90 (.slice A5 n5 c5) ((rdP l ys).take k))
    (fun i _ => l.length - (intOf i).toNat)
  case atStart => exact ⟨0, none, 0, 0, Nat.zero_le _, rfl, ((Below.refl _ _).alloc (Nat.le_refl _) _).alloc (by simp) _, by simp, by simp, by simp, by simp, by simp, by simp, by simp, by simp, by simp, SlOwn.nil _ _ _ _⟩
  case round =>
    obtain ⟨k, A5, n5, c5, hk, rfl, hb, hsz, z0, z1, y0, y1, r0, r1, g0, g1, hown⟩ := hrel
    have HB := Lib.hid hb
    have HO := Lib.hid hown
    clear hown
    by_cases hlt : k < l.length
    · obtain ⟨b, off, rfl, l0, hc⟩ := (HA.out.below hb).int_at hlt
      have a0 := hc k _ (List.getElem?_eq_getElem hlt)
      have hya := HYA.out k hlt
      have hsn := rdP_snoc l ys k _ _ (List.getElem?_eq_getElem hlt) hya
      have HTL : Hid (((rdP l ys).take k).length ≤ 12) := by have := HRL.out; show _ ≤ _; rw [List.length_take]; omega
      have hks : k < s.size := by omega
      have hbk := HBT.out k hks
      clear hc hya
      generalize l[k] = x at *
      have HSN := Lib.hid hsn
      clear hsn hb
      generalize (s.data.toList.getD k 0).toNat = u at *
      generalize (rdP l ys).take k = m at *
      have HW : Hid (∀ (W : World) (v : Value), Below (w.heap.size + 2) wr W → ((W.setCell ⟨w.heap.size + 1, 1, none⟩ v).cell? ⟨w.heap.size, 0, none⟩ = some (.int .i64 0) ∧ (W.setCell ⟨w.heap.size + 1, 1, none⟩ v).cell? ⟨w.heap.size, 1, none⟩ = some (.slice none 0 0) ∧
          (W.setCell ⟨w.heap.size + 1, 1, none⟩ v).frozen? ⟨w.heap.size, 0, none⟩ = false ∧ (W.setCell ⟨w.heap.size + 1, 1, none⟩ v).frozen? ⟨w.heap.size, 1, none⟩ = false ∧ (W.setCell ⟨w.heap.size + 1, 1, none⟩ v).cell? ⟨w.heap.size + 1, 0, none⟩ = some (.int .i64 L) ∧ (W.setCell ⟨w.heap.size + 1, 1, none⟩ v).cell? ⟨w.heap.size + 1, 1, none⟩ = some v ∧
          (W.setCell ⟨w.heap.size + 1, 1, none⟩ v).frozen? ⟨w.heap.size + 1, 0, none⟩ = false ∧ (W.setCell ⟨w.heap.size + 1, 1, none⟩ v).frozen? ⟨w.heap.size + 1, 1, none⟩ = false)) := by
        show ∀ _ _ _, _
        intro W v hW
        have t0 := (hW.cell (p := ⟨w.heap.size, 0, none⟩) (by simp)).trans z0
        have t1 := (hW.cell (p := ⟨w.heap.size, 1, none⟩) (by simp)).trans z1
        have t2 := (hW.frozen (p := ⟨w.heap.size, 0, none⟩) (by simp)).trans y0
        have t3 := (hW.frozen (p := ⟨w.heap.size, 1, none⟩) (by simp)).trans y1
        have t4 := (hW.cell (p := ⟨w.heap.size + 1, 0, none⟩) (by simp)).trans r0
        have t5 := (hW.cell (p := ⟨w.heap.size + 1, 1, none⟩) (by simp)).trans r1
        have t6 := (hW.frozen (p := ⟨w.heap.size + 1, 0, none⟩) (by simp)).trans g0
        have t7 := (hW.frozen (p := ⟨w.heap.size + 1, 1, none⟩) (by simp)).trans g1
        exact ⟨(World.cell?_setCell_other _ _ _ _ (by simp)).trans t0, (World.cell?_setCell_other _ _ _ _ (by simp)).trans t1, by simpa using t2, by simpa using t3, (World.cell?_setCell_other _ _ _ _ (by simp)).trans t4, World.cell?_setCell_same _ _ _ t5, by simpa using t6, by simpa using t7⟩
      have HF : Hid (∀ W : World, Below (w.heap.size + 2) wr W → W.cell? ⟨w.heap.size + 1, 1, none⟩ = some (.slice A5 n5 c5) ∧ W.frozen? ⟨w.heap.size + 1, 1, none⟩ = false) := fun W hW =>
        ⟨(hW.cell (p := ⟨w.heap.size + 1, 1, none⟩) (by simp)).trans r1, (hW.frozen (p := ⟨w.heap.size + 1, 1, none⟩) (by simp)).trans g1⟩
      by_cases hone : u = 108
      · have HY : Hid ((if u = 108 then (-1 : Int) else 1) = -1) := by show _ = _; rw [if_pos hone]
        have hu : (((s[k]'hks).toNat : Int) == 108) = true := by rw [hbk]; simp; omega
        clear hone hbk
        rw [HY.out] at HSN
        go_wp2_with (at_builtin; go_must (refine wpList_append_slsv pairS _ rfl _ _ 69 rfl (w.heap.size + 2) 90 i0 _ 16 Tryz.underlying69 hi hz0 hz1 hz2 rfl (by decide) _ m rfl (SlOwn.below HO.out ((Below.refl _ wr).alloc (Nat.le_refl _) _)) (some ⟨wr.heap.size, 0, none⟩) 1 1 [(x, -1)] rfl rfl (slAt_pairP (heap_new rfl)) (by have := HTL.out; simp only [List.length_cons, List.length_nil]; omega) (by simp; omega) ?_); intro A6 n6 k6 w6 hn6 hown6 hb6; have HO6 := Lib.hid hown6; have HB6 : Hid (Below (w.heap.size + 2) wr w6) := ((Below.refl _ wr).alloc (by omega) _).trans hb6; obtain ⟨p5, p6⟩ := HF.out w6 HB6.out; clear hn6 hown6 hb6)
        obtain ⟨t0, t1, t2, t3, t4, t5, t6, t7⟩ := HW.out w6 (.slice A6 n6 k6) HB6.out
        go_roundw
        case rel =>
          refine ⟨k + 1, A6, n6, k6, by omega, by go_num, (HB.out.trans (HB6.out.mono (by omega))).setCell (by simp) _, by have := HB6.out.size; simp; omega, t0, t1, t2, t3, t4, t5, t6, t7, ?_⟩
          rw [HSN.out]
          exact ownsRow_setCell_below HO6.out (by simp) _
        case measure => simp [intOf]; omega
      · have HY : Hid ((if u = 108 then (-1 : Int) else 1) = 1) := by show _ = _; rw [if_neg hone]
        have hu : (((s[k]'hks).toNat : Int) == 108) = false := by rw [hbk]; simp; omega
        clear hone hbk
        rw [HY.out] at HSN
        go_wp2_with (at_builtin; go_must (refine wpList_append_slsv pairS _ rfl _ _ 69 rfl (w.heap.size + 2) 90 i0 _ 16 Tryz.underlying69 hi hz0 hz1 hz2 rfl (by decide) _ m rfl (SlOwn.below HO.out ((Below.refl _ wr).alloc (Nat.le_refl _) _)) (some ⟨wr.heap.size, 0, none⟩) 1 1 [(x, 1)] rfl rfl (slAt_pairP (heap_new rfl)) (by have := HTL.out; simp only [List.length_cons, List.length_nil]; omega) (by simp; omega) ?_); intro A6 n6 k6 w6 hn6 hown6 hb6; have HO6 := Lib.hid hown6; have HB6 : Hid (Below (w.heap.size + 2) wr w6) := ((Below.refl _ wr).alloc (by omega) _).trans hb6; obtain ⟨p5, p6⟩ := HF.out w6 HB6.out; clear hn6 hown6 hb6)
        obtain ⟨t0, t1, t2, t3, t4, t5, t6, t7⟩ := HW.out w6 (.slice A6 n6 k6) HB6.out
        go_roundw
        case rel =>
          refine ⟨k + 1, A6, n6, k6, by omega, by go_num, (HB.out.trans (HB6.out.mono (by omega))).setCell (by simp) _, by have := HB6.out.size; simp; omega, t0, t1, t2, t3, t4, t5, t6, t7, ?_⟩
          rw [HSN.out]
          exact ownsRow_setCell_below HO6.out (by simp) _
        case measure => simp [intOf]; omega
    · obtain rfl : k = l.length := by omega
      have HE : Hid ((rdP l ys).take l.length = rdP l ys) := by show _ = _; rw [← HRL.out, List.take_length]
      rw [HE.out] at HO
      have HN : Hid (n5 = l.length) := (own_lenP HO.out).trans HRL.out
      go_wp2
      exact bodyPost_ret (v := .agg #[.int .i64 L, .slice A5 n5 c5]) (by simp [results, Tryz.results62, go_sem, z0, z1]) rfl ⟨A5, n5, c5, rfl, HN.out, ownsRow_base (ownsRow_setCell_below (ownsRow_setCell_below HO.out (by simp) _) (by simp) _) (by omega), (HB.out.setCell (by simp) _).setCell (by simp) _⟩
end Go.Proofs.YtiodlclaempihaaGreat

/- PuzE -/
namespace Go.Proofs.YtiodlclaempihaaGreat
open Go.RowKit

/-- how many times are beyond t -/
def onN (fs : List Int) (t : Int) : Nat := (fs.filter (fun f => decide (t < f))).length
theorem onN_snoc (fs : List Int) (x t : Int) : onN (fs ++ [x]) t = onN fs t + (if t < x then 1 else 0) := by
  unfold onN
  rw [List.filter_append, List.length_append]
  by_cases h : t < x <;> simp [h]
theorem onN_le (fs : List Int) (t : Int) : onN fs t ≤ fs.length := List.length_filter_le _ _

set_option maxRecDepth 100000 in
set_option maxHeartbeats 1000000 in
theorem pzOn_any (L t : Int) (A : Option Addr) (c : Nat) (l : List (Int × Int)) (w : World) (hg : goodB L l = true) (hA : AntsAt w A l) :
    Calls Tryz.prog 84 #[.agg #[.int .i64 L, .slice A l.length c], .int .i64 t] w fun e w' => e = .returned (.int .i64 (onN (fallsOf L l) t)) ∧ Below w.heap.size w w' := by
  have HA := Lib.hid (hA.alloc (Obj.cells #[Value.int IntKind.i64 L, Value.slice A l.length c] 71))
  have HF := Lib.hid (fun w h => roFalls_good L A c l w hg h)
  have hfl := fallsOf_len hg
  have hl16 := good_len hg
  clear hA hg
  generalize fallsOf L l = fs at *
  go_enter Tryz.func84, Tryz.ntmps84
  go_wp2_with fail
  refine (HF.out _ HA.out).mono ?_
  rintro e w1 ⟨A1, n1, c1, rfl, hn1, hown, hb⟩
  have HB0 : Hid (Below w.heap.size w w1) := ((Below.refl _ _).alloc (Nat.le_refl _) _).trans (hb.mono (by simp))
  have HS := Lib.hid hown.sl
  clear hown hb
  subst hn1
  have hf16 : (fs.length : Int) ≤ 16 := by omega
  clear hfl hl16
  go_wp2
  go_loop [5, 11] (fun v i => ∃ k : Nat, k ≤ fs.length ∧ i = .int .i64 k ∧ v = .int .i64 (onN (fs.take k) t))
    (fun _ i => fs.length - (intOf i).toNat)
  case atStart => exact ⟨0, Nat.zero_le _, rfl, by simp [onN]⟩
  case round =>
    obtain ⟨k, hk, rfl, rfl⟩ := hrel
    by_cases hlt : k < fs.length
    · obtain ⟨b, off, rfl, l0, hc⟩ := HS.out.int_at hlt
      have a0 := hc k _ (List.getElem?_eq_getElem hlt)
      have hsn : onN (fs.take (k + 1)) t = onN (fs.take k) t + (if t < fs[k] then 1 else 0) := by rw [List.take_succ_eq_append_getElem hlt, onN_snoc]
      have hle := onN_le (fs.take k) t
      have hle2 : (fs.take k).length ≤ k := List.length_take_le _ _
      have HSN := Lib.hid hsn
      clear hc hsn
      generalize fs[k] = x at *
      have hq : ((onN (fs.take k) t : Nat) : Int) ≤ 16 := by omega
      clear hle hle2
      generalize onN (fs.take k) t = q at *
      have hkl : (k : Int) < (fs.length : Int) := by omega
      by_cases hx : t < x
      · have HX : Hid (onN (fs.take (k + 1)) t = q + 1) := by show _ = _; rw [HSN.out, if_pos hx]
        go_wp2
        go_round
        case rel => exact ⟨k + 1, by omega, by go_num, by rw [HX.out]; go_num⟩
        case measure => simp [intOf]; omega
      · have HX : Hid (onN (fs.take (k + 1)) t = q) := by show _ = _; rw [HSN.out, if_neg hx]; rfl
        go_wp2
        go_round
        case rel => exact ⟨k + 1, by omega, by go_num, by rw [HX.out]⟩
        case measure => simp [intOf]; omega
    · obtain rfl : k = fs.length := by omega
      go_wp2
      go_ret
      exact ⟨ret_int rfl, HB0.out⟩
theorem pzOn_at (L t : Int) (A : Option Addr) (c : Nat) (l : List (Int × Int)) (n : Int) (hn : (onN (fallsOf L l) t : Int) = n) (w : World) (hg : goodB L l = true) (hA : AntsAt w A l) :
    Calls Tryz.prog 84 #[.agg #[.int .i64 L, .slice A l.length c], .int .i64 t] w fun e w' => e = .returned (.int .i64 n) ∧ Below w.heap.size w w' := by
  subst hn; exact pzOn_any L t A c l w hg hA
end Go.Proofs.YtiodlclaempihaaGreat

/- PuzF -/
namespace Go.Proofs.YtiodlclaempihaaGreat
open Go.RowKit

/-- whether a rod fits a clue -/
def fitB (L : Int) (l : List (Int × Int)) (k a b : Int) : Bool :=
  if k = 0 then (l.getD a.toNat (0, 0)).2 == 2 * b - 1
  else if k = 1 then (nL L l : Int) == a
  else if k = 2 then (mAll l).1 == a
  else if k = 3 then maxOf (fallsOf L l) == a
  else if k = 4 then (fallsOf L l).getD a.toNat 0 == b
  else (onN (fallsOf L l) a : Int) == b

set_option maxRecDepth 100000 in
set_option maxHeartbeats 1000000 in
theorem pzFits_1 (L a b : Int) (A : Option Addr) (c : Nat) (l : List (Int × Int)) (w : World) (_ : clB l.length 1 a b = true) (hg : goodB L l = true) (hA : AntsAt w A l) :
    Calls Tryz.prog 63 #[.agg #[.int .i64 1, .int .i64 a, .int .i64 b], .agg #[.int .i64 L, .slice A l.length c]] w fun e w' => e = .returned (.bool (fitB L l 1 a b)) ∧ Below w.heap.size w w' := by
  obtain ⟨W, hW⟩ : ∃ W, W = (w.alloc (Obj.cells #[Value.int IntKind.i64 1, Value.int IntKind.i64 a, Value.int IntKind.i64 b] 67)).alloc (Obj.cells #[Value.int IntKind.i64 L, Value.slice A l.length c] 71) := ⟨_, rfl⟩
  have k1 : W.cell? ⟨w.heap.size, 1, none⟩ = some (.int .i64 a) := by rw [hW]; simp [go_sem]
  have k2 : W.cell? ⟨w.heap.size, 2, none⟩ = some (.int .i64 b) := by rw [hW]; simp [go_sem]
  have c0 : W.cell? ⟨w.heap.size + 1, 0, none⟩ = some (.int .i64 L) := by rw [hW]; simp [go_sem]
  have c1 : W.cell? ⟨w.heap.size + 1, 1, none⟩ = some (.slice A l.length c) := by rw [hW]; simp [go_sem]
  have HBW : Hid (Below w.heap.size w W) := by show Below _ _ _; rw [hW]; exact ((Below.refl _ _).alloc (Nat.le_refl _) _).alloc (by simp) _
  have HA := Lib.hid (hA.below HBW.out)
  clear hA
  have HGG := Lib.hid hg
  clear hg
  have f1 := Ext.cell k1
  have f2 := Ext.cell k2
  have f3 := Ext.cell c0
  have f4 := Ext.cell c1
  have HV : Hid (fitB L l 1 a b = ((nL L l : Int) == a)) := rfl
  have HR : Hid (∀ x : Ext W, Calls Tryz.prog 80 #[.agg #[.int .i64 L, .slice A l.length c]] x.w fun e w' => e = .returned (.int .i64 (nL L l : Int)) ∧ Below x.w.heap.size x.w w') :=
    fun x => roLeft_good L A c l x.w HGG.out (HA.out.below x.h)
  clear k1 k2 c0 c1
  go_enter Tryz.func63, Tryz.ntmps63
  go_wp2
  rw [← hW]
  refine wp_region_ext (by kernel_rfl) (by kernel_rfl) ?_
  repeat (first | go_big_quiet_skip | (go_big_quiet_want; go_big_quiet_op; first | go_big_quiet_on | (apply Exists.intro; refine ⟨fun _ => ?_, ?_⟩; (go_at_call 80; exact Ext.call (HR.out _)); go_big_quiet_on)))
  refine wpQuiet_nil ?_
  rintro _ ⟨x, rfl⟩
  go_wp2
  go_ret
  exact ⟨ret_bool HV.out.symm, HBW.out.trans (x.h.mono HBW.out.size)⟩
set_option maxRecDepth 100000 in
set_option maxHeartbeats 1000000 in
theorem pzFits_2 (L a b : Int) (A : Option Addr) (c : Nat) (l : List (Int × Int)) (w : World) (_ : clB l.length 2 a b = true) (hg : goodB L l = true) (hA : AntsAt w A l) :
    Calls Tryz.prog 63 #[.agg #[.int .i64 2, .int .i64 a, .int .i64 b], .agg #[.int .i64 L, .slice A l.length c]] w fun e w' => e = .returned (.bool (fitB L l 2 a b)) ∧ Below w.heap.size w w' := by
  obtain ⟨W, hW⟩ : ∃ W, W = (w.alloc (Obj.cells #[Value.int IntKind.i64 2, Value.int IntKind.i64 a, Value.int IntKind.i64 b] 67)).alloc (Obj.cells #[Value.int IntKind.i64 L, Value.slice A l.length c] 71) := ⟨_, rfl⟩
  have k1 : W.cell? ⟨w.heap.size, 1, none⟩ = some (.int .i64 a) := by rw [hW]; simp [go_sem]
  have k2 : W.cell? ⟨w.heap.size, 2, none⟩ = some (.int .i64 b) := by rw [hW]; simp [go_sem]
  have c0 : W.cell? ⟨w.heap.size + 1, 0, none⟩ = some (.int .i64 L) := by rw [hW]; simp [go_sem]
  have c1 : W.cell? ⟨w.heap.size + 1, 1, none⟩ = some (.slice A l.length c) := by rw [hW]; simp [go_sem]
  have HBW : Hid (Below w.heap.size w W) := by show Below _ _ _; rw [hW]; exact ((Below.refl _ _).alloc (Nat.le_refl _) _).alloc (by simp) _
  have HA := Lib.hid (hA.below HBW.out)
  clear hA
  have HGG := Lib.hid hg
  clear hg
  have f1 := Ext.cell k1
  have f2 := Ext.cell k2
  have f3 := Ext.cell c0
  have f4 := Ext.cell c1
  have HV : Hid (fitB L l 2 a b = ((mAll l).1 == a)) := rfl
  have HR : Hid (∀ x : Ext W, Calls Tryz.prog 81 #[.agg #[.int .i64 L, .slice A l.length c]] x.w fun e w' => e = .returned (.int .i64 (mAll l).1) ∧ Below x.w.heap.size x.w w') :=
    fun x => roMeetings_good L A c l x.w HGG.out (HA.out.below x.h)
  clear k1 k2 c0 c1
  go_enter Tryz.func63, Tryz.ntmps63
  go_wp2
  rw [← hW]
  refine wp_region_ext (by kernel_rfl) (by kernel_rfl) ?_
  repeat (first | go_big_quiet_skip | (go_big_quiet_want; go_big_quiet_op; first | go_big_quiet_on | (apply Exists.intro; refine ⟨fun _ => ?_, ?_⟩; (go_at_call 81; exact Ext.call (HR.out _)); go_big_quiet_on)))
  refine wpQuiet_nil ?_
  rintro _ ⟨x, rfl⟩
  go_wp2
  go_ret
  exact ⟨ret_bool HV.out.symm, HBW.out.trans (x.h.mono HBW.out.size)⟩
set_option maxRecDepth 100000 in
set_option maxHeartbeats 1000000 in
theorem pzFits_3 (L a b : Int) (A : Option Addr) (c : Nat) (l : List (Int × Int)) (w : World) (_ : clB l.length 3 a b = true) (hg : goodB L l = true) (hA : AntsAt w A l) :
    Calls Tryz.prog 63 #[.agg #[.int .i64 3, .int .i64 a, .int .i64 b], .agg #[.int .i64 L, .slice A l.length c]] w fun e w' => e = .returned (.bool (fitB L l 3 a b)) ∧ Below w.heap.size w w' := by
  obtain ⟨W, hW⟩ : ∃ W, W = (w.alloc (Obj.cells #[Value.int IntKind.i64 3, Value.int IntKind.i64 a, Value.int IntKind.i64 b] 67)).alloc (Obj.cells #[Value.int IntKind.i64 L, Value.slice A l.length c] 71) := ⟨_, rfl⟩
  have k1 : W.cell? ⟨w.heap.size, 1, none⟩ = some (.int .i64 a) := by rw [hW]; simp [go_sem]
  have k2 : W.cell? ⟨w.heap.size, 2, none⟩ = some (.int .i64 b) := by rw [hW]; simp [go_sem]
  have c0 : W.cell? ⟨w.heap.size + 1, 0, none⟩ = some (.int .i64 L) := by rw [hW]; simp [go_sem]
  have c1 : W.cell? ⟨w.heap.size + 1, 1, none⟩ = some (.slice A l.length c) := by rw [hW]; simp [go_sem]
  have HBW : Hid (Below w.heap.size w W) := by show Below _ _ _; rw [hW]; exact ((Below.refl _ _).alloc (Nat.le_refl _) _).alloc (by simp) _
  have HA := Lib.hid (hA.below HBW.out)
  clear hA
  have HGG := Lib.hid hg
  clear hg
  have f1 := Ext.cell k1
  have f2 := Ext.cell k2
  have f3 := Ext.cell c0
  have f4 := Ext.cell c1
  have HV : Hid (fitB L l 3 a b = ((maxOf (fallsOf L l)) == a)) := rfl
  have HR : Hid (∀ x : Ext W, Calls Tryz.prog 82 #[.agg #[.int .i64 L, .slice A l.length c]] x.w fun e w' => e = .returned (.int .i64 (maxOf (fallsOf L l))) ∧ Below x.w.heap.size x.w w') :=
    fun x => roLast_good L A c l x.w HGG.out (HA.out.below x.h)
  clear k1 k2 c0 c1
  go_enter Tryz.func63, Tryz.ntmps63
  go_wp2
  rw [← hW]
  refine wp_region_ext (by kernel_rfl) (by kernel_rfl) ?_
  repeat (first | go_big_quiet_skip | (go_big_quiet_want; go_big_quiet_op; first | go_big_quiet_on | (apply Exists.intro; refine ⟨fun _ => ?_, ?_⟩; (go_at_call 82; exact Ext.call (HR.out _)); go_big_quiet_on)))
  refine wpQuiet_nil ?_
  rintro _ ⟨x, rfl⟩
  go_wp2
  go_ret
  exact ⟨ret_bool HV.out.symm, HBW.out.trans (x.h.mono HBW.out.size)⟩
set_option maxRecDepth 100000 in
set_option maxHeartbeats 1000000 in
theorem pzFits_5 (L a b : Int) (A : Option Addr) (c : Nat) (l : List (Int × Int)) (w : World) (_ : clB l.length 5 a b = true) (hg : goodB L l = true) (hA : AntsAt w A l) :
    Calls Tryz.prog 63 #[.agg #[.int .i64 5, .int .i64 a, .int .i64 b], .agg #[.int .i64 L, .slice A l.length c]] w fun e w' => e = .returned (.bool (fitB L l 5 a b)) ∧ Below w.heap.size w w' := by
  obtain ⟨W, hW⟩ : ∃ W, W = (w.alloc (Obj.cells #[Value.int IntKind.i64 5, Value.int IntKind.i64 a, Value.int IntKind.i64 b] 67)).alloc (Obj.cells #[Value.int IntKind.i64 L, Value.slice A l.length c] 71) := ⟨_, rfl⟩
  have k1 : W.cell? ⟨w.heap.size, 1, none⟩ = some (.int .i64 a) := by rw [hW]; simp [go_sem]
  have k2 : W.cell? ⟨w.heap.size, 2, none⟩ = some (.int .i64 b) := by rw [hW]; simp [go_sem]
  have c0 : W.cell? ⟨w.heap.size + 1, 0, none⟩ = some (.int .i64 L) := by rw [hW]; simp [go_sem]
  have c1 : W.cell? ⟨w.heap.size + 1, 1, none⟩ = some (.slice A l.length c) := by rw [hW]; simp [go_sem]
  have HBW : Hid (Below w.heap.size w W) := by show Below _ _ _; rw [hW]; exact ((Below.refl _ _).alloc (Nat.le_refl _) _).alloc (by simp) _
  have HA := Lib.hid (hA.below HBW.out)
  clear hA
  have HGG := Lib.hid hg
  clear hg
  have f1 := Ext.cell k1
  have f2 := Ext.cell k2
  have f3 := Ext.cell c0
  have f4 := Ext.cell c1
  have HV : Hid (fitB L l 5 a b = ((onN (fallsOf L l) a : Int) == b)) := rfl
  have HR : Hid (∀ x : Ext W, Calls Tryz.prog 84 #[.agg #[.int .i64 L, .slice A l.length c], .int .i64 a] x.w fun e w' => e = .returned (.int .i64 (onN (fallsOf L l) a : Int)) ∧ Below x.w.heap.size x.w w') :=
    fun x => pzOn_any L a A c l x.w HGG.out (HA.out.below x.h)
  clear k1 k2 c0 c1
  go_enter Tryz.func63, Tryz.ntmps63
  go_wp2
  rw [← hW]
  refine wp_region_ext (by kernel_rfl) (by kernel_rfl) ?_
  repeat (first | go_big_quiet_skip | (go_big_quiet_want; go_big_quiet_op; first | go_big_quiet_on | (apply Exists.intro; refine ⟨fun _ => ?_, ?_⟩; (go_at_call 84; exact Ext.call (HR.out _)); go_big_quiet_on)))
  refine wpQuiet_nil ?_
  rintro _ ⟨x, rfl⟩
  go_wp2
  go_ret
  exact ⟨ret_bool HV.out.symm, HBW.out.trans (x.h.mono HBW.out.size)⟩
set_option maxRecDepth 100000 in
set_option maxHeartbeats 1000000 in
theorem pzFits_0 (L a b : Int) (A : Option Addr) (c : Nat) (l : List (Int × Int)) (w : World) (hc : clB l.length 0 a b = true) (hg : goodB L l = true) (hA : AntsAt w A l) :
    Calls Tryz.prog 63 #[.agg #[.int .i64 0, .int .i64 a, .int .i64 b], .agg #[.int .i64 L, .slice A l.length c]] w fun e w' => e = .returned (.bool (fitB L l 0 a b)) ∧ Below w.heap.size w w' := by
  have hc2 : (0 ≤ a ∧ a ≤ (l.length : Int) - 1) ∧ 0 ≤ b ∧ b ≤ 1 := by
    unfold clB at hc
    rw [if_pos rfl, Bool.and_eq_true, inB_iff, inB_iff] at hc
    exact hc
  obtain ⟨⟨h1, h2⟩, h3, h4⟩ := hc2
  obtain ⟨k, rfl⟩ : ∃ k : Nat, a = k := ⟨a.toNat, by omega⟩
  have hk : k < l.length := by omega
  have hn := good_len hg
  clear hc hg
  have HV : Hid (fitB L l 0 k b = ((l.getD k (0, 0)).2 == 2 * b - 1)) := by show _ = _; simp [fitB]
  obtain ⟨W, hW⟩ : ∃ W, W = (w.alloc (Obj.cells #[Value.int IntKind.i64 0, Value.int IntKind.i64 k, Value.int IntKind.i64 b] 67)).alloc (Obj.cells #[Value.int IntKind.i64 L, Value.slice A l.length c] 71) := ⟨_, rfl⟩
  have k1 : W.cell? ⟨w.heap.size, 1, none⟩ = some (.int .i64 k) := by rw [hW]; simp [go_sem]
  have k2 : W.cell? ⟨w.heap.size, 2, none⟩ = some (.int .i64 b) := by rw [hW]; simp [go_sem]
  have c0 : W.cell? ⟨w.heap.size + 1, 0, none⟩ = some (.int .i64 L) := by rw [hW]; simp [go_sem]
  have c1 : W.cell? ⟨w.heap.size + 1, 1, none⟩ = some (.slice A l.length c) := by rw [hW]; simp [go_sem]
  have HBW : Hid (Below w.heap.size w W) := by show Below _ _ _; rw [hW]; exact ((Below.refl _ _).alloc (Nat.le_refl _) _).alloc (by simp) _
  have HA := Lib.hid (hA.below HBW.out)
  clear hA
  obtain ⟨bb, off, rfl, l0, hcc⟩ := HA.out.at_ hk
  have a1 := (hcc k hk).2
  clear hcc
  generalize (l.getD k (0, 0)).2 = y at *
  have hkl : (k : Int) < (l.length : Int) := by omega
  go_enter Tryz.func63, Tryz.ntmps63
  go_wp2
  rw [← hW]
  clear hW
  go_region
  go_wp2
  go_ret
  exact ⟨ret_bool HV.out.symm, HBW.out.drew⟩
set_option maxRecDepth 100000 in
set_option maxHeartbeats 1000000 in
theorem pzFits_4 (L a b : Int) (A : Option Addr) (c : Nat) (l : List (Int × Int)) (w : World) (hc : clB l.length 4 a b = true) (hg : goodB L l = true) (hA : AntsAt w A l) :
    Calls Tryz.prog 63 #[.agg #[.int .i64 4, .int .i64 a, .int .i64 b], .agg #[.int .i64 L, .slice A l.length c]] w fun e w' => e = .returned (.bool (fitB L l 4 a b)) ∧ Below w.heap.size w w' := by
  have hc2 : (0 ≤ a ∧ a ≤ (l.length : Int) - 1) ∧ 0 ≤ b ∧ b ≤ 1000 := by
    unfold clB at hc
    simpa [inB_iff] using hc
  obtain ⟨⟨h1, h2⟩, h3, h4⟩ := hc2
  obtain ⟨k, rfl⟩ : ∃ k : Nat, a = k := ⟨a.toNat, by omega⟩
  have hn := good_len hg
  have hln := fallsOf_len hg
  have hk : k < (fallsOf L l).length := by omega
  have HV : Hid (fitB L l 4 k b = ((fallsOf L l).getD k 0 == b)) := by show _ = _; simp [fitB]
  have HX : Hid ((fallsOf L l)[k]? = some ((fallsOf L l).getD k 0)) := by show _ = _; rw [List.getD_eq_getElem?_getD, List.getElem?_eq_getElem hk]; rfl
  obtain ⟨W, hW⟩ : ∃ W, W = (w.alloc (Obj.cells #[Value.int IntKind.i64 4, Value.int IntKind.i64 k, Value.int IntKind.i64 b] 67)).alloc (Obj.cells #[Value.int IntKind.i64 L, Value.slice A l.length c] 71) := ⟨_, rfl⟩
  have k1 : W.cell? ⟨w.heap.size, 1, none⟩ = some (.int .i64 k) := by rw [hW]; simp [go_sem]
  have k2 : W.cell? ⟨w.heap.size, 2, none⟩ = some (.int .i64 b) := by rw [hW]; simp [go_sem]
  have c0 : W.cell? ⟨w.heap.size + 1, 0, none⟩ = some (.int .i64 L) := by rw [hW]; simp [go_sem]
  have c1 : W.cell? ⟨w.heap.size + 1, 1, none⟩ = some (.slice A l.length c) := by rw [hW]; simp [go_sem]
  have HBW : Hid (Below w.heap.size w W) := by show Below _ _ _; rw [hW]; exact ((Below.refl _ _).alloc (Nat.le_refl _) _).alloc (by simp) _
  have HA := Lib.hid (hA.below HBW.out)
  clear hA
  have HF : Hid (∀ X, Below W.heap.size W X → Calls Tryz.prog 83 #[.agg #[.int .i64 L, .slice A l.length c]] X fun e w' => ∃ b3 o3 c3, e = .returned (.slice (some ⟨b3, o3, none⟩) (fallsOf L l).length c3) ∧ b3 < w'.heap.size ∧ w'.cell? ⟨b3, o3 + k, none⟩ = some (.int .i64 ((fallsOf L l).getD k 0)) ∧ Below W.heap.size W w') := fun X hX => by
    refine (roFalls_good L A c l X hg (HA.out.below hX)).mono ?_
    rintro e w3 ⟨A3, n3, k3, rfl, hn3, ho3, hb3⟩
    subst hn3
    obtain ⟨b3, o3, rfl, l3, hc3⟩ := ho3.sl.int_at hk
    exact ⟨b3, o3, k3, rfl, l3, hc3 k _ HX.out, hX.trans (hb3.mono hX.size)⟩
  have hkl : (k : Int) < ((fallsOf L l).length : Int) := by omega
  clear hg hc
  have hl16 : ((fallsOf L l).length : Int) ≤ 16 := by omega
  clear hln hn
  generalize (fallsOf L l).getD k 0 = y at *
  generalize (fallsOf L l).length = N at *
  go_enter Tryz.func63, Tryz.ntmps63
  go_wp2
  rw [← hW]
  clear hW
  go_region_with (go_at_call 83; refine (HF.out _ (Below.refl _ _).drew).mono ?_; rintro e w3 ⟨b3, o3, c3, rfl, l3, a3, hb3⟩; have k1 := Below.cell_some hb3 k1; have k2 := Below.cell_some hb3 k2; have c0 := Below.cell_some hb3 c0; have c1 := Below.cell_some hb3 c1; have HB3 := Lib.hid hb3; clear hb3)
  all_goals go_wp2
  all_goals go_ret
  all_goals exact ⟨ret_bool HV.out.symm, HBW.out.trans (HB3.out.mono HBW.out.size)⟩
end Go.Proofs.YtiodlclaempihaaGreat

/- PuzG -/
namespace Go.Proofs.YtiodlclaempihaaGreat
open Go.RowKit

theorem pzFits_any (L k a b : Int) (A : Option Addr) (c : Nat) (l : List (Int × Int)) (w : World) (hc : clB l.length k a b = true) (hg : goodB L l = true) (hA : AntsAt w A l) :
    Calls Tryz.prog 63 #[.agg #[.int .i64 k, .int .i64 a, .int .i64 b], .agg #[.int .i64 L, .slice A l.length c]] w fun e w' => e = .returned (.bool (fitB L l k a b)) ∧ Below w.heap.size w w' := by
  by_cases h0 : k = 0
  · subst h0; exact pzFits_0 L a b A c l w hc hg hA
  by_cases h1 : k = 1
  · subst h1; exact pzFits_1 L a b A c l w hc hg hA
  by_cases h2 : k = 2
  · subst h2; exact pzFits_2 L a b A c l w hc hg hA
  by_cases h3 : k = 3
  · subst h3; exact pzFits_3 L a b A c l w hc hg hA
  by_cases h4 : k = 4
  · subst h4; exact pzFits_4 L a b A c l w hc hg hA
  by_cases h5 : k = 5
  · subst h5; exact pzFits_5 L a b A c l w hc hg hA
  · exfalso
    unfold clB at hc
    simp [h0, h1, h2, h3, h4, h5] at hc
/-- which ways fit clues: each clue of them -/
def fitAll (L : Int) (l : List (Int × Int)) (cs : List (Int × Int × Int)) : Bool := cs.all fun c => fitB L l c.1 c.2.1 c.2.2
theorem fitAll_snoc (L : Int) (l : List (Int × Int)) (cs : List (Int × Int × Int)) (k : Nat) (h : k < cs.length) :
    fitAll L l (cs.take (k + 1)) = (fitAll L l (cs.take k) && fitB L l cs[k].1 cs[k].2.1 cs[k].2.2) := by
  unfold fitAll
  rw [List.take_succ_eq_append_getElem h, List.all_append]
  simp
end Go.Proofs.YtiodlclaempihaaGreat
