/- The contracts of impl.AreRunners, spec.spGood and spec.AreRunners: each returns the plain function rnnB, and turns nothing that was there. -/
import Derived.Test.YtlepdphdflpoaaaProg
import Derived.Test.YtlepdphdflpoaaaBase
import Derived.Test.YtlepdphdflpoaaaRnn
namespace Go.Proofs.Ytlepdphdflpoaaa
open Go.RowKit

def pacB (p : Int) : Bool := decide (-9 ≤ p ∧ p ≤ 9)
theorem isPaceOfRunner_any (p : Int) (w : World) :
    Calls Try.prog 82 #[.int .i64 p] w fun e w' => e = .returned (.bool (pacB p)) ∧ w' = w := by
  go_enter Try.func82, Try.ntmps82
  go_wp2
  all_goals go_ret
  all_goals (refine ⟨ret_bool ?_, rfl⟩)
  all_goals (unfold pacB; simp [*])
  all_goals omega

set_option maxHeartbeats 400000 in
theorem isRunner_any (a p : Int) (w : World) :
    Calls Try.prog 63 #[.agg #[.int .i64 a, .int .i64 p]] w fun e w' => e = .returned (.bool (rnnOk a p)) ∧ Below w.heap.size w w' := by
  have HP := Lib.hid (fun w => isPaceOfRunner_any p w)
  have HB : Hid (Below w.heap.size w (w.alloc (Obj.cells #[Value.int IntKind.i64 a, Value.int IntKind.i64 p] 64))) := (Below.refl _ _).alloc (Nat.le_refl _) _
  by_cases h0 : 0 ≤ a
  · by_cases h1 : a ≤ 1000
    · have HV : Hid (pacB p = rnnOk a p) := by
        show _ = _
        unfold rnnOk pacB
        simp [*]
        try omega
      go_enter Try.func63, Try.ntmps63
      go_wp2_with fail
      refine (HP.out _).mono ?_
      rintro e w1 ⟨rfl, rfl⟩
      go_wp2
      go_ret
      exact ⟨ret_bool HV.out, HB.out⟩
    · have HV : Hid (false = rnnOk a p) := by
        show _ = _
        unfold rnnOk
        simp [*]
        try omega
      go_enter Try.func63, Try.ntmps63
      go_wp2
      go_ret
      exact ⟨ret_bool HV.out, HB.out⟩
  · have HV : Hid (false = rnnOk a p) := by
      show _ = _
      unfold rnnOk
      simp [*]
      try omega
    go_enter Try.func63, Try.ntmps63
    go_wp2
    go_ret
    exact ⟨ret_bool HV.out, HB.out⟩
theorem isRunner_at (a p : Int) (r : Bool) (hr : rnnOk a p = r) (w : World) :
    Calls Try.prog 63 #[.agg #[.int .i64 a, .int .i64 p]] w fun e w' => e = .returned (.bool r) ∧ Below w.heap.size w w' := by
  subst hr; exact isRunner_any a p w

set_option maxHeartbeats 400000 in
theorem areRunners_long (A : Option Addr) (n c : Nat) (w : World) (h : ¬ n ≤ 12) :
    Calls Try.prog 21 #[.slice A n c] w fun e w' => e = .returned (.bool false) ∧ Below w.heap.size w w' := by
  have d3 : decide (12 < (n : Int)) = true := by simp; omega
  go_enter Try.func21, Try.ntmps21
  go_wp2
  go_ret
  exact ⟨ret_bool rfl, Below.refl _ _⟩

set_option maxHeartbeats 1000000 in
theorem areRunners_loop (A : Option Addr) (c : Nat) (l : List (Int × Int)) (w : World) (h4 : (l.length : Int) ≤ 12) (hA : AntsAt w A l) :
    Calls Try.prog 21 #[.slice A l.length c] w fun e w' => e = .returned (.bool ((List.range l.length).all (rnnAt l))) ∧ Below w.heap.size w w' := by
  have d3 : decide (12 < (l.length : Int)) = false := by simp; omega
  have HA := Lib.hid hA
  clear hA
  go_enter Try.func21, Try.ntmps21
  go_wp2
  go_loopw [10] (fun i wr => ∃ k : Nat, k ≤ l.length ∧ i = .int .i64 k ∧ Below w.heap.size w wr ∧ ∀ j, j < k → rnnAt l j = true)
    (fun i _ => l.length - (intOf i).toNat)
  case atStart => exact ⟨0, Nat.zero_le _, rfl, Below.refl _ _, fun j hj => absurd hj (by omega)⟩
  case round =>
    obtain ⟨k, hk, rfl, hb, hall⟩ := hrel
    have HB := Lib.hid hb
    have HALL := Lib.hid hall
    have HAr := Lib.hid (HA.out.below hb)
    clear hall hb
    by_cases hlt : k < l.length
    · obtain ⟨b, off, rfl, l0, hc⟩ := HAr.out.at_ hlt
      have hp := hc (k - 1) (by omega)
      obtain ⟨a0, a1⟩ := hc k hlt
      have hok : rnnAt l k = (rnnOk (l.getD k (0, 0)).1 (l.getD k (0, 0)).2 && (k == 0 || decide ((l.getD (k - 1) (0, 0)).1 < (l.getD k (0, 0)).1))) := rfl
      clear hc
      generalize l.getD k (0, 0) = x at *
      generalize l.getD (k - 1) (0, 0) = y at *
      obtain ⟨x1, x2⟩ := x
      obtain ⟨y1, y2⟩ := y
      obtain ⟨p0, p1⟩ := hp
      simp only at a0 a1 p0 p1 hok
      have HOK := Lib.hid hok
      clear hok p1
      have f0 := Ext.cell (p := ⟨wr.heap.size, 0, none⟩) (v := .int .i64 x1) (W := (wr.alloc (Obj.cells #[Value.int IntKind.i64 x1, Value.int IntKind.i64 x2] 64))) (by simp)
      have f1 := Ext.cell (p := ⟨wr.heap.size, 1, none⟩) (v := .int .i64 x2) (W := (wr.alloc (Obj.cells #[Value.int IntKind.i64 x1, Value.int IntKind.i64 x2] 64))) (by simp)
      have f4 := Ext.old (o := (Obj.cells #[Value.int IntKind.i64 x1, Value.int IntKind.i64 x2] 64)) p0
      clear p0
      cases hia : rnnOk x1 x2 with
      | false =>
        have HIA := Lib.hid hia
        clear hia
        go_wp2
        refine wp_region_ext (by kernel_rfl) (by kernel_rfl) ?_
        repeat (first | go_big_quiet_skip | (go_big_quiet_want; go_big_quiet_op; first | go_big_quiet_on | (apply Exists.intro; refine ⟨fun _ => ?_, ?_⟩; (go_at_call 63; exact Ext.call (isRunner_at _ _ false HIA.out _)); go_big_quiet_on)))
        refine wpQuiet_nil ?_
        rintro _ ⟨x, rfl⟩
        go_wp2
        go_ret
        exact ⟨ret_bool (all_no hlt (by rw [HOK.out, HIA.out]; rfl)).symm, HB.out.trans (((Below.refl _ _).alloc (Nat.le_refl _) _).trans (x.h.mono (by simp)) |>.mono HB.out.size)⟩
      | true =>
        have HIA := Lib.hid hia
        clear hia
        by_cases hk0 : 0 < k
        · have q1 : (0 : Int) < (k : Int) := by omega
          have q2 : (1 : Int) ≤ (k : Int) := by omega
          have q3 : ((k : Int) - 1).toNat = k - 1 := by omega
          by_cases hma : y1 < x1
          · have hd : decide (x1 ≤ y1) = false := by simp; omega
            go_wp2
            refine wp_region_ext (by kernel_rfl) (by kernel_rfl) ?_
            repeat (first | go_big_quiet_skip | (go_big_quiet_want; go_big_quiet_op; first | go_big_quiet_on | (apply Exists.intro; refine ⟨fun _ => ?_, ?_⟩; (go_at_call 63; exact Ext.call (isRunner_at _ _ true HIA.out _)); go_big_quiet_on)))
            refine wpQuiet_nil ?_
            rintro _ ⟨x, rfl⟩
            go_wp2
            go_roundw
            case rel => exact ⟨k + 1, by omega, by go_num, HB.out.trans (((Below.refl _ _).alloc (Nat.le_refl _) _).trans (x.h.mono (by simp)) |>.mono HB.out.size), fun j hj => by
              by_cases hjk : j < k
              · exact HALL.out j hjk
              · obtain rfl : j = k := by omega
                rw [HOK.out, HIA.out]; simp; omega⟩
            case measure => simp [intOf]; omega
          · have hd : decide (x1 ≤ y1) = true := by simp; omega
            go_wp2
            refine wp_region_ext (by kernel_rfl) (by kernel_rfl) ?_
            repeat (first | go_big_quiet_skip | (go_big_quiet_want; go_big_quiet_op; first | go_big_quiet_on | (apply Exists.intro; refine ⟨fun _ => ?_, ?_⟩; (go_at_call 63; exact Ext.call (isRunner_at _ _ true HIA.out _)); go_big_quiet_on)))
            refine wpQuiet_nil ?_
            rintro _ ⟨x, rfl⟩
            go_wp2
            go_ret
            exact ⟨ret_bool (all_no hlt (by rw [HOK.out, HIA.out]; simp; omega)).symm, HB.out.trans (((Below.refl _ _).alloc (Nat.le_refl _) _).trans (x.h.mono (by simp)) |>.mono HB.out.size)⟩
        · have hk1 : decide (0 < (k : Int)) = false := by simp; omega
          have hk2 : decide (0 < k) = false := by simp; omega
          go_wp2
          refine wp_region_ext (by kernel_rfl) (by kernel_rfl) ?_
          repeat (first | go_big_quiet_skip | (go_big_quiet_want; go_big_quiet_op; first | go_big_quiet_on | (apply Exists.intro; refine ⟨fun _ => ?_, ?_⟩; (go_at_call 63; exact Ext.call (isRunner_at _ _ true HIA.out _)); go_big_quiet_on)))
          refine wpQuiet_nil ?_
          rintro _ ⟨x, rfl⟩
          go_wp2
          go_roundw
          case rel => exact ⟨k + 1, by omega, by go_num, HB.out.trans (((Below.refl _ _).alloc (Nat.le_refl _) _).trans (x.h.mono (by simp)) |>.mono HB.out.size), fun j hj => by
            by_cases hjk : j < k
            · exact HALL.out j hjk
            · obtain rfl : j = k := by omega
              rw [HOK.out, HIA.out]; simp; omega⟩
          case measure => simp [intOf]; omega
    · go_wp2
      go_ret
      exact ⟨ret_bool (all_yes (fun j hj => HALL.out j (by omega))).symm, HB.out⟩

theorem areRunners_any (A : Option Addr) (c : Nat) (l : List (Int × Int)) (w : World) (hA : AntsAt w A l) :
    Calls Try.prog 21 #[.slice A l.length c] w fun e w' => e = .returned (.bool (rnnB l)) ∧ Below w.heap.size w w' := by
  by_cases h : l.length ≤ 12
  · have e : rnnB l = (List.range l.length).all (rnnAt l) := by simp [rnnB, h]
    rw [e]
    exact areRunners_loop A c l w (by omega) hA
  · have e : rnnB l = false := by simp [rnnB, h]
    rw [e]; exact areRunners_long A _ c w h
theorem areRunners_at (A : Option Addr) (c : Nat) (l : List (Int × Int)) (r : Bool) (hr : rnnB l = r) (w : World) (hA : AntsAt w A l) :
    Calls Try.prog 21 #[.slice A l.length c] w fun e w' => e = .returned (.bool r) ∧ Below w.heap.size w w' := by
  subst hr; exact areRunners_any A c l w hA

theorem in_any (n lo hi : Int) (w : World) :
    Calls Try.prog 81 #[.int .i64 n, .int .i64 lo, .int .i64 hi] w fun e w' => e = .returned (.bool (decide (lo ≤ n) && decide (n ≤ hi))) ∧ w = w' := by
  go_enter Try.func81, Try.ntmps81
  go_wp2
  all_goals go_ret
  all_goals (refine ⟨ret_bool ?_, rfl⟩)
  all_goals simp [*]
  all_goals omega
theorem in_at (n lo hi : Int) (r : Bool) (hr : (decide (lo ≤ n) && decide (n ≤ hi)) = r) (w : World) :
    Calls Try.prog 81 #[.int .i64 n, .int .i64 lo, .int .i64 hi] w fun e w' => e = .returned (.bool r) ∧ w = w' := by
  subst hr; exact in_any n lo hi w
theorem in_atb (n lo hi : Int) (r : Bool) (hr : (decide (lo ≤ n) && decide (n ≤ hi)) = r) (w : World) :
    Calls Try.prog 81 #[.int .i64 n, .int .i64 lo, .int .i64 hi] w fun e w' => e = .returned (.bool r) ∧ Below w.heap.size w w' :=
  (in_at n lo hi r hr w).mono fun _ _ ⟨he, hw⟩ => ⟨he, hw ▸ Below.refl _ _⟩
set_option maxHeartbeats 400000 in
theorem spGood_long (A : Option Addr) (n c : Nat) (w : World) (h : ¬ n ≤ 12) :
    Calls Try.prog 61 #[.slice A n c] w fun e w' => e = .returned (.bool false) ∧ Below w.heap.size w w' := by
  have d3 : decide (12 < (n : Int)) = true := by simp; omega
  go_enter Try.func61, Try.ntmps61
  go_wp2
  go_ret
  exact ⟨ret_bool rfl, Below.refl _ _⟩

set_option maxRecDepth 100000 in
set_option maxHeartbeats 2000000 in
theorem spGood_loop (A : Option Addr) (c : Nat) (l : List (Int × Int)) (w : World) (h4 : (l.length : Int) ≤ 12) (hA : AntsAt w A l) :
    Calls Try.prog 61 #[.slice A l.length c] w fun e w' => e = .returned (.bool ((List.range l.length).all (rnnAt l))) ∧ Below w.heap.size w w' := by
  have d3 : decide (12 < (l.length : Int)) = false := by simp; omega
  have HA := Lib.hid hA
  clear hA
  go_enter Try.func61, Try.ntmps61
  go_wp2
  go_loopw [10] (fun i wr => ∃ k : Nat, k ≤ l.length ∧ i = .int .i64 k ∧ Below w.heap.size w wr ∧ ∀ j, j < k → rnnAt l j = true)
    (fun i _ => l.length - (intOf i).toNat)
  case atStart => exact ⟨0, Nat.zero_le _, rfl, Below.refl _ _, fun j hj => absurd hj (by omega)⟩
  case round =>
    obtain ⟨k, hk, rfl, hb, hall⟩ := hrel
    have HB := Lib.hid hb
    have HALL := Lib.hid hall
    have HAr := Lib.hid (HA.out.below hb)
    clear hall hb
    by_cases hlt : k < l.length
    · obtain ⟨b, off, rfl, l0, hc⟩ := HAr.out.at_ hlt
      have hp := hc (k - 1) (by omega)
      obtain ⟨a0, a1⟩ := hc k hlt
      have hok : rnnAt l k = (rnnOk (l.getD k (0, 0)).1 (l.getD k (0, 0)).2 && (k == 0 || decide ((l.getD (k - 1) (0, 0)).1 < (l.getD k (0, 0)).1))) := rfl
      clear hc
      generalize l.getD k (0, 0) = x at *
      generalize l.getD (k - 1) (0, 0) = y at *
      obtain ⟨x1, x2⟩ := x
      obtain ⟨y1, y2⟩ := y
      obtain ⟨p0, p1⟩ := hp
      simp only at a0 a1 p0 p1 hok
      have HOK := Lib.hid hok
      clear hok p1
      have f0 := Ext.cell (p := ⟨wr.heap.size, 0, none⟩) (v := .int .i64 x1) (W := (wr.alloc (Obj.cells #[Value.int IntKind.i64 x1, Value.int IntKind.i64 x2] 64))) (by simp)
      have f1 := Ext.cell (p := ⟨wr.heap.size, 1, none⟩) (v := .int .i64 x2) (W := (wr.alloc (Obj.cells #[Value.int IntKind.i64 x1, Value.int IntKind.i64 x2] 64))) (by simp)
      have f4 := Ext.old (o := (Obj.cells #[Value.int IntKind.i64 x1, Value.int IntKind.i64 x2] 64)) p0
      clear p0
      cases hia : rnnOk x1 x2 with
      | false =>
        have HIA := Lib.hid hia
        by_cases h1 : 0 ≤ x1 ∧ x1 ≤ 1000
        · have HI1 : Hid ((decide (0 ≤ x1) && decide (x1 ≤ 1000)) = true) := by show (_ && _) = true; simp [h1]
          have HI2 : Hid ((decide (-9 ≤ x2) && decide (x2 ≤ 9)) = false) := by
            show (_ && _) = false
            have := rnnOk_iff x1 x2
            rw [hia] at this
            simp at this
            simp
            omega
          have HC1 : Hid (∀ w, Calls Try.prog 81 #[.int .i64 x1, .int .i64 (0), .int .i64 1000] w fun e w' => e = .returned (.bool true) ∧ Below w.heap.size w w') := fun w => in_atb _ _ _ true HI1.out w
          have HC2 : Hid (∀ w, Calls Try.prog 81 #[.int .i64 x2, .int .i64 (-9), .int .i64 9] w fun e w' => e = .returned (.bool false) ∧ Below w.heap.size w w') := fun w => in_atb _ _ _ false HI2.out w
          clear hia h1 HI1 HI2
          go_wp2
          refine wp_region_ext (by kernel_rfl) (by kernel_rfl) ?_
          repeat (first | go_big_quiet_skip | (go_big_quiet_want; go_big_quiet_op; first | go_big_quiet_on | (apply Exists.intro; refine ⟨fun _ => ?_, ?_⟩; (first | (go_at_call 81; with_reducible exact Ext.call (HC1.out _)) | (go_at_call 81; with_reducible exact Ext.call (HC2.out _))); go_big_quiet_on)))
          refine wpQuiet_nil ?_
          rintro _ ⟨x, rfl⟩
          go_wp2
          go_ret
          exact ⟨ret_bool (all_no hlt (by rw [HOK.out, HIA.out]; rfl)).symm, HB.out.trans (((Below.refl _ _).alloc (Nat.le_refl _) _).trans (x.h.mono (by simp)) |>.mono HB.out.size)⟩
        · have HI1 : Hid ((decide (0 ≤ x1) && decide (x1 ≤ 1000)) = false) := by show (_ && _) = false; simp; omega
          have HC1 : Hid (∀ w, Calls Try.prog 81 #[.int .i64 x1, .int .i64 (0), .int .i64 1000] w fun e w' => e = .returned (.bool false) ∧ Below w.heap.size w w') := fun w => in_atb _ _ _ false HI1.out w
          clear hia h1 HI1
          go_wp2
          refine wp_region_ext (by kernel_rfl) (by kernel_rfl) ?_
          repeat (first | go_big_quiet_skip | (go_big_quiet_want; go_big_quiet_op; first | go_big_quiet_on | (apply Exists.intro; refine ⟨fun _ => ?_, ?_⟩; (go_at_call 81; with_reducible exact Ext.call (HC1.out _)); go_big_quiet_on)))
          refine wpQuiet_nil ?_
          rintro _ ⟨x, rfl⟩
          go_wp2
          go_ret
          exact ⟨ret_bool (all_no hlt (by rw [HOK.out, HIA.out]; rfl)).symm, HB.out.trans (((Below.refl _ _).alloc (Nat.le_refl _) _).trans (x.h.mono (by simp)) |>.mono HB.out.size)⟩
      | true =>
        have HIA := Lib.hid hia
        have HI1 : Hid ((decide (0 ≤ x1) && decide (x1 ≤ 1000)) = true) := by
          show (_ && _) = true
          have := (rnnOk_iff x1 x2).1 hia
          simp; omega
        have HI2 : Hid ((decide (-9 ≤ x2) && decide (x2 ≤ 9)) = true) := by
          show (_ && _) = true
          have := (rnnOk_iff x1 x2).1 hia
          simp; omega
        have HC1 : Hid (∀ w, Calls Try.prog 81 #[.int .i64 x1, .int .i64 (0), .int .i64 1000] w fun e w' => e = .returned (.bool true) ∧ Below w.heap.size w w') := fun w => in_atb _ _ _ true HI1.out w
        have HC2 : Hid (∀ w, Calls Try.prog 81 #[.int .i64 x2, .int .i64 (-9), .int .i64 9] w fun e w' => e = .returned (.bool true) ∧ Below w.heap.size w w') := fun w => in_atb _ _ _ true HI2.out w
        clear hia HI1 HI2
        by_cases hk0 : 0 < k
        · have q1 : (0 : Int) < (k : Int) := by omega
          have q2 : (1 : Int) ≤ (k : Int) := by omega
          have q3 : ((k : Int) - 1).toNat = k - 1 := by omega
          by_cases hma : y1 < x1
          · have hd : decide (x1 ≤ y1) = false := by simp; omega
            go_wp2
            refine wp_region_ext (by kernel_rfl) (by kernel_rfl) ?_
            repeat (first | go_big_quiet_skip | (go_big_quiet_want; go_big_quiet_op; first | go_big_quiet_on | (apply Exists.intro; refine ⟨fun _ => ?_, ?_⟩; (first | (go_at_call 81; with_reducible exact Ext.call (HC1.out _)) | (go_at_call 81; with_reducible exact Ext.call (HC2.out _))); go_big_quiet_on)))
            refine wpQuiet_nil ?_
            rintro _ ⟨x, rfl⟩
            go_wp2
            go_roundw
            case rel => exact ⟨k + 1, by omega, by go_num, HB.out.trans (((Below.refl _ _).alloc (Nat.le_refl _) _).trans (x.h.mono (by simp)) |>.mono HB.out.size), fun j hj => by
              by_cases hjk : j < k
              · exact HALL.out j hjk
              · obtain rfl : j = k := by omega
                rw [HOK.out, HIA.out]; simp; omega⟩
            case measure => simp [intOf]; omega
          · have hd : decide (x1 ≤ y1) = true := by simp; omega
            go_wp2
            refine wp_region_ext (by kernel_rfl) (by kernel_rfl) ?_
            repeat (first | go_big_quiet_skip | (go_big_quiet_want; go_big_quiet_op; first | go_big_quiet_on | (apply Exists.intro; refine ⟨fun _ => ?_, ?_⟩; (first | (go_at_call 81; with_reducible exact Ext.call (HC1.out _)) | (go_at_call 81; with_reducible exact Ext.call (HC2.out _))); go_big_quiet_on)))
            refine wpQuiet_nil ?_
            rintro _ ⟨x, rfl⟩
            go_wp2
            go_ret
            exact ⟨ret_bool (all_no hlt (by rw [HOK.out, HIA.out]; simp; omega)).symm, HB.out.trans (((Below.refl _ _).alloc (Nat.le_refl _) _).trans (x.h.mono (by simp)) |>.mono HB.out.size)⟩
        · have hk1 : decide (0 < (k : Int)) = false := by simp; omega
          have hk2 : decide (0 < k) = false := by simp; omega
          go_wp2
          refine wp_region_ext (by kernel_rfl) (by kernel_rfl) ?_
          repeat (first | go_big_quiet_skip | (go_big_quiet_want; go_big_quiet_op; first | go_big_quiet_on | (apply Exists.intro; refine ⟨fun _ => ?_, ?_⟩; (first | (go_at_call 81; with_reducible exact Ext.call (HC1.out _)) | (go_at_call 81; with_reducible exact Ext.call (HC2.out _))); go_big_quiet_on)))
          refine wpQuiet_nil ?_
          rintro _ ⟨x, rfl⟩
          go_wp2
          go_roundw
          case rel => exact ⟨k + 1, by omega, by go_num, HB.out.trans (((Below.refl _ _).alloc (Nat.le_refl _) _).trans (x.h.mono (by simp)) |>.mono HB.out.size), fun j hj => by
            by_cases hjk : j < k
            · exact HALL.out j hjk
            · obtain rfl : j = k := by omega
              rw [HOK.out, HIA.out]; simp; omega⟩
          case measure => simp [intOf]; omega
    · go_wp2
      go_ret
      exact ⟨ret_bool (all_yes (fun j hj => HALL.out j (by omega))).symm, HB.out⟩

theorem spGood_any (A : Option Addr) (c : Nat) (l : List (Int × Int)) (w : World) (hA : AntsAt w A l) :
    Calls Try.prog 61 #[.slice A l.length c] w fun e w' => e = .returned (.bool (rnnB l)) ∧ Below w.heap.size w w' := by
  by_cases h : l.length ≤ 12
  · have e : rnnB l = (List.range l.length).all (rnnAt l) := by simp [rnnB, h]
    rw [e]
    exact spGood_loop A c l w (by omega) hA
  · have e : rnnB l = false := by simp [rnnB, h]
    rw [e]; exact spGood_long A _ c w h
theorem spGood_at (A : Option Addr) (c : Nat) (l : List (Int × Int)) (r : Bool) (hr : rnnB l = r) (w : World) (hA : AntsAt w A l) :
    Calls Try.prog 61 #[.slice A l.length c] w fun e w' => e = .returned (.bool r) ∧ Below w.heap.size w w' := by
  subst hr; exact spGood_any A c l w hA

theorem specAreRunners_any (A : Option Addr) (c : Nat) (l : List (Int × Int)) (w : World) (hA : AntsAt w A l) :
    Calls Try.prog 19 #[.slice A l.length c] w fun e w' => e = .returned (.bool (rnnB l)) ∧ Below w.heap.size w w' := by
  have HA := Lib.hid hA
  clear hA
  go_enter Try.func19, Try.ntmps19
  go_wp2_with (go_at_call 61; refine (spGood_any _ _ _ _ HA.out).mono ?_; rintro e w1 ⟨rfl, hb⟩)
  go_ret
  exact ⟨ret_bool rfl, hb⟩
end Go.Proofs.Ytlepdphdflpoaaa
