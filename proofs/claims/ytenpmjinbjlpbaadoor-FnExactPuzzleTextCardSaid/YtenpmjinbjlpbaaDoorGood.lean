/- The contracts of spec.roGood and spec.IsRod: the same plain function as impl.IsRod's. -/
import Derived.Test.YtenpmjinbjlpbaaDoorIsRod
namespace Go.Proofs.YtenpmjinbjlpbaaDoor
open Go.RowKit

theorem in_any (n lo hi : Int) (w : World) :
    Calls Tryd.prog 90 #[.int .i64 n, .int .i64 lo, .int .i64 hi] w fun e w' => e = .returned (.bool (decide (lo ≤ n) && decide (n ≤ hi))) ∧ w = w' := by
  go_enter Tryd.func90, Tryd.ntmps90
  go_wp2
  all_goals go_ret
  all_goals (refine ⟨ret_bool ?_, rfl⟩)
  all_goals simp [*]
  all_goals omega
theorem in_at (n lo hi : Int) (r : Bool) (hr : (decide (lo ≤ n) && decide (n ≤ hi)) = r) (w : World) :
    Calls Tryd.prog 90 #[.int .i64 n, .int .i64 lo, .int .i64 hi] w fun e w' => e = .returned (.bool r) ∧ w = w' := by
  subst hr; exact in_any n lo hi w

set_option maxHeartbeats 400000 in
theorem roGood_hdr (L : Int) (A : Option Addr) (n c : Nat) (w : World) (h : hdr L n = false) :
    Calls Tryd.prog 62 #[.agg #[.int .i64 L, .slice A n c]] w fun e w' => e = .returned (.bool false) ∧ Below w.heap.size w w' := by
  have h' : ¬ (2 ≤ L ∧ L ≤ 1000 ∧ L % 2 = 0 ∧ n ≤ 16) := by rw [← hdr_iff, h]; simp
  clear h
  by_cases hr : 2 ≤ L ∧ L ≤ 1000
  · have H := Lib.hid h'
    clear h'
    obtain ⟨h1, h2⟩ := hr
    have HR : Hid ((decide (2 ≤ L) && decide (L ≤ 1000)) = true) := by show (_ && _) = true; simp [h1, h2]
    go_enter Tryd.func62, Tryd.ntmps62
    go_wp2_with (go_at_call 90; refine (in_at _ _ _ true HR.out _).mono ?_; rintro e w' ⟨rfl, rfl⟩)
    all_goals first
      | (exfalso; have := H.out; omega)
      | (go_ret
         exact ⟨ret_bool rfl, (Below.refl _ _).alloc (Nat.le_refl _) _⟩)
  · have HR : Hid ((decide (2 ≤ L) && decide (L ≤ 1000)) = false) := by
      show (_ && _) = false
      simp; omega
    clear hr h'
    go_enter Tryd.func62, Tryd.ntmps62
    go_wp2_with (go_at_call 90; refine (in_at _ _ _ false HR.out _).mono ?_; rintro e w' ⟨rfl, rfl⟩)
    go_ret
    exact ⟨ret_bool rfl, (Below.refl _ _).alloc (Nat.le_refl _) _⟩

/-- one ant, and the one before it, as the loop tests them -/
def antB (L x1 x2 : Int) : Bool := (decide (0 ≤ x1) && decide (x1 ≤ L)) && (x1 % 2 == 0) && !((x2 != 1) && (x2 != -1))

set_option maxHeartbeats 2000000 in
set_option maxRecDepth 100000 in
theorem roGood_loop (L : Int) (A : Option Addr) (c : Nat) (l : List (Int × Int)) (w : World) (h1 : 2 ≤ L) (h2 : L ≤ 1000) (h3 : L % 2 = 0) (h4 : (l.length : Int) ≤ 16) (hA : AntsAt w A l) :
    Calls Tryd.prog 62 #[.agg #[.int .i64 L, .slice A l.length c]] w fun e w' => e = .returned (.bool ((List.range l.length).all (okAt L l))) ∧ Below w.heap.size w w' := by
  have hne : (L % 2 == 0) = true := by simpa using h3
  have hne' : (L % 2 != 0) = false := by simpa using h3
  have d3 : decide (16 < (l.length : Int)) = false := by simp; omega
  have HR : Hid ((decide (2 ≤ L) && decide (L ≤ 1000)) = true) := by show (_ && _) = true; simp [h1, h2]
  clear h3
  have HA := Lib.hid hA
  clear hA
  go_enter Tryd.func62, Tryd.ntmps62
  go_wp2_with (go_at_call 90; refine (in_at _ _ _ true HR.out _).mono ?_; rintro e w' ⟨rfl, rfl⟩)
  go_loopw [24] (fun i wr => ∃ k : Nat, k ≤ l.length ∧ i = .int .i64 k ∧ Below (w.heap.size + 1) (w.alloc (Obj.cells #[Value.int IntKind.i64 L, Value.slice A l.length c] 24)) wr ∧ ∀ j, j < k → okAt L l j = true)
    (fun i _ => l.length - (intOf i).toNat)
  case atStart => exact ⟨0, Nat.zero_le _, rfl, Below.refl _ _, fun j hj => absurd hj (by omega)⟩
  case round =>
    obtain ⟨k, hk, rfl, hb, hall⟩ := hrel
    have HB := Lib.hid hb
    have HALL := Lib.hid hall
    clear hall
    have hs : w.heap.size + 1 ≤ wr.heap.size := by have := hb.size; simpa using this
    have c0 : wr.cell? ⟨w.heap.size, 0, none⟩ = some (.int .i64 L) := by rw [hb.cell (p := ⟨w.heap.size, 0, none⟩) (by simp)]; simp
    have c1 : wr.cell? ⟨w.heap.size, 1, none⟩ = some (.slice A l.length c) := by rw [hb.cell (p := ⟨w.heap.size, 1, none⟩) (by simp)]; simp
    have hs1 : w.heap.size < wr.heap.size := by omega
    have hB0 : Below w.heap.size w wr := ((Below.refl _ _).alloc (Nat.le_refl _) _).trans (hb.mono (by simp))
    have HB0 := Lib.hid hB0
    have HAr := Lib.hid (HA.out.below hB0)
    clear hb hB0
    by_cases hlt : k < l.length
    · obtain ⟨b, off, rfl, l0, hc⟩ := HAr.out.at_ hlt
      have hp := hc (k - 1) (by omega)
      obtain ⟨a0, a1⟩ := hc k hlt
      have hok : okAt L l k = (isAntB (l.getD k (0, 0)).1 (l.getD k (0, 0)).2 L && (k == 0 || mayB (l.getD (k - 1) (0, 0)).1 (l.getD (k - 1) (0, 0)).2 (l.getD k (0, 0)).1 (l.getD k (0, 0)).2)) := rfl
      clear hc
      generalize l.getD k (0, 0) = x at *
      generalize l.getD (k - 1) (0, 0) = y at *
      obtain ⟨x1, x2⟩ := x
      obtain ⟨y1, y2⟩ := y
      obtain ⟨p0, p1⟩ := hp
      simp only at a0 a1 p0 p1 hok
      have HOK := Lib.hid hok
      clear hok
      by_cases hin : 0 ≤ x1 ∧ x1 ≤ L
      · have HIN : Hid ((decide (0 ≤ x1) && decide (x1 ≤ L)) = true) := by show (_ && _) = true; simp [hin]
        obtain ⟨i1, i2⟩ := hin
        have hin' := HIN.out
        by_cases hev : x1 % 2 = 0
        · have e1 : (x1 % 2 == 0) = true := by simpa using hev
          have e2 : (x1 % 2 != 0) = false := by simpa using hev
          clear hev
          by_cases h21 : x2 = 1
          · subst h21
            have f0 := Ext.cell (p := ⟨wr.heap.size, 0, none⟩) (v := .int .i64 x1) (W := (wr.alloc (Obj.cells #[Value.int IntKind.i64 x1, Value.int IntKind.i64 (1)] 58))) (by simp)
            have f1 := Ext.cell (p := ⟨wr.heap.size, 1, none⟩) (v := .int .i64 (1)) (W := (wr.alloc (Obj.cells #[Value.int IntKind.i64 x1, Value.int IntKind.i64 (1)] 58))) (by simp)
            have f2 := Ext.old (o := (Obj.cells #[Value.int IntKind.i64 x1, Value.int IntKind.i64 (1)] 58)) c0
            have f3 := Ext.old (o := (Obj.cells #[Value.int IntKind.i64 x1, Value.int IntKind.i64 (1)] 58)) c1
            have f4 := Ext.old (o := (Obj.cells #[Value.int IntKind.i64 x1, Value.int IntKind.i64 (1)] 58)) p0
            have f5 := Ext.old (o := (Obj.cells #[Value.int IntKind.i64 x1, Value.int IntKind.i64 (1)] 58)) p1
            clear p0 p1
            by_cases hk0 : 0 < k
            · have q1 : (0 : Int) < (k : Int) := by omega
              have q2 : (1 : Int) ≤ (k : Int) := by omega
              have q3 : ((k : Int) - 1).toNat = k - 1 := by omega
              by_cases r1 : x1 < y1
              ·
                have r2 : ¬ y1 < x1 := by omega
                have r3 : ¬ y1 = x1 := by omega
                have HV : Hid (okAt L l k = false) := by
                  show _ = _
                  rw [HOK.out]; simp [isAntB, mayB, metB, *] <;> omega
                clear hin'
                go_wp2_with (go_at_call 90; refine (in_at _ _ _ true HIN.out _).mono ?_; rintro e w' ⟨rfl, rfl⟩)
                refine wp_region_ext (by kernel_rfl) (by kernel_rfl) ?_
                repeat (first | go_big_quiet_skip | (go_big_quiet_want; go_big_quiet_op; go_big_quiet_on))
                refine wpQuiet_nil ?_
                rintro _ ⟨x, rfl⟩
                go_wp2
                go_ret
                exact ⟨ret_bool (all_no hlt HV.out).symm, HB0.out.trans (((Below.refl _ _).alloc (Nat.le_refl _) _).trans (x.h.mono (by simp)) |>.mono (by omega))⟩
              · by_cases r2 : y1 = x1
                · subst r2
                  have r4 : ¬ y1 < y1 := by omega
                  by_cases r3 : y2 = -1
                  · subst r3
                    have HV : Hid (okAt L l k = true) := by
                      show _ = _
                      rw [HOK.out]; simp [isAntB, mayB, metB, *] <;> omega
                    clear hin'
                    go_wp2_with (go_at_call 90; refine (in_at _ _ _ true HIN.out _).mono ?_; rintro e w' ⟨rfl, rfl⟩)
                    refine wp_region_ext (by kernel_rfl) (by kernel_rfl) ?_
                    repeat (first | go_big_quiet_skip | (go_big_quiet_want; go_big_quiet_op; go_big_quiet_on))
                    refine wpQuiet_nil ?_
                    rintro _ ⟨x, rfl⟩
                    go_wp2
                    go_roundw
                    case rel => exact ⟨k + 1, by omega, by go_num, HB.out.trans (((Below.refl _ _).alloc (Nat.le_refl _) _).trans (x.h.mono (by simp)) |>.mono (by omega)), below_succ HALL.out HV.out⟩
                    case measure => simp [intOf]; omega
                  ·
                    have r5 : (y2 == -1) = false := by simpa using r3
                    have r6 : (y2 != -1) = true := by simpa using r3
                    have HV : Hid (okAt L l k = false) := by
                      show _ = _
                      rw [HOK.out]; simp [isAntB, mayB, metB, *] <;> omega
                    clear hin'
                    go_wp2_with (go_at_call 90; refine (in_at _ _ _ true HIN.out _).mono ?_; rintro e w' ⟨rfl, rfl⟩)
                    refine wp_region_ext (by kernel_rfl) (by kernel_rfl) ?_
                    repeat (first | go_big_quiet_skip | (go_big_quiet_want; go_big_quiet_op; go_big_quiet_on))
                    refine wpQuiet_nil ?_
                    rintro _ ⟨x, rfl⟩
                    go_wp2
                    go_ret
                    exact ⟨ret_bool (all_no hlt HV.out).symm, HB0.out.trans (((Below.refl _ _).alloc (Nat.le_refl _) _).trans (x.h.mono (by simp)) |>.mono (by omega))⟩
                ·
                  have r3 : (y1 == x1) = false := by simpa using r2
                  have r4 : y1 < x1 := by omega
                  have r6 : decide (x1 < y1) = false := by simp; omega
                  have HV : Hid (okAt L l k = true) := by
                    show _ = _
                    rw [HOK.out]; simp [isAntB, mayB, metB, *] <;> omega
                  clear hin'
                  go_wp2_with (go_at_call 90; refine (in_at _ _ _ true HIN.out _).mono ?_; rintro e w' ⟨rfl, rfl⟩)
                  refine wp_region_ext (by kernel_rfl) (by kernel_rfl) ?_
                  repeat (first | go_big_quiet_skip | (go_big_quiet_want; go_big_quiet_op; go_big_quiet_on))
                  refine wpQuiet_nil ?_
                  rintro _ ⟨x, rfl⟩
                  go_wp2
                  go_roundw
                  case rel => exact ⟨k + 1, by omega, by go_num, HB.out.trans (((Below.refl _ _).alloc (Nat.le_refl _) _).trans (x.h.mono (by simp)) |>.mono (by omega)), below_succ HALL.out HV.out⟩
                  case measure => simp [intOf]; omega
            ·
              have hk1 : decide (0 < (k : Int)) = false := by simp; omega
              have hk2 : decide (0 < k) = false := by simp; omega
              have hk3 : k = 0 := by omega
              have HV : Hid (okAt L l k = true) := by
                show _ = _
                rw [HOK.out]; simp [isAntB, mayB, metB, *] <;> omega
              clear hin' hk3
              go_wp2_with (go_at_call 90; refine (in_at _ _ _ true HIN.out _).mono ?_; rintro e w' ⟨rfl, rfl⟩)
              refine wp_region_ext (by kernel_rfl) (by kernel_rfl) ?_
              repeat (first | go_big_quiet_skip | (go_big_quiet_want; go_big_quiet_op; go_big_quiet_on))
              refine wpQuiet_nil ?_
              rintro _ ⟨x, rfl⟩
              go_wp2
              go_roundw
              case rel => exact ⟨k + 1, by omega, by go_num, HB.out.trans (((Below.refl _ _).alloc (Nat.le_refl _) _).trans (x.h.mono (by simp)) |>.mono (by omega)), below_succ HALL.out HV.out⟩
              case measure => simp [intOf]; omega
          by_cases h22 : x2 = -1
          · subst h22
            have f0 := Ext.cell (p := ⟨wr.heap.size, 0, none⟩) (v := .int .i64 x1) (W := (wr.alloc (Obj.cells #[Value.int IntKind.i64 x1, Value.int IntKind.i64 (-1)] 58))) (by simp)
            have f1 := Ext.cell (p := ⟨wr.heap.size, 1, none⟩) (v := .int .i64 (-1)) (W := (wr.alloc (Obj.cells #[Value.int IntKind.i64 x1, Value.int IntKind.i64 (-1)] 58))) (by simp)
            have f2 := Ext.old (o := (Obj.cells #[Value.int IntKind.i64 x1, Value.int IntKind.i64 (-1)] 58)) c0
            have f3 := Ext.old (o := (Obj.cells #[Value.int IntKind.i64 x1, Value.int IntKind.i64 (-1)] 58)) c1
            have f4 := Ext.old (o := (Obj.cells #[Value.int IntKind.i64 x1, Value.int IntKind.i64 (-1)] 58)) p0
            have f5 := Ext.old (o := (Obj.cells #[Value.int IntKind.i64 x1, Value.int IntKind.i64 (-1)] 58)) p1
            clear p0 p1
            by_cases hk0 : 0 < k
            · have q1 : (0 : Int) < (k : Int) := by omega
              have q2 : (1 : Int) ≤ (k : Int) := by omega
              have q3 : ((k : Int) - 1).toNat = k - 1 := by omega
              by_cases r1 : x1 < y1
              ·
                have r2 : ¬ y1 < x1 := by omega
                have r3 : ¬ y1 = x1 := by omega
                have HV : Hid (okAt L l k = false) := by
                  show _ = _
                  rw [HOK.out]; simp [isAntB, mayB, metB, *] <;> omega
                clear hin'
                go_wp2_with (go_at_call 90; refine (in_at _ _ _ true HIN.out _).mono ?_; rintro e w' ⟨rfl, rfl⟩)
                refine wp_region_ext (by kernel_rfl) (by kernel_rfl) ?_
                repeat (first | go_big_quiet_skip | (go_big_quiet_want; go_big_quiet_op; go_big_quiet_on))
                refine wpQuiet_nil ?_
                rintro _ ⟨x, rfl⟩
                go_wp2
                go_ret
                exact ⟨ret_bool (all_no hlt HV.out).symm, HB0.out.trans (((Below.refl _ _).alloc (Nat.le_refl _) _).trans (x.h.mono (by simp)) |>.mono (by omega))⟩
              · by_cases r2 : y1 = x1
                · subst r2
                  have r4 : ¬ y1 < y1 := by omega
                  by_cases r3 : y2 = -1
                  · subst r3
                    have HV : Hid (okAt L l k = false) := by
                      show _ = _
                      rw [HOK.out]; simp [isAntB, mayB, metB, *] <;> omega
                    clear hin'
                    go_wp2_with (go_at_call 90; refine (in_at _ _ _ true HIN.out _).mono ?_; rintro e w' ⟨rfl, rfl⟩)
                    refine wp_region_ext (by kernel_rfl) (by kernel_rfl) ?_
                    repeat (first | go_big_quiet_skip | (go_big_quiet_want; go_big_quiet_op; go_big_quiet_on))
                    refine wpQuiet_nil ?_
                    rintro _ ⟨x, rfl⟩
                    go_wp2
                    go_ret
                    exact ⟨ret_bool (all_no hlt HV.out).symm, HB0.out.trans (((Below.refl _ _).alloc (Nat.le_refl _) _).trans (x.h.mono (by simp)) |>.mono (by omega))⟩
                  ·
                    have r5 : (y2 == -1) = false := by simpa using r3
                    have r6 : (y2 != -1) = true := by simpa using r3
                    have HV : Hid (okAt L l k = false) := by
                      show _ = _
                      rw [HOK.out]; simp [isAntB, mayB, metB, *] <;> omega
                    clear hin'
                    go_wp2_with (go_at_call 90; refine (in_at _ _ _ true HIN.out _).mono ?_; rintro e w' ⟨rfl, rfl⟩)
                    refine wp_region_ext (by kernel_rfl) (by kernel_rfl) ?_
                    repeat (first | go_big_quiet_skip | (go_big_quiet_want; go_big_quiet_op; go_big_quiet_on))
                    refine wpQuiet_nil ?_
                    rintro _ ⟨x, rfl⟩
                    go_wp2
                    go_ret
                    exact ⟨ret_bool (all_no hlt HV.out).symm, HB0.out.trans (((Below.refl _ _).alloc (Nat.le_refl _) _).trans (x.h.mono (by simp)) |>.mono (by omega))⟩
                ·
                  have r3 : (y1 == x1) = false := by simpa using r2
                  have r4 : y1 < x1 := by omega
                  have r6 : decide (x1 < y1) = false := by simp; omega
                  have HV : Hid (okAt L l k = true) := by
                    show _ = _
                    rw [HOK.out]; simp [isAntB, mayB, metB, *] <;> omega
                  clear hin'
                  go_wp2_with (go_at_call 90; refine (in_at _ _ _ true HIN.out _).mono ?_; rintro e w' ⟨rfl, rfl⟩)
                  refine wp_region_ext (by kernel_rfl) (by kernel_rfl) ?_
                  repeat (first | go_big_quiet_skip | (go_big_quiet_want; go_big_quiet_op; go_big_quiet_on))
                  refine wpQuiet_nil ?_
                  rintro _ ⟨x, rfl⟩
                  go_wp2
                  go_roundw
                  case rel => exact ⟨k + 1, by omega, by go_num, HB.out.trans (((Below.refl _ _).alloc (Nat.le_refl _) _).trans (x.h.mono (by simp)) |>.mono (by omega)), below_succ HALL.out HV.out⟩
                  case measure => simp [intOf]; omega
            ·
              have hk1 : decide (0 < (k : Int)) = false := by simp; omega
              have hk2 : decide (0 < k) = false := by simp; omega
              have hk3 : k = 0 := by omega
              have HV : Hid (okAt L l k = true) := by
                show _ = _
                rw [HOK.out]; simp [isAntB, mayB, metB, *] <;> omega
              clear hin' hk3
              go_wp2_with (go_at_call 90; refine (in_at _ _ _ true HIN.out _).mono ?_; rintro e w' ⟨rfl, rfl⟩)
              refine wp_region_ext (by kernel_rfl) (by kernel_rfl) ?_
              repeat (first | go_big_quiet_skip | (go_big_quiet_want; go_big_quiet_op; go_big_quiet_on))
              refine wpQuiet_nil ?_
              rintro _ ⟨x, rfl⟩
              go_wp2
              go_roundw
              case rel => exact ⟨k + 1, by omega, by go_num, HB.out.trans (((Below.refl _ _).alloc (Nat.le_refl _) _).trans (x.h.mono (by simp)) |>.mono (by omega)), below_succ HALL.out HV.out⟩
              case measure => simp [intOf]; omega
          · have hw : isAntB x1 x2 L = false := by simp [isAntB, h21, h22]
            have HV : Hid (okAt L l k = false) := by
              show _ = _
              rw [HOK.out, hw]; rfl
            have g1 : (x2 != 1) = true := by simpa using h21
            have g2 : (x2 != -1) = true := by simpa using h22
            clear hw hin' p0 p1
            go_wp2_with (go_at_call 90; refine (in_at _ _ _ true HIN.out _).mono ?_; rintro e w' ⟨rfl, rfl⟩)
            go_ret
            exact ⟨ret_bool (all_no hlt HV.out).symm, HB0.out.trans (((Below.refl _ _).alloc (Nat.le_refl _) _).mono (by omega))⟩
        · have hw : isAntB x1 x2 L = false := by simp [isAntB, hev]
          have HV : Hid (okAt L l k = false) := by
            show _ = _
            rw [HOK.out, hw]; rfl
          have e1 : (x1 % 2 == 0) = false := by simpa using hev
          have e2 : (x1 % 2 != 0) = true := by simpa using hev
          clear hev hw hin' p0 p1
          go_wp2_with (go_at_call 90; refine (in_at _ _ _ true HIN.out _).mono ?_; rintro e w' ⟨rfl, rfl⟩)
          go_ret
          exact ⟨ret_bool (all_no hlt HV.out).symm, HB0.out.trans (((Below.refl _ _).alloc (Nat.le_refl _) _).mono (by omega))⟩
      · have HIN : Hid ((decide (0 ≤ x1) && decide (x1 ≤ L)) = false) := by show (_ && _) = false; simp; omega
        have hw : isAntB x1 x2 L = false := by
          unfold isAntB
          rw [HIN.out]; rfl
        have HV : Hid (okAt L l k = false) := by
          show _ = _
          rw [HOK.out, hw]; rfl
        clear hin hw p0 p1
        go_wp2_with (go_at_call 90; refine (in_at _ _ _ false HIN.out _).mono ?_; rintro e w' ⟨rfl, rfl⟩)
        go_ret
        exact ⟨ret_bool (all_no hlt HV.out).symm, HB0.out.trans (((Below.refl _ _).alloc (Nat.le_refl _) _).mono (by omega))⟩
    · go_wp2
      go_ret
      exact ⟨ret_bool (all_yes (fun j hj => HALL.out j (by omega))).symm, HB0.out⟩

theorem roGood_any (L : Int) (A : Option Addr) (c : Nat) (l : List (Int × Int)) (w : World) (hA : AntsAt w A l) :
    Calls Tryd.prog 62 #[.agg #[.int .i64 L, .slice A l.length c]] w fun e w' => e = .returned (.bool (goodB L l)) ∧ Below w.heap.size w w' := by
  cases h : hdr L l.length with
  | false =>
    have e : goodB L l = false := by simp [goodB, h]
    rw [e]; exact roGood_hdr L A _ c w h
  | true =>
    have e : goodB L l = (List.range l.length).all (okAt L l) := by simp [goodB, h]
    rw [e]
    obtain ⟨h1, h2, h3, h4⟩ := (hdr_iff _ _).1 h
    exact roGood_loop L A c l w h1 h2 h3 (by omega) hA

end Go.Proofs.YtenpmjinbjlpbaaDoor
