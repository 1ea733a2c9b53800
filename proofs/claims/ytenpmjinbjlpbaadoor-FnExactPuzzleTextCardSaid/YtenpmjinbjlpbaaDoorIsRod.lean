/- The contracts of impl.IsRod and of what it calls: each returns its plain function, and turns nothing that was there. -/
import Derived.Test.YtenpmjinbjlpbaaDoorProg
import Derived.Test.YtenpmjinbjlpbaaDoorBase
namespace Go.Proofs.YtenpmjinbjlpbaaDoor
open Go.RowKit

def isAntB (a y l : Int) : Bool := decide (0 ≤ a) && decide (a ≤ l) && (a % 2 == 0) && (y == -1 || y == 1)
def metB (a y b z : Int) : Bool := (a == b) && (y == -1) && (z == 1)
def mayB (a y b z : Int) : Bool := decide (a < b) || metB a y b z

set_option maxHeartbeats 400000 in
theorem isAnt_any (a y l : Int) (w : World) :
    Calls Tryd.prog 65 #[.agg #[.int .i64 a, .int .i64 y], .int .i64 l] w fun e w' => e = .returned (.bool (isAntB a y l)) ∧ Below w.heap.size w w' := by
  go_enter Tryd.func65, Tryd.ntmps65
  go_wp2
  all_goals go_ret
  all_goals (refine ⟨ret_bool ?_, (Below.refl _ _).alloc (Nat.le_refl _) _⟩)
  all_goals (unfold isAntB; simp [*])
  all_goals omega

set_option maxHeartbeats 400000 in
theorem met_any (a y b z : Int) (w : World) :
    Calls Tryd.prog 92 #[.agg #[.int .i64 a, .int .i64 y], .agg #[.int .i64 b, .int .i64 z]] w fun e w' => e = .returned (.bool (metB a y b z)) ∧ Below w.heap.size w w' := by
  go_enter Tryd.func92, Tryd.ntmps92
  go_wp2
  all_goals go_ret
  all_goals (refine ⟨ret_bool ?_, ((Below.refl _ _).alloc (Nat.le_refl _) _).alloc (by simp) _⟩)
  all_goals (unfold metB; simp [*])

set_option maxHeartbeats 400000 in
theorem may_any (a y b z : Int) (w : World) :
    Calls Tryd.prog 66 #[.agg #[.int .i64 a, .int .i64 y], .agg #[.int .i64 b, .int .i64 z]] w fun e w' => e = .returned (.bool (mayB a y b z)) ∧ Below w.heap.size w w' := by
  go_enter Tryd.func66, Tryd.ntmps66
  go_wp2_with (go_at_call 92; refine (met_any _ _ _ _ _).mono ?_; rintro e w1 ⟨rfl, hb⟩)
  · go_ret
    exact ⟨ret_bool rfl, (((Below.refl _ _).alloc (Nat.le_refl _) _).alloc (by simp) _).trans (hb.mono (by simp; omega))⟩
  · go_ret
    exact ⟨ret_bool (by unfold mayB; simp [*]), ((Below.refl _ _).alloc (Nat.le_refl _) _).alloc (by simp) _⟩

def okAt (L : Int) (l : List (Int × Int)) (k : Nat) : Bool :=
  isAntB (l.getD k (0, 0)).1 (l.getD k (0, 0)).2 L && (k == 0 || mayB (l.getD (k - 1) (0, 0)).1 (l.getD (k - 1) (0, 0)).2 (l.getD k (0, 0)).1 (l.getD k (0, 0)).2)
def hdr (L : Int) (n : Nat) : Bool := decide (2 ≤ L) && decide (L ≤ 1000) && (L % 2 == 0) && decide (n ≤ 16)
def goodB (L : Int) (l : List (Int × Int)) : Bool := hdr L l.length && (List.range l.length).all (okAt L l)

theorem hdr_iff (L : Int) (n : Nat) : hdr L n = true ↔ 2 ≤ L ∧ L ≤ 1000 ∧ L % 2 = 0 ∧ n ≤ 16 := by
  simp [hdr]; omega

set_option maxHeartbeats 400000 in
theorem isRod_hdr (L : Int) (A : Option Addr) (n c : Nat) (w : World) (h : hdr L n = false) :
    Calls Tryd.prog 32 #[.agg #[.int .i64 L, .slice A n c]] w fun e w' => e = .returned (.bool false) ∧ Below w.heap.size w w' := by
  have h' : ¬ (2 ≤ L ∧ L ≤ 1000 ∧ L % 2 = 0 ∧ n ≤ 16) := by rw [← hdr_iff, h]; simp
  clear h
  have H := Lib.hid h'
  clear h'
  go_enter Tryd.func32, Tryd.ntmps32
  go_wp2
  all_goals first
    | (exfalso; have := H.out; omega)
    | (go_ret
       exact ⟨ret_bool rfl, (Below.refl _ _).alloc (Nat.le_refl _) _⟩)

theorem isAnt_at (a y l : Int) (r : Bool) (hr : isAntB a y l = r) (w : World) :
    Calls Tryd.prog 65 #[.agg #[.int .i64 a, .int .i64 y], .int .i64 l] w fun e w' => e = .returned (.bool r) ∧ Below w.heap.size w w' := by
  subst hr; exact isAnt_any a y l w
theorem may_at (a y b z : Int) (r : Bool) (hr : mayB a y b z = r) (w : World) :
    Calls Tryd.prog 66 #[.agg #[.int .i64 a, .int .i64 y], .agg #[.int .i64 b, .int .i64 z]] w fun e w' => e = .returned (.bool r) ∧ Below w.heap.size w w' := by
  subst hr; exact may_any a y b z w
set_option maxHeartbeats 1000000 in
theorem isRod_loop (L : Int) (A : Option Addr) (c : Nat) (l : List (Int × Int)) (w : World) (h1 : 2 ≤ L) (h2 : L ≤ 1000) (h3 : L % 2 = 0) (h4 : (l.length : Int) ≤ 16) (hA : AntsAt w A l) :
    Calls Tryd.prog 32 #[.agg #[.int .i64 L, .slice A l.length c]] w fun e w' => e = .returned (.bool ((List.range l.length).all (okAt L l))) ∧ Below w.heap.size w w' := by
  have hne : (L % 2 == 0) = true := by simpa using h3
  have hne' : (L % 2 != 0) = false := by simpa using h3
  have d1 : decide (L < 2) = false := by simp; omega
  have d2 : decide (1000 < L) = false := by simp; omega
  have d3 : decide (16 < (l.length : Int)) = false := by simp; omega
  clear h3
  have HA := Lib.hid hA
  clear hA
  go_enter Tryd.func32, Tryd.ntmps32
  go_wp2
  go_loopw [28] (fun i wr => ∃ k : Nat, k ≤ l.length ∧ i = .int .i64 k ∧ Below (w.heap.size + 1) (w.alloc (Obj.cells #[Value.int IntKind.i64 L, Value.slice A l.length c] 24)) wr ∧ ∀ j, j < k → okAt L l j = true)
    (fun i _ => l.length - (intOf i).toNat)
  case atStart => exact ⟨0, Nat.zero_le _, rfl, Below.refl _ _, fun j hj => absurd hj (by omega)⟩
  case round =>
    obtain ⟨k, hk, rfl, hb, hall⟩ := hrel
    have HB := Lib.hid hb
    have HALL := Lib.hid hall
    clear hall
    have hs : w.heap.size + 1 ≤ wr.heap.size := by have := hb.size; simpa using this
    have c0 : wr.cell? ⟨w.heap.size, 0, none⟩ = some (.int .i64 L) := by rw [hb.cell (p := ⟨w.heap.size, 0, none⟩) (by simp)]; simp
    have c1 : wr.cell? ⟨w.heap.size, 1, none⟩ = some (.slice A l.length c) := by rw [hb.cell (p := ⟨w.heap.size, 1, none⟩) (by simp)]; simp
    have hs1 : w.heap.size < wr.heap.size := by omega
    have hB0 : Below w.heap.size w wr := ((Below.refl _ _).alloc (Nat.le_refl _) _).trans (hb.mono (by simp))
    have HB0 := Lib.hid hB0
    have HAr := Lib.hid (HA.out.below hB0)
    clear hb hB0
    by_cases hlt : k < l.length
    · obtain ⟨b, off, rfl, l0, hc⟩ := HAr.out.at_ hlt
      have hp := hc (k - 1) (by omega)
      obtain ⟨a0, a1⟩ := hc k hlt
      have hok : okAt L l k = (isAntB (l.getD k (0, 0)).1 (l.getD k (0, 0)).2 L && (k == 0 || mayB (l.getD (k - 1) (0, 0)).1 (l.getD (k - 1) (0, 0)).2 (l.getD k (0, 0)).1 (l.getD k (0, 0)).2)) := rfl
      clear hc
      generalize l.getD k (0, 0) = x at *
      generalize l.getD (k - 1) (0, 0) = y at *
      obtain ⟨x1, x2⟩ := x
      obtain ⟨y1, y2⟩ := y
      obtain ⟨p0, p1⟩ := hp
      simp only at a0 a1 p0 p1 hok
      have HOK := Lib.hid hok
      clear hok
      have f0 := Ext.cell (p := ⟨wr.heap.size, 0, none⟩) (v := .int .i64 x1) (W := (wr.alloc (Obj.cells #[Value.int IntKind.i64 x1, Value.int IntKind.i64 x2] 58))) (by simp)
      have f1 := Ext.cell (p := ⟨wr.heap.size, 1, none⟩) (v := .int .i64 x2) (W := (wr.alloc (Obj.cells #[Value.int IntKind.i64 x1, Value.int IntKind.i64 x2] 58))) (by simp)
      have f2 := Ext.old (o := (Obj.cells #[Value.int IntKind.i64 x1, Value.int IntKind.i64 x2] 58)) c0
      have f3 := Ext.old (o := (Obj.cells #[Value.int IntKind.i64 x1, Value.int IntKind.i64 x2] 58)) c1
      have f4 := Ext.old (o := (Obj.cells #[Value.int IntKind.i64 x1, Value.int IntKind.i64 x2] 58)) p0
      have f5 := Ext.old (o := (Obj.cells #[Value.int IntKind.i64 x1, Value.int IntKind.i64 x2] 58)) p1
      clear p0 p1
      cases hia : isAntB x1 x2 L with
      | false =>
        have HIA := Lib.hid hia
        clear hia
        go_wp2
        refine wp_region_ext (by kernel_rfl) (by kernel_rfl) ?_
        repeat (first | go_big_quiet_skip | (go_big_quiet_want; go_big_quiet_op; first | go_big_quiet_on | (apply Exists.intro; refine ⟨fun _ => ?_, ?_⟩; (go_at_call 65; exact Ext.call (isAnt_at _ _ _ false HIA.out _)); go_big_quiet_on)))
        refine wpQuiet_nil ?_
        rintro _ ⟨x, rfl⟩
        go_wp2
        go_ret
        exact ⟨ret_bool (all_no hlt (by rw [HOK.out, HIA.out]; rfl)).symm, HB0.out.trans (((Below.refl _ _).alloc (Nat.le_refl _) _).trans (x.h.mono (by simp)) |>.mono (by omega))⟩
      | true =>
        have HIA := Lib.hid hia
        clear hia
        by_cases hk0 : 0 < k
        · have q1 : (0 : Int) < (k : Int) := by omega
          have q2 : (1 : Int) ≤ (k : Int) := by omega
          have q3 : ((k : Int) - 1).toNat = k - 1 := by omega
          cases hma : mayB y1 y2 x1 x2 with
          | false =>
            have HMA := Lib.hid hma
            clear hma
            go_wp2
            refine wp_region_ext (by kernel_rfl) (by kernel_rfl) ?_
            repeat (first | go_big_quiet_skip | (go_big_quiet_want; go_big_quiet_op; first | go_big_quiet_on | (apply Exists.intro; refine ⟨fun _ => ?_, ?_⟩; (first | (go_at_call 65; exact Ext.call (isAnt_at _ _ _ true HIA.out _)) | (go_at_call 66; exact Ext.call (may_at _ _ _ _ false HMA.out _))); go_big_quiet_on)))
            refine wpQuiet_nil ?_
            rintro _ ⟨x, rfl⟩
            go_wp2
            go_ret
            exact ⟨ret_bool (all_no hlt (by rw [HOK.out, HIA.out, HMA.out]; simp; omega)).symm, HB0.out.trans (((Below.refl _ _).alloc (Nat.le_refl _) _).trans (x.h.mono (by simp)) |>.mono (by omega))⟩
          | true =>
            have HMA := Lib.hid hma
            clear hma
            go_wp2
            refine wp_region_ext (by kernel_rfl) (by kernel_rfl) ?_
            repeat (first | go_big_quiet_skip | (go_big_quiet_want; go_big_quiet_op; first | go_big_quiet_on | (apply Exists.intro; refine ⟨fun _ => ?_, ?_⟩; (first | (go_at_call 65; exact Ext.call (isAnt_at _ _ _ true HIA.out _)) | (go_at_call 66; exact Ext.call (may_at _ _ _ _ true HMA.out _))); go_big_quiet_on)))
            refine wpQuiet_nil ?_
            rintro _ ⟨x, rfl⟩
            go_wp2
            go_roundw
            case rel => exact ⟨k + 1, by omega, by go_num, HB.out.trans (((Below.refl _ _).alloc (Nat.le_refl _) _).trans (x.h.mono (by simp)) |>.mono (by omega)), fun j hj => by
              by_cases hjk : j < k
              · exact HALL.out j hjk
              · obtain rfl : j = k := by omega
                rw [HOK.out, HIA.out, HMA.out]; simp⟩
            case measure => simp [intOf]; omega
        · have hk1 : decide (0 < (k : Int)) = false := by simp; omega
          have hk2 : decide (0 < k) = false := by simp; omega
          go_wp2
          refine wp_region_ext (by kernel_rfl) (by kernel_rfl) ?_
          repeat (first | go_big_quiet_skip | (go_big_quiet_want; go_big_quiet_op; first | go_big_quiet_on | (apply Exists.intro; refine ⟨fun _ => ?_, ?_⟩; (go_at_call 65; exact Ext.call (isAnt_at _ _ _ true HIA.out _)); go_big_quiet_on)))
          refine wpQuiet_nil ?_
          rintro _ ⟨x, rfl⟩
          go_wp2
          go_roundw
          case rel => exact ⟨k + 1, by omega, by go_num, HB.out.trans (((Below.refl _ _).alloc (Nat.le_refl _) _).trans (x.h.mono (by simp)) |>.mono (by omega)), fun j hj => by
            by_cases hjk : j < k
            · exact HALL.out j hjk
            · obtain rfl : j = k := by omega
              rw [HOK.out, HIA.out]; simp; omega⟩
          case measure => simp [intOf]; omega
    · go_wp2
      go_ret
      exact ⟨ret_bool (all_yes (fun j hj => HALL.out j (by omega))).symm, HB0.out⟩

theorem isRod_any (L : Int) (A : Option Addr) (c : Nat) (l : List (Int × Int)) (w : World) (hA : AntsAt w A l) :
    Calls Tryd.prog 32 #[.agg #[.int .i64 L, .slice A l.length c]] w fun e w' => e = .returned (.bool (goodB L l)) ∧ Below w.heap.size w w' := by
  cases h : hdr L l.length with
  | false =>
    have e : goodB L l = false := by simp [goodB, h]
    rw [e]; exact isRod_hdr L A _ c w h
  | true =>
    have e : goodB L l = (List.range l.length).all (okAt L l) := by simp [goodB, h]
    rw [e]
    obtain ⟨h1, h2, h3, h4⟩ := (hdr_iff _ _).1 h
    exact isRod_loop L A c l w h1 h2 h3 (by omega) hA
end Go.Proofs.YtenpmjinbjlpbaaDoor
