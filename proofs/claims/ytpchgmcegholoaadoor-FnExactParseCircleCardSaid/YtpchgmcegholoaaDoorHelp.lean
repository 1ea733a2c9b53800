/- The contracts of the laws' own helpers: size, copy, comparison, marks. -/
import Derived.Test.YtpchgmcegholoaaDoorProg
import Derived.Test.YtpchgmcegholoaaDoorBase
namespace Go.Proofs.YtpchgmcegholoaaDoor
open Go.RowKit

theorem antInfo : (Tryd.prog.info? 52).map (fun i => (i.zero, i.size, i.bytes)) = some (some (.agg #[.int .i64 0, .int .i64 0]), 2, 16) := by kernel_rfl

theorem take_rep (l : List (Int × Int)) (k : Nat) (hk : k < l.length) : (l.take k ++ List.replicate (l.length - k) (0, 0)).set k (l.getD k (0, 0)) = l.take (k + 1) ++ List.replicate (l.length - (k + 1)) (0, 0) := by
  rw [List.set_append_right _ _ (by rw [List.length_take]; omega), List.length_take, Nat.min_eq_left (by omega), Nat.sub_self,
    show l.length - k = (l.length - (k + 1)) + 1 by omega, List.replicate_succ, List.set_cons_zero, List.take_succ_eq_append_getElem hk, List.append_assoc]
  simp [hk]

theorem eqAnt_any (a y b z : Int) (w : World) :
    Calls Tryd.prog 36 #[.agg #[.int .i64 a, .int .i64 y], .agg #[.int .i64 b, .int .i64 z]] w fun e w' => e = .returned (.bool (a == b && y == z)) ∧ Below w.heap.size w w' := by
  go_enter Tryd.func36, Tryd.ntmps36
  go_wp2
  all_goals go_ret
  all_goals (refine ⟨ret_bool ?_, ((Below.refl _ _).alloc (Nat.le_refl _) _).alloc (by simp) _⟩)
  all_goals simp_all
theorem eqAnt_at (a y b z : Int) (r : Bool) (hr : (a == b && y == z) = r) (w : World) :
    Calls Tryd.prog 36 #[.agg #[.int .i64 a, .int .i64 y], .agg #[.int .i64 b, .int .i64 z]] w fun e w' => e = .returned (.bool r) ∧ Below w.heap.size w w' := by
  subst hr; exact eqAnt_any a y b z w

def eqAt (l m : List (Int × Int)) (k : Nat) : Bool := ((l.getD k (0, 0)).1 == (m.getD k (0, 0)).1 && (l.getD k (0, 0)).2 == (m.getD k (0, 0)).2)
theorem eqAntS_lens (A B : Option Addr) (n m c d : Nat) (w : World) (h : ((n : Int) == (m : Int)) = false) :
    Calls Tryd.prog 20 #[.slice A n c, .slice B m d] w fun e w' => e = .returned (.bool false) ∧ Below w.heap.size w w' := by
  have h2 : ((n : Int) != (m : Int)) = true := by simpa using h
  go_enter Tryd.func20, Tryd.ntmps20
  go_wp2
  go_ret
  exact ⟨ret_bool rfl, Below.refl _ _⟩

set_option maxHeartbeats 1000000 in
theorem eqAntS_same (A B : Option Addr) (c d : Nat) (l m : List (Int × Int)) (w : World) (hn : (l.length : Int) ≤ 1048576) (hlen : l.length = m.length) (hA : AntsAt w A l) (hB : AntsAt w B m) :
    Calls Tryd.prog 20 #[.slice A l.length c, .slice B l.length d] w fun e w' => e = .returned (.bool ((List.range l.length).all (eqAt l m))) ∧ Below w.heap.size w w' := by
  have HA := Lib.hid hA
  have HB := Lib.hid hB
  have HL := Lib.hid hlen
  clear hA hB hlen
  go_enter Tryd.func20, Tryd.ntmps20
  go_wp2
  go_loopw [5] (fun i wr => ∃ k : Nat, k ≤ l.length ∧ i = .int .i64 k ∧ Below w.heap.size w wr ∧ ∀ j, j < k → eqAt l m j = true)
    (fun i _ => l.length - (intOf i).toNat)
  case atStart => exact ⟨0, Nat.zero_le _, rfl, Below.refl _ _, fun j hj => absurd hj (by omega)⟩
  case round =>
    obtain ⟨k, hk, rfl, hb, hall⟩ := hrel
    have HBe := Lib.hid hb
    have HALL := Lib.hid hall
    have HAr := Lib.hid (HA.out.below hb)
    have HBr := Lib.hid (HB.out.below hb)
    clear hb hall
    by_cases hlt : k < l.length
    · obtain ⟨b, off, rfl, l0, hc⟩ := HAr.out.at_ hlt
      obtain ⟨b', off', rfl, l0', hc'⟩ := HBr.out.at_ (show k < m.length by have := HL.out; omega)
      obtain ⟨a0, a1⟩ := hc k hlt
      obtain ⟨a0', a1'⟩ := hc' k (by have := HL.out; omega)
      obtain ⟨r, hv⟩ : ∃ r, eqAt l m k = r := ⟨_, rfl⟩
      have hr : ((l.getD k (0, 0)).1 == (m.getD k (0, 0)).1 && (l.getD k (0, 0)).2 == (m.getD k (0, 0)).2) = r := hv
      have HV := Lib.hid hv
      clear hv
      clear hc hc'
      generalize l.getD k (0, 0) = x at *
      generalize m.getD k (0, 0) = y at *
      obtain ⟨x1, x2⟩ := x
      obtain ⟨y1, y2⟩ := y
      simp only at a0 a1 a0' a1' hr
      have HR := Lib.hid hr
      clear hr
      have f0 := Ext.cell a0
      have f1 := Ext.cell a1
      have f0' := Ext.cell a0'
      have f1' := Ext.cell a1'
      clear a0 a1 a0' a1'
      cases r with
      | false =>
        go_wp2
        refine wp_region_ext (by kernel_rfl) (by kernel_rfl) ?_
        repeat (first | go_big_quiet_skip | (go_big_quiet_want; go_big_quiet_op; first | go_big_quiet_on | (apply Exists.intro; refine ⟨fun _ => ?_, ?_⟩; (go_at_call 36; exact Ext.call (eqAnt_at _ _ _ _ false HR.out _)); go_big_quiet_on)))
        refine wpQuiet_nil ?_
        rintro _ ⟨x, rfl⟩
        go_wp2
        go_ret
        exact ⟨ret_bool (all_no hlt HV.out).symm, HBe.out.trans (x.h.mono HBe.out.size)⟩
      | true =>
        go_wp2
        refine wp_region_ext (by kernel_rfl) (by kernel_rfl) ?_
        repeat (first | go_big_quiet_skip | (go_big_quiet_want; go_big_quiet_op; first | go_big_quiet_on | (apply Exists.intro; refine ⟨fun _ => ?_, ?_⟩; (go_at_call 36; exact Ext.call (eqAnt_at _ _ _ _ true HR.out _)); go_big_quiet_on)))
        refine wpQuiet_nil ?_
        rintro _ ⟨x, rfl⟩
        go_wp2
        go_roundw
        case rel => exact ⟨k + 1, by omega, by go_num, HBe.out.trans (x.h.mono HBe.out.size), below_succ HALL.out HV.out⟩
        case measure => simp [intOf]; omega
    · go_wp2
      go_ret
      exact ⟨ret_bool (all_yes (fun j hj => HALL.out j (by omega))).symm, HBe.out⟩

theorem eqAntS_true (A B : Option Addr) (c d : Nat) (l : List (Int × Int)) (w : World) (hn : (l.length : Int) ≤ 1048576) (hA : AntsAt w A l) (hB : AntsAt w B l) :
    Calls Tryd.prog 20 #[.slice A l.length c, .slice B l.length d] w fun e w' => e = .returned (.bool true) ∧ Below w.heap.size w w' := by
  have h := eqAntS_same A B c d l l w hn rfl hA hB
  have e : (List.range l.length).all (eqAt l l) = true := all_yes fun j _ => by simp [eqAt]
  rwa [e] at h

set_option maxHeartbeats 400000 in
theorem eqRod_true (L : Int) (A B : Option Addr) (c d : Nat) (l : List (Int × Int)) (w : World) (hn : (l.length : Int) ≤ 1048576) (hA : AntsAt w A l) (hB : AntsAt w B l) :
    Calls Tryd.prog 7 #[.agg #[.int .i64 L, .slice A l.length c], .agg #[.int .i64 L, .slice B l.length d]] w fun e w' => e = .returned (.bool true) ∧ Below w.heap.size w w' := by
  have HA := Lib.hid hA
  have HB := Lib.hid hB
  clear hA hB
  go_enter Tryd.func7, Tryd.ntmps7
  go_wp2_with fail
  refine (eqAntS_true A B c d l _ hn ?_ ?_).mono ?_
  · exact (HA.out.alloc _).alloc _
  · exact (HB.out.alloc _).alloc _
  rintro e w1 ⟨rfl, hb⟩
  go_wp2
  go_ret
  exact ⟨ret_bool rfl, (((Below.refl _ _).alloc (Nat.le_refl _) _).alloc (by simp) _).trans (hb.mono (by simp; omega))⟩

end Go.Proofs.YtpchgmcegholoaaDoor
