/- The contracts of the laws' own helpers: size, copy, comparison, marks. -/
import Derived.Test.YtenpmjinbjlpbaaDoorProg
import Derived.Test.YtenpmjinbjlpbaaDoorBase
namespace Go.Proofs.YtenpmjinbjlpbaaDoor
open Go.RowKit

theorem szAntS_any (A : Option Addr) (n c : Nat) (k : Int) (w : World) (hk : 0 ≤ k) (hk2 : k ≤ 1048576) (hn : (n : Int) ≤ 9223372036854775807) :
    Calls Tryd.prog 61 #[.slice A n c, .int .i64 k] w fun e w' => e = .returned (.int .i64 (if k < n then -1 else k - n)) ∧ w = w' := by
  have h1 : -9223372036854775808 ≤ k - (n : Int) := by omega
  by_cases h : k < n
  · have h2 : k - (n : Int) < 0 := by omega
    go_enter Tryd.func61, Tryd.ntmps61
    go_wp2
    go_ret
    exact ⟨ret_int (by simp), rfl⟩
  · have h2 : ¬ k - (n : Int) < 0 := by omega
    go_enter Tryd.func61, Tryd.ntmps61
    go_wp2
    go_ret
    exact ⟨ret_int (by simp), rfl⟩

theorem szRod_big (L : Int) (A : Option Addr) (n c : Nat) (k : Int) (w : World) (hk : 0 ≤ k) (hk2 : k ≤ 1048576) (hn : (n : Int) ≤ 9223372036854775807) (h : k < n) :
    Calls Tryd.prog 29 #[.agg #[.int .i64 L, .slice A n c], .int .i64 k] w fun e w' => e = .returned (.int .i64 (-1)) ∧ Below w.heap.size w w' := by
  have H : Hid (∀ w, Calls Tryd.prog 61 #[.slice A n c, .int .i64 k] w fun e w' => e = .returned (.int .i64 (-1)) ∧ w = w') := fun w =>
    (szAntS_any A n c k w hk hk2 hn).mono fun e w' ⟨he, hw⟩ => ⟨by rw [he, if_pos h], hw⟩
  clear h
  go_enter Tryd.func29, Tryd.ntmps29
  go_wp2_with (go_at_call 61; refine (H.out _).mono ?_; rintro e w' ⟨rfl, rfl⟩)
  go_ret
  exact ⟨rfl, (Below.refl _ _).alloc (Nat.le_refl _) _⟩

theorem szRod_fits (L : Int) (A : Option Addr) (n c : Nat) (k : Int) (w : World) (hk : 0 ≤ k) (hk2 : k ≤ 1048576) (hn : (n : Int) ≤ 9223372036854775807) (h : ¬ k < n) :
    Calls Tryd.prog 29 #[.agg #[.int .i64 L, .slice A n c], .int .i64 k] w fun e w' => e = .returned (.int .i64 (k - n)) ∧ Below w.heap.size w w' := by
  have H : Hid (∀ w, Calls Tryd.prog 61 #[.slice A n c, .int .i64 k] w fun e w' => e = .returned (.int .i64 (k - n)) ∧ w = w') := fun w =>
    (szAntS_any A n c k w hk hk2 hn).mono fun e w' ⟨he, hw⟩ => ⟨by rw [he, if_neg h], hw⟩
  have h0 : ¬ k - (n : Int) < 0 := by omega
  clear h
  go_enter Tryd.func29, Tryd.ntmps29
  go_wp2_with (go_at_call 61; refine (H.out _).mono ?_; rintro e w' ⟨rfl, rfl⟩)
  go_ret
  exact ⟨rfl, (Below.refl _ _).alloc (Nat.le_refl _) _⟩

theorem toAnt_any (a y : Int) (w : World) :
    Calls Tryd.prog 91 #[.agg #[.int .i64 a, .int .i64 y]] w fun e w' => e = .returned (.agg #[.int .i64 a, .int .i64 y]) ∧ Below w.heap.size w w' := by
  go_enter Tryd.func91, Tryd.ntmps91
  go_wp2
  exact bodyPost_ret (v := .agg #[.int .i64 a, .int .i64 y]) (by simp [results, Tryd.results91, go_sem]) rfl ⟨rfl, ((((Below.refl _ _).alloc (Nat.le_refl _) _).alloc (by simp) _).alloc (by simp; omega) _)⟩

theorem antInfo : (Tryd.prog.info? 58).map (fun i => (i.zero, i.size, i.bytes)) = some (some (.agg #[.int .i64 0, .int .i64 0]), 2, 16) := by kernel_rfl

theorem take_rep (l : List (Int × Int)) (k : Nat) (hk : k < l.length) : (l.take k ++ List.replicate (l.length - k) (0, 0)).set k (l.getD k (0, 0)) = l.take (k + 1) ++ List.replicate (l.length - (k + 1)) (0, 0) := by
  rw [List.set_append_right _ _ (by rw [List.length_take]; omega), List.length_take, Nat.min_eq_left (by omega), Nat.sub_self,
    show l.length - k = (l.length - (k + 1)) + 1 by omega, List.replicate_succ, List.set_cons_zero, List.take_succ_eq_append_getElem hk, List.append_assoc]
  simp [hk]

set_option maxHeartbeats 1000000 in
theorem toAntS_any (A : Option Addr) (c : Nat) (l : List (Int × Int)) (w : World) (hn : (l.length : Int) ≤ 1048576) (hA : AntsAt w A l) :
    Calls Tryd.prog 64 #[.slice A l.length c] w fun e w' => ∃ A' c', e = .returned (.slice A' l.length c') ∧ AntsOwn w' w.heap.size 58 (.slice A' l.length c') l ∧ Below w.heap.size w w' := by
  obtain ⟨i0, hi, hz0, hz1, hz2⟩ := info_parts antInfo
  have HA := Lib.hid hA
  clear hA
  go_enter Tryd.func64, Tryd.ntmps64
  go_wp2_with (at_make; refine wpList_make_full _ rfl _ _ _ rfl w.heap.size 58 i0 _ 2 Tryd.underlying22 hi hz0 hz1 .i64 .i64 _ _ l.length rfl rfl rfl rfl (by rw [hz2]; omega) (by unfold maxLen; omega) (Nat.le_refl _) ?_; intro w1 hown hg)
  have HB1 := Lib.hid ((Below.refl w.heap.size w).grown hg (Nat.le_refl _) (by simp))
  clear hg
  have HO1 : Hid (AntsOwn w1 w.heap.size 58 (.slice (some ⟨w.heap.size, 0, none⟩) l.length l.length) (l.take 0 ++ List.replicate (l.length - 0) (0, 0))) := by
    have e := antCells_made l.length
    show World.ownsRow _ _ _ _ _ _ _
    simp only [List.take_zero, List.nil_append, Nat.sub_zero, List.length_replicate]
    rw [← e]
    exact hown
  clear hown
  clear hi hz0 hz1 hz2
  go_loopw [4] (fun i wr => ∃ k : Nat, k ≤ l.length ∧ i = .int .i64 k ∧ Below w.heap.size w wr ∧ AntsOwn wr w.heap.size 58 (.slice (some ⟨w.heap.size, 0, none⟩) l.length l.length) (l.take k ++ List.replicate (l.length - k) (0, 0)))
    (fun i _ => l.length - (intOf i).toNat)
  case atStart => exact ⟨0, Nat.zero_le _, rfl, HB1.out, HO1.out⟩
  case round =>
    obtain ⟨k, hk, rfl, hb, hown⟩ := hrel
    have HB := Lib.hid hb
    have HO := Lib.hid hown
    have HAr := Lib.hid (HA.out.below hb)
    clear hb hown
    by_cases hlt : k < l.length
    · obtain ⟨b, off, rfl, l0, hc⟩ := HAr.out.at_ hlt
      obtain ⟨a0, a1⟩ := hc k hlt
      have hx := take_rep l k hlt
      clear hc
      generalize l.getD k (0, 0) = x at *
      obtain ⟨x1, x2⟩ := x
      simp only at a0 a1
      have HX := Lib.hid hx
      clear hx
      go_wp2_with fail
      refine (toAnt_any _ _ _).mono ?_
      rintro e w2 ⟨rfl, hb2⟩
      have HO2 := Lib.hid (HO.out.below hb2)
      have HB2 := Lib.hid (HB.out.trans (hb2.mono HB.out.size))
      clear hb2
      have hst := AntsOwn.store HO2.out (k := k) (by simp; omega) x1 x2
      obtain ⟨v0, v1, c0, c1, g0, g1, hrow, hgrow⟩ := hst
      have HR := Lib.hid hrow
      have HG := Lib.hid hgrow
      clear hrow hgrow
      go_wp2
      go_roundw
      case rel =>
        refine ⟨k + 1, by omega, by go_num, ?_, ?_⟩
        · exact HB2.out.grown HG.out (by have := HB2.out.size; omega) (by simp)
        · rw [← HX.out]; exact HR.out
      case measure => simp [intOf]; omega
    · obtain rfl : k = l.length := by omega
      go_wp2
      go_ret
      exact ⟨_, _, rfl, by simpa using HO.out, HB.out⟩


set_option maxHeartbeats 1000000 in
theorem toRod_any (L : Int) (A : Option Addr) (c : Nat) (l : List (Int × Int)) (w : World) (hn : (l.length : Int) ≤ 1048576) (hA : AntsAt w A l) :
    Calls Tryd.prog 31 #[.agg #[.int .i64 L, .slice A l.length c]] w fun e w' => ∃ A' c', e = .returned (.agg #[.int .i64 L, .slice A' l.length c']) ∧ AntsOwn w' w.heap.size 58 (.slice A' l.length c') l ∧ Below w.heap.size w w' := by
  have HA := Lib.hid hA
  clear hA
  go_enter Tryd.func31, Tryd.ntmps31
  go_wp2_with fail
  refine (toAntS_any A c l _ hn ?_).mono ?_
  · exact HA.out.below ((((Below.refl _ _).alloc (Nat.le_refl _) _).alloc (by simp) _).alloc (by simp; omega) _)
  rintro e w1 ⟨A1, c1, rfl, hown, hb⟩
  have HO := Lib.hid hown
  have HB := Lib.hid hb
  have hz : w.heap.size + 3 ≤ w1.heap.size := by have := hb.size; simpa using this
  have c20 : w1.cell? ⟨w.heap.size + 1 + 1, 0, none⟩ = some (.int .i64 L) := by rw [hb.cell (p := ⟨w.heap.size + 1 + 1, 0, none⟩) (by simp)]; simp [go_sem]
  have c21 : w1.cell? ⟨w.heap.size + 1 + 1, 1, none⟩ = some (.slice none 0 0) := by rw [hb.cell (p := ⟨w.heap.size + 1 + 1, 1, none⟩) (by simp)]; simp [go_sem]
  have c10 : w1.cell? ⟨w.heap.size + 1, 0, none⟩ = some (.int .i64 0) := by rw [hb.cell (p := ⟨w.heap.size + 1, 0, none⟩) (by simp)]; simp [go_sem]
  have c11 : w1.cell? ⟨w.heap.size + 1, 1, none⟩ = some (.slice none 0 0) := by rw [hb.cell (p := ⟨w.heap.size + 1, 1, none⟩) (by simp)]; simp [go_sem]
  have f2 : ∀ o, w1.frozen? ⟨w.heap.size + 1 + 1, o, none⟩ = false := fun o => by rw [hb.frozen (p := ⟨w.heap.size + 1 + 1, o, none⟩) (by simp)]; simp [go_sem]
  have f1 : ∀ o, w1.frozen? ⟨w.heap.size + 1, o, none⟩ = false := fun o => by rw [hb.frozen (p := ⟨w.heap.size + 1, o, none⟩) (by simp)]; simp [go_sem]
  clear hb hown
  have hlt1 : w.heap.size + 1 < w1.heap.size := by omega
  have hlt2 : w.heap.size + 1 + 1 < w1.heap.size := by omega
  go_wp2
  have b0 : Below w.heap.size w w1 := ((((Below.refl _ _).alloc (Nat.le_refl _) _).alloc (by simp) _).alloc (by simp; omega) _).trans (HB.out.mono (by simp; omega))
  exact bodyPost_ret (v := .agg #[.int .i64 L, .slice A1 l.length c1]) (by simp [results, Tryd.results31, go_sem, c10, c11]) rfl ⟨A1, c1, rfl,
    ownsRow_base (ownsRow_setCell_below (ownsRow_setCell_below (ownsRow_setCell_below HO.out (by simp) _) (by simp) _) (by simp) _) (by simp; omega),
    ((b0.setCell (by simp; omega) _).setCell (by simp) _).setCell (by simp) _⟩

theorem eqAnt_any (a y b z : Int) (w : World) :
    Calls Tryd.prog 89 #[.agg #[.int .i64 a, .int .i64 y], .agg #[.int .i64 b, .int .i64 z]] w fun e w' => e = .returned (.bool (a == b && y == z)) ∧ Below w.heap.size w w' := by
  go_enter Tryd.func89, Tryd.ntmps89
  go_wp2
  all_goals go_ret
  all_goals (refine ⟨ret_bool ?_, ((Below.refl _ _).alloc (Nat.le_refl _) _).alloc (by simp) _⟩)
  all_goals simp_all
theorem eqAnt_at (a y b z : Int) (r : Bool) (hr : (a == b && y == z) = r) (w : World) :
    Calls Tryd.prog 89 #[.agg #[.int .i64 a, .int .i64 y], .agg #[.int .i64 b, .int .i64 z]] w fun e w' => e = .returned (.bool r) ∧ Below w.heap.size w w' := by
  subst hr; exact eqAnt_any a y b z w

def eqAt (l m : List (Int × Int)) (k : Nat) : Bool := ((l.getD k (0, 0)).1 == (m.getD k (0, 0)).1 && (l.getD k (0, 0)).2 == (m.getD k (0, 0)).2)
theorem eqAntS_lens (A B : Option Addr) (n m c d : Nat) (w : World) (h : ((n : Int) == (m : Int)) = false) :
    Calls Tryd.prog 58 #[.slice A n c, .slice B m d] w fun e w' => e = .returned (.bool false) ∧ Below w.heap.size w w' := by
  have h2 : ((n : Int) != (m : Int)) = true := by simpa using h
  go_enter Tryd.func58, Tryd.ntmps58
  go_wp2
  go_ret
  exact ⟨ret_bool rfl, Below.refl _ _⟩

set_option maxHeartbeats 1000000 in
theorem eqAntS_same (A B : Option Addr) (c d : Nat) (l m : List (Int × Int)) (w : World) (hn : (l.length : Int) ≤ 1048576) (hlen : l.length = m.length) (hA : AntsAt w A l) (hB : AntsAt w B m) :
    Calls Tryd.prog 58 #[.slice A l.length c, .slice B l.length d] w fun e w' => e = .returned (.bool ((List.range l.length).all (eqAt l m))) ∧ Below w.heap.size w w' := by
  have HA := Lib.hid hA
  have HB := Lib.hid hB
  have HL := Lib.hid hlen
  clear hA hB hlen
  go_enter Tryd.func58, Tryd.ntmps58
  go_wp2
  go_loopw [5] (fun i wr => ∃ k : Nat, k ≤ l.length ∧ i = .int .i64 k ∧ Below w.heap.size w wr ∧ ∀ j, j < k → eqAt l m j = true)
    (fun i _ => l.length - (intOf i).toNat)
  case atStart => exact ⟨0, Nat.zero_le _, rfl, Below.refl _ _, fun j hj => absurd hj (by omega)⟩
  case round =>
    obtain ⟨k, hk, rfl, hb, hall⟩ := hrel
    have HBe := Lib.hid hb
    have HALL := Lib.hid hall
    have HAr := Lib.hid (HA.out.below hb)
    have HBr := Lib.hid (HB.out.below hb)
    clear hb hall
    by_cases hlt : k < l.length
    · obtain ⟨b, off, rfl, l0, hc⟩ := HAr.out.at_ hlt
      obtain ⟨b', off', rfl, l0', hc'⟩ := HBr.out.at_ (show k < m.length by have := HL.out; omega)
      obtain ⟨a0, a1⟩ := hc k hlt
      obtain ⟨a0', a1'⟩ := hc' k (by have := HL.out; omega)
      obtain ⟨r, hv⟩ : ∃ r, eqAt l m k = r := ⟨_, rfl⟩
      have hr : ((l.getD k (0, 0)).1 == (m.getD k (0, 0)).1 && (l.getD k (0, 0)).2 == (m.getD k (0, 0)).2) = r := hv
      have HV := Lib.hid hv
      clear hv
      clear hc hc'
      generalize l.getD k (0, 0) = x at *
      generalize m.getD k (0, 0) = y at *
      obtain ⟨x1, x2⟩ := x
      obtain ⟨y1, y2⟩ := y
      simp only at a0 a1 a0' a1' hr
      have HR := Lib.hid hr
      clear hr
      have f0 := Ext.cell a0
      have f1 := Ext.cell a1
      have f0' := Ext.cell a0'
      have f1' := Ext.cell a1'
      clear a0 a1 a0' a1'
      cases r with
      | false =>
        go_wp2
        refine wp_region_ext (by kernel_rfl) (by kernel_rfl) ?_
        repeat (first | go_big_quiet_skip | (go_big_quiet_want; go_big_quiet_op; first | go_big_quiet_on | (apply Exists.intro; refine ⟨fun _ => ?_, ?_⟩; (go_at_call 89; exact Ext.call (eqAnt_at _ _ _ _ false HR.out _)); go_big_quiet_on)))
        refine wpQuiet_nil ?_
        rintro _ ⟨x, rfl⟩
        go_wp2
        go_ret
        exact ⟨ret_bool (all_no hlt HV.out).symm, HBe.out.trans (x.h.mono HBe.out.size)⟩
      | true =>
        go_wp2
        refine wp_region_ext (by kernel_rfl) (by kernel_rfl) ?_
        repeat (first | go_big_quiet_skip | (go_big_quiet_want; go_big_quiet_op; first | go_big_quiet_on | (apply Exists.intro; refine ⟨fun _ => ?_, ?_⟩; (go_at_call 89; exact Ext.call (eqAnt_at _ _ _ _ true HR.out _)); go_big_quiet_on)))
        refine wpQuiet_nil ?_
        rintro _ ⟨x, rfl⟩
        go_wp2
        go_roundw
        case rel => exact ⟨k + 1, by omega, by go_num, HBe.out.trans (x.h.mono HBe.out.size), below_succ HALL.out HV.out⟩
        case measure => simp [intOf]; omega
    · go_wp2
      go_ret
      exact ⟨ret_bool (all_yes (fun j hj => HALL.out j (by omega))).symm, HBe.out⟩

theorem eqAntS_true (A B : Option Addr) (c d : Nat) (l : List (Int × Int)) (w : World) (hn : (l.length : Int) ≤ 1048576) (hA : AntsAt w A l) (hB : AntsAt w B l) :
    Calls Tryd.prog 58 #[.slice A l.length c, .slice B l.length d] w fun e w' => e = .returned (.bool true) ∧ Below w.heap.size w w' := by
  have h := eqAntS_same A B c d l l w hn rfl hA hB
  have e : (List.range l.length).all (eqAt l l) = true := all_yes fun j _ => by simp [eqAt]
  rwa [e] at h

set_option maxHeartbeats 400000 in
theorem eqRod_true (L : Int) (A B : Option Addr) (c d : Nat) (l : List (Int × Int)) (w : World) (hn : (l.length : Int) ≤ 1048576) (hA : AntsAt w A l) (hB : AntsAt w B l) :
    Calls Tryd.prog 26 #[.agg #[.int .i64 L, .slice A l.length c], .agg #[.int .i64 L, .slice B l.length d]] w fun e w' => e = .returned (.bool true) ∧ Below w.heap.size w w' := by
  have HA := Lib.hid hA
  have HB := Lib.hid hB
  clear hA hB
  go_enter Tryd.func26, Tryd.ntmps26
  go_wp2_with fail
  refine (eqAntS_true A B c d l _ hn ?_ ?_).mono ?_
  · exact (HA.out.alloc _).alloc _
  · exact (HB.out.alloc _).alloc _
  rintro e w1 ⟨rfl, hb⟩
  go_wp2
  go_ret
  exact ⟨ret_bool rfl, (((Below.refl _ _).alloc (Nat.le_refl _) _).alloc (by simp) _).trans (hb.mono (by simp; omega))⟩

end Go.Proofs.YtenpmjinbjlpbaaDoor
