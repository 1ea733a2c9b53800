/- What places of a rod are: impl.areOnRod, impl.isLength, impl.ArePlaces, spec.stGood, spec.ArePlaces. -/
import Derived.Test.YtenpmjinbjlpbaaDoorGood
import Derived.Test.YtenpmjinbjlpbaaDoorSl
namespace Go.Proofs.YtenpmjinbjlpbaaDoor
open Go.RowKit

/-- even numbers of 0..L that increase -/
def numAt (L : Int) (l : List Int) (k : Nat) : Bool :=
  decide (0 ≤ l.getD k 0) && decide (l.getD k 0 ≤ L) && (l.getD k 0 % 2 == 0) && (k == 0 || decide (l.getD (k - 1) 0 < l.getD k 0))
def rowB (L : Int) (l : List Int) : Bool := (List.range l.length).all (numAt L l)
def plB (L : Int) (l : List Int) : Bool := hdr L 0 && (decide (1 ≤ l.length) && decide (l.length ≤ 12)) && rowB L l
theorem goodB_nil (L : Int) : goodB L [] = hdr L 0 := by unfold goodB; simp
theorem plB_iff (L : Int) (l : List Int) : plB L l = true ↔ (2 ≤ L ∧ L ≤ 1000 ∧ L % 2 = 0) ∧ (1 ≤ l.length ∧ l.length ≤ 12) ∧ rowB L l = true := by
  unfold plB
  rw [Bool.and_eq_true, Bool.and_eq_true, hdr_iff]
  simp [and_assoc]
theorem rowB_at {L : Int} {l : List Int} (h : rowB L l = true) {k : Nat} {x : Int} (hx : l[k]? = some x) : 0 ≤ x ∧ x ≤ L ∧ x % 2 = 0 := by
  have hk := (List.getElem?_eq_some_iff.1 hx).1
  have := List.all_eq_true.1 h k (List.mem_range.2 hk)
  unfold numAt at this
  rw [List.getD_eq_getElem?_getD, hx] at this
  simp at this
  omega
theorem rowB_next {L : Int} {l : List Int} (h : rowB L l = true) (k : Nat) (hk : k + 1 < l.length) : l.getD k 0 < l.getD (k + 1) 0 := by
  have := List.all_eq_true.1 h (k + 1) (List.mem_range.2 hk)
  unfold numAt at this
  simp at this
  simpa using this.2

set_option maxRecDepth 100000 in
set_option maxHeartbeats 1000000 in
theorem areOnRod_any (L : Int) (A : Option Addr) (c : Nat) (l : List Int) (w : World) (hn : (l.length : Int) ≤ 9223372036854775807) (hA : SlAt intS w A l) :
    Calls Tryd.prog 125 #[.int .i64 L, .slice A l.length c] w fun e w' => e = .returned (.bool (rowB L l)) ∧ w = w' := by
  have HA := Lib.hid hA
  clear hA
  go_enter Tryd.func125, Tryd.ntmps125
  go_wp2
  go_loop [9] (fun i => ∃ k : Nat, k ≤ l.length ∧ i = .int .i64 k ∧ ∀ j, j < k → numAt L l j = true)
    (fun i => l.length - (intOf i).toNat)
  case atStart => exact ⟨0, Nat.zero_le _, rfl, fun j hj => absurd hj (by omega)⟩
  case round =>
    obtain ⟨k, hk, rfl, hall⟩ := hrel
    have HALL := Lib.hid hall
    clear hall
    by_cases hlt : k < l.length
    · obtain ⟨b, off, rfl, l0, hc⟩ := HA.out.int_at hlt
      have a0 := hc k _ (List.getElem?_eq_getElem hlt)
      have hp := hc (k - 1) _ (List.getElem?_eq_getElem (show k - 1 < l.length by omega))
      have hok : numAt L l k = (decide (0 ≤ l[k]) && decide (l[k] ≤ L) && (l[k] % 2 == 0) && (k == 0 || decide (l[k - 1] < l[k]))) := by
        unfold numAt
        rw [List.getD_eq_getElem?_getD, List.getD_eq_getElem?_getD, List.getElem?_eq_getElem hlt, List.getElem?_eq_getElem (show k - 1 < l.length by omega)]
        rfl
      clear hc
      generalize l[k] = x at *
      generalize l[k - 1] = y at *
      have HOK := Lib.hid hok
      clear hok
      have hkl : (k : Int) < (l.length : Int) := by omega
      by_cases h0 : x < 0
      · clear hp
        go_wp2
        go_ret
        exact ⟨ret_bool (all_no hlt (by rw [HOK.out]; simp; omega)).symm, rfl⟩
      · have n0 : ¬ x < 0 := h0
        by_cases h1 : L < x
        · clear hp
          go_wp2
          go_ret
          exact ⟨ret_bool (all_no hlt (by rw [HOK.out]; simp; omega)).symm, rfl⟩
        · have i0 : 0 ≤ x := by omega
          have i1 : x ≤ L := by omega
          by_cases h2 : x % 2 = 0
          · have e1 : (x % 2 == 0) = true := by simpa using h2
            have e2 : (x % 2 != 0) = false := by simpa using h2
            have HM := Lib.hid h2
            clear h2
            by_cases hk0 : 0 < k
            · have q1 : (0 : Int) < (k : Int) := by omega
              have q2 : (1 : Int) ≤ (k : Int) := by omega
              have q3 : ((k : Int) - 1).toNat = k - 1 := by omega
              have q4 : (k : Int) - 1 < (l.length : Int) := by omega
              by_cases h3 : x ≤ y
              · go_wp2
                go_ret
                exact ⟨ret_bool (all_no hlt (by rw [HOK.out]; simp; omega)).symm, rfl⟩
              · go_wp2
                go_round
                case rel => exact ⟨k + 1, by omega, by go_num, below_succ HALL.out (by have := HM.out; rw [HOK.out]; simp; omega)⟩
                case measure => simp [intOf]; omega
            · have q1 : ¬ (0 : Int) < (k : Int) := by omega
              clear hp
              go_wp2
              go_round
              case rel => exact ⟨k + 1, by omega, by go_num, below_succ HALL.out (by have := HM.out; rw [HOK.out]; simp; omega)⟩
              case measure => simp [intOf]; omega
          · have e1 : (x % 2 == 0) = false := by simpa using h2
            have e2 : (x % 2 != 0) = true := by simpa using h2
            have HM := Lib.hid h2
            clear h2
            clear hp
            go_wp2
            go_ret
            exact ⟨ret_bool (all_no hlt (by have := HM.out; rw [HOK.out]; simp; omega)).symm, rfl⟩
    · have hkl : ¬ (k : Int) < (l.length : Int) := by omega
      go_wp2
      go_ret
      exact ⟨ret_bool (all_yes (fun j hj => HALL.out j (by omega))).symm, rfl⟩
theorem areOnRod_at (L : Int) (A : Option Addr) (c : Nat) (l : List Int) (r : Bool) (hr : rowB L l = r) (w : World) (hn : (l.length : Int) ≤ 9223372036854775807) (hA : SlAt intS w A l) :
    Calls Tryd.prog 125 #[.int .i64 L, .slice A l.length c] w fun e w' => e = .returned (.bool r) ∧ w = w' := by
  subst hr; exact areOnRod_any L A c l w hn hA

set_option maxHeartbeats 400000 in
theorem isLength_any (L : Int) (w : World) :
    Calls Tryd.prog 124 #[.int .i64 L] w fun e w' => e = .returned (.bool (hdr L 0)) ∧ Below w.heap.size w w' := by
  have HG : Hid (∀ w, Calls Tryd.prog 32 #[.agg #[.int .i64 L, .slice none 0 0]] w fun e w' => e = .returned (.bool (hdr L 0)) ∧ Below w.heap.size w w') := fun w => by
    rw [← goodB_nil]; exact isRod_any L none 0 [] w (.inl rfl)
  go_enter Tryd.func124, Tryd.ntmps124
  go_wp2_with fail
  refine (HG.out _).mono ?_
  rintro e w1 ⟨rfl, hb⟩
  go_wp2
  go_ret
  exact ⟨ret_bool rfl, hb⟩
theorem isLength_at (L : Int) (r : Bool) (hr : hdr L 0 = r) (w : World) :
    Calls Tryd.prog 124 #[.int .i64 L] w fun e w' => e = .returned (.bool r) ∧ Below w.heap.size w w' := by
  subst hr; exact isLength_any L w

set_option maxHeartbeats 1000000 in
theorem arePlaces_any (L : Int) (A : Option Addr) (c : Nat) (l : List Int) (w : World) (hn : (l.length : Int) ≤ 9223372036854775807) (hA : SlAt intS w A l) :
    Calls Tryd.prog 102 #[.int .i64 L, .slice A l.length c] w fun e w' => e = .returned (.bool (plB L l)) ∧ Below w.heap.size w w' := by
  have HA := Lib.hid hA
  clear hA
  cases hh : hdr L 0 with
  | false =>
    have HV : Hid (plB L l = false) := by show _ = _; unfold plB; rw [hh]; rfl
    have HL := Lib.hid (fun w => isLength_at L false hh w)
    clear hh
    go_enter Tryd.func102, Tryd.ntmps102
    go_wp2_with (go_at_call 124; refine (HL.out _).mono ?_; rintro e w1 ⟨rfl, hb⟩)
    go_ret
    exact ⟨ret_bool HV.out.symm, hb⟩
  | true =>
    have HL := Lib.hid (fun w => isLength_at L true hh w)
    by_cases hlen : 1 ≤ l.length ∧ l.length ≤ 12
    · obtain ⟨h1, h2⟩ := hlen
      have k1 : (1 : Int) ≤ (l.length : Int) := by omega
      have k2 : (l.length : Int) ≤ 12 := by omega
      have HV : Hid (plB L l = rowB L l) := by show _ = _; unfold plB; rw [hh]; simp [h1, h2]
      have HR := Lib.hid (fun w h => areOnRod_any L A c l w hn h)
      clear hh
      go_enter Tryd.func102, Tryd.ntmps102
      go_wp2_with fail
      refine (HL.out _).mono ?_
      rintro e w1 ⟨rfl, hb⟩
      have HAr := Lib.hid (HA.out.below hb)
      go_wp2_with fail
      refine (HR.out _ HAr.out).mono ?_
      rintro e w2 ⟨rfl, rfl⟩
      go_wp2
      go_ret
      exact ⟨ret_bool (by rw [HV.out]), hb⟩
    · have HV : Hid (plB L l = false) := by
        show _ = _
        unfold plB
        have : (decide (1 ≤ l.length) && decide (l.length ≤ 12)) = false := by simp; omega
        rw [this]; simp
      clear hh
      have HN := Lib.hid hlen
      clear hlen
      go_enter Tryd.func102, Tryd.ntmps102
      go_wp2_with (go_at_call 124; refine (HL.out _).mono ?_; rintro e w1 ⟨rfl, hb⟩)
      all_goals first
        | (exfalso; have := HN.out; omega)
        | (go_ret
           exact ⟨ret_bool HV.out.symm, hb⟩)
theorem arePlaces_at (L : Int) (A : Option Addr) (c : Nat) (l : List Int) (r : Bool) (hr : plB L l = r) (w : World) (hn : (l.length : Int) ≤ 9223372036854775807) (hA : SlAt intS w A l) :
    Calls Tryd.prog 102 #[.int .i64 L, .slice A l.length c] w fun e w' => e = .returned (.bool r) ∧ Below w.heap.size w w' := by
  subst hr; exact arePlaces_any L A c l w hn hA

end Go.Proofs.YtenpmjinbjlpbaaDoor
