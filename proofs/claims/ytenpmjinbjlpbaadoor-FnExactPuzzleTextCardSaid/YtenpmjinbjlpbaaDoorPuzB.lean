/- Places of a puzzle on the model's side: l1Rising, pzPlaces. -/
import Derived.Test.YtenpmjinbjlpbaaDoorPuzA
namespace Go.Proofs.YtenpmjinbjlpbaaDoor
open Go.RowKit

set_option maxRecDepth 100000 in
set_option maxHeartbeats 2000000 in
theorem l1Rising_any (L : Int) (A : Option Addr) (c : Nat) (l : List Int) (w : World) (hn : (l.length : Int) ≤ 9223372036854775807) (hA : SlAt intS w A l) :
    Calls Tryd.prog 101 #[.slice A l.length c, .int .i64 0, .int .i64 L] w fun e w' => e = .returned (.bool (risB L l)) ∧ w = w' := by
  have HA := Lib.hid hA
  clear hA
  go_enter Tryd.func101, Tryd.ntmps101
  go_wp2
  go_loop [11] (fun i => ∃ k : Nat, k ≤ l.length ∧ i = .int .i64 k ∧ ∀ j, j < k → risAt L l j = true)
    (fun i => l.length - (intOf i).toNat)
  case atStart => exact ⟨0, Nat.zero_le _, rfl, fun j hj => absurd hj (by omega)⟩
  case round =>
    obtain ⟨k, hk, rfl, hall⟩ := hrel
    have HALL := Lib.hid hall
    clear hall
    by_cases hlt : k < l.length
    · obtain ⟨b, off, rfl, l0, hc⟩ := HA.out.int_at hlt
      have a0 := hc k _ (List.getElem?_eq_getElem hlt)
      have hp := hc (k - 1) _ (List.getElem?_eq_getElem (show k - 1 < l.length by omega))
      have hok : risAt L l k = (inB l[k] 0 L && (k == 0 || decide (l[k - 1] < l[k]))) := by
        unfold risAt
        rw [List.getD_eq_getElem?_getD, List.getD_eq_getElem?_getD, List.getElem?_eq_getElem hlt, List.getElem?_eq_getElem (show k - 1 < l.length by omega)]
        rfl
      clear hc
      generalize l[k] = x at *
      generalize l[k - 1] = y at *
      have HOK := Lib.hid hok
      clear hok
      have hkl : (k : Int) < (l.length : Int) := by omega
      cases hi : inB x 0 L with
      | true =>
        have HI := Lib.hid (fun w => inB_at x 0 L true hi w)
        have HIB := Lib.hid hi
        clear hi
        by_cases hk0 : 0 < k
        · have q1 : (0 : Int) < (k : Int) := by omega
          have q2 : (1 : Int) ≤ (k : Int) := by omega
          have q3 : ((k : Int) - 1).toNat = k - 1 := by omega
          have q4 : (k : Int) - 1 < (l.length : Int) := by omega
          by_cases h3 : x ≤ y
          · go_wp2_with (go_at_call 90; refine (HI.out _).mono ?_; rintro e w' ⟨rfl, rfl⟩)
            go_ret
            exact ⟨ret_bool (all_no hlt (by rw [HOK.out]; simp; omega)).symm, rfl⟩
          · go_wp2_with (go_at_call 90; refine (HI.out _).mono ?_; rintro e w' ⟨rfl, rfl⟩)
            go_round
            case rel => exact ⟨k + 1, by omega, by go_num, below_succ HALL.out (by rw [HOK.out, HIB.out]; simp; omega)⟩
            case measure => simp [intOf]; omega
        · have q1 : ¬ (0 : Int) < (k : Int) := by omega
          clear hp
          go_wp2_with (go_at_call 90; refine (HI.out _).mono ?_; rintro e w' ⟨rfl, rfl⟩)
          go_round
          case rel => exact ⟨k + 1, by omega, by go_num, below_succ HALL.out (by rw [HOK.out, HIB.out]; simp; omega)⟩
          case measure => simp [intOf]; omega
      | false =>
        have HI := Lib.hid (fun w => inB_at x 0 L false hi w)
        have HIB := Lib.hid hi
        clear hi hp
        go_wp2_with (go_at_call 90; refine (HI.out _).mono ?_; rintro e w' ⟨rfl, rfl⟩)
        go_ret
        exact ⟨ret_bool (all_no hlt (by rw [HOK.out, HIB.out]; rfl)).symm, rfl⟩
    · have hkl : ¬ (k : Int) < (l.length : Int) := by omega
      go_wp2
      go_ret
      exact ⟨ret_bool (all_yes (fun j hj => HALL.out j (by omega))).symm, rfl⟩
theorem l1Rising_at (L : Int) (A : Option Addr) (c : Nat) (l : List Int) (r : Bool) (hr : risB L l = r) (w : World) (hn : (l.length : Int) ≤ 9223372036854775807) (hA : SlAt intS w A l) :
    Calls Tryd.prog 101 #[.slice A l.length c, .int .i64 0, .int .i64 L] w fun e w' => e = .returned (.bool r) ∧ w = w' := by
  subst hr; exact l1Rising_any L A c l w hn hA

theorem risB_nn {L : Int} {l : List Int} (h : risB L l = true) {k : Nat} (hk : k < l.length) : 0 ≤ l[k] := by
  have := List.all_eq_true.1 h k (List.mem_range.2 hk)
  unfold risAt at this
  rw [Bool.and_eq_true, inB_iff, List.getD_eq_getElem?_getD, List.getElem?_eq_getElem hk] at this
  exact this.1.1
set_option maxRecDepth 100000 in
set_option maxHeartbeats 2000000 in
theorem pzPlaces_in (L : Int) (A : Option Addr) (c : Nat) (l : List Int) (w : World) (h1 : hdr L 0 = true) (h2 : inB l.length 1 8 = true) (h3 : risB L l = true) (hA : SlAt intS w A l) :
    Calls Tryd.prog 68 #[.int .i64 L, .slice A l.length c] w fun e w' => e = .returned (.bool (evB l)) ∧ w = w' := by
  have hln := (inB_iff _ _ _).1 h2
  have HL := Lib.hid (fun w => pzLength_at L true h1 w)
  have HI := Lib.hid (fun w => inB_at l.length 1 8 true h2 w)
  have HR := Lib.hid (fun w h => l1Rising_at L A c l true h3 w (by omega) h)
  have HNN := Lib.hid (fun k (hk : k < l.length) => risB_nn h3 hk)
  clear h1 h2 h3
  have HA := Lib.hid hA
  clear hA
  go_enter Tryd.func68, Tryd.ntmps68
  go_wp2_with fail
  refine (HL.out _).mono ?_
  rintro e w' ⟨rfl, rfl⟩
  go_wp2_with fail
  refine (HI.out _).mono ?_
  rintro e w' ⟨rfl, rfl⟩
  go_wp2_with fail
  refine (HR.out _ HA.out).mono ?_
  rintro e w' ⟨rfl, rfl⟩
  go_wp2
  go_loop [24] (fun i => ∃ k : Nat, k ≤ l.length ∧ i = .int .i64 k ∧ ∀ j, j < k → evAt l j = true)
    (fun i => l.length - (intOf i).toNat)
  case atStart => exact ⟨0, Nat.zero_le _, rfl, fun j hj => absurd hj (by omega)⟩
  case round =>
    obtain ⟨k, hk, rfl, hall⟩ := hrel
    have HALL := Lib.hid hall
    clear hall
    by_cases hlt : k < l.length
    · obtain ⟨b, off, rfl, l0, hc⟩ := HA.out.int_at hlt
      have a0 := hc k _ (List.getElem?_eq_getElem hlt)
      have hok : evAt l k = (l[k] % 2 == 0) := by
        unfold evAt
        rw [List.getD_eq_getElem?_getD, List.getElem?_eq_getElem hlt]
        rfl
      have hnn := HNN.out k hlt
      clear hc
      generalize l[k] = x at *
      have htm : Int.tmod x 2 = x % 2 := Int.tmod_eq_emod_of_nonneg hnn
      have HOK := Lib.hid hok
      clear hok
      have hkl : (k : Int) < (l.length : Int) := by omega
      by_cases h2 : x % 2 = 0
      · have e1 : (x % 2 == 0) = true := by simpa using h2
        have e2 : (x % 2 != 0) = false := by simpa using h2
        have HM := Lib.hid e1
        clear h2
        go_wp2
        go_round
        case rel => exact ⟨k + 1, by omega, by go_num, below_succ HALL.out (by rw [HOK.out]; exact HM.out)⟩
        case measure => simp [intOf]; omega
      · have e1 : (x % 2 == 0) = false := by simpa using h2
        have e2 : (x % 2 != 0) = true := by simpa using h2
        have HM := Lib.hid e1
        clear h2
        go_wp2
        go_ret
        exact ⟨ret_bool (all_no hlt (by rw [HOK.out]; exact HM.out)).symm, rfl⟩
    · have hkl : ¬ (k : Int) < (l.length : Int) := by omega
      go_wp2
      go_ret
      exact ⟨ret_bool (all_yes (fun j hj => HALL.out j (by omega))).symm, rfl⟩

set_option maxHeartbeats 1000000 in
theorem pzPlaces_any (L : Int) (A : Option Addr) (c : Nat) (l : List Int) (w : World) (hn : (l.length : Int) ≤ 9223372036854775807) (hA : SlAt intS w A l) :
    Calls Tryd.prog 68 #[.int .i64 L, .slice A l.length c] w fun e w' => e = .returned (.bool (hplB L l)) ∧ w = w' := by
  cases h1 : hdr L 0 with
  | false =>
    have HV : Hid (hplB L l = false) := by show _ = _; unfold hplB; simp [h1]
    have HL := Lib.hid (fun w => pzLength_at L false h1 w)
    clear h1 hA
    go_enter Tryd.func68, Tryd.ntmps68
    go_wp2_with (go_at_call 100; refine (HL.out _).mono ?_; rintro e w' ⟨rfl, rfl⟩)
    go_ret
    exact ⟨ret_bool HV.out.symm, rfl⟩
  | true =>
    have HL := Lib.hid (fun w => pzLength_at L true h1 w)
    cases h2 : inB l.length 1 8 with
    | false =>
      have HV : Hid (hplB L l = false) := by show _ = _; unfold hplB; simp [h2]
      have HI := Lib.hid (fun w => inB_at l.length 1 8 false h2 w)
      clear h1 h2 hA
      go_enter Tryd.func68, Tryd.ntmps68
      go_wp2_with (first | (go_at_call 100; refine (HL.out _).mono ?_; rintro e w' ⟨rfl, rfl⟩) | (go_at_call 90; refine (HI.out _).mono ?_; rintro e w' ⟨rfl, rfl⟩))
      go_ret
      exact ⟨ret_bool HV.out.symm, rfl⟩
    | true =>
      cases h3 : risB L l with
      | true =>
        have e : hplB L l = evB l := by unfold hplB; simp [h1, h2, h3]
        rw [e]
        exact pzPlaces_in L A c l w h1 h2 h3 hA
      | false =>
        have HV : Hid (hplB L l = false) := by show _ = _; unfold hplB; simp [h3]
        have HI := Lib.hid (fun w => inB_at l.length 1 8 true h2 w)
        have HR := Lib.hid (fun w h => l1Rising_at L A c l false h3 w hn h)
        have HA := Lib.hid hA
        clear h1 h2 h3 hA
        go_enter Tryd.func68, Tryd.ntmps68
        go_wp2_with (first | (go_at_call 100; refine (HL.out _).mono ?_; rintro e w' ⟨rfl, rfl⟩) | (go_at_call 90; refine (HI.out _).mono ?_; rintro e w' ⟨rfl, rfl⟩) | (go_at_call 101; refine (HR.out _ HA.out).mono ?_; rintro e w' ⟨rfl, rfl⟩))
        go_ret
        exact ⟨ret_bool HV.out.symm, rfl⟩
theorem pzPlaces_at (L : Int) (A : Option Addr) (c : Nat) (l : List Int) (r : Bool) (hr : hplB L l = r) (w : World) (hn : (l.length : Int) ≤ 9223372036854775807) (hA : SlAt intS w A l) :
    Calls Tryd.prog 68 #[.int .i64 L, .slice A l.length c] w fun e w' => e = .returned (.bool r) ∧ w = w' := by
  subst hr; exact pzPlaces_any L A c l w hn hA
end Go.Proofs.YtenpmjinbjlpbaaDoor
