/- Balls on the model's side, eleventh part: chains. -/
import Derived.Test.YtikmkmpekjijpaaBalL
namespace Go.Proofs.Ytikmkmpekjijpaa
open Go.RowKit

set_option maxHeartbeats 1000000 in
theorem bAll_any (A : Option Addr) (c : Nat) (l : List Int) (lo hi : Int) (w : World) (hn : l.length ≤ 1048576) (hA : SlAt intS w A l) :
    Calls Try.prog 101 #[.slice A l.length c, .int .i64 lo, .int .i64 hi] w fun e w' => e = .returned (.bool (l.all fun n => decide (lo ≤ n) && decide (n ≤ hi))) ∧ w' = w := by
  have HA := Lib.hid hA
  clear hA
  obtain ⟨f, hf⟩ : ∃ f : Int → Bool, f = fun n => decide (lo ≤ n) && decide (n ≤ hi) := ⟨_, rfl⟩
  have HI : Hid (∀ (n : Int) (W : World), Calls Try.prog 86 #[.int .i64 n, .int .i64 lo, .int .i64 hi] W fun e w' => e = .returned (.bool (f n)) ∧ W = w') := Lib.hid fun n W => bIn_at n lo hi (f n) (by rw [hf]) W
  rw [← hf]
  clear hf
  go_enter Try.func101, Try.ntmps101
  go_wp2
  go_loopw [8, 11] (fun _ i wr => ∃ k : Nat, k ≤ l.length ∧ i = .int .i64 k ∧ (l.take k).all f = true ∧ wr = w)
    (fun _ i _ => l.length - (intOf i).toNat)
  case atStart => exact ⟨0, Nat.zero_le _, rfl, rfl, rfl⟩
  case round =>
    obtain ⟨k, hk, rfl, hall, rfl⟩ := hrel
    have HALL := Lib.hid hall
    clear hall
    by_cases hlt : k < l.length
    · obtain ⟨x, hx⟩ : ∃ x, l[k]? = some x := ⟨_, List.getElem?_eq_getElem hlt⟩
      obtain ⟨b, off, rfl, l0, hc⟩ := HA.out.int_at hlt
      have a0 := hc k _ hx
      have HX := Lib.hid hx
      clear hc hx
      have HIX := Lib.hid (fun W => HI.out x W)
      cases hfx : f x with
      | true =>
        rw [hfx] at HIX
        have HY : Hid ((l.take (k + 1)).all f = true) := Lib.hid (by rw [List.take_add_one, HX.out, List.all_append, HALL.out]; simp [hfx])
        go_wp2_with fail
        refine (HIX.out _).mono ?_
        rintro e w2 ⟨rfl, rfl⟩
        go_wp2
        go_roundw
        case rel => exact ⟨k + 1, by omega, by go_num, HY.out, trivial⟩
        case measure => simp [intOf]; omega
      | false =>
        rw [hfx] at HIX
        have HN : Hid (l.all f = false) := Lib.hid (by
          rw [Bool.eq_false_iff]; intro h
          have := List.all_eq_true.1 h x (List.mem_of_getElem? HX.out)
          rw [hfx] at this; cases this)
        go_wp2_with fail
        refine (HIX.out _).mono ?_
        rintro e w2 ⟨rfl, rfl⟩
        go_wp2
        go_ret
        exact ⟨ret_bool HN.out.symm, rfl⟩
    · have HV : Hid (l.all f = true) := Lib.hid (by have := HALL.out; rw [List.take_of_length_le (by omega)] at this; exact this)
      go_wp2
      go_ret
      exact ⟨ret_bool HV.out.symm, rfl⟩

theorem ch_f1 {l : List Int} (h : (decide ((2 : Int) ≤ (l.length : Int)) && decide ((l.length : Int) ≤ 5)) = false) : chB l = false := by
  rw [← Bool.not_eq_true, chB_iff]
  intro h2
  rw [← Bool.not_eq_true, Bool.and_eq_true, decide_eq_true_eq, decide_eq_true_eq] at h
  omega
theorem ch_t {l : List Int} (h : (decide ((2 : Int) ≤ (l.length : Int)) && decide ((l.length : Int) ≤ 5)) = true) : chB l = l.all fun n => decide (1 ≤ n) && decide (n ≤ 9) := by
  rw [Bool.and_eq_true, decide_eq_true_eq, decide_eq_true_eq] at h
  unfold chB
  rw [show decide (2 ≤ l.length) = true by simp; omega, show decide (l.length ≤ 5) = true by simp; omega]
  rfl
set_option maxHeartbeats 400000 in
theorem bMasses_any (A : Option Addr) (c : Nat) (l : List Int) (w : World) (hn : l.length ≤ 1048576) (hA : SlAt intS w A l) :
    Calls Try.prog 81 #[.slice A l.length c] w fun e w' => e = .returned (.bool (chB l)) ∧ w = w' := by
  have HA := Lib.hid (bAll_any A c l 1 9 w hn hA)
  clear hA
  cases h1 : (decide ((2 : Int) ≤ (l.length : Int)) && decide ((l.length : Int) ≤ 5)) with
  | false =>
    have HV := Lib.hid (ch_f1 h1)
    have H1 := Lib.hid (bIn_at (l.length : Int) 2 5 false h1)
    clear h1 HA
    go_enter Try.func81, Try.ntmps81
    go_wp2_with fail
    refine (H1.out _).mono ?_
    rintro e w1 ⟨rfl, rfl⟩
    go_wp2
    go_ret
    exact ⟨ret_bool HV.out.symm, rfl⟩
  | true =>
    have HV := Lib.hid (ch_t h1)
    have H1 := Lib.hid (bIn_at (l.length : Int) 2 5 true h1)
    clear h1
    go_enter Try.func81, Try.ntmps81
    go_wp2_with fail
    refine (H1.out _).mono ?_
    rintro e w1 ⟨rfl, rfl⟩
    go_wp2_with fail
    refine HA.out.mono ?_
    rintro e w1 ⟨rfl, rfl⟩
    go_wp2
    go_ret
    exact ⟨ret_bool HV.out.symm, rfl⟩
theorem chOut_succ (l : List Int) (k : Nat) : chOut l (k + 1) = chOut l k ++ [(clV (l.getD k 0) (chNow l k) (l.getD (k + 1) 0) (0, 1)).1] := by unfold chOut; rw [List.range_succ, List.map_append]; rfl
theorem chOut_len (l : List Int) (k : Nat) : (chOut l k).length = k := by unfold chOut; simp

end Go.Proofs.Ytikmkmpekjijpaa
