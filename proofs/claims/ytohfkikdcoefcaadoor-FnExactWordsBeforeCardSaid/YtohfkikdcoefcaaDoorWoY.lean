/- Words: CountWords and WordsBefore, both sides. -/
import Derived.Test.YtohfkikdcoefcaaDoorWoX
import Derived.Test.YtohfkikdcoefcaaDoorWoK
namespace Go.Proofs.YtohfkikdcoefcaaDoor
open Go.RowKit

/-- numbers of both signs in their bounds -/
def twoB (a b m : Int) : Bool := (decide (0 ≤ a) && decide (a ≤ m)) && (decide (0 ≤ b) && decide (b ≤ m))
theorem twoB_iff (a b m : Int) : twoB a b m = true ↔ 0 ≤ a ∧ a ≤ m ∧ 0 ≤ b ∧ b ≤ m := by unfold twoB; simp; omega
set_option maxHeartbeats 1000000 in
theorem woTwo_any (a b m : Int) (w : World) :
    Calls Tryd.prog 62 #[.int .i64 a, .int .i64 b, .int .i64 m] w fun e w' => e = .returned (.bool (twoB a b m)) ∧ w' = w := by
  have H1 := Lib.hid (fun W => l1In_any a 0 m W)
  have H2 := Lib.hid (fun W => l1In_any b 0 m W)
  unfold twoB
  generalize (decide (0 ≤ a) && decide (a ≤ m)) = r at *
  generalize (decide (0 ≤ b) && decide (b ≤ m)) = s at *
  cases r with
  | false =>
    go_enter Tryd.func62, Tryd.ntmps62
    go_wp2_with fail
    refine (H1.out _).mono ?_
    rintro e w1 ⟨rfl, rfl⟩
    go_wp2
    go_ret
    exact ⟨rfl, rfl⟩
  | true =>
    go_enter Tryd.func62, Tryd.ntmps62
    go_wp2_with fail
    refine (H1.out _).mono ?_
    rintro e w1 ⟨rfl, rfl⟩
    go_wp2_with fail
    refine (H2.out _).mono ?_
    rintro e w2 ⟨rfl, rfl⟩
    go_wp2
    go_ret
    exact ⟨rfl, rfl⟩
set_option maxHeartbeats 1000000 in
theorem areSigns_any (a b m : Int) (w : World) :
    Calls Tryd.prog 64 #[.int .i64 a, .int .i64 b, .int .i64 m] w fun e w' => e = .returned (.bool (twoB a b m)) ∧ w' = w := by
  by_cases h1 : 0 ≤ a
  · by_cases h2 : a ≤ m
    · by_cases h3 : 0 ≤ b
      · by_cases h4 : b ≤ m
        · have HV : Hid (twoB a b m = true) := Lib.hid ((twoB_iff a b m).2 ⟨h1, h2, h3, h4⟩)
          go_enter Tryd.func64, Tryd.ntmps64
          go_wp2
          go_ret
          exact ⟨ret_bool HV.out.symm, rfl⟩
        · have HV : Hid (twoB a b m = false) := Lib.hid (by rw [Bool.eq_false_iff, Ne, twoB_iff]; omega)
          go_enter Tryd.func64, Tryd.ntmps64
          go_wp2
          go_ret
          exact ⟨ret_bool HV.out.symm, rfl⟩
      · have HV : Hid (twoB a b m = false) := Lib.hid (by rw [Bool.eq_false_iff, Ne, twoB_iff]; omega)
        go_enter Tryd.func64, Tryd.ntmps64
        go_wp2
        go_ret
        exact ⟨ret_bool HV.out.symm, rfl⟩
    · have HV : Hid (twoB a b m = false) := Lib.hid (by rw [Bool.eq_false_iff, Ne, twoB_iff]; omega)
      go_enter Tryd.func64, Tryd.ntmps64
      go_wp2
      go_ret
      exact ⟨ret_bool HV.out.symm, rfl⟩
  · have HV : Hid (twoB a b m = false) := Lib.hid (by rw [Bool.eq_false_iff, Ne, twoB_iff]; omega)
    go_enter Tryd.func64, Tryd.ntmps64
    go_wp2
    go_ret
    exact ⟨ret_bool HV.out.symm, rfl⟩

theorem cnt_le (a b : Nat) (m : Int) (h : a + b ≤ 14) : cnt a b m ≤ 16384 := by
  have h1 := List.countP_le_length (p := fun w => decide ((invW w : Int) = m)) (l := allW a b)
  have := all_len_le h
  unfold cnt
  omega
set_option maxHeartbeats 4000000 in
theorem woMeeting_ind : ∀ N a b : Nat, a + b ≤ N → a ≤ 7 → b ≤ 7 → ∀ m : Int, -100 ≤ m → m ≤ 100 → ∀ w : World,
    Calls Tryd.prog 63 #[.int .i64 a, .int .i64 b, .int .i64 m] w fun e w' => e = .returned (.int .i64 (cnt a b m : Nat)) ∧ w' = w := by
  intro N
  induction N with
  | zero =>
    intro a b h ha hb m hm0 hm1 w
    obtain rfl : a = 0 := by omega
    obtain rfl : b = 0 := by omega
    have HV := Lib.hid (cnt_a 0 m)
    by_cases h0 : m < 0
    · go_enter Tryd.func63, Tryd.ntmps63
      go_wp2
      go_ret
      exact ⟨ret_int (by rw [HV.out, if_neg (by omega)]; rfl), rfl⟩
    · by_cases h1 : 0 < m
      · go_enter Tryd.func63, Tryd.ntmps63
        go_wp2
        go_ret
        exact ⟨ret_int (by rw [HV.out, if_neg (by omega)]; rfl), rfl⟩
      · go_enter Tryd.func63, Tryd.ntmps63
        go_wp2
        go_ret
        exact ⟨ret_int (by rw [HV.out, if_pos (by omega)]; rfl), rfl⟩
  | succ N ih =>
    intro a b h ha hb m hm0 hm1 w
    have hab : a * b ≤ 7 * 7 := Nat.mul_le_mul ha hb
    obtain ⟨P, hP⟩ : ∃ P : Nat, a * b = P := ⟨_, rfl⟩
    have hPi : (a : Int) * (b : Int) = (P : Int) := by rw [← hP]; exact (Int.natCast_mul a b).symm
    have HP := Lib.hid hP
    have HPI := Lib.hid hPi
    rw [hP] at hab
    by_cases h0 : m < 0
    · have HV : Hid (cnt a b m = 0) := Lib.hid (cnt_none _ a b (Nat.le_refl _) m (.inl h0))
      clear hPi
      go_enter Tryd.func63, Tryd.ntmps63
      go_wp2
      go_ret
      exact ⟨ret_int (by rw [HV.out]; rfl), rfl⟩
    · by_cases h1 : (P : Int) < m
      · have HV : Hid (cnt a b m = 0) := Lib.hid (cnt_none _ a b (Nat.le_refl _) m (.inr (by rw [hPi]; exact h1)))
        go_enter Tryd.func63, Tryd.ntmps63
        go_wp2
        go_ret
        exact ⟨ret_int (by rw [HV.out]; rfl), rfl⟩
      · by_cases ha0 : a = 0
        · subst ha0
          have hPz : P = 0 := by have := HP.out; omega
          have HV : Hid (cnt 0 b m = 1) := Lib.hid (by rw [cnt_b, if_pos (by omega)])
          subst hPz
          clear hPi hP
          go_enter Tryd.func63, Tryd.ntmps63
          go_wp2
          go_ret
          exact ⟨ret_int (by rw [HV.out]; rfl), rfl⟩
        · have ha0' : ((a : Int) == 0) = false := beq_eq_false_iff_ne.2 (by omega)
          by_cases hb0 : b = 0
          · subst hb0
            have hPz : P = 0 := by have := HP.out; omega
            have HV : Hid (cnt a 0 m = 1) := Lib.hid (by rw [cnt_a, if_pos (by omega)])
            subst hPz
            clear hPi hP
            go_enter Tryd.func63, Tryd.ntmps63
            go_wp2
            go_ret
            exact ⟨ret_int (by rw [HV.out]; rfl), rfl⟩
          · have hb0' : ((b : Int) == 0) = false := beq_eq_false_iff_ne.2 (by omega)
            have ha1 : (a : Int) - 1 = ((a - 1 : Nat) : Int) := by omega
            have hb1 : (b : Int) - 1 = ((b - 1 : Nat) : Int) := by omega
            have HV := Lib.hid (cnt_end ha0 hb0 m)
            have l1 := cnt_le a (b - 1) m (by omega)
            have l2 := cnt_le (a - 1) b (m - b) (by omega)
            have HR1 := Lib.hid (fun W => ih a (b - 1) (by omega) ha (by omega) m hm0 hm1 W)
            have HR2 := Lib.hid (fun W => ih (a - 1) b (by omega) (by omega) hb (m - b) (by omega) (by omega) W)
            clear ih hP
            generalize cnt a (b - 1) m = x1 at *
            generalize cnt (a - 1) b (m - b) = x2 at *
            go_enter Tryd.func63, Tryd.ntmps63
            go_wp2_with fail
            refine (HR1.out _).mono ?_
            rintro e w1 ⟨rfl, rfl⟩
            go_wp2_with fail
            refine (HR2.out _).mono ?_
            rintro e w2 ⟨rfl, rfl⟩
            go_wp2
            go_ret
            exact ⟨ret_int (by rw [HV.out]; go_num), rfl⟩
theorem woMeeting_any (a b : Nat) (ha : a ≤ 7) (hb : b ≤ 7) (m : Int) (hm0 : -100 ≤ m) (hm1 : m ≤ 100) (w : World) :
    Calls Tryd.prog 63 #[.int .i64 a, .int .i64 b, .int .i64 m] w fun e w' => e = .returned (.int .i64 (cnt a b m : Nat)) ∧ w' = w := woMeeting_ind (a + b) a b (Nat.le_refl _) ha hb m hm0 hm1 w

/-- what CountWords asks for -/
def cwB (a b m : Int) : Bool := twoB a b 7 && (decide (0 ≤ m) && decide (m ≤ 49))
def cwV (a b m : Int) : Int := if cwB a b m then (cnt a.toNat b.toNat m : Nat) else 0
set_option maxHeartbeats 1000000 in
theorem specCountWords_any (a b m : Int) (w : World) :
    Calls Tryd.prog 38 #[.int .i64 a, .int .i64 b, .int .i64 m] w fun e w' => e = .returned (.tuple #[.int .i64 (cwV a b m), .bool (cwB a b m)]) ∧ Below w.heap.size w w' := by
  have H1 := Lib.hid (fun W => woTwo_any a b 7 W)
  have H2 := Lib.hid (fun W => l1In_any m 0 49 W)
  unfold cwV cwB
  cases ht : twoB a b 7 with
  | false =>
    rw [ht] at H1
    go_enter Tryd.func38, Tryd.ntmps38
    go_wp2_with fail
    refine (H1.out _).mono ?_
    rintro e w1 ⟨rfl, rfl⟩
    go_wp2
    go_ret2
    exact ⟨rfl, Below.refl _ _⟩
  | true =>
    rw [ht] at H1
    obtain ⟨b1, b2, b3, b4⟩ := (twoB_iff a b 7).1 ht
    obtain ⟨x, rfl⟩ : ∃ x : Nat, a = x := ⟨a.toNat, by omega⟩
    obtain ⟨y, rfl⟩ : ∃ y : Nat, b = y := ⟨b.toNat, by omega⟩
    rw [Bool.true_and]
    cases hi : (decide (0 ≤ m) && decide (m ≤ 49)) with
    | false =>
      rw [hi] at H2
      clear hi ht
      go_enter Tryd.func38, Tryd.ntmps38
      go_wp2_with fail
      refine (H1.out _).mono ?_
      rintro e w1 ⟨rfl, rfl⟩
      go_wp2_with fail
      refine (H2.out _).mono ?_
      rintro e w2 ⟨rfl, rfl⟩
      go_wp2
      go_ret2
      exact ⟨rfl, Below.refl _ _⟩
    | true =>
      rw [hi] at H2
      rw [Bool.and_eq_true] at hi
      have m0 := of_decide_eq_true hi.1
      have m1 := of_decide_eq_true hi.2
      have HM := Lib.hid (fun W => woMeeting_any x y (by omega) (by omega) m (by omega) (by omega) W)
      clear hi ht
      go_enter Tryd.func38, Tryd.ntmps38
      go_wp2_with fail
      refine (H1.out _).mono ?_
      rintro e w1 ⟨rfl, rfl⟩
      go_wp2_with fail
      refine (H2.out _).mono ?_
      rintro e w2 ⟨rfl, rfl⟩
      go_wp2_with fail
      refine (HM.out _).mono ?_
      rintro e w3 ⟨rfl, rfl⟩
      go_wp2
      go_ret2
      exact ⟨rfl, Below.refl _ _⟩

theorem okW_all {a b k : Nat} {p : List UInt8} (h14 : a + b ≤ 14) (h : (allW a b)[k]? = some p) : okW p = true := by
  obtain ⟨_, _, h3, h4⟩ := allW_at h
  unfold okW; rw [h3, decide_eq_true (by omega), h4]; rfl
theorem count_take {Y : List (List UInt8)} {k : Nat} {x : List UInt8} (f : List UInt8 → Bool) (h : Y[k]? = some x) : (Y.take (k + 1)).countP f = (Y.take k).countP f + (if f x then 1 else 0) := by
  rw [List.take_add_one, h, List.countP_append]
  congr 1
  cases hf : f x
  · simp [hf]
  · simp [hf]
set_option maxHeartbeats 4000000 in
set_option maxRecDepth 100000 in
theorem implCountWords_any (a b m : Int) (w : World) :
    Calls Tryd.prog 39 #[.int .i64 a, .int .i64 b, .int .i64 m] w fun e w' => e = .returned (.tuple #[.int .i64 (cwV a b m), .bool (cwB a b m)]) ∧ Below w.heap.size w w' := by
  have H1 := Lib.hid (fun W => areSigns_any a b 7 W)
  unfold cwV cwB
  cases ht : twoB a b 7 with
  | false =>
    rw [ht] at H1
    go_enter Tryd.func39, Tryd.ntmps39
    go_wp2_with fail
    refine (H1.out _).mono ?_
    rintro e w1 ⟨rfl, rfl⟩
    go_wp2
    go_ret2
    exact ⟨rfl, Below.refl _ _⟩
  | true =>
    rw [ht] at H1
    obtain ⟨b1, b2, b3, b4⟩ := (twoB_iff a b 7).1 ht
    obtain ⟨x, rfl⟩ : ∃ x : Nat, a = x := ⟨a.toNat, by omega⟩
    obtain ⟨y, rfl⟩ : ∃ y : Nat, b = y := ⟨b.toNat, by omega⟩
    rw [Bool.true_and]
    by_cases m0 : 0 ≤ m
    · by_cases m1 : m ≤ 49
      · rw [decide_eq_true m0, decide_eq_true m1]
        have n0 : ¬ m < 0 := by omega
        have n1 : ¬ 49 < m := by omega
        have HW := Lib.hid (fun W => wordsWith_any x y (by omega) W)
        have HT16 : Hid ((allW x y).length ≤ 16384) := Lib.hid (all_len_le (by omega))
        obtain ⟨f, hf⟩ : ∃ f : List UInt8 → Bool, f = fun w => decide ((invW w : Int) = m) := ⟨_, rfl⟩
        have HCNT : Hid (cnt x y m = (allW x y).countP f) := Lib.hid (by rw [hf]; rfl)
        have HF := Lib.hid hf
        clear hf ht
        go_enter Tryd.func39, Tryd.ntmps39
        go_wp2_with fail
        refine (H1.out _).mono ?_
        rintro e w1 ⟨rfl, rfl⟩
        go_wp2_with fail
        refine (HW.out _).mono ?_
        rintro e w2 ⟨A, n, c, rfl, rfl, ho, hb⟩
        have HA := Lib.hid ho.sl
        have HB := Lib.hid hb
        have hs2 := hb.size
        clear ho hb
        obtain ⟨T, hT⟩ : ∃ T, T = (allW x y).length := ⟨_, rfl⟩
        have hTb : T ≤ 16384 := by rw [hT]; exact HT16.out
        have HT := Lib.hid hT
        rw [← hT]
        clear hT
        go_wp2
        go_loopw [8, 10, 11, 12, 29] (fun q _ _ _ i wr => ∃ (k z : Nat), k ≤ T ∧ i = .int .i64 k ∧ q = .int .i64 z ∧ z = ((allW x y).take k).countP f ∧ z ≤ k ∧ Below w2.heap.size w2 wr)
          (fun _ _ _ _ i _ => T - (intOf i).toNat)
        case atStart => exact ⟨0, 0, Nat.zero_le _, rfl, rfl, by simp, Nat.le_refl _, Below.refl _ _⟩
        case round =>
          obtain ⟨k, z, hk, rfl, rfl, hz, hzk, hbw⟩ := hrel
          have HZ := Lib.hid hz
          have HBW := Lib.hid hbw
          have HAr := Lib.hid (HA.out.below hbw)
          have hsw := hbw.size
          clear hz hbw
          by_cases hlt : k < T
          · obtain ⟨p, hp⟩ : ∃ p, (allW x y)[k]? = some p := ⟨_, List.getElem?_eq_getElem (by rw [← HT.out]; exact hlt)⟩
            obtain ⟨bb, off, hAe, hlt2, hc⟩ := HAr.out.str_at (k := k) (by rw [wordsL_len, ← HT.out]; exact hlt)
            subst hAe
            have a0 := hc k _ (wordsL_at hp)
            have hpl := (allW_at hp).2.2.1
            have hpok := okW_all (by omega) hp
            have HMO : Hid (∀ W, Calls Tryd.prog 31 #[.string (mkB p)] W fun e w' => e = .returned (.tuple #[.int .i64 (invW p : Nat), .bool true]) ∧ Below W.heap.size W w') := Lib.hid fun W => by
              have := implMeetingsOfWord_any p (by omega) W
              rw [hpok] at this
              exact this
            have hct := count_take f hp
            rw [← HZ.out, HF.out] at hct
            clear hc hp hpok hpl
            obtain ⟨q, hq⟩ : ∃ q, invW p = q := ⟨_, rfl⟩
            simp only [hq, decide_eq_true_eq] at hct
            rw [hq] at HMO
            clear hq
            by_cases hqm : (q : Int) = m
            · have HC1 : Hid (((allW x y).take (k + 1)).countP f = z + 1) := Lib.hid (by rw [HF.out, hct, if_pos hqm])
              clear hct
              go_wp2_with fail
              refine (HMO.out _).mono ?_
              rintro e w5 ⟨rfl, hb5⟩
              have HB5 := Lib.hid (HBW.out.trans (hb5.mono hsw))
              clear hb5
              go_wp2
              go_roundw
              case rel => exact ⟨k + 1, z + 1, by omega, by go_num, by go_num, HC1.out.symm, by omega, HB5.out⟩
              case measure => simp [intOf]; omega
            · have HC1 : Hid (((allW x y).take (k + 1)).countP f = z) := Lib.hid (by rw [HF.out, hct, if_neg hqm]; rfl)
              clear hct
              go_wp2_with fail
              refine (HMO.out _).mono ?_
              rintro e w5 ⟨rfl, hb5⟩
              have HB5 := Lib.hid (HBW.out.trans (hb5.mono hsw))
              clear hb5
              go_wp2
              go_roundw
              case rel => exact ⟨k + 1, z, by omega, by go_num, rfl, HC1.out.symm, by omega, HB5.out⟩
              case measure => simp [intOf]; omega
          · have HKE : Hid (k = T) := Lib.hid (by omega)
            have HZV : Hid ((z : Int) = (cnt x y m : Nat)) := Lib.hid (by rw [HZ.out, HCNT.out, HKE.out, HT.out, List.take_length])
            go_wp2
            go_ret2
            exact ⟨by rw [HZV.out]; rfl, HB.out.trans (HBW.out.mono hs2)⟩
      · rw [decide_eq_false m1, Bool.and_false]
        have n0 : ¬ m < 0 := by omega
        have n1 : 49 < m := by omega
        go_enter Tryd.func39, Tryd.ntmps39
        go_wp2_with fail
        refine (H1.out _).mono ?_
        rintro e w1 ⟨rfl, rfl⟩
        go_wp2
        go_ret2
        exact ⟨rfl, Below.refl _ _⟩
    · rw [decide_eq_false m0, Bool.false_and]
      have n0 : m < 0 := by omega
      go_enter Tryd.func39, Tryd.ntmps39
      go_wp2_with fail
      refine (H1.out _).mono ?_
      rintro e w1 ⟨rfl, rfl⟩
      go_wp2
      go_ret2
      exact ⟨rfl, Below.refl _ _⟩
end Go.Proofs.YtohfkikdcoefcaaDoor
