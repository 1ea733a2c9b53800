/- Words: AllWords and WordOfRank, both sides. -/
import Derived.Test.YtohfkikdcoefcaaWoY
import Derived.Test.YtohfkikdcoefcaaMarkS
namespace Go.Proofs.Ytohfkikdcoefcaa
open Go.RowKit

def lstP (ok : Bool) (l : List (List UInt8)) : List (List UInt8) := if ok then l else []
def strP (ok : Bool) (t : List UInt8) : ByteArray := if ok then mkB t else ⟨#[]⟩
def awV (a b : Int) : List ByteArray := wordsL (lstP (twoB a b 4) (allW a.toNat b.toNat))
theorem aw_bd (a b : Int) : (((awV a b).length : Nat) : Int) ≤ 1048576 := by
  unfold awV
  rw [wordsL_len]
  cases h : twoB a b 4 with
  | false => show ((0 : Nat) : Int) ≤ 1048576; omega
  | true =>
    obtain ⟨b1, b2, b3, b4⟩ := (twoB_iff a b 4).1 h
    have := all_len_le (a := a.toNat) (b := b.toNat) (by omega)
    show (((allW a.toNat b.toNat).length : Nat) : Int) ≤ 1048576
    omega

set_option maxHeartbeats 1000000 in
theorem specAllWords_any (a b : Int) (w : World) :
    Calls Try.prog 10 #[.int .i64 a, .int .i64 b] w fun e w' => ∃ A n c, e = .returned (.tuple #[.slice A n c, .bool (twoB a b 4)]) ∧ n = (awV a b).length ∧ SlOwn strS w' w.heap.size 9 (.slice A n c) (awV a b) ∧ Below w.heap.size w w' := by
  have H1 := Lib.hid (fun W => woTwo_any a b 4 W)
  unfold awV
  cases ht : twoB a b 4 with
  | false =>
    rw [ht] at H1
    go_enter Try.func10, Try.ntmps10
    go_wp2_with fail
    refine (H1.out _).mono ?_
    rintro e w1 ⟨rfl, rfl⟩
    go_wp2
    go_ret2
    exact ⟨none, 0, 0, rfl, rfl, SlOwn.nil strS _ _ _, Below.refl _ _⟩
  | true =>
    rw [ht] at H1
    obtain ⟨b1, b2, b3, b4⟩ := (twoB_iff a b 4).1 ht
    obtain ⟨x, rfl⟩ : ∃ x : Nat, a = x := ⟨a.toNat, by omega⟩
    obtain ⟨y, rfl⟩ : ∃ y : Nat, b = y := ⟨b.toNat, by omega⟩
    have HW := Lib.hid (fun W => woAll_any x y (by omega) W)
    clear ht
    go_enter Try.func10, Try.ntmps10
    go_wp2_with fail
    refine (H1.out _).mono ?_
    rintro e w1 ⟨rfl, rfl⟩
    go_wp2_with fail
    refine (HW.out _).mono ?_
    rintro e w2 ⟨A, n, c, rfl, hn, ho, hb⟩
    have HN := Lib.hid hn
    have HO := Lib.hid ho
    have HB := Lib.hid hb
    clear hn ho hb
    go_wp2
    go_ret2
    exact ⟨A, n, c, rfl, HN.out.trans (wordsL_len _).symm, HO.out, HB.out⟩
set_option maxHeartbeats 1000000 in
theorem implAllWords_any (a b : Int) (w : World) :
    Calls Try.prog 11 #[.int .i64 a, .int .i64 b] w fun e w' => ∃ A n c, e = .returned (.tuple #[.slice A n c, .bool (twoB a b 4)]) ∧ n = (awV a b).length ∧ SlOwn strS w' w.heap.size 9 (.slice A n c) (awV a b) ∧ Below w.heap.size w w' := by
  have H1 := Lib.hid (fun W => areSigns_any a b 4 W)
  unfold awV
  cases ht : twoB a b 4 with
  | false =>
    rw [ht] at H1
    go_enter Try.func11, Try.ntmps11
    go_wp2_with fail
    refine (H1.out _).mono ?_
    rintro e w1 ⟨rfl, rfl⟩
    go_wp2
    go_ret2
    exact ⟨none, 0, 0, rfl, rfl, SlOwn.nil strS _ _ _, Below.refl _ _⟩
  | true =>
    rw [ht] at H1
    obtain ⟨b1, b2, b3, b4⟩ := (twoB_iff a b 4).1 ht
    obtain ⟨x, rfl⟩ : ∃ x : Nat, a = x := ⟨a.toNat, by omega⟩
    obtain ⟨y, rfl⟩ : ∃ y : Nat, b = y := ⟨b.toNat, by omega⟩
    have HW := Lib.hid (fun W => wordsWith_any x y (by omega) W)
    clear ht
    go_enter Try.func11, Try.ntmps11
    go_wp2_with fail
    refine (H1.out _).mono ?_
    rintro e w1 ⟨rfl, rfl⟩
    go_wp2_with fail
    refine (HW.out _).mono ?_
    rintro e w2 ⟨A, n, c, rfl, hn, ho, hb⟩
    have HN := Lib.hid hn
    have HO := Lib.hid ho
    have HB := Lib.hid hb
    clear hn ho hb
    go_wp2
    go_ret2
    exact ⟨A, n, c, rfl, HN.out.trans (wordsL_len _).symm, HO.out, HB.out⟩

/-- ways to choose, as the model counts them -/
def chG (n k : Nat) : Nat → Nat
  | 0 => 1
  | i + 1 => chG n k i * (n - k + (i + 1)) / (i + 1)
theorem chG_pasc : ∀ n, n ≤ 14 → ∀ k, k ≤ n → chG n k k = pasc n k := by decide
theorem chG_le : ∀ n, n ≤ 14 → ∀ k, k ≤ n → ∀ i, i ≤ k → chG n k i ≤ 16384 := by decide
/-- one step of the count, in whole numbers -/
theorem ch_facts (n k i : Nat) (hn : n ≤ 14) (hk : k ≤ n) (hi : i < k) : ∃ d s P Q : Nat, (n : Int) - (k : Int) = d ∧ (d : Int) + ((i : Int) + 1) = s ∧ ((chG n k i : Nat) : Int) * (s : Int) = P ∧ (P : Int).tdiv ((i : Int) + 1) = Q ∧ Q = chG n k (i + 1) ∧ d ≤ 14 ∧ s ≤ 28 ∧ P ≤ 458752 := by
  have h1 := chG_le n hn k hk i (by omega)
  refine ⟨n - k, n - k + (i + 1), chG n k i * (n - k + (i + 1)), chG n k (i + 1), by omega, by omega, by rw [Int.natCast_mul], ?_, rfl, by omega, by omega, ?_⟩
  · rw [Int.tdiv_eq_ediv_of_nonneg (by omega)]
    show _ = ((chG n k i * (n - k + (i + 1)) / (i + 1) : Nat) : Int)
    rw [show ((i : Int) + 1) = ((i + 1 : Nat) : Int) by omega, ← Int.natCast_ediv]
  · have : chG n k i * (n - k + (i + 1)) ≤ 16384 * 28 := Nat.mul_le_mul h1 (by omega)
    omega
def chV (n : Nat) (k : Int) : Nat := if k < 0 then 0 else pasc n k.toNat
set_option maxHeartbeats 2000000 in
theorem woChoose_any (n : Nat) (k : Int) (hn : n ≤ 14) (hk0 : -1 ≤ k) (hk1 : k ≤ n) (w : World) :
    Calls Try.prog 26 #[.int .i64 n, .int .i64 k] w fun e w' => e = .returned (.int .i64 (chV n k : Nat)) ∧ w' = w := by
  by_cases h0 : k < 0
  · have HV : Hid (chV n k = 0) := Lib.hid (by unfold chV; rw [if_pos h0])
    go_enter Try.func26, Try.ntmps26
    go_wp2
    go_ret
    exact ⟨ret_int (by rw [HV.out]; rfl), rfl⟩
  · obtain ⟨m, rfl⟩ : ∃ m : Nat, k = m := ⟨k.toNat, by omega⟩
    have HV : Hid (chV n m = chG n m m) := Lib.hid (by unfold chV; rw [if_neg h0, Int.toNat_natCast, chG_pasc n hn m (by omega)])
    have h1 : ¬ (n : Int) < m := by omega
    go_enter Try.func26, Try.ntmps26
    go_wp2
    go_loopw [5, 6] (fun o i wr => ∃ (j c : Nat), j ≤ m ∧ i = .int .i64 ((j : Int) + 1) ∧ o = .int .i64 c ∧ c = chG n m j ∧ wr = w)
      (fun _ i _ => m + 1 - (intOf i).toNat)
    case atStart => exact ⟨0, 1, Nat.zero_le _, rfl, rfl, rfl, rfl⟩
    case round =>
      obtain ⟨j, c, hj, rfl, rfl, hc, rfl⟩ := hrel
      have HC := Lib.hid hc
      have hcb := chG_le n hn m (by omega) j hj
      rw [← hc] at hcb
      by_cases hlt : j < m
      · obtain ⟨d, s, P, Q, e1, e2, e3, e4, e5, b1, b2, b3⟩ := ch_facts n m j hn (by omega) hlt
        rw [← hc] at e3
        have HQ := Lib.hid e5
        have hq := chG_le n hn m (by omega) (j + 1) (by omega)
        rw [← e5] at hq
        have n0 : ¬ ((j : Int) + 1) = 0 := by omega
        have n1 : (((j : Int) + 1) == 0) = false := beq_eq_false_iff_ne.2 n0
        have l1 : (j : Int) + 1 ≤ m := by omega
        clear hc e5
        go_wp2
        go_roundw
        case rel => exact ⟨j + 1, Q, by omega, by go_num, by go_num, HQ.out, trivial⟩
        case measure => simp [intOf]; omega
      · have HE : Hid ((c : Int) = (chV n m : Nat)) := Lib.hid (by rw [HV.out, hc, show j = m by omega])
        have l1 : ¬ (j : Int) + 1 ≤ m := by omega
        clear hc
        go_wp2
        go_ret
        exact ⟨ret_int HE.out, rfl⟩

/-- what WordOfRank asks for, and what it hands back -/
def wrOk (a b k : Int) : Bool := twoB a b 7 && (decide (0 ≤ k) && decide (k < ((allW a.toNat b.toNat).length : Nat)))
def wrV (a b k : Int) : List UInt8 := ((allW a.toNat b.toNat)[k.toNat]?).getD []
set_option maxHeartbeats 2000000 in
theorem implWordOfRank_any (a b k : Int) (w : World) :
    Calls Try.prog 16 #[.int .i64 a, .int .i64 b, .int .i64 k] w fun e w' => e = .returned (.tuple #[.string (strP (wrOk a b k) (wrV a b k)), .bool (wrOk a b k)]) ∧ Below w.heap.size w w' := by
  have H1 := Lib.hid (fun W => areSigns_any a b 7 W)
  unfold wrOk
  cases ht : twoB a b 7 with
  | false =>
    rw [ht] at H1
    go_enter Try.func16, Try.ntmps16
    go_wp2_with fail
    refine (H1.out _).mono ?_
    rintro e w1 ⟨rfl, rfl⟩
    go_wp2
    go_ret2
    exact ⟨rfl, Below.refl _ _⟩
  | true =>
    rw [ht] at H1
    obtain ⟨b1, b2, b3, b4⟩ := (twoB_iff a b 7).1 ht
    obtain ⟨x, rfl⟩ : ∃ x : Nat, a = x := ⟨a.toNat, by omega⟩
    obtain ⟨y, rfl⟩ : ∃ y : Nat, b = y := ⟨b.toNat, by omega⟩
    rw [Bool.true_and]
    have HW := Lib.hid (fun W => wordsWith_any x y (by omega) W)
    have HTB : Hid ((allW x y).length ≤ 16384) := Lib.hid (all_len_le (by omega))
    have hwv : wrV x y k = ((allW x y)[k.toNat]?).getD [] := rfl
    rw [show (x : Int).toNat = x by omega, show (y : Int).toNat = y by omega]
    rw [hwv]
    clear ht hwv
    generalize allW x y = Y at *
    obtain ⟨T, hT⟩ : ∃ T, T = Y.length := ⟨_, rfl⟩
    have hTb : T ≤ 16384 := by rw [hT]; exact HTB.out
    have HT := Lib.hid hT
    rw [← hT] at HW ⊢
    clear hT
    by_cases k0 : 0 ≤ k
    · by_cases k1 : k < T
      · rw [decide_eq_true k0, decide_eq_true k1]
        obtain ⟨j, rfl⟩ : ∃ j : Nat, k = j := ⟨k.toNat, by omega⟩
        obtain ⟨u, hu⟩ : ∃ u, Y[j]? = some u := ⟨_, List.getElem?_eq_getElem (by rw [← HT.out]; omega)⟩
        have HU : Hid (strP (true && true) ((Y[(j : Int).toNat]?).getD []) = mkB u) := Lib.hid (by rw [Int.toNat_natCast, hu]; rfl)
        have n0 : ¬ (j : Int) < 0 := by omega
        have n1 : ¬ (T : Int) ≤ j := by omega
        go_enter Try.func16, Try.ntmps16
        go_wp2_with fail
        refine (H1.out _).mono ?_
        rintro e w1 ⟨rfl, rfl⟩
        go_wp2_with fail
        refine (HW.out _).mono ?_
        rintro e w2 ⟨A, n, c, rfl, rfl, ho, hb⟩
        obtain ⟨bb, off, hAe, hlt2, hc⟩ := ho.sl.str_at (k := j) (by rw [wordsL_len, ← HT.out]; omega)
        subst hAe
        have a0 := hc j _ (wordsL_at hu)
        have HB := Lib.hid hb
        clear ho hb hc hu
        go_wp2
        go_ret2
        exact ⟨by rw [HU.out]; rfl, HB.out⟩
      · rw [decide_eq_false k1, Bool.and_false]
        have n0 : ¬ k < 0 := by omega
        have n1 : (T : Int) ≤ k := by omega
        go_enter Try.func16, Try.ntmps16
        go_wp2_with fail
        refine (H1.out _).mono ?_
        rintro e w1 ⟨rfl, rfl⟩
        go_wp2_with fail
        refine (HW.out _).mono ?_
        rintro e w2 ⟨A, n, c, rfl, rfl, ho, hb⟩
        have HB := Lib.hid hb
        clear ho hb
        go_wp2
        go_ret2
        exact ⟨rfl, HB.out⟩
    · rw [decide_eq_false k0, Bool.false_and]
      have n0 : k < 0 := by omega
      go_enter Try.func16, Try.ntmps16
      go_wp2_with fail
      refine (H1.out _).mono ?_
      rintro e w1 ⟨rfl, rfl⟩
      go_wp2_with fail
      refine (HW.out _).mono ?_
      rintro e w2 ⟨A, n, c, rfl, rfl, ho, hb⟩
      have HB := Lib.hid hb
      clear ho hb
      go_wp2
      go_ret2
      exact ⟨rfl, HB.out⟩

theorem ch_first (a b : Nat) : chV (a + b - 1) ((a : Int) - 1) = if a = 0 then 0 else (allW (a - 1) b).length := by
  unfold chV
  by_cases ha : a = 0
  · rw [if_pos ha, if_pos (by omega)]
  · rw [if_neg ha, if_neg (by omega), all_len, show ((a : Int) - 1).toNat = a - 1 by omega, show a + b - 1 = a - 1 + b by omega]
set_option maxHeartbeats 4000000 in
set_option maxRecDepth 100000 in
theorem specWordOfRank_any (a b k : Int) (w : World) :
    Calls Try.prog 15 #[.int .i64 a, .int .i64 b, .int .i64 k] w fun e w' => e = .returned (.tuple #[.string (strP (wrOk a b k) (wrV a b k)), .bool (wrOk a b k)]) ∧ Below w.heap.size w w' := by
  have H1 := Lib.hid (fun W => woTwo_any a b 7 W)
  unfold wrOk
  cases ht : twoB a b 7 with
  | false =>
    rw [ht] at H1
    go_enter Try.func15, Try.ntmps15
    go_wp2_with fail
    refine (H1.out _).mono ?_
    rintro e w1 ⟨rfl, rfl⟩
    go_wp2
    go_ret2
    exact ⟨rfl, Below.refl _ _⟩
  | true =>
    rw [ht] at H1
    obtain ⟨b1, b2, b3, b4⟩ := (twoB_iff a b 7).1 ht
    obtain ⟨x, rfl⟩ : ∃ x : Nat, a = x := ⟨a.toNat, by omega⟩
    obtain ⟨y, rfl⟩ : ∃ y : Nat, b = y := ⟨b.toNat, by omega⟩
    rw [Bool.true_and]
    have HTB : Hid ((allW x y).length ≤ 16384) := Lib.hid (all_len_le (by omega))
    obtain ⟨T, hT⟩ : ∃ T, T = (allW x y).length := ⟨_, rfl⟩
    have hTb : T ≤ 16384 := by rw [hT]; exact HTB.out
    have HT := Lib.hid hT
    have HCH : Hid (∀ W, Calls Try.prog 26 #[.int .i64 ((x : Int) + y), .int .i64 x] W fun e w' => e = .returned (.int .i64 (T : Nat)) ∧ w' = W) := Lib.hid fun W => by
      have h := woChoose_any (x + y) (x : Int) (by omega) (by omega) (by omega) W
      have e : chV (x + y) (x : Int) = T := by unfold chV; rw [if_neg (by omega), Int.toNat_natCast, hT, all_len]
      rw [e, show (((x + y : Nat)) : Int) = (x : Int) + y by omega] at h
      exact h
    rw [show (x : Int).toNat = x by omega, show (y : Int).toNat = y by omega, ← hT]
    obtain ⟨r, hr⟩ : ∃ r, (decide (0 ≤ k) && decide (k ≤ (T : Int) - 1)) = r := ⟨_, rfl⟩
    have HI := Lib.hid (fun W => in_at k 0 ((T : Int) - 1) r hr W)
    have hr2 : (decide (0 ≤ k) && decide (k < (T : Int))) = r := by rw [← hr]; congr 1; by_cases h : k < (T : Int); rw [decide_eq_true h, decide_eq_true (by omega)]; rw [decide_eq_false h, decide_eq_false (by omega)]
    rw [hr2]
    clear ht hr2 hT
    cases r with
    | false =>
      clear hr
      go_enter Try.func15, Try.ntmps15
      go_wp2_with fail
      refine (H1.out _).mono ?_
      rintro e w1 ⟨rfl, rfl⟩
      go_wp2_with fail
      refine (HCH.out _).mono ?_
      rintro e w2 ⟨rfl, rfl⟩
      go_wp2_with fail
      refine (HI.out _).mono ?_
      rintro e w3 ⟨rfl, rfl⟩
      go_wp2
      go_ret2
      exact ⟨rfl, Below.refl _ _⟩
    | true =>
      rw [Bool.and_eq_true] at hr
      have k0 := of_decide_eq_true hr.1
      have k1 := of_decide_eq_true hr.2
      obtain ⟨j, rfl⟩ : ∃ j : Nat, k = j := ⟨k.toNat, by omega⟩
      obtain ⟨u0, hu0⟩ : ∃ u, (allW x y)[j]? = some u := ⟨_, List.getElem?_eq_getElem (by rw [← HT.out]; omega)⟩
      have HU : Hid (wrV x y j = u0) := Lib.hid (by unfold wrV; rw [Int.toNat_natCast, Int.toNat_natCast, Int.toNat_natCast, hu0]; rfl)
      have HU0 := Lib.hid hu0
      clear hr hu0
      go_enter Try.func15, Try.ntmps15
      go_wp2_with fail
      refine (H1.out _).mono ?_
      rintro e w1 ⟨rfl, rfl⟩
      go_wp2_with fail
      refine (HCH.out _).mono ?_
      rintro e w2 ⟨rfl, rfl⟩
      go_wp2_with fail
      refine (HI.out _).mono ?_
      rintro e w3 ⟨rfl, rfl⟩
      go_wp2
      go_loopw [0, 1, 2, 8, 9] (fun va vb vk s _ wr => ∃ (a b q : Nat) (p u : List UInt8), a ≤ 7 ∧ b ≤ 7 ∧ va = .int .i64 a ∧ vb = .int .i64 b ∧ vk = .int .i64 q ∧ q ≤ 16384 ∧ s = .string (mkB p) ∧ p.length + (a + b) = x + y ∧ (allW a b)[q]? = some u ∧ p ++ u = u0 ∧ wr = w3)
        (fun va vb _ _ _ _ => (intOf va).toNat + (intOf vb).toNat)
      case atStart => exact ⟨x, y, j, [], u0, by omega, by omega, rfl, rfl, rfl, by omega, rfl, by simp, HU0.out, rfl, rfl⟩
      case round =>
        obtain ⟨a, b, q, p, u, ha, hb, rfl, rfl, rfl, hq, rfl, hpl, hu, hpu, rfl⟩ := hrel
        have HPU := Lib.hid hpu
        have hzp : (mkB p).size ≤ 14 := by rw [mkB_size]; omega
        have hzl : (⟨#[108]⟩ : ByteArray).size = 1 := rfl
        have hzr : (⟨#[114]⟩ : ByteArray).size = 1 := rfl
        clear hpu
        by_cases h0 : a + b = 0
        · have HE : Hid (mkB p = mkB u0) := Lib.hid (by
            obtain rfl : a = 0 := by omega
            obtain rfl : b = 0 := by omega
            rw [allW] at hu
            have hu2 : u = [] := by
              cases q with
              | zero => simpa using hu.symm
              | succ q => simp at hu
            rw [← HPU.out, hu2, List.append_nil])
          have n0 : ¬ (0 : Int) < (a : Int) + b := by omega
          clear hu
          go_wp2
          go_ret2
          exact ⟨by rw [HU.out, HE.out]; rfl, Below.refl _ _⟩
        · have n0 : (0 : Int) < (a : Int) + b := by omega
          have HF : Hid (∀ W, Calls Try.prog 26 #[.int .i64 ((a : Int) + b - 1), .int .i64 ((a : Int) - 1)] W fun e w' => e = .returned (.int .i64 ((if a = 0 then 0 else (allW (a - 1) b).length : Nat) : Int)) ∧ w' = W) := Lib.hid fun W => by
            have h := woChoose_any (a + b - 1) ((a : Int) - 1) (by omega) (by omega) (by omega) W
            rw [ch_first a b, show (((a + b - 1 : Nat)) : Int) = (a : Int) + b - 1 by omega] at h
            exact h
          have hrs := rank_step h0 (List.getElem?_eq_some_iff.1 hu).1
          have hfb : (if a = 0 then 0 else (allW (a - 1) b).length) ≤ 16384 := by
            split
            · omega
            · exact all_len_le (by omega)
          generalize (if a = 0 then 0 else (allW (a - 1) b).length) = f at *
          rcases hrs with ⟨r1, r2, r3⟩ | ⟨r1, r2, r3, r4⟩
          · rw [hu] at r3
            obtain ⟨v, hv, hvu⟩ := Option.map_eq_some_iff.1 r3.symm
            have HV := Lib.hid hv
            have HP2 : Hid (p ++ [108] ++ v = u0) := Lib.hid (by rw [← HPU.out, ← hvu]; simp)
            have HC : Hid (mkB p ++ (⟨#[108]⟩ : ByteArray) = mkB (p ++ [108])) := Lib.hid (mkB_append p [108])
            have i1 : (q : Int) < f := by omega
            have i2 : (a : Int) - 1 = ((a - 1 : Nat) : Int) := by omega
            rw [i2] at HF
            clear hu r3 hv hvu
            go_wp2_with fail
            with_reducible refine (HF.out _).mono ?_
            rintro e w5 ⟨rfl, rfl⟩
            go_wp2
            go_roundw
            case rel => exact ⟨a - 1, b, q, p ++ [108], v, by omega, hb, by go_num, rfl, rfl, hq, congrArg Value.string HC.out, by rw [List.length_append, List.length_singleton]; omega, HV.out, HP2.out, trivial⟩
            case measure => simp [intOf]; omega
          · rw [hu] at r3
            obtain ⟨v, hv, hvu⟩ := Option.map_eq_some_iff.1 r3.symm
            have HV := Lib.hid hv
            have HP2 : Hid (p ++ [114] ++ v = u0) := Lib.hid (by rw [← HPU.out, ← hvu]; simp)
            have HC : Hid (mkB p ++ (⟨#[114]⟩ : ByteArray) = mkB (p ++ [114])) := Lib.hid (mkB_append p [114])
            have i1 : ¬ (q : Int) < f := by omega
            have i2 : (b : Int) - 1 = ((b - 1 : Nat) : Int) := by omega
            have i3 : (q : Int) - f = ((q - f : Nat) : Int) := by omega
            clear hu r3 hv hvu
            go_wp2_with fail
            with_reducible refine (HF.out _).mono ?_
            rintro e w5 ⟨rfl, rfl⟩
            go_wp2
            go_roundw
            case rel => exact ⟨a, b - 1, q - f, p ++ [114], v, ha, by omega, rfl, by go_num, by go_num, by omega, congrArg Value.string HC.out, by rw [List.length_append, List.length_singleton]; omega, HV.out, HP2.out, trivial⟩
            case measure => simp [intOf]; omega
end Go.Proofs.Ytohfkikdcoefcaa
