/- Words: AllWords and WordOfRank, both sides. -/
import Derived.Test.YtfojldkiagemeaaDoorWoY
import Derived.Test.YtfojldkiagemeaaDoorMarkS
namespace Go.Proofs.YtfojldkiagemeaaDoor
open Go.RowKit

def lstP (ok : Bool) (l : List (List UInt8)) : List (List UInt8) := if ok then l else []
def strP (ok : Bool) (t : List UInt8) : ByteArray := if ok then mkB t else ⟨#[]⟩
def awV (a b : Int) : List ByteArray := wordsL (lstP (twoB a b 4) (allW a.toNat b.toNat))
theorem aw_bd (a b : Int) : (((awV a b).length : Nat) : Int) ≤ 1048576 := by
  unfold awV
  rw [wordsL_len]
  cases h : twoB a b 4 with
  | false => show ((0 : Nat) : Int) ≤ 1048576; omega
  | true =>
    obtain ⟨b1, b2, b3, b4⟩ := (twoB_iff a b 4).1 h
    have := all_len_le (a := a.toNat) (b := b.toNat) (by omega)
    show (((allW a.toNat b.toNat).length : Nat) : Int) ≤ 1048576
    omega


/-- ways to choose, as the model counts them -/
def chG (n k : Nat) : Nat → Nat
  | 0 => 1
  | i + 1 => chG n k i * (n - k + (i + 1)) / (i + 1)
theorem chG_pasc : ∀ n, n ≤ 14 → ∀ k, k ≤ n → chG n k k = pasc n k := by decide
theorem chG_le : ∀ n, n ≤ 14 → ∀ k, k ≤ n → ∀ i, i ≤ k → chG n k i ≤ 16384 := by decide
/-- one step of the count, in whole numbers -/
theorem ch_facts (n k i : Nat) (hn : n ≤ 14) (hk : k ≤ n) (hi : i < k) : ∃ d s P Q : Nat, (n : Int) - (k : Int) = d ∧ (d : Int) + ((i : Int) + 1) = s ∧ ((chG n k i : Nat) : Int) * (s : Int) = P ∧ (P : Int).tdiv ((i : Int) + 1) = Q ∧ Q = chG n k (i + 1) ∧ d ≤ 14 ∧ s ≤ 28 ∧ P ≤ 458752 := by
  have h1 := chG_le n hn k hk i (by omega)
  refine ⟨n - k, n - k + (i + 1), chG n k i * (n - k + (i + 1)), chG n k (i + 1), by omega, by omega, by rw [Int.natCast_mul], ?_, rfl, by omega, by omega, ?_⟩
  · rw [Int.tdiv_eq_ediv_of_nonneg (by omega)]
    show _ = ((chG n k i * (n - k + (i + 1)) / (i + 1) : Nat) : Int)
    rw [show ((i : Int) + 1) = ((i + 1 : Nat) : Int) by omega, ← Int.natCast_ediv]
  · have : chG n k i * (n - k + (i + 1)) ≤ 16384 * 28 := Nat.mul_le_mul h1 (by omega)
    omega
def chV (n : Nat) (k : Int) : Nat := if k < 0 then 0 else pasc n k.toNat
set_option maxHeartbeats 2000000 in
theorem woChoose_any (n : Nat) (k : Int) (hn : n ≤ 14) (hk0 : -1 ≤ k) (hk1 : k ≤ n) (w : World) :
    Calls Tryd.prog 7 #[.int .i64 n, .int .i64 k] w fun e w' => e = .returned (.int .i64 (chV n k : Nat)) ∧ w' = w := by
  by_cases h0 : k < 0
  · have HV : Hid (chV n k = 0) := Lib.hid (by unfold chV; rw [if_pos h0])
    go_enter Tryd.func7, Tryd.ntmps7
    go_wp2
    go_ret
    exact ⟨ret_int (by rw [HV.out]; rfl), rfl⟩
  · obtain ⟨m, rfl⟩ : ∃ m : Nat, k = m := ⟨k.toNat, by omega⟩
    have HV : Hid (chV n m = chG n m m) := Lib.hid (by unfold chV; rw [if_neg h0, Int.toNat_natCast, chG_pasc n hn m (by omega)])
    have h1 : ¬ (n : Int) < m := by omega
    go_enter Tryd.func7, Tryd.ntmps7
    go_wp2
    go_loopw [5, 6] (fun o i wr => ∃ (j c : Nat), j ≤ m ∧ i = .int .i64 ((j : Int) + 1) ∧ o = .int .i64 c ∧ c = chG n m j ∧ wr = w)
      (fun _ i _ => m + 1 - (intOf i).toNat)
    case atStart => exact ⟨0, 1, Nat.zero_le _, rfl, rfl, rfl, rfl⟩
    case round =>
      obtain ⟨j, c, hj, rfl, rfl, hc, rfl⟩ := hrel
      have HC := Lib.hid hc
      have hcb := chG_le n hn m (by omega) j hj
      rw [← hc] at hcb
      by_cases hlt : j < m
      · obtain ⟨d, s, P, Q, e1, e2, e3, e4, e5, b1, b2, b3⟩ := ch_facts n m j hn (by omega) hlt
        rw [← hc] at e3
        have HQ := Lib.hid e5
        have hq := chG_le n hn m (by omega) (j + 1) (by omega)
        rw [← e5] at hq
        have n0 : ¬ ((j : Int) + 1) = 0 := by omega
        have n1 : (((j : Int) + 1) == 0) = false := beq_eq_false_iff_ne.2 n0
        have l1 : (j : Int) + 1 ≤ m := by omega
        clear hc e5
        go_wp2
        go_roundw
        case rel => exact ⟨j + 1, Q, by omega, by go_num, by go_num, HQ.out, trivial⟩
        case measure => simp [intOf]; omega
      · have HE : Hid ((c : Int) = (chV n m : Nat)) := Lib.hid (by rw [HV.out, hc, show j = m by omega])
        have l1 : ¬ (j : Int) + 1 ≤ m := by omega
        clear hc
        go_wp2
        go_ret
        exact ⟨ret_int HE.out, rfl⟩

/-- what WordOfRank asks for, and what it hands back -/
def wrOk (a b k : Int) : Bool := twoB a b 7 && (decide (0 ≤ k) && decide (k < ((allW a.toNat b.toNat).length : Nat)))
def wrV (a b k : Int) : List UInt8 := ((allW a.toNat b.toNat)[k.toNat]?).getD []

end Go.Proofs.YtfojldkiagemeaaDoor
