/- FallTimes and LastFall: the contracts of the program's and of the model's. -/
import Derived.Test.YtenpmjinbjlpbaaRoFalls
namespace Go.Proofs.Ytenpmjinbjlpbaa
open Go.RowKit

/-- what FallTimes returns -/
def ftV (L : Int) (l : List (Int × Int)) : List Int := if goodB L l then fallsOf L l else []
theorem fallsOf_bounds {L : Int} {l : List (Int × Int)} (hg : goodB L l = true) : ∀ x ∈ fallsOf L l, 0 ≤ x ∧ x ≤ 1000 := by
  intro x hx
  unfold fallsOf at hx
  obtain ⟨g, hm, rfl⟩ := List.mem_map.1 hx
  exact ft_bounds (fallAs_good hg g hm)
theorem ftV_bounds (L : Int) (l : List (Int × Int)) : ∀ x ∈ ftV L l, 0 ≤ x ∧ x ≤ 1000 := by
  intro x hx
  unfold ftV at hx
  split at hx
  · exact fallsOf_bounds (by assumption) x hx
  · simp at hx
theorem ftV_len (L : Int) (l : List (Int × Int)) : ((ftV L l).length : Int) ≤ 16 := by
  unfold ftV
  split
  · rename_i h
    rw [fallsOf_len h]; exact good_len h
  · simp
def maxOf (l : List Int) : Int := l.foldl (fun a b => if a < b then b else a) 0
theorem maxOf_snoc (l : List Int) (x : Int) : maxOf (l ++ [x]) = if maxOf l < x then x else maxOf l := by
  unfold maxOf
  rw [List.foldl_append]
  rfl
theorem maxOf_bounds (l : List Int) (h : ∀ x ∈ l, 0 ≤ x ∧ x ≤ 1000) : ∀ k, 0 ≤ maxOf (l.take k) ∧ maxOf (l.take k) ≤ 1000 := by
  intro k
  induction k with
  | zero => simp [maxOf]
  | succ k ih =>
    by_cases hk : k < l.length
    · rw [List.take_succ_eq_append_getElem hk, maxOf_snoc]
      have := h _ (List.getElem_mem hk)
      split <;> omega
    · rw [List.take_of_length_le (by omega)] at ih ⊢
      exact ih
/-- what LastFall returns -/
def lfV (L : Int) (l : List (Int × Int)) : Int := maxOf (ftV L l)

set_option maxHeartbeats 1000000 in
theorem implFallTimes_any (L : Int) (A : Option Addr) (c : Nat) (l : List (Int × Int)) (w : World) (hA : AntsAt w A l) :
    Calls Try.prog 80 #[.agg #[.int .i64 L, .slice A l.length c]] w fun e w' => ∃ A' n c', e = .returned (.tuple #[.slice A' n c', .bool (goodB L l)]) ∧ n = (ftV L l).length ∧ SlOwn intS w' w.heap.size 3 (.slice A' n c') (ftV L l) ∧ Below w.heap.size w w' := by
  have HA := Lib.hid (hA.alloc (Obj.cells #[Value.int IntKind.i64 L, Value.slice A l.length c] 47))
  clear hA
  cases hg : goodB L l with
  | false =>
    have HV : Hid (ftV L l = []) := by show _ = _; simp [ftV, hg]
    have HG : Hid (∀ w, AntsAt w A l → Calls Try.prog 62 #[.agg #[.int .i64 L, .slice A l.length c]] w fun e w' => e = .returned (.bool false) ∧ Below w.heap.size w w') := fun w h => by
      rw [← hg]; exact isRod_any L A c l w h
    clear hg
    go_enter Try.func80, Try.ntmps80
    go_wp2_with fail
    refine (HG.out _ HA.out).mono ?_
    rintro e w1 ⟨rfl, hb⟩
    go_wp2
    go_ret2
    exact ⟨none, 0, 0, rfl, by rw [HV.out]; rfl, by rw [HV.out]; exact SlOwn.nil _ _ _ _, ((Below.refl _ _).alloc (Nat.le_refl _) _).trans (hb.mono (by simp))⟩
  | true =>
    have HV : Hid (ftV L l = (fallAs L l).map ft) := by show _ = _; simp [ftV, hg, fallsOf]
    have HG : Hid (∀ w, AntsAt w A l → Calls Try.prog 62 #[.agg #[.int .i64 L, .slice A l.length c]] w fun e w' => e = .returned (.bool true) ∧ Below w.heap.size w w') := fun w h => by
      rw [← hg]; exact isRod_any L A c l w h
    have hn := good_len hg
    have hfl : ((fallAs L l).length : Int) ≤ 1000 := by rw [fallAs_len hg]; omega
    have HGO := Lib.hid (fallAs_good hg)
    clear hg
    go_enter Try.func80, Try.ntmps80
    go_wp2_with fail
    refine (HG.out _ HA.out).mono ?_
    rintro e w1 ⟨rfl, hb⟩
    have c0 : w1.cell? ⟨w.heap.size, 0, none⟩ = some (.int .i64 L) := by rw [hb.cell (p := ⟨w.heap.size, 0, none⟩) (by simp)]; simp
    have c1 : w1.cell? ⟨w.heap.size, 1, none⟩ = some (.slice A l.length c) := by rw [hb.cell (p := ⟨w.heap.size, 1, none⟩) (by simp)]; simp
    have HB := Lib.hid (((Below.refl _ w).alloc (Nat.le_refl _) _).trans (hb.mono (by simp)))
    have HA1 := Lib.hid (HA.out.below hb)
    clear hb
    go_wp2_with fail
    refine (fallAs_any L A c l _ hn HA1.out).mono ?_
    rintro e w2 ⟨A2, c2, rfl, ho, hb2⟩
    have HO := Lib.hid ho.sl
    have HB2 := Lib.hid (HB.out.trans (hb2.mono HB.out.size))
    clear hb2 ho
    go_wp2_with fail
    refine (numbersOf_fallTime A2 c2 (fallAs L l) _ hfl HGO.out HO.out).mono ?_
    rintro e w3 ⟨A3, c3, rfl, ho3, hb3⟩
    go_wp2
    go_ret2
    exact ⟨A3, _, c3, rfl, by rw [HV.out]; simp, by rw [HV.out]; simpa using ho3.base HB2.out.size, HB2.out.trans (hb3.mono HB2.out.size)⟩

set_option maxHeartbeats 1000000 in
theorem implLastFall_any (L : Int) (A : Option Addr) (c : Nat) (l : List (Int × Int)) (w : World) (hA : AntsAt w A l) :
    Calls Try.prog 65 #[.agg #[.int .i64 L, .slice A l.length c]] w fun e w' => e = .returned (.tuple #[.int .i64 (lfV L l), .bool (goodB L l)]) ∧ Below w.heap.size w w' := by
  have HA := Lib.hid (hA.alloc (Obj.cells #[Value.int IntKind.i64 L, Value.slice A l.length c] 47))
  clear hA
  have hln := ftV_len L l
  have HBD := Lib.hid (ftV_bounds L l)
  have HMB := Lib.hid (maxOf_bounds (ftV L l) (ftV_bounds L l))
  go_enter Try.func65, Try.ntmps65
  go_wp2_with fail
  refine (implFallTimes_any L A c l _ HA.out).mono ?_
  rintro e w1 ⟨A1, n, c1, rfl, hn, ho, hb⟩
  subst hn
  have HB := Lib.hid (((Below.refl _ w).alloc (Nat.le_refl _) _).trans (hb.mono (by simp)))
  have HO := Lib.hid ho.sl
  clear hb ho
  have HLF : Hid (lfV L l = maxOf (ftV L l)) := rfl
  generalize ftV L l = m at *
  go_wp2
  go_loopw [6, 16] (fun v i wr => ∃ k : Nat, k ≤ m.length ∧ i = .int .i64 k ∧ v = .int .i64 (maxOf (m.take k)) ∧ Below w1.heap.size w1 wr)
    (fun _ i _ => m.length - (intOf i).toNat)
  case atStart => exact ⟨0, Nat.zero_le _, rfl, rfl, Below.refl _ _⟩
  case round =>
    obtain ⟨k, hk, rfl, rfl, hbr⟩ := hrel
    have HBr := Lib.hid hbr
    have HOr := Lib.hid (HO.out.below hbr)
    clear hbr
    by_cases hlt : k < m.length
    · obtain ⟨b, off, rfl, l0, hc⟩ := HOr.out.int_at hlt
      have hx : m[k]? = some (m[k]'hlt) := List.getElem?_eq_getElem hlt
      have a0 := hc k _ hx
      have hm := maxOf_snoc (m.take k) (m[k]'hlt)
      rw [← List.take_succ_eq_append_getElem hlt] at hm
      clear hc hx
      generalize m[k]'hlt = x at *
      generalize maxOf (m.take k) = s at *
      by_cases hsx : s < x
      · have HM : Hid (maxOf (m.take (k + 1)) = x) := by show _ = _; rw [hm, if_pos hsx]
        clear hm
        go_wp2
        go_roundw
        case rel => exact ⟨k + 1, by omega, by go_num, by rw [HM.out] <;> (congr 1; omega), HBr.out⟩
        case measure => simp [intOf]; omega
      · have HM : Hid (maxOf (m.take (k + 1)) = s) := by show _ = _; rw [hm, if_neg hsx]
        clear hm
        go_wp2
        go_roundw
        case rel => exact ⟨k + 1, by omega, by go_num, by rw [HM.out] <;> (congr 1; omega), HBr.out⟩
        case measure => simp [intOf]; omega
    · obtain rfl : k = m.length := by omega
      have HE : Hid (m.take m.length = m) := List.take_length
      go_wp2
      go_ret2
      exact ⟨ret_ib (by rw [HE.out, HLF.out]) rfl, HB.out.trans (HBr.out.mono HB.out.size)⟩

theorem most_at (a b r : Int) (hr : (if a < b then b else a) = r) (w : World) :
    Calls Try.prog 59 #[.int .i64 a, .int .i64 b] w fun e w' => e = .returned (.int .i64 r) ∧ w = w' := by
  subst hr
  by_cases h : b < a
  · have h2 : ¬ a < b := by omega
    rw [if_neg h2]
    go_enter Try.func59, Try.ntmps59
    go_wp2
    go_ret
    exact ⟨ret_int rfl, rfl⟩
  · by_cases h2 : a < b
    · rw [if_pos h2]
      go_enter Try.func59, Try.ntmps59
      go_wp2
      go_ret
      exact ⟨ret_int rfl, rfl⟩
    · obtain rfl : a = b := by omega
      rw [if_neg h2]
      go_enter Try.func59, Try.ntmps59
      go_wp2
      go_ret
      exact ⟨ret_int rfl, rfl⟩

set_option maxHeartbeats 1000000 in
theorem roLast_good (L : Int) (A : Option Addr) (c : Nat) (l : List (Int × Int)) (w : World) (hg : goodB L l = true) (hA : AntsAt w A l) :
    Calls Try.prog 41 #[.agg #[.int .i64 L, .slice A l.length c]] w fun e w' => e = .returned (.int .i64 (maxOf (fallsOf L l))) ∧ Below w.heap.size w w' := by
  have HA := Lib.hid (hA.alloc (Obj.cells #[Value.int IntKind.i64 L, Value.slice A l.length c] 47))
  clear hA
  have hln : ((fallsOf L l).length : Int) ≤ 16 := by rw [fallsOf_len hg]; exact good_len hg
  have HF : Hid (∀ w, AntsAt w A l → Calls Try.prog 42 #[.agg #[.int .i64 L, .slice A l.length c]] w fun e w' => ∃ A' n c', e = .returned (.slice A' n c') ∧ n = (fallsOf L l).length ∧ SlOwn intS w' w.heap.size 3 (.slice A' n c') (fallsOf L l) ∧ Below w.heap.size w w') :=
    fun w h => roFalls_good L A c l w hg h
  clear hg
  go_enter Try.func41, Try.ntmps41
  go_wp2_with fail
  refine (HF.out _ HA.out).mono ?_
  rintro e w1 ⟨A1, n, c1, rfl, hn, ho, hb⟩
  subst hn
  have HB := Lib.hid (((Below.refl _ w).alloc (Nat.le_refl _) _).trans (hb.mono (by simp)))
  have HO := Lib.hid ho.sl
  clear hb ho HF
  obtain ⟨m, hm⟩ : ∃ m, m = fallsOf L l := ⟨_, rfl⟩
  have HM := Lib.hid hm
  rw [← hm] at HO hln ⊢
  clear hm
  go_wp2
  go_loopw [3, 9] (fun v i wr => ∃ k : Nat, k ≤ m.length ∧ i = .int .i64 k ∧ v = .int .i64 (maxOf (m.take k)) ∧ Below w1.heap.size w1 wr)
    (fun _ i _ => m.length - (intOf i).toNat)
  case atStart => exact ⟨0, Nat.zero_le _, rfl, rfl, Below.refl _ _⟩
  case round =>
    obtain ⟨k, hk, rfl, rfl, hbr⟩ := hrel
    have HBr := Lib.hid hbr
    have HOr := Lib.hid (HO.out.below hbr)
    clear hbr
    by_cases hlt : k < m.length
    · obtain ⟨b, off, rfl, l0, hc⟩ := HOr.out.int_at hlt
      have hx : m[k]? = some (m[k]'hlt) := List.getElem?_eq_getElem hlt
      have a0 := hc k _ hx
      have hmx := maxOf_snoc (m.take k) (m[k]'hlt)
      rw [← List.take_succ_eq_append_getElem hlt] at hmx
      have HMX : Hid (maxOf (m.take (k + 1)) = _) := hmx
      have HMO : Hid (∀ X, Calls Try.prog 59 #[.int .i64 (maxOf (m.take k)), .int .i64 (m[k]'hlt)] X fun e w' => e = .returned (.int .i64 (maxOf (m.take (k + 1)))) ∧ X = w') := fun X => most_at _ _ _ hmx.symm X
      clear hc hx hmx HMX
      generalize m[k]'hlt = x at *
      generalize maxOf (m.take k) = s at *
      generalize hr : maxOf (m.take (k + 1)) = r at *
      have HR := Lib.hid hr
      clear hr
      go_wp2_with fail
      refine (HMO.out _).mono ?_
      rintro e w3 ⟨rfl, rfl⟩
      go_wp2
      go_roundw
      case rel => exact ⟨k + 1, by omega, by go_num, by rw [HR.out], HBr.out⟩
      case measure => simp [intOf]; omega
    · obtain rfl : k = m.length := by omega
      have HE : Hid (m.take m.length = m) := List.take_length
      go_wp2
      go_ret
      exact ⟨ret_int (by rw [HE.out, HM.out]), HB.out.trans (HBr.out.mono HB.out.size)⟩



end Go.Proofs.Ytenpmjinbjlpbaa
