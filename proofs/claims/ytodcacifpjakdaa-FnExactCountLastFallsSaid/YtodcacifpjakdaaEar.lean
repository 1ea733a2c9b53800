/- EarliestEmpty and MeanLastFall on both sides. -/
import Derived.Test.YtodcacifpjakdaaStD
import Derived.Test.YtodcacifpjakdaaBridgeB
import Derived.Test.YtodcacifpjakdaaLate
namespace Go.Proofs.Ytodcacifpjakdaa
open Go.RowKit

theorem minOf_snoc' (z : Int) (zs : List Int) (x : Int) : Lib.minOf (z :: zs ++ [x]) = min (Lib.minOf (z :: zs)) x := by
  unfold Lib.minOf
  rw [List.foldl_append]
  rfl
theorem minOf_minL (t : Int) (T : List Int) : Lib.minOf (t :: T) = minL (t :: T) := by
  have h : ∀ k, k ≤ T.length → Lib.minOf (t :: T.take k) = minL (t :: T.take k) := by
    intro k
    induction k with
    | zero => intro _; simp [Lib.minOf, minL]
    | succ k ih =>
      intro hk
      rw [List.take_succ_eq_append_getElem hk, ← List.cons_append, minOf_snoc', minL_snoc, ih (by omega)]
      generalize minL (t :: T.take k) = m
      split <;> omega
  have := h T.length (Nat.le_refl _)
  rwa [List.take_length] at this
theorem tbl_head (L : Int) (l : List Int) (k : Nat) (hk : 1 ≤ k) : ∃ p, (tbl L l k)[0]? = some p ∧ p.1 = Lib.minOf (lfT L l k) := by
  unfold tbl
  cases h : lfT L l k with
  | nil => have := lfT_len L l k; rw [h] at this; simp at this; omega
  | cons t T =>
    obtain ⟨h1, h2⟩ := insAll_head t T
    cases hi : insAll (t :: T) with
    | nil => exact absurd hi h2
    | cons p R =>
      refine ⟨p, rfl, ?_⟩
      rw [hi] at h1
      rw [minOf_minL]
      exact h1
def eeV (L : Int) (l : List Int) : Int := if plB L l then Lib.minOf (lfT L l (2 ^ l.length)) else 0
theorem pow_in {n : Nat} (h : n ≤ 12) : 1 ≤ 2 ^ n ∧ 2 ^ n ≤ 4096 := ⟨Nat.one_le_two_pow, by have := Nat.pow_le_pow_right (show 0 < 2 by omega) h; omega⟩

set_option maxHeartbeats 1000000 in
theorem specEarliest_any (L : Int) (A : Option Addr) (c : Nat) (l : List Int) (w : World) (hn : (l.length : Int) ≤ 9223372036854775807) (hA : SlAt intS w A l) :
    Calls Try.prog 14 #[.int .i64 L, .slice A l.length c] w fun e w' => e = .returned (.tuple #[.int .i64 (eeV L l), .bool (plB L l)]) ∧ Below w.heap.size w w' := by
  have HA := Lib.hid hA
  clear hA
  cases hp : plB L l with
  | false =>
    have HV : Hid (eeV L l = 0) := by show _ = _; unfold eeV; rw [hp]; rfl
    have HG : Hid (∀ w, SlAt intS w A l → Calls Try.prog 18 #[.int .i64 L, .slice A l.length c] w fun e w' => e = .returned (.bool false) ∧ w = w') := fun w h => stGood_at L A c l false hp w hn h
    clear hp
    go_enter Try.func14, Try.ntmps14
    go_wp2_with fail
    refine (HG.out _ HA.out).mono ?_
    rintro e w1 ⟨rfl, rfl⟩
    go_wp2
    go_ret2
    exact ⟨ret_ib' HV.out.symm rfl, Below.refl _ _⟩
  | true =>
    have HG : Hid (∀ w, SlAt intS w A l → Calls Try.prog 18 #[.int .i64 L, .slice A l.length c] w fun e w' => e = .returned (.bool true) ∧ w = w') := fun w h => stGood_at L A c l true hp w hn h
    have HC : Hid (∀ w, SlAt intS w A l → Calls Try.prog 19 #[.int .i64 L, .slice A l.length c] w fun e w' => ∃ q A' n' c', e = .returned (.slice A' n' c') ∧ RowsQ q w' w.heap.size (.slice A' n' c') (rowsP (tbl L l (2 ^ l.length))) ∧ Below w.heap.size w w') := fun w h => stCounts_any L A c l w hp h
    obtain ⟨hh1, ⟨hl1, hl2⟩, hrow⟩ := (plB_iff L l).1 hp
    have hpw := pow_in hl2
    obtain ⟨p, hp0, hpv⟩ := tbl_head L l (2 ^ l.length) hpw.1
    have HV : Hid (eeV L l = p.1) := by show _ = _; unfold eeV; rw [hp, hpv]; rfl
    clear hp hh1 hrow hpv hpw
    have HP0 := Lib.hid hp0
    generalize tbl L l (2 ^ l.length) = R at *
    clear hp0
    go_enter Try.func14, Try.ntmps14
    go_wp2_with fail
    refine (HG.out _ HA.out).mono ?_
    rintro e w1 ⟨rfl, rfl⟩
    go_wp2_with fail
    refine (HC.out _ HA.out).mono ?_
    rintro e w2 ⟨q, A2, n2, c2, rfl, hq, hb⟩
    have HB2 := Lib.hid hb
    obtain ⟨x, cx, hq0, hcx, y0, _, _⟩ := ref_in hq HP0.out
    have hql : 0 < q.length := (List.getElem?_eq_some_iff.1 hq0).1
    have hn2 : n2 = q.length := own_lenR hq.own
    have hcap : n2 ≤ c2 := own_cap hq.own
    obtain ⟨g, off, rfl, hgl, hcells⟩ := hq.own.sl.ref_at hql
    have z0 := hcells 0 _ hq0
    have h1 : (0 : Int) < (n2 : Int) := by omega
    have h2 : (0 : Int) < (c2 : Int) := by omega
    have h3 : (0 : Int) < (cx : Int) := by omega
    rw [Nat.add_zero] at z0
    clear hq hcells hb hn2 hq0
    go_wp2
    go_ret2
    exact ⟨ret_ib' HV.out.symm rfl, HB2.out⟩

set_option maxHeartbeats 1000000 in
theorem implEarliest_any (L : Int) (A : Option Addr) (c : Nat) (l : List Int) (w : World) (hn : (l.length : Int) ≤ 9223372036854775807) (hA : SlAt intS w A l) :
    Calls Try.prog 15 #[.int .i64 L, .slice A l.length c] w fun e w' => e = .returned (.tuple #[.int .i64 (eeV L l), .bool (plB L l)]) ∧ Below w.heap.size w w' := by
  have HLA := Lib.hid (lastFallsAll_any L A c l w hn hA)
  clear hA
  cases hp : plB L l with
  | false =>
    have HV : Hid (eeV L l = 0) := by show _ = _; unfold eeV; rw [hp]; rfl
    rw [hp] at HLA
    clear hp
    go_enter Try.func15, Try.ntmps15
    go_wp2_with fail
    refine HLA.out.mono ?_
    rintro e w1 ⟨A1, n1, c1, rfl, _, _, hb⟩
    go_wp2
    go_ret2
    exact ⟨ret_ib' HV.out.symm rfl, hb⟩
  | true =>
    obtain ⟨hh1, ⟨hl1, hl2⟩, hrow⟩ := (plB_iff L l).1 hp
    have hpw := pow_in hl2
    have HNA : Hid (nAll L l = 2 ^ l.length) := by show _ = _; unfold nAll; rw [hp]; rfl
    have HV : Hid (eeV L l = Lib.minOf (lfT L l (2 ^ l.length))) := by show _ = _; unfold eeV; rw [hp]; rfl
    rw [hp, HNA.out] at HLA
    have HLN := Lib.hid (lfT_len L l)
    clear hp hh1 hrow HNA
    generalize 2 ^ l.length = T at *
    go_enter Try.func15, Try.ntmps15
    go_wp2_with fail
    refine HLA.out.mono ?_
    rintro e w1 ⟨A1, n1, c1, rfl, hn1, ho, hb⟩
    subst hn1
    have HM : Hid (Calls Try.prog 23 #[.slice A1 n1 c1] w1 fun e' w' => e' = .returned (.int .i64 (Lib.minOf (lfT L l n1))) ∧ w' = w1) := by
      have h := minI_any (c := c1) (by rw [HLN.out]; omega) (by rw [HLN.out]; omega) ho.sl
      rw [HLN.out] at h
      exact h
    have HB := Lib.hid hb
    clear hb ho
    go_wp2_with fail
    refine HM.out.mono ?_
    rintro e w2 ⟨rfl, rfl⟩
    go_wp2
    go_ret2
    exact ⟨ret_ib' HV.out.symm rfl, HB.out⟩
end Go.Proofs.Ytodcacifpjakdaa
