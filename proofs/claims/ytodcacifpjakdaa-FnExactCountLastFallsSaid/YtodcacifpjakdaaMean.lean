/- MeanLastFall on both sides. -/
import Derived.Test.YtodcacifpjakdaaEar
namespace Go.Proofs.Ytodcacifpjakdaa
open Go.RowKit

def mlS (L : Int) (l : List Int) : Int := sumL (lfT L l (2 ^ l.length))
def mlV (L : Int) (l : List Int) : Int × Int := if plB L l then lowP (mlS L l) ((2 ^ l.length : Nat) : Int) else (0, 0)
theorem mlV_no {L : Int} {l : List Int} (h : plB L l = false) : mlV L l = (0, 0) := by unfold mlV; rw [h]; rfl
theorem mlV_yes {L : Int} {l : List Int} (h : plB L l = true) : mlV L l = lowP (mlS L l) ((2 ^ l.length : Nat) : Int) := by unfold mlV; rw [h]; rfl
theorem sumR_snoc (R : List (Int × Int)) (k : Nat) (p : Int × Int) (hp : R[k]? = some p) : sumR (R.take (k + 1)) = sumR (R.take k) + p.1 * p.2 := by
  obtain ⟨hk, rfl⟩ := List.getElem?_eq_some_iff.1 hp
  have app : ∀ (A B : List (Int × Int)), sumR (A ++ B) = sumR A + sumR B := by
    intro A B
    induction A with
    | nil => simp [sumR]
    | cons a A ih => simp only [List.cons_append, sumR, ih]; omega
  rw [List.take_succ_eq_append_getElem hk, app]
  simp [sumR]
theorem mul_in {a b : Int} (h1 : 0 ≤ a ∧ a ≤ 1000) (h2 : 1 ≤ b ∧ b ≤ 4096) : 0 ≤ a * b ∧ a * b ≤ 4096000 := by
  constructor
  · exact Int.mul_nonneg h1.1 (by omega)
  · have h3 : a * b ≤ 1000 * b := Int.mul_le_mul_of_nonneg_right h1.2 (by omega)
    omega
theorem sumR_in (R : List (Int × Int)) (h : ∀ p ∈ R, 0 ≤ p.1 ∧ p.1 ≤ 1000 ∧ 1 ≤ p.2 ∧ p.2 ≤ 4096) : ∀ k, k ≤ R.length → 0 ≤ sumR (R.take k) ∧ sumR (R.take k) ≤ 4096000 * k
  | 0, _ => by simp [sumR]
  | k + 1, hk => by
    have ih := sumR_in R h k (by omega)
    have hm := h _ (List.getElem_mem (show k < R.length by omega))
    rw [sumR_snoc R k _ (List.getElem?_eq_getElem (by omega))]
    have := mul_in ⟨hm.1, hm.2.1⟩ ⟨hm.2.2.1, hm.2.2.2⟩
    omega
theorem sumL_in (f : Nat → Int) (h : ∀ k, 0 ≤ f k ∧ f k ≤ 1000) : ∀ k : Nat, 0 ≤ sumL ((List.range k).map f) ∧ sumL ((List.range k).map f) ≤ 1000 * k
  | 0 => by simp [sumL]
  | k + 1 => by
    have ih := sumL_in f h k
    have := h k
    rw [List.range_succ, List.map_append, List.map_cons, List.map_nil, sumL_snoc]
    omega
theorem pow_shl {n : Nat} (h : n ≤ 12) : wrap64 (2 ^ n) = ((2 ^ n : Nat) : Int) := by
  have e : (2 : Int) ^ n = ((2 ^ n : Nat) : Int) := by rw [Int.natCast_pow]; rfl
  have h0 := (pow_in h).2
  rw [e]
  generalize 2 ^ n = x at *
  unfold wrap64
  omega

set_option maxRecDepth 100000 in
set_option maxHeartbeats 2000000 in
theorem specMean_any (L : Int) (A : Option Addr) (c : Nat) (l : List Int) (w : World) (hn : (l.length : Int) ≤ 9223372036854775807) (hA : SlAt intS w A l) :
    Calls Try.prog 16 #[.int .i64 L, .slice A l.length c] w fun e w' => e = .returned (.tuple #[.int .i64 (mlV L l).1, .int .i64 (mlV L l).2, .bool (plB L l)]) ∧ Below w.heap.size w w' := by
  have HA := Lib.hid hA
  clear hA
  cases hp : plB L l with
  | false =>
    have HV := Lib.hid (mlV_no hp)
    have HG : Hid (∀ w, SlAt intS w A l → Calls Try.prog 18 #[.int .i64 L, .slice A l.length c] w fun e w' => e = .returned (.bool false) ∧ w = w') := fun w h => stGood_at L A c l false hp w hn h
    clear hp
    go_enter Try.func16, Try.ntmps16
    go_wp2_with fail
    refine (HG.out _ HA.out).mono ?_
    rintro e w1 ⟨rfl, rfl⟩
    go_wp2
    go_ret3
    exact ⟨ret_iib' (by rw [HV.out]) (by rw [HV.out]) rfl, Below.refl _ _⟩
  | true =>
    have HV := Lib.hid (mlV_yes hp)
    have HG : Hid (∀ w, SlAt intS w A l → Calls Try.prog 18 #[.int .i64 L, .slice A l.length c] w fun e w' => e = .returned (.bool true) ∧ w = w') := fun w h => stGood_at L A c l true hp w hn h
    have HC : Hid (∀ w, SlAt intS w A l → Calls Try.prog 19 #[.int .i64 L, .slice A l.length c] w fun e w' => ∃ q A' n' c', e = .returned (.slice A' n' c') ∧ RowsQ q w' w.heap.size (.slice A' n' c') (rowsP (tbl L l (2 ^ l.length))) ∧ Below w.heap.size w w') := fun w h => stCounts_any L A c l w hp h
    obtain ⟨hh1, ⟨hl1, hl2⟩, hrow⟩ := (plB_iff L l).1 hp
    have hpw := pow_in hl2
    have hsh := pow_shl hl2
    have hlen := tbl_len L l (2 ^ l.length)
    have HIN : Hid (∀ p ∈ tbl L l (2 ^ l.length), 0 ≤ p.1 ∧ p.1 ≤ 1000 ∧ 1 ≤ p.2 ∧ p.2 ≤ 4096) := fun p hpm => by
      have := tbl_in L l (2 ^ l.length) hp p hpm
      omega
    have HSR := Lib.hid (sumR_in _ HIN.out)
    have HSS := Lib.hid (sumR_snoc (tbl L l (2 ^ l.length)))
    have HSA : Hid (sumR (tbl L l (2 ^ l.length)) = mlS L l) := sumR_all _
    have HSI : Hid (0 ≤ mlS L l ∧ mlS L l ≤ 4096000) := by
      have := sumL_in (lfk L l) (fun k => lfk_in L l k hp) (2 ^ l.length)
      show 0 ≤ mlS L l ∧ mlS L l ≤ 4096000
      unfold mlS lfT
      omega
    clear hp hh1 hrow
    generalize tbl L l (2 ^ l.length) = R at *
    generalize 2 ^ l.length = T at *
    generalize mlS L l = S at *
    have HLO := Lib.hid (fun w => stLow_any S (T : Int) w (by omega) (by omega) HSI.out.1 (by have := HSI.out.2; omega))
    generalize lowP S (T : Int) = fr at *
    go_enter Try.func16, Try.ntmps16
    go_wp2_with fail
    refine (HG.out _ HA.out).mono ?_
    rintro e w1 ⟨rfl, rfl⟩
    go_wp2_with fail
    refine (HC.out _ HA.out).mono ?_
    rintro e w2 ⟨q, A2, n2, c2, rfl, hq, hb⟩
    have HB2 := Lib.hid hb
    have HQ := Lib.hid hq
    have hn2 : n2 = R.length := by rw [own_lenR hq.own, hq.len, rowsP_len]
    have hcap : n2 ≤ c2 := own_cap hq.own
    have hql : q.length = R.length := by rw [hq.len, rowsP_len]
    have HQL := Lib.hid hql
    clear hq hb hql
    subst hn2
    go_wp2
    go_loopw [7, 20] (fun v i wr => ∃ k : Nat, k ≤ R.length ∧ i = .int .i64 k ∧ v = .int .i64 (sumR (R.take k)) ∧ Below w2.heap.size w2 wr)
      (fun _ i _ => R.length - (intOf i).toNat)
    case atStart => exact ⟨0, Nat.zero_le _, rfl, rfl, Below.refl _ _⟩
    case round =>
      obtain ⟨k, hk, rfl, rfl, hbr⟩ := hrel
      have HBR := Lib.hid hbr
      have HQR := Lib.hid (HQ.out.below hbr)
      clear hbr
      have hsk := HSR.out k hk
      by_cases hlt : k < R.length
      · obtain ⟨p, hpk⟩ : ∃ p, R[k]? = some p := ⟨_, List.getElem?_eq_getElem hlt⟩
        obtain ⟨x, cx, hqk, hcx, y0, y1, _⟩ := ref_in HQR.out hpk
        obtain ⟨g, off, rfl, hgl, hcells⟩ := HQR.out.own.sl.ref_at (show k < q.length by have := HQL.out; omega)
        have z0 := hcells k _ hqk
        have hpi := HIN.out p (List.mem_of_getElem? hpk)
        have HSN := Lib.hid (HSS.out k p hpk)
        have hmi := mul_in ⟨hpi.1, hpi.2.1⟩ ⟨hpi.2.2.1, hpi.2.2.2⟩
        obtain ⟨p1, p2⟩ := p
        simp only at y0 y1 z0 hpi hmi HSN
        have hkn : (k : Int) < (R.length : Int) := by omega
        have hkc : (k : Int) < (c2 : Int) := by omega
        have hk0 : (0 : Int) ≤ (k : Int) := by omega
        have h0c : (0 : Int) < (cx : Int) := by omega
        have h1c : (1 : Int) < (cx : Int) := by omega
        have hw1 : IntKind.i64.wrap (p1 * p2) = p1 * p2 := IntWalk.i64_in _ (by omega)
        have hw2 : IntKind.i64.wrap (sumR (R.take k) + p1 * p2) = sumR (R.take (k + 1)) := by rw [← HSN.out]; exact IntWalk.i64_in _ (by rw [HSN.out]; omega)
        clear hcells hqk hpk
        go_wp2
        go_quiet (fail)
        go_wp2
        go_roundw
        case rel => exact ⟨k + 1, by omega, by go_num, rfl, ⟨HBR.out.os, HBR.out.tape, HBR.out.output, HBR.out.size, HBR.out.block⟩⟩
        case measure => simp [intOf]; omega
      · obtain rfl : k = R.length := by omega
        have HFE : Hid (sumR (R.take R.length) = S) := by show _ = _; rw [List.take_length]; exact HSA.out
        rw [HFE.out]
        go_wp2_with fail
        refine (HLO.out _).mono ?_
        rintro e w4 ⟨rfl, hb4⟩
        go_wp2
        go_ret3
        exact ⟨ret_iib' (by rw [HV.out]) (by rw [HV.out]) rfl, HB2.out.trans ((HBR.out.trans (hb4.mono HBR.out.size)).mono HB2.out.size)⟩

set_option maxRecDepth 100000 in
set_option maxHeartbeats 2000000 in
theorem implMean_any (L : Int) (A : Option Addr) (c : Nat) (l : List Int) (w : World) (hn : (l.length : Int) ≤ 9223372036854775807) (hA : SlAt intS w A l) :
    Calls Try.prog 17 #[.int .i64 L, .slice A l.length c] w fun e w' => e = .returned (.tuple #[.int .i64 (mlV L l).1, .int .i64 (mlV L l).2, .bool (plB L l)]) ∧ Below w.heap.size w w' := by
  have HLA := Lib.hid (lastFallsAll_any L A c l w hn hA)
  clear hA
  cases hp : plB L l with
  | false =>
    have HV := Lib.hid (mlV_no hp)
    rw [hp] at HLA
    clear hp
    go_enter Try.func17, Try.ntmps17
    go_wp2_with fail
    refine HLA.out.mono ?_
    rintro e w1 ⟨A1, n1, c1, rfl, _, _, hb⟩
    go_wp2
    go_ret3
    exact ⟨ret_iib' (by rw [HV.out]) (by rw [HV.out]) rfl, hb⟩
  | true =>
    have HV := Lib.hid (mlV_yes hp)
    obtain ⟨hh1, ⟨hl1, hl2⟩, hrow⟩ := (plB_iff L l).1 hp
    have hpw := pow_in hl2
    have HNA : Hid (nAll L l = 2 ^ l.length) := by show _ = _; unfold nAll; rw [hp]; rfl
    rw [hp, HNA.out] at HLA
    have HLN := Lib.hid (lfT_len L l)
    have HLI := Lib.hid (fun k => lfk_in L l k hp)
    have HSK : Hid (∀ k, 0 ≤ sumL (lfT L l k) ∧ sumL (lfT L l k) ≤ 1000 * k) := sumL_in (lfk L l) HLI.out
    have HSS : Hid (∀ k, sumL (lfT L l (k + 1)) = sumL (lfT L l k) + lfk L l k) := fun k => by rw [lfT_succ, sumL_snoc]
    have HAT : Hid (∀ n k, k < n → (lfT L l n)[k]? = some (lfk L l k)) := fun n k h => by unfold lfT; rw [List.getElem?_map, List.getElem?_range h]; rfl
    have HMS : Hid (mlS L l = sumL (lfT L l (2 ^ l.length))) := rfl
    rw [HMS.out] at HV
    clear hp hh1 hrow HNA HMS
    generalize 2 ^ l.length = T at *
    have HLO := Lib.hid (fun w => lowest_any (sumL (lfT L l T)) (T : Int) w (by omega) (by omega) (by have := HSK.out T; omega) (by have := HSK.out T; omega))
    generalize lowP (sumL (lfT L l T)) (T : Int) = fr at *
    go_enter Try.func17, Try.ntmps17
    go_wp2_with fail
    refine HLA.out.mono ?_
    rintro e w1 ⟨A1, n1, c1, rfl, hn1, ho, hb⟩
    subst hn1
    have HB := Lib.hid hb
    have HO := Lib.hid ho.sl
    have hcap := own_cap ho
    clear hb ho
    go_wp2
    go_loopw [9, 23] (fun v i wr => ∃ k : Nat, k ≤ n1 ∧ i = .int .i64 k ∧ v = .int .i64 (sumL (lfT L l k)) ∧ wr = w1)
      (fun _ i _ => n1 - (intOf i).toNat)
    case atStart => exact ⟨0, Nat.zero_le _, rfl, rfl, rfl⟩
    case round =>
      obtain ⟨k, hk, rfl, rfl, hwr⟩ := hrel
      subst hwr
      have hsk := HSK.out k
      have hlk := HLI.out k
      by_cases hlt : k < n1
      · obtain ⟨g, off, rfl, hgl, hcells⟩ := HO.out.int_at (show k < (lfT L l n1).length by rw [HLN.out]; exact hlt)
        have z0 := hcells k _ (HAT.out n1 k hlt)
        have HSN := Lib.hid (HSS.out k)
        have hkn : (k : Int) < (n1 : Int) := by omega
        have hkc : (k : Int) < (c1 : Int) := by omega
        have hk0 : (0 : Int) ≤ (k : Int) := by omega
        generalize lfk L l k = y at *
        have hw2 : IntKind.i64.wrap (sumL (lfT L l k) + y) = sumL (lfT L l (k + 1)) := by rw [← HSN.out]; exact IntWalk.i64_in _ (by rw [HSN.out]; omega)
        clear hcells
        go_wp2
        go_roundw
        case rel => exact ⟨k + 1, by omega, by go_num, rfl, by trivial⟩
        case measure => simp [intOf]; omega
      · obtain rfl : k = n1 := by omega
        obtain ⟨f1, f2⟩ := fr
        simp only at HLO HV
        go_wp2_with fail
        refine (HLO.out _).mono ?_
        rintro e w4 ⟨rfl, hb4⟩
        have HB4 := Lib.hid (HB.out.trans (hb4.mono HB.out.size))
        clear hb4
        go_wp2
        go_quiet (fail)
        go_wp2
        go_ret3
        exact ⟨ret_iib' (by rw [HV.out]) (by rw [HV.out]) rfl, by have h := HB4.out.alloc HB4.out.size (Obj.cells #[.int .i64 f1, .int .i64 f2] 44); exact ⟨h.os, h.tape, h.output, h.size, h.block⟩⟩
end Go.Proofs.Ytodcacifpjakdaa
