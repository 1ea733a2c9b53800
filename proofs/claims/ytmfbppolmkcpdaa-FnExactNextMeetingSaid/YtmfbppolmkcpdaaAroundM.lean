/- Meetings around a circle up to a time, on both sides. -/
import Derived.Test.YtmfbppolmkcpdaaRunFor
import Derived.Test.YtmfbppolmkcpdaaTimeC
import Derived.Test.YtmfbppolmkcpdaaWays
namespace Go.Proofs.Ytmfbppolmkcpdaa
open Go.RowKit

theorem way_filter (y : Int) (L : Int) (l : List (Int × Int)) : way y (gsOf L l) = (l.filter fun p => p.2 == y).map fun p => (p.1, p.2, L) := by
  unfold way gsOf
  rw [List.filter_map]
  rfl
theorem wtm_wtP (L : Int) (l : List (Int × Int)) : wtm L (way 1 (gsOf L l)) (way (-1) (gsOf L l)) = wtP L l := by
  rw [way_filter, way_filter]
  unfold wtm aparts wtP toRight toLeft
  rw [List.flatMap_map]
  congr 1
  funext r
  rw [List.map_map]
  rfl
theorem wtP_len {L : Int} {l : List (Int × Int)} (h : ciB L l = true) : (wtP L l).length ≤ 256 := by
  rw [← wtm_wtP, wtm_len]
  have hl := ciB_len h
  have h1 := way_le 1 L l
  have h2 := way_le (-1) L l
  exact Nat.mul_le_mul (by omega : _ ≤ 16) (by omega : _ ≤ 16)
def sumC (L t : Int) (w : List Int) : Int := (w.map (fC L t)).sum
theorem sumC_snoc (L t : Int) (w : List Int) (k : Nat) (x : Int) (hx : w[k]? = some x) : sumC L t (w.take (k + 1)) = sumC L t (w.take k) + fC L t x := by
  obtain ⟨hk, rfl⟩ := List.getElem?_eq_some_iff.1 hx
  unfold sumC
  rw [List.take_succ_eq_append_getElem hk, List.map_append, List.sum_append]
  simp
theorem fC_bound {L t a : Int} (hL : 2 ≤ L) (hL1 : L ≤ 400) (ht0 : 0 ≤ t) (ht1 : t ≤ 4000) (h0 : 0 < a) (h1 : a ≤ L) : 0 ≤ fC L t a ∧ fC L t a ≤ 8400 := by
  unfold fC
  refine ⟨Int.ediv_nonneg (by omega) (by omega), Int.ediv_le_of_le_mul (by omega) ?_⟩
  have : 8400 * 1 ≤ 8400 * L := Int.mul_le_mul_of_nonneg_left (by omega) (by omega)
  omega
theorem sumC_bounds {L t : Int} {w : List Int} (hL : 2 ≤ L) (hL1 : L ≤ 400) (ht0 : 0 ≤ t) (ht1 : t ≤ 4000) (hw : ∀ a ∈ w, 0 < a ∧ a ≤ L) : ∀ k, k ≤ w.length → 0 ≤ sumC L t (w.take k) ∧ sumC L t (w.take k) ≤ 8400 * k
  | 0, _ => by simp [sumC]
  | k + 1, hk => by
    have h1 := sumC_bounds hL hL1 ht0 ht1 hw k (by omega)
    have h2 := hw _ (List.getElem_mem (show k < w.length by omega))
    have h3 := fC_bound hL hL1 ht0 ht1 h2.1 h2.2
    rw [sumC_snoc L t w k _ (List.getElem?_eq_getElem (by omega))]
    omega
def maOk (L : Int) (l : List (Int × Int)) (t : Int) : Bool := ciB L l && timeC t
def maV (L : Int) (l : List (Int × Int)) (t : Int) : Int := if maOk L l t then sumC L t (wtP L l) else 0

set_option maxRecDepth 100000 in
set_option maxHeartbeats 1000000 in
theorem specMeetingsAround_any (L : Int) (A : Option Addr) (c : Nat) (l : List (Int × Int)) (t : Int) (w : World) (hA : AntsAt w A l) :
    Calls Try.prog 6 #[.agg #[.int .i64 L, .slice A l.length c], .int .i64 t] w fun e w' => e = .returned (.tuple #[.int .i64 (maV L l t), .bool (maOk L l t)]) ∧ Below w.heap.size w w' := by
  have HA := Lib.hid (hA.alloc (Obj.cells #[Value.int IntKind.i64 L, Value.slice A l.length c] 30))
  clear hA
  cases hg : ciB L l with
  | false =>
    have HV : Hid (maV L l t = 0 ∧ maOk L l t = false) := by show _ ∧ _; simp [maV, maOk, hg]
    have HG : Hid (∀ w, AntsAt w A l → Calls Try.prog 13 #[.agg #[.int .i64 L, .slice A l.length c]] w fun e w' => e = .returned (.bool false) ∧ Below w.heap.size w w') := fun w h => by
      rw [← hg]; exact ciGood_any L A c l w h
    clear hg
    go_enter Try.func6, Try.ntmps6
    go_wp2_with fail
    refine (HG.out _ HA.out).mono ?_
    rintro e w1 ⟨rfl, hb⟩
    go_wp2
    go_ret2
    exact ⟨ret_ib HV.out.1.symm HV.out.2.symm, ((Below.refl _ _).alloc (Nat.le_refl _) _).trans (hb.mono (by simp))⟩
  | true =>
    have HG : Hid (∀ w, AntsAt w A l → Calls Try.prog 13 #[.agg #[.int .i64 L, .slice A l.length c]] w fun e w' => e = .returned (.bool true) ∧ Below w.heap.size w w') := fun w h => by
      rw [← hg]; exact ciGood_any L A c l w h
    cases ht : timeC t with
    | false =>
      have HV : Hid (maV L l t = 0 ∧ maOk L l t = false) := by show _ ∧ _; simp [maV, maOk, ht]
      have HT : Hid (∀ w, Calls Try.prog 14 #[.int .i64 t] w fun e w' => e = .returned (.bool false) ∧ Below w.heap.size w w') := fun w => ciTime_at t false ht w
      clear hg ht
      go_enter Try.func6, Try.ntmps6
      go_wp2_with fail
      refine (HG.out _ HA.out).mono ?_
      rintro e w1 ⟨rfl, hb⟩
      go_wp2_with fail
      refine (HT.out _).mono ?_
      rintro e w2 ⟨rfl, hb2⟩
      go_wp2
      go_ret2
      exact ⟨ret_ib HV.out.1.symm HV.out.2.symm, ((Below.refl _ _).alloc (Nat.le_refl _) _).trans ((hb.trans (hb2.mono hb.size)).mono (by simp))⟩
    | true =>
      have hti := timeC_le ht
      obtain ⟨T, rfl⟩ := Int.eq_ofNat_of_zero_le hti.1
      have HV : Hid (((runC L l T).2 : Int) = maV L l T ∧ true = maOk L l T) := by
        have hc := circ_of hg
        have e1 := (run_ok hc T).2
        have e2 := met_sum hc T
        have e3 : maOk L l T = true := by simp only [maOk, hg, ht]; rfl
        refine ⟨?_, e3.symm⟩
        rw [e1, e2]
        unfold maV
        rw [if_pos e3]
        rfl
      have HT : Hid (∀ w, Calls Try.prog 14 #[.int .i64 T] w fun e w' => e = .returned (.bool true) ∧ Below w.heap.size w w') := fun w => ciTime_at T true ht w
      have HR := Lib.hid (fun w h => ciRunFor_any L A c l T w hg (by omega) h)
      clear hg ht
      go_enter Try.func6, Try.ntmps6
      go_wp2_with fail
      refine (HG.out _ HA.out).mono ?_
      rintro e w1 ⟨rfl, hb⟩
      have c0 : w1.cell? ⟨w.heap.size, 0, none⟩ = some (.int .i64 L) := by rw [hb.cell (p := ⟨w.heap.size, 0, none⟩) (by simp)]; simp
      have c1 : w1.cell? ⟨w.heap.size, 1, none⟩ = some (.slice A l.length c) := by rw [hb.cell (p := ⟨w.heap.size, 1, none⟩) (by simp)]; simp
      have HB := Lib.hid (((Below.refl _ w).alloc (Nat.le_refl _) _).trans (hb.mono (by simp)))
      have HA1 := Lib.hid (HA.out.below hb)
      clear hb
      go_wp2_with fail
      refine (HT.out _).mono ?_
      rintro e w2 ⟨rfl, hb2⟩
      have c0 := Below.cell_some hb2 c0
      have c1 := Below.cell_some hb2 c1
      have HB2 := Lib.hid (HB.out.trans (hb2.mono HB.out.size))
      have HA2 := Lib.hid (HA1.out.below hb2)
      clear hb2
      go_wp2_with fail
      refine (HR.out _ HA2.out).mono ?_
      rintro e w3 ⟨b, ab, gb, ca, cg, rfl, hr3, _, hb3⟩
      have c3 := hr3.c3
      have HB3 := Lib.hid (HB2.out.trans (hb3.mono HB2.out.size))
      clear hb3 hr3
      go_wp2
      go_ret2
      exact ⟨ret_ib HV.out.1 HV.out.2, HB3.out⟩

set_option maxRecDepth 100000 in
set_option maxHeartbeats 2000000 in
theorem implMeetingsAround_any (L : Int) (A : Option Addr) (c : Nat) (l : List (Int × Int)) (t : Int) (w : World) (hA : AntsAt w A l) :
    Calls Try.prog 8 #[.agg #[.int .i64 L, .slice A l.length c], .int .i64 t] w fun e w' => e = .returned (.tuple #[.int .i64 (maV L l t), .bool (maOk L l t)]) ∧ Below w.heap.size w w' := by
  have HA := Lib.hid (hA.alloc (Obj.cells #[Value.int IntKind.i64 L, Value.slice A l.length c] 30))
  clear hA
  cases hg : ciB L l with
  | false =>
    have HV : Hid (maV L l t = 0 ∧ maOk L l t = false) := by show _ ∧ _; simp [maV, maOk, hg]
    have HG : Hid (∀ w, AntsAt w A l → Calls Try.prog 17 #[.agg #[.int .i64 L, .slice A l.length c]] w fun e w' => e = .returned (.bool false) ∧ Below w.heap.size w w') := fun w h => by
      rw [← hg]; exact isCircle_any L A c l w h
    clear hg
    go_enter Try.func8, Try.ntmps8
    go_wp2_with fail
    refine (HG.out _ HA.out).mono ?_
    rintro e w1 ⟨rfl, hb⟩
    go_wp2
    go_ret2
    exact ⟨ret_ib HV.out.1.symm HV.out.2.symm, ((Below.refl _ _).alloc (Nat.le_refl _) _).trans (hb.mono (by simp))⟩
  | true =>
    have HG : Hid (∀ w, AntsAt w A l → Calls Try.prog 17 #[.agg #[.int .i64 L, .slice A l.length c]] w fun e w' => e = .returned (.bool true) ∧ Below w.heap.size w w') := fun w h => by
      rw [← hg]; exact isCircle_any L A c l w h
    cases ht : timeC t with
    | false =>
      have HV : Hid (maV L l t = 0 ∧ maOk L l t = false) := by show _ ∧ _; simp [maV, maOk, ht]
      have HT : Hid (∀ w, Calls Try.prog 18 #[.int .i64 t] w fun e w' => e = .returned (.bool false) ∧ Below w.heap.size w w') := fun w => isRoundTime_at t false ht w
      clear hg ht
      go_enter Try.func8, Try.ntmps8
      go_wp2_with fail
      refine (HG.out _ HA.out).mono ?_
      rintro e w1 ⟨rfl, hb⟩
      go_wp2_with fail
      refine (HT.out _).mono ?_
      rintro e w2 ⟨rfl, hb2⟩
      go_wp2
      go_ret2
      exact ⟨ret_ib HV.out.1.symm HV.out.2.symm, ((Below.refl _ _).alloc (Nat.le_refl _) _).trans ((hb.trans (hb2.mono hb.size)).mono (by simp))⟩
    | true =>
      have hti := timeC_le ht
      have HV : Hid (sumC L t (wtP L l) = maV L l t ∧ true = maOk L l t) := by
        have e3 : maOk L l t = true := by simp only [maOk, hg, ht]; rfl
        refine ⟨?_, e3.symm⟩
        unfold maV
        rw [if_pos e3]
      have HT : Hid (∀ w, Calls Try.prog 18 #[.int .i64 t] w fun e w' => e = .returned (.bool true) ∧ Below w.heap.size w w') := fun w => isRoundTime_at t true ht w
      have HW := Lib.hid (fun w h => waysToMeet_any L A c l w hg h)
      rw [wtm_wtP] at HW
      have hwl := wtP_len hg
      have HWO := Lib.hid (fun a ha => wtP_ok (circ_of hg) a ha)
      have hl := ciB_len hg
      clear hg ht
      generalize wtP L l = q at *
      have HSB := Lib.hid (sumC_bounds (L := L) (t := t) (w := q) hl.1 hl.2.1 hti.1 hti.2 (fun a ha => ⟨(HWO.out a ha).1, (HWO.out a ha).2.1⟩))
      have hL0 : ¬ L = 0 := by omega
      have hw1 : IntKind.i64.wrap (2 * t) = 2 * t := IntWalk.i64_in _ (by omega)
      go_enter Try.func8, Try.ntmps8
      go_wp2_with fail
      refine (HG.out _ HA.out).mono ?_
      rintro e w1 ⟨rfl, hb⟩
      have c0 : w1.cell? ⟨w.heap.size, 0, none⟩ = some (.int .i64 L) := by rw [hb.cell (p := ⟨w.heap.size, 0, none⟩) (by simp)]; simp
      have c1 : w1.cell? ⟨w.heap.size, 1, none⟩ = some (.slice A l.length c) := by rw [hb.cell (p := ⟨w.heap.size, 1, none⟩) (by simp)]; simp
      have HB := Lib.hid (((Below.refl _ w).alloc (Nat.le_refl _) _).trans (hb.mono (by simp)))
      have HA1 := Lib.hid (HA.out.below hb)
      have hs1 : w.heap.size < w1.heap.size := by have := hb.size; simp at this; omega
      clear hb
      go_wp2_with fail
      refine (HT.out _).mono ?_
      rintro e w2 ⟨rfl, hb2⟩
      have c0 := Below.cell_some hb2 c0
      have c1 := Below.cell_some hb2 c1
      have HB2 := Lib.hid (HB.out.trans (hb2.mono HB.out.size))
      have HA2 := Lib.hid (HA1.out.below hb2)
      clear hb2
      go_wp2_with fail
      refine (HW.out _ HA2.out).mono ?_
      rintro e w3 ⟨A3, n3, c3, rfl, hn3, ho3, hb3⟩
      subst hn3
      have C0 := Lib.hid (Below.cell_some hb3 c0)
      have HB3 := Lib.hid (HB2.out.trans (hb3.mono HB2.out.size))
      have HO := Lib.hid ho3.sl
      clear hb3 ho3 c0 c1
      go_wp2
      go_loopw [6, 20] (fun v i wr => ∃ k : Nat, k ≤ q.length ∧ i = .int .i64 k ∧ v = .int .i64 (sumC L t (q.take k)) ∧ Below w3.heap.size w3 wr)
        (fun _ i _ => q.length - (intOf i).toNat)
      case atStart => exact ⟨0, Nat.zero_le _, rfl, rfl, Below.refl _ _⟩
      case round =>
        obtain ⟨k, hk, rfl, rfl, hbr⟩ := hrel
        have HBr := Lib.hid hbr
        have HOr := Lib.hid (HO.out.below hbr)
        have c0 := Below.cell_some hbr C0.out
        clear hbr
        by_cases hlt : k < q.length
        · obtain ⟨b, off, rfl, l0, hc⟩ := HOr.out.int_at hlt
          have hx : q[k]? = some (q[k]'hlt) := List.getElem?_eq_getElem hlt
          have a0 := hc k _ hx
          have HS := Lib.hid (sumC_snoc L t q k _ hx)
          have hao := HWO.out _ (List.getElem_mem hlt)
          have hsb := HSB.out k hk
          clear hc hx
          generalize q[k]'hlt = a at *
          have hfb := fC_bound hl.1 hl.2.1 hti.1 hti.2 hao.1 hao.2.1
          have HE : Hid ((2 * t - a + L).tdiv L = fC L t a) := by show _ = _; unfold fC; exact Int.tdiv_eq_ediv_of_nonneg (by omega)
          generalize sumC L t (q.take k) = s at *
          have hw2 : IntKind.i64.wrap (2 * t - a) = 2 * t - a := IntWalk.i64_in _ (by omega)
          have hw3 : IntKind.i64.wrap (2 * t - a + L) = 2 * t - a + L := IntWalk.i64_in _ (by omega)
          have hw4 : IntKind.i64.wrap ((2 * t - a + L).tdiv L) = (2 * t - a + L).tdiv L := by rw [HE.out]; exact IntWalk.i64_in _ (by omega)
          have hw5 : IntKind.i64.wrap (s + (2 * t - a + L).tdiv L) = s + (2 * t - a + L).tdiv L := by rw [HE.out]; exact IntWalk.i64_in _ (by omega)
          go_wp2
          go_roundw
          case rel => exact ⟨k + 1, by omega, by go_num, by rw [HS.out, ← HE.out], HBr.out⟩
          case measure => simp [intOf]; omega
        · have hke : k = q.length := by omega
          subst hke
          have HE : Hid (sumC L t (q.take q.length) = sumC L t q) := by show _ = _; rw [List.take_length]
          go_wp2
          go_ret2
          exact ⟨ret_ib (by rw [HE.out]; exact HV.out.1) HV.out.2, HB3.out.trans (HBr.out.mono HB3.out.size)⟩
end Go.Proofs.Ytmfbppolmkcpdaa
