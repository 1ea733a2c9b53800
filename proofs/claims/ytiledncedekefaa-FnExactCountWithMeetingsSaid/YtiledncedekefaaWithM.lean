/- CountWithMeetings: both sides. -/
import Derived.Test.YtiledncedekefaaWithMA
import Derived.Test.YtiledncedekefaaStRod
import Derived.Test.YtiledncedekefaaRoMe
import Derived.Test.YtiledncedekefaaCoMe
namespace Go.Proofs.Ytiledncedekefaa
open Go.RowKit

/-- how many of the first k ways have so many meetings -/
def cwN (l : List Int) (m : Int) (k : Nat) : Nat := ((List.range k).filter fun j => (mAll (rdL l (wyN l.length j))).1 == m).length
theorem cwN_zero (l : List Int) (m : Int) : cwN l m 0 = 0 := rfl
theorem cwN_succ (l : List Int) (m : Int) (k : Nat) : cwN l m (k + 1) = cwN l m k + if (mAll (rdL l (wyN l.length k))).1 = m then 1 else 0 := by
  unfold cwN
  rw [List.range_succ, List.filter_append, List.length_append]
  congr 1
  by_cases h : (mAll (rdL l (wyN l.length k))).1 = m
  · simp [h]
  · simp [h]
theorem cwN_le (l : List Int) (m : Int) (k : Nat) : cwN l m k ≤ k := by
  unfold cwN
  exact Nat.le_trans (List.length_filter_le _ _) (by simp)
def cwB (L : Int) (l : List Int) (m : Int) : Bool := plB L l && (decide (0 ≤ m) && decide (m ≤ 100))
def cwV (L : Int) (l : List Int) (m : Int) : Int := if cwB L l m then (cwN l m (2 ^ l.length) : Int) else 0

theorem impCM (L : Int) (l : List Int) (k : Nat) (hp : plB L l = true) (W : World) (A : Option Addr) (c : Nat) (h : SlOwn pairS W 0 64 (.slice A l.length c) (rdL l (wyN l.length k))) :
    Calls Try.prog 87 #[.agg #[.int .i64 L, .slice A l.length c]] W fun e w' => e = .returned (.tuple #[.int .i64 (mAll (rdL l (wyN l.length k))).1, .bool true]) ∧ Below W.heap.size W w' := by
  have hg := goodB_rd hp (wyN_len l.length k) (wyN_mem _ _)
  have h2 := implCountMeetings_any L A c (rdL l (wyN l.length k)) W (slAt_ants h.sl)
  rw [rdL_len l _ (wyN_len _ _)] at h2
  unfold cmV at h2
  rw [hg] at h2
  exact h2

theorem speRM (L : Int) (l : List Int) (k : Nat) (hp : plB L l = true) (W : World) (A : Option Addr) (c B : Nat) (h : SlOwn pairS W B 64 (.slice A l.length c) (rdL l (wyN l.length k))) :
    Calls Try.prog 85 #[.agg #[.int .i64 L, .slice A l.length c]] W fun e w' => e = .returned (.int .i64 (mAll (rdL l (wyN l.length k))).1) ∧ Below W.heap.size W w' := by
  have h2 := roMeetings_good L A c (rdL l (wyN l.length k)) W (goodB_rd hp (wyN_len l.length k) (wyN_mem _ _)) (slAt_ants h.sl)
  rw [rdL_len l _ (wyN_len _ _)] at h2
  exact h2
set_option maxRecDepth 100000 in
set_option maxHeartbeats 4000000 in
theorem implWithM_any (L : Int) (A : Option Addr) (c : Nat) (l : List Int) (m : Int) (w : World) (hn : (l.length : Int) ≤ 9223372036854775807) (hA : SlAt intS w A l) :
    Calls Try.prog 50 #[.int .i64 L, .slice A l.length c, .int .i64 m] w fun e w' => e = .returned (.tuple #[.int .i64 (cwV L l m), .bool (cwB L l m)]) ∧ Below w.heap.size w w' := by
  by_cases hm : 0 ≤ m ∧ m ≤ 100
  · have HR := Lib.hid (rodsOfAll_both L A c l w hn hA)
    have HCM := Lib.hid (impCM L l)
    have HV : Hid (cwB L l m = plB L l) := by show _ = _; unfold cwB; rw [decide_eq_true hm.1, decide_eq_true hm.2]; simp
    have HL2 : Hid (plB L l = true → l.length ≤ 12) := fun h => ((plB_iff L l).1 h).2.1.2
    obtain ⟨hm0, hm1⟩ := hm
    clear hA
    go_enter Try.func50, Try.ntmps50
    go_wp2_with fail
    refine HR.out.mono ?_
    rintro e w1 ⟨A1, c1, R, rfl, hl, ho, hr, hb⟩
    have HL := Lib.hid hl
    have HO := Lib.hid ho
    have HRO := Lib.hid hr
    have HB := Lib.hid hb
    have hT : R.length ≤ 4096 := by
      rw [hl]
      split
      · rename_i h
        have h12 := HL2.out h
        have : 2 ^ l.length ≤ 2 ^ 12 := Nat.pow_le_pow_right (by omega) h12
        omega
      · omega
    have HP : Hid (0 < R.length → plB L l = true) := fun h => by
      rw [hl] at h
      cases hp : plB L l with
      | true => rfl
      | false => rw [hp] at h; simp at h
    obtain ⟨T, hTT⟩ : ∃ T, T = R.length := ⟨_, rfl⟩
    obtain ⟨pb, hpb⟩ : ∃ pb, pb = plB L l := ⟨_, rfl⟩
    rw [← hTT] at HO HP hT ⊢
    rw [← hpb]
    have HPB := Lib.hid hpb
    have HT := Lib.hid hTT
    clear hl ho hr hb hTT hpb HR HL2
    go_wp2_with fail
    go_loopw [10, 29] (fun v i wr => ∃ k : Nat, k ≤ T ∧ i = .int .i64 k ∧ v = .int .i64 (cwN l m k) ∧ Below w1.heap.size w1 wr)
      (fun _ i _ => T - (intOf i).toNat)
    case atStart => exact ⟨0, Nat.zero_le _, rfl, rfl, Below.refl _ _⟩
    case round =>
      obtain ⟨k, hk, rfl, rfl, hbr⟩ := hrel
      have HBr := Lib.hid hbr
      have hsr := hbr.size
      by_cases hlt : k < T
      · have hki : (k : Int) < (T : Int) := by omega
        have hp := HP.out (by omega)
        have hRk : k < R.length := by rw [← HT.out]; exact hlt
        have ho := HO.out
        rw [HT.out] at ho
        obtain ⟨b1, off1, hA1, hlt1, hc⟩ := ho.sl.at_ hRk
        subst hA1
        obtain ⟨e1, e2, e3⟩ := HRO.out k R[k] (List.getElem?_eq_getElem hRk)
        have c0 := hc k _ (List.getElem?_eq_getElem hRk) 0 (by decide)
        have c1' := hc k _ (List.getElem?_eq_getElem hRk) 1 (by decide)
        generalize R[k] = p at *
        obtain ⟨p1, p2, p3, p4⟩ := p
        simp only at e1 e2 e3
        subst e1 e2
        have c0 : w1.cell? ⟨b1, off1 + k * 2, none⟩ = some (.int .i64 p1) := c0
        have c1' : w1.cell? ⟨b1, off1 + k * 2 + 1, none⟩ = some (.slice p2 l.length p4) := c1'
        have c0 := Below.cell_some hbr c0
        have c1' := Below.cell_some hbr c1'
        have HE3 := Lib.hid (e3.below hbr)
        have HCK := Lib.hid (fun W c h => HCM.out k hp W p2 c h)
        have HS := Lib.hid (cwN_succ l m k)
        have hle : (cwN l m k : Int) ≤ 4096 := by have := cwN_le l m k; omega
        clear hbr ho hc e3 hp
        generalize (mAll (rdL l (wyN l.length k))).1 = q at *
        generalize cwN l m k = s at *
        by_cases hq : q = m
        · go_wp2_with fail
          refine (HCK.out _ p4 (HE3.out.below ((Below.refl _ _).alloc (Nat.le_refl _) _))).mono ?_
          rintro e w3 ⟨rfl, hb3⟩
          have HB3 : Hid (Below wr.heap.size wr w3) := ((Below.refl _ wr).alloc (Nat.le_refl _) _).trans (hb3.mono (by simp))
          clear hb3
          go_wp2
          go_roundw
          case rel => exact ⟨k + 1, by omega, by go_num, by rw [HS.out, if_pos hq]; rfl, HBr.out.trans (HB3.out.mono hsr)⟩
          case measure => simp [intOf]; omega
        · go_wp2_with fail
          refine (HCK.out _ p4 (HE3.out.below ((Below.refl _ _).alloc (Nat.le_refl _) _))).mono ?_
          rintro e w3 ⟨rfl, hb3⟩
          have HB3 : Hid (Below wr.heap.size wr w3) := ((Below.refl _ wr).alloc (Nat.le_refl _) _).trans (hb3.mono (by simp))
          clear hb3
          go_wp2
          go_roundw
          case rel => exact ⟨k + 1, by omega, by go_num, by rw [HS.out, if_neg hq]; rfl, HBr.out.trans (HB3.out.mono hsr)⟩
          case measure => simp [intOf]; omega
      · obtain rfl : k = T := by omega
        go_wp2
        go_ret2
        refine ⟨ret_ib ?_ (HPB.out.trans HV.out.symm), HB.out.trans (HBr.out.mono HB.out.size)⟩
        have e := HT.out.trans HL.out
        unfold cwV
        rw [HV.out]
        cases hp : plB L l with
        | true => rw [hp] at e; rw [e]; rfl
        | false => rw [hp] at e; rw [e]; rfl
  · have HV : Hid (cwV L l m = 0 ∧ cwB L l m = false) := by
      have e : cwB L l m = false := by
        unfold cwB
        by_cases h0 : 0 ≤ m
        · rw [decide_eq_true h0, decide_eq_false (fun h => hm ⟨h0, h⟩)]; simp
        · rw [decide_eq_false h0]; simp
      show _ ∧ _
      unfold cwV
      rw [e]
      exact ⟨rfl, rfl⟩
    by_cases h0 : m < 0
    · go_enter Try.func50, Try.ntmps50
      go_wp2
      go_ret2
      exact ⟨ret_ib HV.out.1.symm HV.out.2.symm, Below.refl _ _⟩
    · have h1 : 100 < m := by omega
      go_enter Try.func50, Try.ntmps50
      go_wp2
      go_ret2
      exact ⟨ret_ib HV.out.1.symm HV.out.2.symm, Below.refl _ _⟩

set_option maxRecDepth 100000 in
set_option maxHeartbeats 4000000 in
theorem specWithM_any (L : Int) (A : Option Addr) (c : Nat) (l : List Int) (m : Int) (w : World) (hn : (l.length : Int) ≤ 9223372036854775807) (hA : SlAt intS w A l) :
    Calls Try.prog 49 #[.int .i64 L, .slice A l.length c, .int .i64 m] w fun e w' => e = .returned (.tuple #[.int .i64 (cwV L l m), .bool (cwB L l m)]) ∧ Below w.heap.size w w' := by
  cases hp : plB L l with
  | false =>
    have HG := Lib.hid (stGood_at L A c l false hp w hn hA)
    have HV : Hid (cwV L l m = 0 ∧ cwB L l m = false) := by show _ ∧ _; unfold cwV cwB; rw [hp]; exact ⟨rfl, rfl⟩
    clear hA hp
    go_enter Try.func49, Try.ntmps49
    go_wp2_with fail
    refine HG.out.mono ?_
    rintro e w1 ⟨rfl, rfl⟩
    go_wp2
    go_ret2
    exact ⟨ret_ib HV.out.1.symm HV.out.2.symm, Below.refl _ _⟩
  | true =>
    have HG := Lib.hid (stGood_at L A c l true hp w hn hA)
    have HV : Hid (cwB L l m = (decide (0 ≤ m) && decide (m ≤ 100))) := by show _ = _; unfold cwB; rw [hp]; rfl
    by_cases hm : (decide (0 ≤ m) && decide (m ≤ 100)) = true
    · have HIN : Hid (∀ X, Calls Try.prog 80 #[.int .i64 m, .int .i64 0, .int .i64 100] X fun e w' => e = .returned (.bool true) ∧ X = w') := fun X => in_at _ _ _ true hm X
      obtain ⟨hh1, ⟨hl1, hl2⟩, hrow⟩ := (plB_iff L l).1 hp
      have HA := Lib.hid hA
      have HP := Lib.hid hp
      have hp12 : ((2 ^ l.length : Nat) : Int) ≤ 4096 := by
        have : 2 ^ l.length ≤ 2 ^ 12 := Nat.pow_le_pow_right (by omega) hl2
        omega
      have hw : wrap64 (2 ^ l.length) = ((2 ^ l.length : Nat) : Int) := by
        have e : (2 : Int) ^ l.length = ((2 ^ l.length : Nat) : Int) := by rw [Int.natCast_pow]; rfl
        rw [e]
        have h0 : (0 : Int) ≤ ((2 ^ l.length : Nat) : Int) := Int.natCast_nonneg _
        generalize ((2 ^ l.length : Nat) : Int) = x at *
        unfold wrap64
        omega
      have HRM := Lib.hid (fun k W A c B h => speRM L l k hp W A c B h)
      have HSR := Lib.hid (fun k hk w hA => stRod_any L A c l k w hl2 hk hA)
      have HW : Hid (cwV L l m = (cwN l m (2 ^ l.length) : Int)) := by show _ = _; unfold cwV; rw [HV.out, hm]; rfl
      have HV2 : Hid (cwB L l m = true) := HV.out.trans hm
      clear hA hp hm hh1 hrow HV
      obtain ⟨T, hT⟩ : ∃ T, T = 2 ^ l.length := ⟨_, rfl⟩
      rw [← hT] at hw hp12 HW
      have HT := Lib.hid hT
      clear hT
      go_enter Try.func49, Try.ntmps49
      go_wp2_with fail
      refine HG.out.mono ?_
      rintro e w1 ⟨rfl, rfl⟩
      go_wp2_with (go_at_call 80; refine (HIN.out _).mono ?_; rintro e w2 ⟨rfl, rfl⟩)
      go_loopw [8, 9] (fun v i wr => ∃ k : Nat, k ≤ T ∧ i = .int .i64 k ∧ v = .int .i64 (cwN l m k) ∧ Below w.heap.size w wr)
        (fun _ i _ => T - (intOf i).toNat)
      case atStart => exact ⟨0, Nat.zero_le _, rfl, rfl, Below.refl _ _⟩
      case round =>
        obtain ⟨k, hk, rfl, rfl, hbr⟩ := hrel
        have HBr := Lib.hid hbr
        have hsr := hbr.size
        clear hbr
        by_cases hlt : k < T
        · have hki : (k : Int) < (T : Int) := by omega
          have HS := Lib.hid (cwN_succ l m k)
          have hle : (cwN l m k : Int) ≤ 4096 := by have := cwN_le l m k; omega
          have HRK := Lib.hid (fun W A c B h => HRM.out k W A c B h)
          have HSK := Lib.hid (HSR.out k (by rw [← HT.out]; exact hlt) wr (HA.out.below HBr.out))
          generalize (mAll (rdL l (wyN l.length k))).1 = q at *
          generalize cwN l m k = s at *
          go_wp2_with fail
          refine HSK.out.mono ?_
          rintro e w3 ⟨A3, n3, c3, rfl, rfl, ho3, hb3⟩
          have HB3 := Lib.hid (HBr.out.trans (hb3.mono hsr))
          have HR3 := Lib.hid (HRK.out w3 A3 c3 _ ho3)
          have hs3 := hb3.size
          clear ho3 hb3
          by_cases hq : q = m
          · go_wp2_with fail
            refine HR3.out.mono ?_
            rintro e w4 ⟨rfl, hb4⟩
            have HB4 := Lib.hid (HB3.out.trans (hb4.mono HB3.out.size))
            clear hb4
            go_wp2
            go_roundw
            case rel => exact ⟨k + 1, by omega, by go_num, by rw [HS.out, if_pos hq]; rfl, HB4.out⟩
            case measure => simp [intOf]; omega
          · go_wp2_with fail
            refine HR3.out.mono ?_
            rintro e w4 ⟨rfl, hb4⟩
            have HB4 := Lib.hid (HB3.out.trans (hb4.mono HB3.out.size))
            clear hb4
            go_wp2
            go_roundw
            case rel => exact ⟨k + 1, by omega, by go_num, by rw [HS.out, if_neg hq]; rfl, HB4.out⟩
            case measure => simp [intOf]; omega
        · obtain rfl : k = T := by omega
          go_wp2
          go_ret2
          exact ⟨ret_ib HW.out.symm HV2.out.symm, HBr.out⟩
    · have HIN : Hid (∀ X, Calls Try.prog 80 #[.int .i64 m, .int .i64 0, .int .i64 100] X fun e w' => e = .returned (.bool false) ∧ X = w') := fun X => in_at _ _ _ false (by simpa using hm) X
      have HV2 : Hid (cwB L l m = false) := HV.out.trans (by simpa using hm)
      have HW : Hid (cwV L l m = 0) := by show _ = _; unfold cwV; rw [HV2.out]; rfl
      clear hA hp hm HV
      go_enter Try.func49, Try.ntmps49
      go_wp2_with fail
      refine HG.out.mono ?_
      rintro e w1 ⟨rfl, rfl⟩
      go_wp2_with (go_at_call 80; refine (HIN.out _).mono ?_; rintro e w2 ⟨rfl, rfl⟩)
      go_ret2
      exact ⟨ret_ib HW.out.symm HV2.out.symm, Below.refl _ _⟩
end Go.Proofs.Ytiledncedekefaa
