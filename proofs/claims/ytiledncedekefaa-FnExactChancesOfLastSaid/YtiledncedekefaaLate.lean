/- LatestFall and MeanMeetings, both sides; the model's lowest terms. -/
import Derived.Test.YtiledncedekefaaPlac
import Derived.Test.YtiledncedekefaaLowF
import Derived.BigQuiet
namespace Go.Proofs.Ytiledncedekefaa
open Go.RowKit

theorem ret_ib' {a b : Int} {x y : Bool} (h : a = b) (h' : x = y) : Ending.returned (.tuple #[.int .i64 a, .bool x]) = .returned (.tuple #[.int .i64 b, .bool y]) := by rw [h, h']
theorem ret_iib' {a b c d : Int} {x y : Bool} (h : a = b) (h2 : c = d) (h' : x = y) : Ending.returned (.tuple #[.int .i64 a, .int .i64 c, .bool x]) = .returned (.tuple #[.int .i64 b, .int .i64 d, .bool y]) := by rw [h, h2, h']

theorem ret_ii {a b c d : Int} (h : a = b) (h2 : c = d) : Ending.returned (.tuple #[.int .i64 a, .int .i64 c]) = .returned (.tuple #[.int .i64 b, .int .i64 d]) := by rw [h, h2]
set_option maxHeartbeats 1000000 in
theorem stCommon_any (num den : Int) (w : World) (hd : 0 < den) (hd1 : den ≤ 1000000000000) (h0 : 0 ≤ num) (h1 : num ≤ 1000000000000) :
    Calls Try.prog 112 #[.int .i64 num, .int .i64 den] w fun e w' => e = .returned (.int .i64 (gcdN num den : Int)) ∧ Below w.heap.size w w' := by
  go_enter Try.func112, Try.ntmps112
  go_wp2
  go_loopw [0, 1] (fun p r wr => ∃ P R : Nat, p = .int .i64 P ∧ r = .int .i64 R ∧ Nat.gcd P R = gcdN num den ∧ (P : Int) ≤ 1000000000000 ∧ (R : Int) ≤ 1000000000000 ∧ Below w.heap.size w wr) (fun _ r _ => (intOf r).toNat)
  case atStart => exact ⟨num.natAbs, den.natAbs, by congr 1; omega, by congr 1; omega, Nat.gcd_comm _ _, by omega, by omega, Below.refl _ _⟩
  case round =>
    obtain ⟨P, R, rfl, rfl, hg, hp1, hr1, hb⟩ := hrel
    have HB := Lib.hid hb
    clear hb
    by_cases hr : R = 0
    · subst hr
      have hg' : P = gcdN num den := by rw [← hg]; simp
      have HG := Lib.hid hg'
      clear hg hg'
      go_wp2
      go_ret
      exact ⟨ret_int (by rw [HG.out]), HB.out⟩
    · have hrb : (((R : Nat) : Int) == 0) = false := by simp; omega
      have hrp : (0 : Int) < (R : Int) := by omega
      have hE : ((P : Nat) : Int) % ((R : Nat) : Int) = ((P % R : Nat) : Int) := rfl
      have hlt : P % R < R := Nat.mod_lt _ (by omega)
      have HG : Hid (Nat.gcd R (P % R) = gcdN num den) := by show _ = _; rw [gcd_step]; exact hg
      clear hg
      go_wp2
      go_region
      go_wp2
      go_roundw
      case rel => exact ⟨R, P % R, rfl, by rw [hE], HG.out, by omega, by omega, HB.out.drew⟩
      case measure =>
        have h2 : ((P : Int) % (R : Int)).toNat < R := by rw [hE, Int.toNat_natCast]; exact hlt
        simpa [intOf] using h2

set_option maxHeartbeats 1000000 in
theorem stLow_any (num den : Int) (w : World) (hd : 0 < den) (hd1 : den ≤ 1000000000000) (h0 : 0 ≤ num) (h1 : num ≤ 1000000000000) :
    Calls Try.prog 83 #[.int .i64 num, .int .i64 den] w fun e w' => e = .returned (.tuple #[.int .i64 (lowP num den).1, .int .i64 (lowP num den).2]) ∧ Below w.heap.size w w' := by
  have HC := Lib.hid (stCommon_any num den w hd hd1 h0 h1)
  have HQ := Lib.hid (lowP_tnum num den)
  have HP := Lib.hid (lowP_tden num den)
  have hb1 := lowP_num_abs (num := num) hd 1000000000000 (by omega) h1
  have hb2 := lowP_den_le (num := num) hd
  have hb3 := lowP_pos (num := num) hd
  have hgne : ¬ ((gcdN num den : Nat) : Int) = 0 := by have := gcdN_pos (num := num) hd; omega
  have hgnn : ¬ (gcdN num den : Nat) = 0 := by have := gcdN_pos (num := num) hd; omega
  go_enter Try.func83, Try.ntmps83
  go_wp2_with fail
  refine HC.out.mono ?_
  rintro e w1 ⟨rfl, hb⟩
  have HB := Lib.hid hb
  clear hb
  have HQ' := HQ.out
  have HP' := HP.out
  generalize gcdN num den = G at *
  obtain ⟨a, ha⟩ : ∃ a, (lowP num den).1 = a := ⟨_, rfl⟩
  obtain ⟨d, hd'⟩ : ∃ d, (lowP num den).2 = d := ⟨_, rfl⟩
  rw [ha] at hb1 HQ'
  rw [hd'] at hb2 hb3 HP'
  have HA := Lib.hid ha
  have HD := Lib.hid hd'
  clear ha hd'
  have hq1 : IntKind.i64.wrap a = a := IntWalk.i64_in _ (by omega)
  have hq2 : IntKind.i64.wrap d = d := IntWalk.i64_in _ (by omega)
  clear hb1 hb2 hb3
  go_wp2
  go_region
  go_wp2
  go_ret2
  exact ⟨ret_ii HA.out.symm HD.out.symm, HB.out.drew⟩
def mmP (l : List Int) : Int × Int := lowP ((l.length : Int) * ((l.length : Int) - 1)) 8
theorem mm_eq (n : Nat) (h1 : 1 ≤ n) (h2 : n ≤ 12) : lowP ((n : Int) * ((n : Int) - 1)) 8 = lowP ((n : Int) * ((n : Int) - 1) / 2) 4 := by
  have : ∀ m : Fin 13, 1 ≤ m.1 → lowP ((m.1 : Int) * ((m.1 : Int) - 1)) 8 = lowP ((m.1 : Int) * ((m.1 : Int) - 1) / 2) 4 := by decide
  exact this ⟨n, by omega⟩ h1
/-- what MeanMeetings returns -/
def mmA (L : Int) (l : List Int) : Int := if plB L l then (mmP l).1 else 0
def mmD (L : Int) (l : List Int) : Int := if plB L l then (mmP l).2 else 0

set_option maxHeartbeats 1000000 in
theorem specMeanMeetings_any (L : Int) (A : Option Addr) (c : Nat) (l : List Int) (w : World) (hn : (l.length : Int) ≤ 9223372036854775807) (hA : SlAt intS w A l) :
    Calls Try.prog 45 #[.int .i64 L, .slice A l.length c] w fun e w' => e = .returned (.tuple #[.int .i64 (mmA L l), .int .i64 (mmD L l), .bool (plB L l)]) ∧ Below w.heap.size w w' := by
  cases hp : plB L l with
  | false =>
    have HV : Hid (mmA L l = 0 ∧ mmD L l = 0) := by show _ ∧ _; simp [mmA, mmD, hp]
    have HG := Lib.hid (stGood_at L A c l false hp w hn hA)
    clear hp hA
    go_enter Try.func45, Try.ntmps45
    go_wp2_with fail
    refine HG.out.mono ?_
    rintro e w1 ⟨rfl, rfl⟩
    go_wp2
    go_ret3
    exact ⟨ret_iib' HV.out.1.symm HV.out.2.symm rfl, Below.refl _ _⟩
  | true =>
    have HV : Hid (mmA L l = (lowP ((l.length : Int) * ((l.length : Int) - 1)) 8).1 ∧ mmD L l = (lowP ((l.length : Int) * ((l.length : Int) - 1)) 8).2) := by show _ ∧ _; simp [mmA, mmD, hp, mmP]
    have HG := Lib.hid (stGood_at L A c l true hp w hn hA)
    obtain ⟨_, ⟨h1, h2⟩, _⟩ := (plB_iff L l).1 hp
    obtain ⟨m, hm⟩ : ∃ m, (l.length : Int) * ((l.length : Int) - 1) = m := ⟨_, rfl⟩
    have hb : 0 ≤ m ∧ m ≤ 132 := by
      have : ∀ k : Fin 13, 1 ≤ k.1 → 0 ≤ (k.1 : Int) * ((k.1 : Int) - 1) ∧ (k.1 : Int) * ((k.1 : Int) - 1) ≤ 132 := by decide
      rw [← hm]
      exact this ⟨l.length, by omega⟩ h1
    obtain ⟨b0, b1⟩ := hb
    have HL := Lib.hid (fun w => stLow_any m 8 w (by omega) (by omega) b0 (by omega))
    rw [hm] at HV
    have hw : IntKind.i64.wrap m = m := IntWalk.i64_in _ (by omega)
    have HM : Hid ((l.length : Int) * ((l.length : Int) - 1) = m) := hm
    clear hp hA b0 b1
    go_enter Try.func45, Try.ntmps45
    go_wp2_with fail
    refine HG.out.mono ?_
    rintro e w1 ⟨rfl, rfl⟩
    go_wp2_with fail
    refine (HL.out _).mono ?_
    rintro e w2 ⟨rfl, hb⟩
    go_wp2
    go_ret3
    exact ⟨ret_iib' HV.out.1.symm HV.out.2.symm rfl, hb⟩

set_option maxHeartbeats 1000000 in
theorem implMeanMeetings_any (L : Int) (A : Option Addr) (c : Nat) (l : List Int) (w : World) (hn : (l.length : Int) ≤ 9223372036854775807) (hA : SlAt intS w A l) :
    Calls Try.prog 46 #[.int .i64 L, .slice A l.length c] w fun e w' => e = .returned (.tuple #[.int .i64 (mmA L l), .int .i64 (mmD L l), .bool (plB L l)]) ∧ Below w.heap.size w w' := by
  cases hp : plB L l with
  | false =>
    have HV : Hid (mmA L l = 0 ∧ mmD L l = 0) := by show _ ∧ _; simp [mmA, mmD, hp]
    have HG := Lib.hid (arePlaces_at L A c l false hp w hn hA)
    clear hp hA
    go_enter Try.func46, Try.ntmps46
    go_wp2_with fail
    refine HG.out.mono ?_
    rintro e w1 ⟨rfl, hb⟩
    go_wp2
    go_ret3
    exact ⟨ret_iib' HV.out.1.symm HV.out.2.symm rfl, hb⟩
  | true =>
    obtain ⟨_, ⟨h1, h2⟩, _⟩ := (plB_iff L l).1 hp
    have HV : Hid (mmA L l = (lowP ((l.length : Int) * ((l.length : Int) - 1) / 2) 4).1 ∧ mmD L l = (lowP ((l.length : Int) * ((l.length : Int) - 1) / 2) 4).2) := by
      show _ ∧ _; simp only [mmA, mmD, hp, mmP, if_true]; rw [mm_eq _ h1 h2]; exact ⟨rfl, rfl⟩
    have HG := Lib.hid (arePlaces_at L A c l true hp w hn hA)
    obtain ⟨m, hm⟩ : ∃ m, (l.length : Int) * ((l.length : Int) - 1) = m := ⟨_, rfl⟩
    have hb : 0 ≤ m ∧ m ≤ 132 := by
      have : ∀ k : Fin 13, 1 ≤ k.1 → 0 ≤ (k.1 : Int) * ((k.1 : Int) - 1) ∧ (k.1 : Int) * ((k.1 : Int) - 1) ≤ 132 := by decide
      rw [← hm]
      exact this ⟨l.length, by omega⟩ h1
    obtain ⟨b0, b1⟩ := hb
    have HL := Lib.hid (fun w => lowest_any (m / 2) 4 w (by omega) (by omega) (by omega) (by omega))
    rw [hm] at HV
    have hw : IntKind.i64.wrap m = m := IntWalk.i64_in _ (by omega)
    have htd : m.tdiv 2 = m / 2 := Int.tdiv_eq_ediv_of_nonneg b0
    have hw2 : IntKind.i64.wrap (m / 2) = m / 2 := IntWalk.i64_in _ (by omega)
    have HM : Hid ((l.length : Int) * ((l.length : Int) - 1) = m) := hm
    clear hp hA
    go_enter Try.func46, Try.ntmps46
    go_wp2_with fail
    refine HG.out.mono ?_
    rintro e w1 ⟨rfl, hb⟩
    have HB := Lib.hid hb
    clear hb
    go_wp2_with fail
    refine (HL.out _).mono ?_
    rintro e w2 ⟨rfl, hb2⟩
    have HB2 := Lib.hid (HB.out.trans (hb2.mono HB.out.size))
    clear hb2
    go_wp2
    go_region
    go_wp2
    go_ret3
    exact ⟨ret_iib' HV.out.1.symm HV.out.2.symm rfl, (HB2.out.alloc HB2.out.size _).drew⟩

/-- what LatestFall returns -/
def ltV (L : Int) (l : List Int) : Int := if plB L l then (if l.getD (l.length - 1) 0 < L - l.getD 0 0 then L - l.getD 0 0 else l.getD (l.length - 1) 0) else 0
theorem l1Most_any (a b : Int) (w : World) :
    Calls Try.prog 78 #[.int .i64 a, .int .i64 b] w fun e w' => e = .returned (.int .i64 (if b < a then a else b)) ∧ w = w' := by
  by_cases h : b < a
  · have HV : Hid ((if b < a then a else b) = a) := if_pos h
    go_enter Try.func78, Try.ntmps78
    go_wp2
    go_ret
    first | exact ⟨ret_int HV.out.symm, rfl⟩ | exact ⟨ret_int rfl, rfl⟩
  · have HV : Hid ((if b < a then a else b) = b) := if_neg h
    go_enter Try.func78, Try.ntmps78
    go_wp2
    go_ret
    first | exact ⟨ret_int HV.out.symm, rfl⟩ | exact ⟨ret_int rfl, rfl⟩

set_option maxHeartbeats 1000000 in
theorem specLatestFall_any (L : Int) (A : Option Addr) (c : Nat) (l : List Int) (w : World) (hn : (l.length : Int) ≤ 9223372036854775807) (hA : SlAt intS w A l) :
    Calls Try.prog 37 #[.int .i64 L, .slice A l.length c] w fun e w' => e = .returned (.tuple #[.int .i64 (ltV L l), .bool (plB L l)]) ∧ Below w.heap.size w w' := by
  cases hp : plB L l with
  | false =>
    have HV : Hid (ltV L l = 0) := by show _ = _; simp [ltV, hp]
    have HG := Lib.hid (stGood_at L A c l false hp w hn hA)
    clear hp hA
    go_enter Try.func37, Try.ntmps37
    go_wp2_with fail
    refine HG.out.mono ?_
    rintro e w1 ⟨rfl, rfl⟩
    go_wp2
    go_ret2
    exact ⟨ret_ib' HV.out.symm rfl, Below.refl _ _⟩
  | true =>
    obtain ⟨⟨hL1, hL2, _⟩, ⟨h1, h2⟩, hr⟩ := (plB_iff L l).1 hp
    have HG := Lib.hid (stGood_at L A c l true hp w hn hA)
    obtain ⟨b, off, rfl, l0, hc⟩ := hA.int_at (show 0 < l.length by omega)
    have x0 := hc 0 _ (List.getElem?_eq_getElem (show 0 < l.length by omega))
    rw [Nat.add_zero] at x0
    have xn := hc (l.length - 1) _ (List.getElem?_eq_getElem (show l.length - 1 < l.length by omega))
    have r0 := rowB_at hr (List.getElem?_eq_getElem (show 0 < l.length by omega))
    have HV : Hid (ltV L l = if l[l.length - 1] < L - l[0] then L - l[0] else l[l.length - 1]) := by
      show _ = _
      unfold ltV
      rw [if_pos hp, List.getD_eq_getElem?_getD, List.getD_eq_getElem?_getD, List.getElem?_eq_getElem (show 0 < l.length by omega), List.getElem?_eq_getElem (show l.length - 1 < l.length by omega)]
      rfl
    clear hc hp hr hA
    generalize l[0] = x at *
    generalize l[l.length - 1] = y at *
    have k1 : (0 : Int) < (l.length : Int) := by omega
    have k2 : (1 : Int) ≤ (l.length : Int) := by omega
    have k3 : ((l.length : Int) - 1).toNat = l.length - 1 := by omega
    have k4 : (l.length : Int) - 1 < (l.length : Int) := by omega
    have hw : IntKind.i64.wrap (L - x) = L - x := IntWalk.i64_in _ (by omega)
    obtain ⟨r, hr⟩ : ∃ r, (if y < L - x then L - x else y) = r := ⟨_, rfl⟩
    have HM := Lib.hid (fun w => l1Most_any (L - x) y w)
    rw [hr] at HM HV
    clear hr
    go_enter Try.func37, Try.ntmps37
    go_wp2_with fail
    refine HG.out.mono ?_
    rintro e w1 ⟨rfl, rfl⟩
    have f0 := Ext.cell x0
    have f1 := Ext.cell xn
    go_wp2
    refine wp_region_ext (by kernel_rfl) (by kernel_rfl) ?_
    repeat (first | go_big_quiet_skip | (go_big_quiet_want; go_big_quiet_op; first | go_big_quiet_on | (apply Exists.intro; refine ⟨fun _ => ?_, ?_⟩; (go_at_call 78; exact Ext.call ((HM.out _).mono fun e w' ⟨he, hw⟩ => ⟨he, hw ▸ Below.refl _ _⟩)); go_big_quiet_on)))
    refine wpQuiet_nil ?_
    rintro _ ⟨x, rfl⟩
    go_wp2
    go_ret2
    exact ⟨ret_ib' HV.out.symm rfl, x.h⟩

set_option maxHeartbeats 1000000 in
theorem implLatestFall_any (L : Int) (A : Option Addr) (c : Nat) (l : List Int) (w : World) (hn : (l.length : Int) ≤ 9223372036854775807) (hA : SlAt intS w A l) :
    Calls Try.prog 38 #[.int .i64 L, .slice A l.length c] w fun e w' => e = .returned (.tuple #[.int .i64 (ltV L l), .bool (plB L l)]) ∧ Below w.heap.size w w' := by
  cases hp : plB L l with
  | false =>
    have HV : Hid (ltV L l = 0) := by show _ = _; simp [ltV, hp]
    have HG := Lib.hid (arePlaces_at L A c l false hp w hn hA)
    clear hp hA
    go_enter Try.func38, Try.ntmps38
    go_wp2_with fail
    refine HG.out.mono ?_
    rintro e w1 ⟨rfl, hb⟩
    go_wp2
    go_ret2
    exact ⟨ret_ib' HV.out.symm rfl, hb⟩
  | true =>
    obtain ⟨⟨hL1, hL2, _⟩, ⟨h1, h2⟩, hr⟩ := (plB_iff L l).1 hp
    have HG := Lib.hid (arePlaces_at L A c l true hp w hn hA)
    obtain ⟨b, off, rfl, l0, hc⟩ := hA.int_at (show 0 < l.length by omega)
    have x0 := hc 0 _ (List.getElem?_eq_getElem (show 0 < l.length by omega))
    rw [Nat.add_zero] at x0
    have xn := hc (l.length - 1) _ (List.getElem?_eq_getElem (show l.length - 1 < l.length by omega))
    have r0 := rowB_at hr (List.getElem?_eq_getElem (show 0 < l.length by omega))
    have HV : Hid (ltV L l = if l[l.length - 1] < L - l[0] then L - l[0] else l[l.length - 1]) := by
      show _ = _
      unfold ltV
      rw [if_pos hp, List.getD_eq_getElem?_getD, List.getD_eq_getElem?_getD, List.getElem?_eq_getElem (show 0 < l.length by omega), List.getElem?_eq_getElem (show l.length - 1 < l.length by omega)]
      rfl
    clear hc hp hr hA
    generalize l[0] = x at *
    generalize l[l.length - 1] = y at *
    have k1 : (0 : Int) < (l.length : Int) := by omega
    have k2 : (1 : Int) ≤ (l.length : Int) := by omega
    have k3 : ((l.length : Int) - 1).toNat = l.length - 1 := by omega
    have k4 : (l.length : Int) - 1 < (l.length : Int) := by omega
    have hw : IntKind.i64.wrap (L - x) = L - x := IntWalk.i64_in _ (by omega)
    go_enter Try.func38, Try.ntmps38
    go_wp2_with fail
    refine HG.out.mono ?_
    rintro e w1 ⟨rfl, hb⟩
    have a0 := Below.cell_some hb x0
    have an := Below.cell_some hb xn
    have HB := Lib.hid hb
    clear hb x0 xn
    by_cases hlt : y < L - x
    · have HV2 : Hid (ltV L l = L - x) := by show _ = _; rw [HV.out, if_pos hlt]
      go_wp2
      go_region
      all_goals go_wp2
      all_goals (try (exfalso; omega))
      all_goals go_ret2
      all_goals exact ⟨ret_ib' HV2.out.symm rfl, HB.out.drew⟩
    · have HV2 : Hid (ltV L l = y) := by show _ = _; rw [HV.out, if_neg hlt]
      go_wp2
      go_region
      all_goals go_wp2
      all_goals (try (exfalso; omega))
      all_goals go_ret2
      all_goals exact ⟨ret_ib' (by have := HV2.out; omega) rfl, HB.out.drew⟩
end Go.Proofs.Ytiledncedekefaa
