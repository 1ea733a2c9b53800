/- MeetingsOf on both sides, whatever the rod; how many there are up to a time. -/
import Derived.Test.YtdgcdlcfddjmiaaMeetS
import Derived.Test.YtdgcdlcfddjmiaaTime
import Derived.Test.YtdgcdlcfddjmiaaCount
namespace Go.Proofs.Ytdgcdlcfddjmiaa
open Go.RowKit

theorem meV_good {L : Int} {l : List (Int × Int)} (h : goodB L l = true) : meV L l = meL L l := by simp [meV, h]
theorem meV_bad {L : Int} {l : List (Int × Int)} (h : goodB L l = false) : meV L l = [] := by simp [meV, h]
theorem meV_len (L : Int) (l : List (Int × Int)) : (meV L l).length ≤ 256 := by
  cases h : goodB L l with
  | true => rw [meV_good h]; exact meL_len h
  | false => rw [meV_bad h]; simp
theorem meV_lenI (L : Int) (l : List (Int × Int)) : ((meV L l).length : Int) ≤ 1048576 := by have := meV_len L l; omega

set_option maxHeartbeats 1000000 in
theorem specMeetingsOf_any (L : Int) (A : Option Addr) (c : Nat) (l : List (Int × Int)) (w : World) (hcap : l.length ≤ c) (hA : AntsAt w A l) :
    Calls Try.prog 15 #[.agg #[.int .i64 L, .slice A l.length c]] w fun e w' => ∃ A' n c', e = .returned (.tuple #[.slice A' n c', .bool (goodB L l)]) ∧ n = (meV L l).length ∧ SlOwn tripS w' w.heap.size 42 (.slice A' n c') (meV L l) ∧ Below w.heap.size w w' := by
  have HA := Lib.hid (hA.alloc (Obj.cells #[Value.int IntKind.i64 L, Value.slice A l.length c] 31))
  clear hA
  cases hg : goodB L l with
  | false =>
    have HV := Lib.hid (meV_bad hg)
    have HG : Hid (∀ w, AntsAt w A l → Calls Try.prog 51 #[.agg #[.int .i64 L, .slice A l.length c]] w fun e w' => e = .returned (.bool false) ∧ Below w.heap.size w w') := fun w h => by
      rw [← hg]; exact roGood_any L A c l w h
    clear hg
    go_enter Try.func15, Try.ntmps15
    go_wp2_with fail
    refine (HG.out _ HA.out).mono ?_
    rintro e w1 ⟨rfl, hb⟩
    go_wp2
    go_ret2
    exact ⟨none, 0, 0, rfl, by rw [HV.out]; rfl, by rw [HV.out]; exact SlOwn.nil _ _ _ _, ((Below.refl _ _).alloc (Nat.le_refl _) _).trans (hb.mono (by simp))⟩
  | true =>
    have HV := Lib.hid (meV_good hg)
    have HG : Hid (∀ w, AntsAt w A l → Calls Try.prog 51 #[.agg #[.int .i64 L, .slice A l.length c]] w fun e w' => e = .returned (.bool true) ∧ Below w.heap.size w w') := fun w h => by
      rw [← hg]; exact roGood_any L A c l w h
    have HM := Lib.hid (fun w h => meAll_good L A c l w hg hcap h)
    clear hg
    go_enter Try.func15, Try.ntmps15
    go_wp2_with fail
    refine (HG.out _ HA.out).mono ?_
    rintro e w1 ⟨rfl, hb⟩
    have c0 : w1.cell? ⟨w.heap.size, 0, none⟩ = some (.int .i64 L) := by rw [hb.cell (p := ⟨w.heap.size, 0, none⟩) (by simp)]; simp
    have c1 : w1.cell? ⟨w.heap.size, 1, none⟩ = some (.slice A l.length c) := by rw [hb.cell (p := ⟨w.heap.size, 1, none⟩) (by simp)]; simp
    have HB := Lib.hid (((Below.refl _ w).alloc (Nat.le_refl _) _).trans (hb.mono (by simp)))
    have HA1 := Lib.hid (HA.out.below hb)
    clear hb
    go_wp2_with fail
    refine (HM.out _ HA1.out).mono ?_
    rintro e w2 ⟨A2, n2, c2, rfl, hn2, ho, hb2⟩
    have HN2 := Lib.hid hn2
    have HO := Lib.hid ho
    have HB2 := Lib.hid (HB.out.trans (hb2.mono HB.out.size))
    clear hb2 ho hn2
    go_wp2
    go_ret2
    exact ⟨A2, n2, c2, rfl, by rw [HV.out]; exact HN2.out, by rw [HV.out]; exact HO.out.base HB.out.size, HB2.out⟩

set_option maxHeartbeats 1000000 in
theorem implMeetingsOf_any (L : Int) (A : Option Addr) (c : Nat) (l : List (Int × Int)) (w : World) (hA : AntsAt w A l) :
    Calls Try.prog 17 #[.agg #[.int .i64 L, .slice A l.length c]] w fun e w' => ∃ A' n c', e = .returned (.tuple #[.slice A' n c', .bool (goodB L l)]) ∧ n = (meV L l).length ∧ SlOwn tripS w' w.heap.size 42 (.slice A' n c') (meV L l) ∧ Below w.heap.size w w' := by
  cases hg : goodB L l with
  | false =>
    have HA := Lib.hid (hA.alloc (Obj.cells #[Value.int IntKind.i64 L, Value.slice A l.length c] 31))
    clear hA
    have HV := Lib.hid (meV_bad hg)
    have HG : Hid (∀ w, AntsAt w A l → Calls Try.prog 54 #[.agg #[.int .i64 L, .slice A l.length c]] w fun e w' => e = .returned (.bool false) ∧ Below w.heap.size w w') := fun w h => by
      rw [← hg]; exact isRod_any L A c l w h
    clear hg
    go_enter Try.func17, Try.ntmps17
    go_wp2_with fail
    refine (HG.out _ HA.out).mono ?_
    rintro e w1 ⟨rfl, hb⟩
    go_wp2
    go_ret2
    exact ⟨none, 0, 0, rfl, by rw [HV.out]; rfl, by rw [HV.out]; exact SlOwn.nil _ _ _ _, ((Below.refl _ _).alloc (Nat.le_refl _) _).trans (hb.mono (by simp))⟩
  | true =>
    refine (implMeetingsOf_good L A c l w hg hA).mono ?_
    rintro e w1 ⟨A1, n1, c1, rfl, hn, ho, hb⟩
    refine ⟨A1, n1, c1, rfl, ?_, ?_, hb⟩
    · rw [meV_good hg]; exact hn
    · rw [meV_good hg]; exact ho

/-! ### MeetingsBy -/
def mbN (t : Int) (m : List (Int × Int × Int)) : Nat := (m.filter fun x => decide (x.1 ≤ t)).length
theorem mbN_snoc (t : Int) (m : List (Int × Int × Int)) (k : Nat) (x : Int × Int × Int) (hx : m[k]? = some x) : mbN t (m.take (k + 1)) = mbN t (m.take k) + if decide (x.1 ≤ t) then 1 else 0 := by
  obtain ⟨hk, rfl⟩ := List.getElem?_eq_some_iff.1 hx
  unfold mbN
  rw [List.take_succ_eq_append_getElem hk, List.filter_append, List.length_append]
  congr 1
  cases h : decide (m[k].1 ≤ t) <;> simp [h]
theorem mbN_le (t : Int) (m : List (Int × Int × Int)) (k : Nat) : mbN t (m.take k) ≤ k := by
  unfold mbN
  refine Nat.le_trans (List.length_filter_le _ _) ?_
  rw [List.length_take]; omega
def mbOk (L : Int) (l : List (Int × Int)) (t : Int) : Bool := goodB L l && timeB t
def mbV (L : Int) (l : List (Int × Int)) (t : Int) : Int := if mbOk L l t then (mbN t (meL L l) : Nat) else 0

set_option maxHeartbeats 1000000 in
theorem specMeetingsBy_any (L : Int) (A : Option Addr) (c : Nat) (l : List (Int × Int)) (t : Int) (w : World) (hcap : l.length ≤ c) (hA : AntsAt w A l) :
    Calls Try.prog 23 #[.agg #[.int .i64 L, .slice A l.length c], .int .i64 t] w fun e w' => e = .returned (.tuple #[.int .i64 (mbV L l t), .bool (mbOk L l t)]) ∧ Below w.heap.size w w' := by
  have HA := Lib.hid (hA.alloc (Obj.cells #[Value.int IntKind.i64 L, Value.slice A l.length c] 31))
  clear hA
  cases hg : goodB L l with
  | false =>
    have HV : Hid (mbV L l t = 0 ∧ mbOk L l t = false) := by show _ ∧ _; simp [mbV, mbOk, hg]
    have HG : Hid (∀ w, AntsAt w A l → Calls Try.prog 51 #[.agg #[.int .i64 L, .slice A l.length c]] w fun e w' => e = .returned (.bool false) ∧ Below w.heap.size w w') := fun w h => by
      rw [← hg]; exact roGood_any L A c l w h
    clear hg
    go_enter Try.func23, Try.ntmps23
    go_wp2_with fail
    refine (HG.out _ HA.out).mono ?_
    rintro e w1 ⟨rfl, hb⟩
    go_wp2
    go_ret2
    exact ⟨ret_ib HV.out.1.symm HV.out.2.symm, ((Below.refl _ _).alloc (Nat.le_refl _) _).trans (hb.mono (by simp))⟩
  | true =>
    have HG : Hid (∀ w, AntsAt w A l → Calls Try.prog 51 #[.agg #[.int .i64 L, .slice A l.length c]] w fun e w' => e = .returned (.bool true) ∧ Below w.heap.size w w') := fun w h => by
      rw [← hg]; exact roGood_any L A c l w h
    cases ht : timeB t with
    | false =>
      have HV : Hid (mbV L l t = 0 ∧ mbOk L l t = false) := by show _ ∧ _; simp [mbV, mbOk, ht]
      have HT : Hid (∀ w, Calls Try.prog 62 #[.int .i64 t] w fun e w' => e = .returned (.bool false) ∧ Below w.heap.size w w') := fun w => roTime_at t false ht w
      clear hg ht
      go_enter Try.func23, Try.ntmps23
      go_wp2_with fail
      refine (HG.out _ HA.out).mono ?_
      rintro e w1 ⟨rfl, hb⟩
      go_wp2_with fail
      refine (HT.out _).mono ?_
      rintro e w2 ⟨rfl, hb2⟩
      go_wp2
      go_ret2
      exact ⟨ret_ib HV.out.1.symm HV.out.2.symm, ((Below.refl _ _).alloc (Nat.le_refl _) _).trans ((hb.trans (hb2.mono hb.size)).mono (by simp))⟩
    | true =>
      have HV : Hid (mbV L l t = (mbN t (meL L l) : Nat) ∧ mbOk L l t = true) := by show _ ∧ _; simp [mbV, mbOk, hg, ht]
      have HT : Hid (∀ w, Calls Try.prog 62 #[.int .i64 t] w fun e w' => e = .returned (.bool true) ∧ Below w.heap.size w w') := fun w => roTime_at t true ht w
      have HM := Lib.hid (fun w h => meAll_good L A c l w hg hcap h)
      have hml := meL_len hg
      clear hg ht
      generalize meL L l = m at *
      go_enter Try.func23, Try.ntmps23
      go_wp2_with fail
      refine (HG.out _ HA.out).mono ?_
      rintro e w1 ⟨rfl, hb⟩
      have c0 : w1.cell? ⟨w.heap.size, 0, none⟩ = some (.int .i64 L) := by rw [hb.cell (p := ⟨w.heap.size, 0, none⟩) (by simp)]; simp
      have c1 : w1.cell? ⟨w.heap.size, 1, none⟩ = some (.slice A l.length c) := by rw [hb.cell (p := ⟨w.heap.size, 1, none⟩) (by simp)]; simp
      have HB := Lib.hid (((Below.refl _ w).alloc (Nat.le_refl _) _).trans (hb.mono (by simp)))
      have HA1 := Lib.hid (HA.out.below hb)
      clear hb
      go_wp2_with fail
      refine (HT.out _).mono ?_
      rintro e w2 ⟨rfl, hb2⟩
      have c0 := Below.cell_some hb2 c0
      have c1 := Below.cell_some hb2 c1
      have HB2 := Lib.hid (HB.out.trans (hb2.mono HB.out.size))
      have HA2 := Lib.hid (HA1.out.below hb2)
      clear hb2
      go_wp2_with fail
      refine (HM.out _ HA2.out).mono ?_
      rintro e w3 ⟨A3, n3, c3, rfl, hn3, ho3, hb3⟩
      subst hn3
      have HB3 := Lib.hid (HB2.out.trans (hb3.mono HB2.out.size))
      have HO := Lib.hid ho3.sl
      clear hb3 ho3
      go_wp2
      go_loopw [6, 20] (fun v i wr => ∃ k : Nat, k ≤ m.length ∧ i = .int .i64 k ∧ v = .int .i64 ((mbN t (m.take k) : Nat) : Int) ∧ Below w3.heap.size w3 wr)
        (fun _ i _ => m.length - (intOf i).toNat)
      case atStart => exact ⟨0, Nat.zero_le _, rfl, rfl, Below.refl _ _⟩
      case round =>
        obtain ⟨k, hk, rfl, rfl, hbr⟩ := hrel
        have HBr := Lib.hid hbr
        have HOr := Lib.hid (HO.out.below hbr)
        clear hbr
        by_cases hlt : k < m.length
        · obtain ⟨b, off, rfl, l0, hc⟩ := HOr.out.trip_at hlt
          have hx : m[k]? = some (m[k]'hlt) := List.getElem?_eq_getElem hlt
          obtain ⟨a0, a1, a2⟩ := hc k _ hx
          have HS := Lib.hid (mbN_snoc t m k _ hx)
          have hnb := mbN_le t m k
          clear hc hx
          generalize m[k]'hlt = x at *
          obtain ⟨x1, x2, x3⟩ := x
          simp only at a0 a1 a2
          generalize mbN t (m.take k) = s at *
          have hbb : Below wr.heap.size wr (wr.alloc (Obj.cells #[Value.int IntKind.i64 x1, Value.int IntKind.i64 x2, Value.int IntKind.i64 x3] 42)) := (Below.refl _ _).alloc (Nat.le_refl _) _
          have HBB := Lib.hid (HBr.out.trans (hbb.mono HBr.out.size))
          clear hbb
          by_cases hsx : x1 ≤ t
          · have d : decide (x1 ≤ t) = true := decide_eq_true hsx
            have HE : Hid (mbN t (m.take (k + 1)) = s + 1) := by show _ = _; rw [HS.out, if_pos d]
            go_wp2
            go_roundw
            case rel => exact ⟨k + 1, by omega, by go_num, by rw [HE.out]; go_num, HBB.out⟩
            case measure => simp [intOf]; omega
          · have d : decide (x1 ≤ t) = false := decide_eq_false hsx
            have HE : Hid (mbN t (m.take (k + 1)) = s) := by show _ = _; rw [HS.out, if_neg (by rw [d]; decide)]; rfl
            go_wp2
            go_roundw
            case rel => exact ⟨k + 1, by omega, by go_num, by rw [HE.out], HBB.out⟩
            case measure => simp [intOf]; omega
        · obtain rfl : k = m.length := by omega
          have HE : Hid (m.take m.length = m) := List.take_length
          go_wp2
          go_ret2
          exact ⟨ret_ib (by rw [HV.out.1, HE.out]) HV.out.2.symm, HB3.out.trans (HBr.out.mono HB3.out.size)⟩

set_option maxHeartbeats 1000000 in
theorem implMeetingsBy_any (L : Int) (A : Option Addr) (c : Nat) (l : List (Int × Int)) (t : Int) (w : World) (hA : AntsAt w A l) :
    Calls Try.prog 24 #[.agg #[.int .i64 L, .slice A l.length c], .int .i64 t] w fun e w' => e = .returned (.tuple #[.int .i64 (mbV L l t), .bool (mbOk L l t)]) ∧ Below w.heap.size w w' := by
  have HA := Lib.hid (hA.alloc (Obj.cells #[Value.int IntKind.i64 L, Value.slice A l.length c] 31))
  clear hA
  have HM := Lib.hid (fun w h => implMeetingsOf_any L A c l w h)
  cases hg : goodB L l with
  | false =>
    have HV : Hid (mbV L l t = 0 ∧ mbOk L l t = false) := by show _ ∧ _; simp [mbV, mbOk, hg]
    rw [hg] at HM
    clear hg
    go_enter Try.func24, Try.ntmps24
    go_wp2_with fail
    refine (HM.out _ HA.out).mono ?_
    rintro e w1 ⟨A1, n1, c1, rfl, _, _, hb⟩
    go_wp2
    go_ret2
    exact ⟨ret_ib HV.out.1.symm HV.out.2.symm, ((Below.refl _ _).alloc (Nat.le_refl _) _).trans (hb.mono (by simp))⟩
  | true =>
    rw [hg] at HM
    cases ht : timeB t with
    | false =>
      have HV : Hid (mbV L l t = 0 ∧ mbOk L l t = false) := by show _ ∧ _; simp [mbV, mbOk, ht]
      have HT : Hid (∀ w, Calls Try.prog 63 #[.int .i64 t] w fun e w' => e = .returned (.bool false) ∧ Below w.heap.size w w') := fun w => isRodTime_at t false ht w
      clear hg ht
      go_enter Try.func24, Try.ntmps24
      go_wp2_with fail
      refine (HM.out _ HA.out).mono ?_
      rintro e w1 ⟨A1, n1, c1, rfl, _, _, hb⟩
      go_wp2_with fail
      refine (HT.out _).mono ?_
      rintro e w2 ⟨rfl, hb2⟩
      go_wp2
      go_ret2
      exact ⟨ret_ib HV.out.1.symm HV.out.2.symm, ((Below.refl _ _).alloc (Nat.le_refl _) _).trans ((hb.trans (hb2.mono hb.size)).mono (by simp))⟩
    | true =>
      have HV : Hid (mbV L l t = (mbN t (meV L l) : Nat) ∧ mbOk L l t = true) := by show _ ∧ _; simp [mbV, mbOk, hg, ht, meV]
      have HT : Hid (∀ w, Calls Try.prog 63 #[.int .i64 t] w fun e w' => e = .returned (.bool true) ∧ Below w.heap.size w w') := fun w => isRodTime_at t true ht w
      have hml := meV_len L l
      clear hg ht
      generalize meV L l = m at *
      go_enter Try.func24, Try.ntmps24
      go_wp2_with fail
      refine (HM.out _ HA.out).mono ?_
      rintro e w1 ⟨A1, n1, c1, rfl, hn1, ho1, hb⟩
      subst hn1
      have HB := Lib.hid (((Below.refl _ w).alloc (Nat.le_refl _) _).trans (hb.mono (by simp)))
      have HO1 := Lib.hid ho1.sl
      clear hb ho1
      go_wp2_with fail
      refine (HT.out _).mono ?_
      rintro e w3 ⟨rfl, hb2⟩
      have HB3 := Lib.hid (HB.out.trans (hb2.mono HB.out.size))
      have HO := Lib.hid (HO1.out.below hb2)
      clear hb2
      go_wp2
      go_loopw [8, 25] (fun v i wr => ∃ k : Nat, k ≤ m.length ∧ i = .int .i64 k ∧ v = .int .i64 ((mbN t (m.take k) : Nat) : Int) ∧ Below w3.heap.size w3 wr)
        (fun _ i _ => m.length - (intOf i).toNat)
      case atStart => exact ⟨0, Nat.zero_le _, rfl, rfl, Below.refl _ _⟩
      case round =>
        obtain ⟨k, hk, rfl, rfl, hbr⟩ := hrel
        have HBr := Lib.hid hbr
        have HOr := Lib.hid (HO.out.below hbr)
        clear hbr
        by_cases hlt : k < m.length
        · obtain ⟨b, off, rfl, l0, hc⟩ := HOr.out.trip_at hlt
          have hx : m[k]? = some (m[k]'hlt) := List.getElem?_eq_getElem hlt
          obtain ⟨a0, a1, a2⟩ := hc k _ hx
          have HS := Lib.hid (mbN_snoc t m k _ hx)
          have hnb := mbN_le t m k
          clear hc hx
          generalize m[k]'hlt = x at *
          obtain ⟨x1, x2, x3⟩ := x
          simp only at a0 a1 a2
          generalize mbN t (m.take k) = s at *
          have hbb : Below wr.heap.size wr (wr.alloc (Obj.cells #[Value.int IntKind.i64 x1, Value.int IntKind.i64 x2, Value.int IntKind.i64 x3] 42)) := (Below.refl _ _).alloc (Nat.le_refl _) _
          have HBB := Lib.hid (HBr.out.trans (hbb.mono HBr.out.size))
          clear hbb
          by_cases hsx : x1 ≤ t
          · have d : decide (x1 ≤ t) = true := decide_eq_true hsx
            have HE : Hid (mbN t (m.take (k + 1)) = s + 1) := by show _ = _; rw [HS.out, if_pos d]
            go_wp2
            go_roundw
            case rel => exact ⟨k + 1, by omega, by go_num, by rw [HE.out]; go_num, HBB.out⟩
            case measure => simp [intOf]; omega
          · have d : decide (x1 ≤ t) = false := decide_eq_false hsx
            have HE : Hid (mbN t (m.take (k + 1)) = s) := by show _ = _; rw [HS.out, if_neg (by rw [d]; decide)]; rfl
            go_wp2
            go_roundw
            case rel => exact ⟨k + 1, by omega, by go_num, by rw [HE.out], HBB.out⟩
            case measure => simp [intOf]; omega
        · obtain rfl : k = m.length := by omega
          have HE : Hid (m.take m.length = m) := List.take_length
          go_wp2
          go_ret2
          exact ⟨ret_ib (by rw [HV.out.1, HE.out]) HV.out.2.symm, HB3.out.trans (HBr.out.mono HB3.out.size)⟩
end Go.Proofs.Ytdgcdlcfddjmiaa
