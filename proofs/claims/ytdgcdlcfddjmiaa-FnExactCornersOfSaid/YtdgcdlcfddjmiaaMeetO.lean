/- The meetings of one ant, on both sides; how many each ant has. -/
import Derived.Test.YtdgcdlcfddjmiaaMeetA
import Derived.Test.YtdgcdlcfddjmiaaFallOf
import Derived.Test.YtdgcdlcfddjmiaaMark
namespace Go.Proofs.Ytdgcdlcfddjmiaa
open Go.RowKit

def moB (ant : Int) (x : Int × Int × Int) : Bool := ant == x.2.2 || ant == x.2.2 + 1
def moL (ant : Int) (m : List (Int × Int × Int)) : List (Int × Int × Int) := m.filter (moB ant)
theorem moL_snoc (ant : Int) (m : List (Int × Int × Int)) (k : Nat) (x : Int × Int × Int) (hx : m[k]? = some x) : moL ant (m.take (k + 1)) = moL ant (m.take k) ++ if moB ant x then [x] else [] := by
  obtain ⟨hk, rfl⟩ := List.getElem?_eq_some_iff.1 hx
  unfold moL
  rw [List.take_succ_eq_append_getElem hk, List.filter_append]
  congr 1
  cases h : moB ant m[k] <;> simp [h]
theorem moL_len (ant : Int) (m : List (Int × Int × Int)) (k : Nat) : (moL ant (m.take k)).length ≤ k := by
  unfold moL
  refine Nat.le_trans (List.length_filter_le _ _) ?_
  rw [List.length_take]; omega
def moV (L : Int) (l : List (Int × Int)) (ant : Int) : List (Int × Int × Int) := if foOk L l ant then moL ant (meL L l) else []
theorem moV_len (L : Int) (l : List (Int × Int)) (ant : Int) : (moV L l ant).length ≤ 256 := by
  unfold moV
  split
  · rename_i h
    simp only [foOk, Bool.and_eq_true] at h
    exact Nat.le_trans (List.length_filter_le _ _) (meL_len h.1)
  · simp
theorem moV_lenI (L : Int) (l : List (Int × Int)) (ant : Int) : ((moV L l ant).length : Int) ≤ 1048576 := by have := moV_len L l ant; omega

theorem has_at (a b d ant : Int) (r : Bool) (hd : 0 ≤ d) (hd1 : d ≤ 1000) (hr : moB ant (a, b, d) = r) (w : World) :
    Calls Try.prog 68 #[.agg #[.int .i64 a, .int .i64 b, .int .i64 d], .int .i64 ant] w fun e w' => e = .returned (.bool r) ∧ Below w.heap.size w w' := by
  have HR := Lib.hid hr
  clear hr
  go_enter Try.func68, Try.ntmps68
  go_wp2
  all_goals go_ret
  all_goals (
    refine ⟨ret_bool ?_, (Below.refl _ _).alloc (Nat.le_refl _) _⟩
    rw [← HR.out]
    unfold moB
    simp_all)

set_option maxRecDepth 100000 in
set_option maxHeartbeats 1000000 in
theorem implMeetingsOfAnt_any (L : Int) (A : Option Addr) (c : Nat) (l : List (Int × Int)) (ant : Int) (w : World) (hA : AntsAt w A l) :
    Calls Try.prog 31 #[.agg #[.int .i64 L, .slice A l.length c], .int .i64 ant] w fun e w' => ∃ A' n c', e = .returned (.tuple #[.slice A' n c', .bool (foOk L l ant)]) ∧ n = (moV L l ant).length ∧ SlOwn tripS w' w.heap.size 42 (.slice A' n c') (moV L l ant) ∧ Below w.heap.size w w' := by
  obtain ⟨i0, hi, hz0, hz1, hz2⟩ := info_parts meetI
  have HA := Lib.hid (hA.alloc (Obj.cells #[Value.int IntKind.i64 L, Value.slice A l.length c] 31))
  clear hA
  have HM := Lib.hid (fun w h => implMeetingsOf_any L A c l w h)
  cases hg : goodB L l with
  | false =>
    have HV : Hid (moV L l ant = [] ∧ foOk L l ant = false) := by show _ ∧ _; simp [moV, foOk, hg]
    rw [hg] at HM
    clear hg
    go_enter Try.func31, Try.ntmps31
    go_wp2_with fail
    refine (HM.out _ HA.out).mono ?_
    rintro e w1 ⟨A1, n1, c1, rfl, _, _, hb⟩
    go_wp2
    go_ret2
    exact ⟨none, 0, 0, by rw [HV.out.2]; rfl, by rw [HV.out.1]; rfl, by rw [HV.out.1]; exact SlOwn.nil _ _ _ _, ((Below.refl _ _).alloc (Nat.le_refl _) _).trans (hb.mono (by simp))⟩
  | true =>
    rw [hg] at HM
    cases hh : hasB l.length ant with
    | false =>
      have HV : Hid (moV L l ant = [] ∧ foOk L l ant = false) := by show _ ∧ _; simp [moV, foOk, hg, hh]
      have HH := Lib.hid (fun w => hasAnt_at L A l.length c ant false hh w)
      clear hg hh
      go_enter Try.func31, Try.ntmps31
      go_wp2_with fail
      refine (HM.out _ HA.out).mono ?_
      rintro e w1 ⟨A1, n1, c1, rfl, _, _, hb⟩
      have c0 : w1.cell? ⟨w.heap.size, 0, none⟩ = some (.int .i64 L) := by rw [hb.cell (p := ⟨w.heap.size, 0, none⟩) (by simp)]; simp
      have c1 : w1.cell? ⟨w.heap.size, 1, none⟩ = some (.slice A l.length c) := by rw [hb.cell (p := ⟨w.heap.size, 1, none⟩) (by simp)]; simp
      have HB := Lib.hid (((Below.refl _ w).alloc (Nat.le_refl _) _).trans (hb.mono (by simp)))
      clear hb
      go_wp2_with fail
      refine (HH.out _).mono ?_
      rintro e w2 ⟨rfl, hb2⟩
      go_wp2
      go_ret2
      exact ⟨none, 0, 0, by rw [HV.out.2]; rfl, by rw [HV.out.1]; rfl, by rw [HV.out.1]; exact SlOwn.nil _ _ _ _, HB.out.trans (hb2.mono HB.out.size)⟩
    | true =>
      have hok : foOk L l ant = true := by simp [foOk, hg, hh]
      have HV : Hid (moV L l ant = moL ant (meV L l) ∧ foOk L l ant = true) := by show _ ∧ _; simp [moV, hok, meV, hg]
      have HH := Lib.hid (fun w => hasAnt_at L A l.length c ant true hh w)
      have hml := meV_len L l
      have hn := good_len hg
      have HOK : Hid (∀ x ∈ meV L l, 0 ≤ x.2.2 ∧ x.2.2 ≤ 1000) := fun x hx => by
        rw [meV_good hg] at hx
        have := meL_ok hg hx
        omega
      clear hg hh hok
      generalize meV L l = m at *
      go_enter Try.func31, Try.ntmps31
      go_wp2_with fail
      refine (HM.out _ HA.out).mono ?_
      rintro e w1 ⟨A1, n1, k1, rfl, hn1, ho1, hb⟩
      subst hn1
      have c0 : w1.cell? ⟨w.heap.size, 0, none⟩ = some (.int .i64 L) := by rw [hb.cell (p := ⟨w.heap.size, 0, none⟩) (by simp)]; simp
      have c1 : w1.cell? ⟨w.heap.size, 1, none⟩ = some (.slice A l.length c) := by rw [hb.cell (p := ⟨w.heap.size, 1, none⟩) (by simp)]; simp
      have HB := Lib.hid (((Below.refl _ w).alloc (Nat.le_refl _) _).trans (hb.mono (by simp)))
      have HO1 := Lib.hid ho1.sl
      clear hb ho1
      go_wp2_with fail
      refine (HH.out _).mono ?_
      rintro e w3 ⟨rfl, hb2⟩
      have HB3 := Lib.hid (HB.out.trans (hb2.mono HB.out.size))
      have HO := Lib.hid (HO1.out.below hb2)
      clear hb2 c0 c1
      go_wp2
      go_loopw [8, 26] (fun v i wr => ∃ (k : Nat) (A5 : Option Addr) (n5 c5 : Nat), k ≤ m.length ∧ i = .int .i64 k ∧ v = .slice A5 n5 c5 ∧ Below w3.heap.size w3 wr ∧ SlOwn tripS wr w3.heap.size 42 (.slice A5 n5 c5) (moL ant (m.take k)))
        (fun _ i _ => m.length - (intOf i).toNat)
      case atStart => exact ⟨0, none, 0, 0, Nat.zero_le _, rfl, rfl, Below.refl _ _, SlOwn.nil tripS _ _ _⟩
      case round =>
        obtain ⟨k, A5, n5, c5, hk, rfl, rfl, hbr, hown⟩ := hrel
        have HBr := Lib.hid hbr
        have hsr := hbr.size
        have HOr := Lib.hid (HO.out.below hbr)
        have HL := Lib.hid hown
        clear hbr hown
        by_cases hlt : k < m.length
        · obtain ⟨b, off, rfl, l0, hc⟩ := HOr.out.trip_at hlt
          have hx : m[k]? = some (m[k]'hlt) := List.getElem?_eq_getElem hlt
          obtain ⟨a0, a1, a2⟩ := hc k _ hx
          have HS := Lib.hid (moL_snoc ant m k _ hx)
          have hq := HOK.out _ (List.getElem_mem hlt)
          have hnb := moL_len ant m k
          have HNB := Lib.hid hnb
          clear hc hx hnb
          generalize m[k]'hlt = x at *
          obtain ⟨x1, x2, x3⟩ := x
          simp only at a0 a1 a2 hq
          generalize moL ant (m.take k) = s at *
          cases hr : moB ant (x1, x2, x3) with
          | true =>
            have HE : Hid (moL ant (m.take (k + 1)) = s ++ [(x1, x2, x3)]) := by show _ = _; rw [HS.out, if_pos hr]
            have HC := Lib.hid (fun w => has_at x1 x2 x3 ant true hq.1 hq.2 hr w)
            clear hr
            go_wp2_with fail
            refine (HC.out _).mono ?_
            rintro e w4 ⟨rfl, hb4⟩
            have d0 : w4.cell? ⟨wr.heap.size, 0, none⟩ = some (.int .i64 x1) := by rw [hb4.cell (p := ⟨wr.heap.size, 0, none⟩) (by simp)]; simp
            have d1 : w4.cell? ⟨wr.heap.size, 1, none⟩ = some (.int .i64 x2) := by rw [hb4.cell (p := ⟨wr.heap.size, 1, none⟩) (by simp)]; simp
            have d2 : w4.cell? ⟨wr.heap.size, 2, none⟩ = some (.int .i64 x3) := by rw [hb4.cell (p := ⟨wr.heap.size, 2, none⟩) (by simp)]; simp
            have hb5 : Below wr.heap.size wr w4 := ((Below.refl _ _).alloc (Nat.le_refl _) _).trans (hb4.mono (by simp))
            have HB5 := Lib.hid (HBr.out.trans (hb5.mono hsr))
            have HL4 := Lib.hid (HL.out.below hb5)
            have hs4 : wr.heap.size < w4.heap.size := by have := hb4.size; simp at this; omega
            have hs5 : w3.heap.size ≤ w4.heap.size := by omega
            have hn5 := own_len HL4.out
            subst hn5
            clear hb4 hb5
            go_wp2_with (at_builtin; refine wpList_append_slsv tripS _ rfl _ _ 26 rfl w3.heap.size 42 i0 _ 24 Try.underlying26 hi hz0 hz1 hz2 rfl (by decide) _ s rfl (HL4.out.alloc' _) _ 1 1 [(x1, x2, x3)] rfl rfl (slAt_trip1 (x := (x1, x2, x3)) (heap_new rfl)) (by have := HNB.out; simp only [List.length_cons, List.length_nil]; omega) (by simp; omega) ?_; intro A7 n7 k7 w7 hn7 ho7 hb7; have HO7 := Lib.hid ho7; have HB7 := Lib.hid ((HB5.out.alloc HB5.out.size _).trans hb7); clear hn7 ho7 hb7)
            go_roundw
            case rel => exact ⟨k + 1, A7, n7, k7, by omega, by go_num, rfl, HB7.out, by rw [HE.out]; exact HO7.out⟩
            case measure => simp [intOf]; omega
          | false =>
            have HE : Hid (moL ant (m.take (k + 1)) = s) := by show _ = _; rw [HS.out, if_neg (by rw [hr]; decide), List.append_nil]
            have HC := Lib.hid (fun w => has_at x1 x2 x3 ant false hq.1 hq.2 hr w)
            clear hr
            go_wp2_with fail
            refine (HC.out _).mono ?_
            rintro e w4 ⟨rfl, hb4⟩
            have hb5 : Below wr.heap.size wr w4 := ((Below.refl _ _).alloc (Nat.le_refl _) _).trans (hb4.mono (by simp))
            have HB5 := Lib.hid (HBr.out.trans (hb5.mono hsr))
            have HL4 := Lib.hid (HL.out.below hb5)
            clear hb4 hb5
            go_wp2
            go_roundw
            case rel => exact ⟨k + 1, A5, n5, c5, by omega, by go_num, rfl, HB5.out, by rw [HE.out]; exact HL4.out⟩
            case measure => simp [intOf]; omega
        · obtain rfl : k = m.length := by omega
          have HE : Hid (m.take m.length = m) := List.take_length
          have hn5 := Lib.hid (own_len HL.out)
          go_wp2
          go_ret2
          refine ⟨A5, n5, c5, by rw [HV.out.2]; rfl, by rw [HV.out.1, hn5.out, HE.out], ?_, HB3.out.trans (HBr.out.mono HB3.out.size)⟩
          have := HL.out
          rw [HE.out] at this
          rw [HV.out.1]
          exact this.base HB3.out.size

set_option maxRecDepth 100000 in
set_option maxHeartbeats 1000000 in
theorem meOf_good (L : Int) (A : Option Addr) (c : Nat) (l : List (Int × Int)) (ant : Int) (w : World) (hg : goodB L l = true) (hcap : l.length ≤ c) (ha : 0 ≤ ant) (ha2 : ant ≤ 1000) (hA : AntsAt w A l) :
    Calls Try.prog 66 #[.agg #[.int .i64 L, .slice A l.length c], .int .i64 ant] w fun e w' => ∃ A' n c', e = .returned (.slice A' n c') ∧ n = (moL ant (meL L l)).length ∧ SlOwn tripS w' w.heap.size 42 (.slice A' n c') (moL ant (meL L l)) ∧ Below w.heap.size w w' := by
  obtain ⟨i0, hi, hz0, hz1, hz2⟩ := info_parts meetI
  have HA := Lib.hid (hA.alloc (Obj.cells #[Value.int IntKind.i64 L, Value.slice A l.length c] 31))
  clear hA
  have HM := Lib.hid (fun w h => meAll_good L A c l w hg hcap h)
  have hml := meL_len hg
  have hn := good_len hg
  have HOK : Hid (∀ x ∈ meL L l, 0 ≤ x.2.2 ∧ x.2.2 ≤ 1000) := fun x hx => by
    have := meL_ok hg hx
    omega
  have hw1 : IntKind.i64.wrap (ant - 1) = ant - 1 := IntWalk.i64_in _ (by omega)
  clear hg
  generalize meL L l = m at *
  go_enter Try.func66, Try.ntmps66
  go_wp2_with fail
  refine (HM.out _ HA.out).mono ?_
  rintro e w3 ⟨A1, n1, k1, rfl, hn1, ho1, hb⟩
  subst hn1
  have HB3 := Lib.hid (((Below.refl _ w).alloc (Nat.le_refl _) _).trans (hb.mono (by simp)))
  have HO := Lib.hid ho1.sl
  clear hb ho1
  go_wp2
  go_loopw [5, 11] (fun v i wr => ∃ (k : Nat) (A5 : Option Addr) (n5 c5 : Nat), k ≤ m.length ∧ i = .int .i64 k ∧ v = .slice A5 n5 c5 ∧ Below w3.heap.size w3 wr ∧ SlOwn tripS wr w3.heap.size 42 (.slice A5 n5 c5) (moL ant (m.take k)))
    (fun _ i _ => m.length - (intOf i).toNat)
  case atStart => exact ⟨0, none, 0, 0, Nat.zero_le _, rfl, rfl, Below.refl _ _, SlOwn.nil tripS _ _ _⟩
  case round =>
    obtain ⟨k, A5, n5, c5, hk, rfl, rfl, hbr, hown⟩ := hrel
    have HBr := Lib.hid hbr
    have hsr := hbr.size
    have HOr := Lib.hid (HO.out.below hbr)
    have HL := Lib.hid hown
    clear hbr hown
    by_cases hlt : k < m.length
    · obtain ⟨b, off, rfl, l0, hc⟩ := HOr.out.trip_at hlt
      have hx : m[k]? = some (m[k]'hlt) := List.getElem?_eq_getElem hlt
      obtain ⟨a0, a1, a2⟩ := hc k _ hx
      have HS := Lib.hid (moL_snoc ant m k _ hx)
      have hq := HOK.out _ (List.getElem_mem hlt)
      have HNB := Lib.hid (moL_len ant m k)
      clear hc hx
      generalize m[k]'hlt = x at *
      obtain ⟨x1, x2, x3⟩ := x
      simp only at a0 a1 a2 hq
      generalize moL ant (m.take k) = s at *
      have hb5 : Below wr.heap.size wr (wr.alloc (Obj.cells #[.int .i64 x1, .int .i64 x2, .int .i64 x3] 42)) := (Below.refl _ _).alloc (Nat.le_refl _) _
      have HB5 := Lib.hid (HBr.out.trans (hb5.mono hsr))
      have HL4 := Lib.hid (HL.out.below hb5)
      clear hb5
      have hn5 := own_len HL4.out
      subst hn5
      have both : ∀ W : Prop, (moB ant (x1, x2, x3) = true → x3 = ant → W) → (moB ant (x1, x2, x3) = true → ¬ x3 = ant → x3 = ant - 1 → W) → (moB ant (x1, x2, x3) = false → ¬ x3 = ant → ¬ x3 = ant - 1 → W) → W := by
        intro W f1 f2 f3
        by_cases h1 : x3 = ant
        · exact f1 (by simp [moB, h1]) h1
        · by_cases h2 : x3 = ant - 1
          · exact f2 (by simp [moB, h2]) h1 h2
          · exact f3 (by simp [moB]; omega) h1 h2
      refine both _ (fun hr h1 => ?_) (fun hr h1 h2 => ?_) (fun hr h1 h2 => ?_)
      · have HE : Hid (moL ant (m.take (k + 1)) = s ++ [(x1, x2, x3)]) := by show _ = _; rw [HS.out, if_pos hr]
        have d1 : (x3 == ant) = true := by simp [h1]
        clear hr both h1
        go_wp2_with (at_builtin; refine wpList_append_slsv tripS _ rfl _ _ 26 rfl w3.heap.size 42 i0 _ 24 Try.underlying26 hi hz0 hz1 hz2 rfl (by decide) _ s rfl (HL4.out.alloc' _) _ 1 1 [(x1, x2, x3)] rfl rfl (slAt_trip1 (x := (x1, x2, x3)) (heap_new (by simp))) (by have := HNB.out; simp only [List.length_cons, List.length_nil]; omega) (by simp; omega) ?_; intro A7 n7 k7 w7 hn7 ho7 hb7; have HO7 := Lib.hid ho7; have HB7 := Lib.hid ((HB5.out.alloc HB5.out.size _).trans hb7); clear hn7 ho7 hb7)
        go_roundw
        case rel => exact ⟨k + 1, A7, n7, k7, by omega, by go_num, rfl, HB7.out, by rw [HE.out]; exact HO7.out⟩
        case measure => simp [intOf]; omega
      · have HE : Hid (moL ant (m.take (k + 1)) = s ++ [(x1, x2, x3)]) := by show _ = _; rw [HS.out, if_pos hr]
        have d1 : (x3 == ant) = false := by simp [h1]
        have d2 : (x3 == ant - 1) = true := by simp [h2]
        clear hr both h1 h2
        go_wp2_with (at_builtin; refine wpList_append_slsv tripS _ rfl _ _ 26 rfl w3.heap.size 42 i0 _ 24 Try.underlying26 hi hz0 hz1 hz2 rfl (by decide) _ s rfl (HL4.out.alloc' _) _ 1 1 [(x1, x2, x3)] rfl rfl (slAt_trip1 (x := (x1, x2, x3)) (heap_new (by simp))) (by have := HNB.out; simp only [List.length_cons, List.length_nil]; omega) (by simp; omega) ?_; intro A7 n7 k7 w7 hn7 ho7 hb7; have HO7 := Lib.hid ho7; have HB7 := Lib.hid ((HB5.out.alloc HB5.out.size _).trans hb7); clear hn7 ho7 hb7)
        go_roundw
        case rel => exact ⟨k + 1, A7, n7, k7, by omega, by go_num, rfl, HB7.out, by rw [HE.out]; exact HO7.out⟩
        case measure => simp [intOf]; omega
      · have HE : Hid (moL ant (m.take (k + 1)) = s) := by show _ = _; rw [HS.out, if_neg (by rw [hr]; decide), List.append_nil]
        have d1 : (x3 == ant) = false := by simp [h1]
        have d2 : (x3 == ant - 1) = false := by simp [h2]
        clear hr both h1 h2
        go_wp2
        go_roundw
        case rel => exact ⟨k + 1, A5, s.length, c5, by omega, by go_num, rfl, HB5.out, by rw [HE.out]; exact HL4.out⟩
        case measure => simp [intOf]; omega
    · obtain rfl : k = m.length := by omega
      have HE : Hid (m.take m.length = m) := List.take_length
      have hn5 := Lib.hid (own_len HL.out)
      go_wp2
      go_ret
      refine ⟨A5, n5, c5, rfl, by rw [hn5.out, HE.out], ?_, HB3.out.trans (HBr.out.mono HB3.out.size)⟩
      have := HL.out
      rw [HE.out] at this
      exact this.base HB3.out.size

set_option maxHeartbeats 1000000 in
theorem specMeetingsOfAnt_any (L : Int) (A : Option Addr) (c : Nat) (l : List (Int × Int)) (ant : Int) (w : World) (hcap : l.length ≤ c) (hA : AntsAt w A l) :
    Calls Try.prog 30 #[.agg #[.int .i64 L, .slice A l.length c], .int .i64 ant] w fun e w' => ∃ A' n c', e = .returned (.tuple #[.slice A' n c', .bool (foOk L l ant)]) ∧ n = (moV L l ant).length ∧ SlOwn tripS w' w.heap.size 42 (.slice A' n c') (moV L l ant) ∧ Below w.heap.size w w' := by
  have HA := Lib.hid (hA.alloc (Obj.cells #[Value.int IntKind.i64 L, Value.slice A l.length c] 31))
  clear hA
  cases hg : foOk L l ant with
  | false =>
    have HV : Hid (moV L l ant = []) := by show _ = _; simp [moV, hg]
    have HG : Hid (∀ w, AntsAt w A l → Calls Try.prog 65 #[.agg #[.int .i64 L, .slice A l.length c], .int .i64 ant] w fun e w' => e = .returned (.bool false) ∧ Below w.heap.size w w') := fun w h => roAnt_at L A c l ant false hg w h
    clear hg
    go_enter Try.func30, Try.ntmps30
    go_wp2_with fail
    refine (HG.out _ HA.out).mono ?_
    rintro e w1 ⟨rfl, hb⟩
    go_wp2
    go_ret2
    exact ⟨none, 0, 0, rfl, by rw [HV.out]; rfl, by rw [HV.out]; exact SlOwn.nil _ _ _ _, ((Below.refl _ _).alloc (Nat.le_refl _) _).trans (hb.mono (by simp))⟩
  | true =>
    have HV : Hid (moV L l ant = moL ant (meL L l)) := by show _ = _; simp [moV, hg]
    have HG : Hid (∀ w, AntsAt w A l → Calls Try.prog 65 #[.agg #[.int .i64 L, .slice A l.length c], .int .i64 ant] w fun e w' => e = .returned (.bool true) ∧ Below w.heap.size w w') := fun w h => roAnt_at L A c l ant true hg w h
    simp only [foOk, hasB, Bool.and_eq_true, decide_eq_true_eq] at hg
    obtain ⟨hgood, h0, h1⟩ := hg
    have hn := good_len hgood
    have HM := Lib.hid (fun w h => meOf_good L A c l ant w hgood hcap h0 (by omega) h)
    clear hgood
    go_enter Try.func30, Try.ntmps30
    go_wp2_with fail
    refine (HG.out _ HA.out).mono ?_
    rintro e w1 ⟨rfl, hb⟩
    have c0 : w1.cell? ⟨w.heap.size, 0, none⟩ = some (.int .i64 L) := by rw [hb.cell (p := ⟨w.heap.size, 0, none⟩) (by simp)]; simp
    have c1 : w1.cell? ⟨w.heap.size, 1, none⟩ = some (.slice A l.length c) := by rw [hb.cell (p := ⟨w.heap.size, 1, none⟩) (by simp)]; simp
    have HB := Lib.hid (((Below.refl _ w).alloc (Nat.le_refl _) _).trans (hb.mono (by simp)))
    have HA1 := Lib.hid (HA.out.below hb)
    clear hb
    go_wp2_with fail
    refine (HM.out _ HA1.out).mono ?_
    rintro e w2 ⟨A2, n2, c2, rfl, hn2, ho, hb2⟩
    have HN2 := Lib.hid hn2
    have HO := Lib.hid ho
    have HB2 := Lib.hid (HB.out.trans (hb2.mono HB.out.size))
    clear hb2 ho hn2
    go_wp2
    go_ret2
    exact ⟨A2, n2, c2, rfl, by rw [HV.out]; exact HN2.out, by rw [HV.out]; exact HO.out.base HB.out.size, HB2.out⟩
end Go.Proofs.Ytdgcdlcfddjmiaa
