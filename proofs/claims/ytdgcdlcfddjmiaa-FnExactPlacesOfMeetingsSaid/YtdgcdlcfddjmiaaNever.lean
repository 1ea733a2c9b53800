/- The ants that meet nobody, on both sides. -/
import Derived.Test.YtdgcdlcfddjmiaaMeetC
import Derived.Test.YtdgcdlcfddjmiaaMeetI
namespace Go.Proofs.Ytdgcdlcfddjmiaa
open Go.RowKit

/-- the places, among the first ones, at which there is 0 -/
def zeroAt (q : List Int) : Nat → List Int
  | 0 => []
  | i + 1 => zeroAt q i ++ if q.getD i 0 = 0 then [(i : Int)] else []
theorem zeroAt_len (q : List Int) : ∀ i, (zeroAt q i).length ≤ i
  | 0 => Nat.le_refl _
  | i + 1 => by
    unfold zeroAt
    rw [List.length_append]
    have := zeroAt_len q i
    split <;> simp <;> omega
theorem slAt_oneK {w : World} {g : Nat} {x : Int} {e : TypeId} {m : Nat × Nat} (h : w.heap[g]? = some (.cells #[.int .i64 x] e m)) : SlAt intS w (some ⟨g, 0, none⟩) [x] := by
  refine .inr ⟨g, 0, rfl, (Array.getElem?_eq_some_iff.1 h).1, fun k y hk j hj => ?_⟩
  cases k with
  | succ k => simp at hk
  | zero =>
    simp only [List.getElem?_cons_zero, Option.some.injEq] at hk
    subst hk
    simp only [Nat.zero_mul, Nat.zero_add]
    rw [cell_of_row w g j _ _ _ h, ← Array.getElem?_toList]
    rfl
def neV (L : Int) (l : List (Int × Int)) : List Int := zeroAt (coV L l) (coV L l).length
theorem neV_lenI (L : Int) (l : List (Int × Int)) : ((neV L l).length : Int) ≤ 1048576 := by
  have h1 := zeroAt_len (coV L l) (coV L l).length
  have h2 := coV_lenI L l
  unfold neV
  omega

set_option maxRecDepth 100000 in
set_option maxHeartbeats 1000000 in
theorem specNeverMeet_any (L : Int) (A : Option Addr) (c : Nat) (l : List (Int × Int)) (w : World) (hcap : l.length ≤ c) (hA : AntsAt w A l) :
    Calls Try.prog 44 #[.agg #[.int .i64 L, .slice A l.length c]] w fun e w' => ∃ A' n c', e = .returned (.tuple #[.slice A' n c', .bool (goodB L l)]) ∧ n = (neV L l).length ∧ SlOwn intS w' w.heap.size 3 (.slice A' n c') (neV L l) ∧ Below w.heap.size w w' := by
  obtain ⟨i0, hi, hz0, hz1, hz2⟩ := info_parts intInfo
  have HA := Lib.hid (hA.alloc (Obj.cells #[Value.int IntKind.i64 L, Value.slice A l.length c] 31))
  clear hA
  cases hg : goodB L l with
  | false =>
    have HV : Hid (neV L l = []) := by show _ = _; simp [neV, coV, hg, zeroAt]
    have HG : Hid (∀ w, AntsAt w A l → Calls Try.prog 51 #[.agg #[.int .i64 L, .slice A l.length c]] w fun e w' => e = .returned (.bool false) ∧ Below w.heap.size w w') := fun w h => by
      rw [← hg]; exact roGood_any L A c l w h
    clear hg
    go_enter Try.func44, Try.ntmps44
    go_wp2_with fail
    refine (HG.out _ HA.out).mono ?_
    rintro e w1 ⟨rfl, hb⟩
    go_wp2
    go_ret2
    exact ⟨none, 0, 0, rfl, by rw [HV.out]; rfl, by rw [HV.out]; exact SlOwn.nil _ _ _ _, ((Below.refl _ _).alloc (Nat.le_refl _) _).trans (hb.mono (by simp))⟩
  | true =>
    have hcl : coV L l = coL l.length (meL L l) := by simp [coV, hg]
    have HG : Hid (∀ w, AntsAt w A l → Calls Try.prog 51 #[.agg #[.int .i64 L, .slice A l.length c]] w fun e w' => e = .returned (.bool true) ∧ Below w.heap.size w w') := fun w h => by
      rw [← hg]; exact roGood_any L A c l w h
    have HM := Lib.hid (fun w h => meCounts_good L A c l w hg hcap h)
    have hnl := good_len hg
    have hql := coL_len l.length (meL L l)
    have HV : Hid (neV L l = zeroAt (coL l.length (meL L l)) l.length) := by show _ = _; unfold neV; rw [hcl, hql]
    clear hg hcl
    generalize coL l.length (meL L l) = q at *
    generalize hN : l.length = N at *
    have HN := Lib.hid hN
    clear hN
    go_enter Try.func44, Try.ntmps44
    go_wp2_with fail
    refine (HG.out _ HA.out).mono ?_
    rintro e w1 ⟨rfl, hb⟩
    have c0 : w1.cell? ⟨w.heap.size, 0, none⟩ = some (.int .i64 L) := by rw [hb.cell (p := ⟨w.heap.size, 0, none⟩) (by simp)]; simp
    have c1 : w1.cell? ⟨w.heap.size, 1, none⟩ = some (.slice A N c) := by rw [hb.cell (p := ⟨w.heap.size, 1, none⟩) (by simp)]; simp
    have HB := Lib.hid (((Below.refl _ w).alloc (Nat.le_refl _) _).trans (hb.mono (by simp)))
    have HA1 := Lib.hid (HA.out.below hb)
    clear hb
    go_wp2_with fail
    refine (HM.out _ HA1.out).mono ?_
    rintro e w2 ⟨AQ, kq, rfl, ho, hb2⟩
    have HO := Lib.hid ho.sl
    have HB2 := Lib.hid (HB.out.trans (hb2.mono HB.out.size))
    clear hb2 ho
    go_wp2
    go_loopw [4, 13] (fun v i wr => ∃ (k : Nat) (A5 : Option Addr) (n5 c5 : Nat), k ≤ N ∧ i = .int .i64 k ∧ v = .slice A5 n5 c5 ∧ Below w2.heap.size w2 wr ∧ SlOwn intS wr w2.heap.size 3 (.slice A5 n5 c5) (zeroAt q k))
      (fun _ i _ => N - (intOf i).toNat)
    case atStart => exact ⟨0, none, 0, 0, Nat.zero_le _, rfl, rfl, Below.refl _ _, SlOwn.nil intS _ _ _⟩
    case round =>
      obtain ⟨k, A5, n5, c5, hk, rfl, rfl, hbr, hown⟩ := hrel
      have HBr := Lib.hid hbr
      have hsr := hbr.size
      have HOr := Lib.hid (HO.out.below hbr)
      have HL := Lib.hid hown
      clear hbr hown
      by_cases hlt : k < N
      · have hlq : k < q.length := by omega
        obtain ⟨b, off, rfl, l0, hc⟩ := HOr.out.int_at hlq
        have a0 := hc k _ (List.getElem?_eq_getElem hlq)
        have HS : Hid (zeroAt q (k + 1) = zeroAt q k ++ if q[k] = 0 then [(k : Int)] else []) := by show _ = _; rw [← getD_lt (d := 0) hlq]; rfl
        have HZL := Lib.hid (zeroAt_len q k)
        clear hc
        generalize q[k] = x at *
        have hn5 := own_len HL.out
        generalize zeroAt q k = s at *
        subst hn5
        by_cases hx : x = 0
        · subst hx
          have HE : Hid (zeroAt q (k + 1) = s ++ [(k : Int)]) := by show _ = _; rw [HS.out, if_pos rfl]
          go_wp2_with (at_builtin; refine wpList_append_slsv intS _ rfl _ _ 47 rfl w2.heap.size 3 i0 _ 8 Try.underlying47 hi hz0 hz1 hz2 rfl (by decide) _ s rfl (HL.out.alloc' _) _ 1 1 [(k : Int)] rfl rfl (slAt_oneK (heap_new rfl)) (by have := HZL.out; simp only [List.length_cons, List.length_nil]; omega) (by simp; omega) ?_; intro A7 n7 k7 w7 hn7 ho7 hb7; have HO7 := Lib.hid ho7; have HB7 := Lib.hid ((HBr.out.alloc HBr.out.size _).trans hb7); clear hn7 ho7 hb7)
          go_roundw
          case rel => exact ⟨k + 1, A7, n7, k7, by omega, by go_num, rfl, HB7.out, by rw [HE.out]; exact HO7.out⟩
          case measure => simp [intOf]; omega
        · have HE : Hid (zeroAt q (k + 1) = s) := by show _ = _; rw [HS.out, if_neg hx, List.append_nil]
          have d : (x == 0) = false := by simpa using hx
          go_wp2
          go_roundw
          case rel => exact ⟨k + 1, A5, s.length, c5, by omega, by go_num, rfl, HBr.out, by rw [HE.out]; exact HL.out⟩
          case measure => simp [intOf]; omega
      · obtain rfl : k = N := by omega
        have hn5 := Lib.hid (own_len HL.out)
        go_wp2
        go_ret2
        refine ⟨A5, n5, c5, rfl, by rw [HV.out, hn5.out], ?_, HB2.out.trans (HBr.out.mono HB2.out.size)⟩
        rw [HV.out]
        exact HL.out.base HB2.out.size

theorem never1_at (q : List Int) (A : Option Addr) (c g k : Nat) (r : Bool) (hk : k < q.length) (_hN : q.length ≤ 1000) (hr : (q[k]'hk == 0) = r) (w : World) (h0 : w.cell? ⟨g, 0, none⟩ = some (.slice A q.length c)) (hq : SlAt intS w A q) :
    Calls Try.prog 74 #[.int .i64 k, .pointer (some ⟨g, 0, none⟩)] w fun e w' => e = .returned (.bool r) ∧ w = w' := by
  subst hr
  obtain ⟨b, off, rfl, l0, hc⟩ := hq.int_at hk
  have a0 := hc k _ (List.getElem?_eq_getElem hk)
  have hk1 : (k : Int) < (q.length : Int) := by omega
  clear hc
  generalize q[k] = x at *
  generalize q.length = n at *
  go_enter Try.func74, Try.ntmps74
  go_wp2
  go_ret
  exact ⟨ret_bool rfl, rfl⟩

set_option maxRecDepth 100000 in
set_option maxHeartbeats 1000000 in
theorem antsThat_never (q : List Int) (A : Option Addr) (c g : Nat) (w : World) (hN : q.length ≤ 1000) (h0 : w.cell? ⟨g, 0, none⟩ = some (.slice A q.length c)) (hq : SlAt intS w A q) :
    Calls Try.prog 73 #[.int .i64 (q.length : Int), .func (.func 74) #[] #[.pointer (some ⟨g, 0, none⟩)]] w fun e w' => ∃ A' n c', e = .returned (.slice A' n c') ∧ n = (zeroAt q q.length).length ∧ SlOwn intS w' w.heap.size 3 (.slice A' n c') (zeroAt q q.length) ∧ Below w.heap.size w w' := by
  obtain ⟨i0, hi, hz0, hz1, hz2⟩ := info_parts intInfo
  have H0 := Lib.hid h0
  have HQ := Lib.hid hq
  clear h0 hq
  obtain ⟨N, hN'⟩ : ∃ N, N = q.length := ⟨_, rfl⟩
  rw [← hN'] at H0 hN ⊢
  have HNN := Lib.hid hN'
  clear hN'
  go_enter Try.func73, Try.ntmps73
  go_wp2
  go_loopw [5, 8] (fun v i wr => ∃ (k : Nat) (A5 : Option Addr) (n5 c5 : Nat), k ≤ N ∧ i = .int .i64 k ∧ v = .slice A5 n5 c5 ∧ Below w.heap.size w wr ∧ SlOwn intS wr w.heap.size 3 (.slice A5 n5 c5) (zeroAt q k))
    (fun _ i _ => N - (intOf i).toNat)
  case atStart => exact ⟨0, none, 0, 0, Nat.zero_le _, rfl, rfl, Below.refl _ _, SlOwn.nil intS _ _ _⟩
  case round =>
    obtain ⟨k, A5, n5, c5, hk, rfl, rfl, hbr, hown⟩ := hrel
    have HBr := Lib.hid hbr
    have hsr := hbr.size
    have HOr := Lib.hid (HQ.out.below hbr)
    have H0r := Lib.hid (Below.cell_some hbr H0.out)
    have HL := Lib.hid hown
    clear hbr hown
    by_cases hlt : k < N
    · have hlq : k < q.length := by have := HNN.out; omega
      have HS : Hid (zeroAt q (k + 1) = zeroAt q k ++ if q[k] = 0 then [(k : Int)] else []) := by show _ = _; rw [← getD_lt (d := 0) hlq]; rfl
      have HZL := Lib.hid (zeroAt_len q k)
      have HCL : Hid (∀ r, (q[k] == 0) = r → Calls Try.prog 74 #[.int .i64 k, .pointer (some ⟨g, 0, none⟩)] wr fun e w' => e = .returned (.bool r) ∧ wr = w') := fun r hr => never1_at q A c g k r hlq (by have := HNN.out; omega) hr wr (by have := H0r.out; rw [HNN.out] at this; exact this) HOr.out
      generalize q[k] = x at *
      have hn5 := own_len HL.out
      generalize zeroAt q k = s at *
      subst hn5
      by_cases hx : x = 0
      · subst hx
        have HE : Hid (zeroAt q (k + 1) = s ++ [(k : Int)]) := by show _ = _; rw [HS.out, if_pos rfl]
        go_wp2_with fail
        refine (HCL.out true rfl).mono ?_
        rintro e w' ⟨rfl, rfl⟩
        go_wp2_with (at_builtin; refine wpList_append_slsv intS _ rfl _ _ 47 rfl w.heap.size 3 i0 _ 8 Try.underlying47 hi hz0 hz1 hz2 rfl (by decide) _ s rfl (HL.out.alloc' _) _ 1 1 [(k : Int)] rfl rfl (slAt_oneK (heap_new rfl)) (by have := HZL.out; simp only [List.length_cons, List.length_nil]; omega) (by simp; omega) ?_; intro A7 n7 k7 w7 hn7 ho7 hb7; have HO7 := Lib.hid ho7; have HB7 := Lib.hid ((HBr.out.alloc HBr.out.size _).trans hb7); clear hn7 ho7 hb7)
        go_roundw
        case rel => exact ⟨k + 1, A7, n7, k7, by omega, by go_num, rfl, HB7.out, by rw [HE.out]; exact HO7.out⟩
        case measure => simp [intOf]; omega
      · have HE : Hid (zeroAt q (k + 1) = s) := by show _ = _; rw [HS.out, if_neg hx, List.append_nil]
        have HD : Hid ((x == 0) = false) := by show _ = _; simpa using hx
        go_wp2_with fail
        refine (HCL.out false HD.out).mono ?_
        rintro e w' ⟨rfl, rfl⟩
        go_wp2
        go_roundw
        case rel => exact ⟨k + 1, A5, s.length, c5, by omega, by go_num, rfl, HBr.out, by rw [HE.out]; exact HL.out⟩
        case measure => simp [intOf]; omega
    · obtain rfl : k = N := by omega
      have hn5 := Lib.hid (own_len HL.out)
      go_wp2
      go_ret
      exact ⟨A5, n5, c5, rfl, hn5.out, HL.out, HBr.out⟩

set_option maxHeartbeats 1000000 in
theorem implNeverMeet_any (L : Int) (A : Option Addr) (c : Nat) (l : List (Int × Int)) (w : World) (hA : AntsAt w A l) :
    Calls Try.prog 45 #[.agg #[.int .i64 L, .slice A l.length c]] w fun e w' => ∃ A' n c', e = .returned (.tuple #[.slice A' n c', .bool (goodB L l)]) ∧ n = (neV L l).length ∧ SlOwn intS w' w.heap.size 3 (.slice A' n c') (neV L l) ∧ Below w.heap.size w w' := by
  have HA := Lib.hid (hA.alloc (Obj.cells #[Value.int IntKind.i64 L, Value.slice A l.length c] 31))
  clear hA
  have HM := Lib.hid (fun w h => implCountOfAnts_any L A c l w h)
  have HV : Hid (neV L l = zeroAt (coV L l) (coV L l).length) := rfl
  have hql : (coV L l).length ≤ 1000 := by
    unfold coV
    split
    · rename_i h
      rw [coL_len]
      have := good_len h
      omega
    · simp
  generalize coV L l = q at *
  generalize goodB L l = b at *
  go_enter Try.func45, Try.ntmps45
  go_wp2_with fail
  refine (HM.out _ HA.out).mono ?_
  rintro e w1 ⟨AQ, n1, kq, rfl, hn1, ho1, hb⟩
  subst hn1
  have HB := Lib.hid (((Below.refl _ w).alloc (Nat.le_refl _) _).trans (hb.mono (by simp)))
  have HO1 := Lib.hid (ho1.sl.alloc (Obj.cells #[.slice AQ q.length kq] 47))
  have HC : Hid (∀ A c g w, w.cell? ⟨g, 0, none⟩ = some (.slice A q.length c) → SlAt intS w A q → Calls Try.prog 73 #[.int .i64 (q.length : Int), .func (.func 74) #[] #[.pointer (some ⟨g, 0, none⟩)]] w fun e w' => ∃ A' n c', e = .returned (.slice A' n c') ∧ n = (zeroAt q q.length).length ∧ SlOwn intS w' w.heap.size 3 (.slice A' n c') (zeroAt q q.length) ∧ Below w.heap.size w w') := fun A c g w h0 h1 => antsThat_never q A c g w hql h0 h1
  clear hb ho1
  go_wp2_with fail
  refine (HC.out AQ kq w1.heap.size _ (by simp) HO1.out).mono ?_
  rintro e w2 ⟨A2, n2, k2, rfl, hn2, ho2, hb2⟩
  have HO2 := Lib.hid ho2
  have HN2 := Lib.hid hn2
  have HB2 := Lib.hid (below_via HB.out HB.out.size hb2)
  have hs := HB.out.size
  clear hb2 ho2 hn2
  go_wp2
  go_ret2
  refine ⟨A2, n2, k2, rfl, by rw [HV.out, HN2.out], ?_, HB2.out⟩
  rw [HV.out]
  exact HO2.out.base (by simp; omega)
end Go.Proofs.Ytdgcdlcfddjmiaa
