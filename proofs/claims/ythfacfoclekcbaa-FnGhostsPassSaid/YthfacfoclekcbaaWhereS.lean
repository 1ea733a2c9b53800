/- The model's roWhere; PlaceAfter and WayAfter on both sides. -/
import Derived.Test.YthfacfoclekcbaaWhere
namespace Go.Proofs.Ythfacfoclekcbaa
open Go.RowKit

set_option maxRecDepth 100000 in
set_option maxHeartbeats 2000000 in
theorem roWhere_good (L : Int) (A : Option Addr) (c : Nat) (l : List (Int × Int)) (ant t : Int) (w : World) (hg : goodB L l = true) (hh : hasB l.length ant = true) (ht : timeB t = true) (hA : AntsAt w A l) :
    Calls Try.prog 42 #[.agg #[.int .i64 L, .slice A l.length c], .int .i64 ant, .int .i64 t] w fun e w' => e = .returned (.tuple #[.agg #[.int .i64 (pwV L l ant t).1, .int .i64 (pwV L l ant t).2], .bool (pwOk L l ant t)]) ∧ Below w.heap.size w w' := by
  have HA := Lib.hid ((hA.alloc (Obj.cells #[Value.int IntKind.i64 L, Value.slice A l.length c] 26)).alloc (Obj.cells #[Value.int IntKind.i64 0, Value.int IntKind.i64 0] 42))
  have htl := timeB_le ht
  have hn := good_len hg
  have hfl := fallsOf_len hg
  have hB := hh
  simp only [hasB, Bool.and_eq_true, decide_eq_true_eq] at hh
  obtain ⟨h0, h1⟩ := hh
  obtain ⟨k, rfl⟩ := Int.eq_ofNat_of_zero_le h0
  have hk : k < l.length := by omega
  have hkF : k < (fallsOf L l).length := by omega
  obtain ⟨x, hxk⟩ : ∃ x, (fallsOf L l)[k]? = some x := ⟨_, List.getElem?_eq_getElem hkF⟩
  have hfd : (fallsOf L l).getD k 0 = x := by rw [List.getD_eq_getElem?_getD, hxk]; rfl
  have HF : Hid (∀ w, AntsAt w A l → Calls Try.prog 59 #[.agg #[.int .i64 L, .slice A l.length c]] w fun e w' => ∃ A' n c', e = .returned (.slice A' n c') ∧ n = (fallsOf L l).length ∧ SlOwn intS w' w.heap.size 3 (.slice A' n c') (fallsOf L l) ∧ Below w.heap.size w w') := fun w h => roFalls_good L A c l w hg h
  have HLF : Hid (∀ w, AntsAt w A l → Calls Try.prog 60 #[.agg #[.int .i64 L, .slice A l.length c]] w fun e w' => e = .returned (.int .i64 (nL L l : Int)) ∧ Below w.heap.size w w') := fun w h => roLeft_good L A c l w hg h
  have HGH : Hid (∀ w, AntsAt w A l → Calls Try.prog 29 #[.agg #[.int .i64 L, .slice A l.length c], .int .i64 t] w fun e w' => ∃ A' n' c', e = .returned (.slice A' n' c') ∧ n' = (srtA (afL L t l)).length ∧ AntsOwn w' w.heap.size 42 (.slice A' n' c') (srtA (afL L t l)) ∧ Below w.heap.size w w') := fun w h => roGhosts_any L A c l t w hg htl.1 htl.2 h
  have hnl := nL_le L l
  have hg' := hg
  have ht' := ht
  clear hA hg ht h1
  have hk0 : (0 : Int) ≤ (k : Int) := h0
  have hk1 : (k : Int) < ((fallsOf L l).length : Int) := by omega
  by_cases hf : x ≤ t
  · have HV : Hid ((pwV L l k t).1 = 0 ∧ (pwV L l k t).2 = 0 ∧ pwOk L l k t = false) := by
      have e : pwOk L l k t = false := by
        simp only [pwOk, Int.toNat_natCast, hfd, leB]
        rw [decide_eq_true hf]; simp
      exact ⟨by simp [pwV, e], by simp [pwV, e], e⟩
    clear hfd hg' ht'
    go_enter Try.func42, Try.ntmps42
    go_wp2_with fail
    refine (HF.out _ HA.out).mono ?_
    rintro e w1 ⟨A1, n1, c1', rfl, hn1, ho1, hb⟩
    subst hn1
    obtain ⟨b, off, rfl, l0, hc⟩ := ho1.sl.int_at hkF
    have a0 := hc k x hxk
    clear hc ho1
    have r0 : w1.cell? ⟨w.heap.size + 1, 0, none⟩ = some (.int .i64 0) := by rw [hb.cell (p := ⟨w.heap.size + 1, 0, none⟩) (by simp)]; simp [go_sem]
    have r1 : w1.cell? ⟨w.heap.size + 1, 1, none⟩ = some (.int .i64 0) := by rw [hb.cell (p := ⟨w.heap.size + 1, 1, none⟩) (by simp)]; simp [go_sem]
    have f0 : w1.frozen? ⟨w.heap.size + 1, 0, none⟩ = false := by rw [hb.frozen (p := ⟨w.heap.size + 1, 0, none⟩) (by simp)]; simp [go_sem]
    have f1 : w1.frozen? ⟨w.heap.size + 1, 1, none⟩ = false := by rw [hb.frozen (p := ⟨w.heap.size + 1, 1, none⟩) (by simp)]; simp [go_sem]
    have hs : w.heap.size + 1 < w1.heap.size := by have := hb.size; simp at this; omega
    have HB := Lib.hid (((Below.refl _ w).alloc (Nat.le_refl _) (Obj.cells #[Value.int IntKind.i64 L, Value.slice A l.length c] 26)).alloc (by simp) (Obj.cells #[Value.int IntKind.i64 0, Value.int IntKind.i64 0] 42) |>.trans (hb.mono (by simp; omega)))
    have c0 : w1.cell? ⟨w.heap.size, 0, none⟩ = some (.int .i64 L) := by rw [hb.cell (p := ⟨w.heap.size, 0, none⟩) (by simp; omega)]; simp [go_sem]
    have c1 : w1.cell? ⟨w.heap.size, 1, none⟩ = some (.slice A l.length c) := by rw [hb.cell (p := ⟨w.heap.size, 1, none⟩) (by simp; omega)]; simp [go_sem]
    have HA1 := Lib.hid (HA.out.below hb)
    clear hb
    go_wp2
    refine bodyPost_ret (v := .tuple #[.agg #[.int .i64 0, .int .i64 0], .bool false]) (by simp [results, Try.results42, go_sem, r0, r1]) rfl ⟨ret_ab HV.out.1.symm HV.out.2.1.symm HV.out.2.2.symm, ?_⟩
    exact (HB.out.setCell (by simp) _).setCell (by simp) _
  · have HV : Hid (pwV L l k t = (srtA (afL L t l)).getD (befN (fallsOf L l) t k) (0, 0) ∧ pwOk L l k t = true) := by
      have e : pwOk L l k t = true := by
        simp only [pwOk, Int.toNat_natCast, hfd, leB, hg', ht', hB]
        rw [decide_eq_false hf]; rfl
      exact ⟨by simp [pwV, e], e⟩
    obtain ⟨hw1, hw2, hw3⟩ := where_eq hg' t k _ hxk hf
    have HW := Lib.hid hw1
    have HX : Hid (∃ x, (srtA (afL L t l))[befN (fallsOf L l) t k]? = some x) := ⟨_, List.getElem?_eq_getElem hw3⟩
    have hf' : ¬ x ≤ t := hf
    clear hfd hg' ht' hw1
    go_enter Try.func42, Try.ntmps42
    go_wp2_with fail
    refine (HF.out _ HA.out).mono ?_
    rintro e w1 ⟨A1, n1, c1', rfl, hn1, ho1, hb⟩
    subst hn1
    obtain ⟨b, off, rfl, l0, hc⟩ := ho1.sl.int_at hkF
    have a0 := hc k x hxk
    clear hc ho1
    have r0 : w1.cell? ⟨w.heap.size + 1, 0, none⟩ = some (.int .i64 0) := by rw [hb.cell (p := ⟨w.heap.size + 1, 0, none⟩) (by simp)]; simp [go_sem]
    have r1 : w1.cell? ⟨w.heap.size + 1, 1, none⟩ = some (.int .i64 0) := by rw [hb.cell (p := ⟨w.heap.size + 1, 1, none⟩) (by simp)]; simp [go_sem]
    have f0 : w1.frozen? ⟨w.heap.size + 1, 0, none⟩ = false := by rw [hb.frozen (p := ⟨w.heap.size + 1, 0, none⟩) (by simp)]; simp [go_sem]
    have f1 : w1.frozen? ⟨w.heap.size + 1, 1, none⟩ = false := by rw [hb.frozen (p := ⟨w.heap.size + 1, 1, none⟩) (by simp)]; simp [go_sem]
    have hs : w.heap.size + 1 < w1.heap.size := by have := hb.size; simp at this; omega
    have HB := Lib.hid (((Below.refl _ w).alloc (Nat.le_refl _) (Obj.cells #[Value.int IntKind.i64 L, Value.slice A l.length c] 26)).alloc (by simp) (Obj.cells #[Value.int IntKind.i64 0, Value.int IntKind.i64 0] 42) |>.trans (hb.mono (by simp; omega)))
    have c0 : w1.cell? ⟨w.heap.size, 0, none⟩ = some (.int .i64 L) := by rw [hb.cell (p := ⟨w.heap.size, 0, none⟩) (by simp; omega)]; simp [go_sem]
    have c1 : w1.cell? ⟨w.heap.size, 1, none⟩ = some (.slice A l.length c) := by rw [hb.cell (p := ⟨w.heap.size, 1, none⟩) (by simp; omega)]; simp [go_sem]
    have HA1 := Lib.hid (HA.out.below hb)
    clear hb
    have R0 := Lib.hid r0
    have R1 := Lib.hid r1
    have F0 := Lib.hid f0
    have F1 := Lib.hid f1
    have C0 := Lib.hid c0
    have C1 := Lib.hid c1
    have hs0 : w.heap.size < w1.heap.size := by omega
    go_wp2
    go_loopw [8, 9] (fun s i wr => ∃ j : Nat, j ≤ nL L l ∧ i = .int .i64 j ∧ s = .int .i64 ((falN (fallsOf L l) t j : Nat) : Int) ∧ Below w1.heap.size w1 wr)
      (fun _ i _ => nL L l - (intOf i).toNat)
    case atStart => exact ⟨0, Nat.zero_le _, rfl, rfl, Below.refl _ _⟩
    case round =>
      clear c0 c1 r0 r1 f0 f1 a0
      obtain ⟨j, hj, rfl, rfl, hbr⟩ := hrel
      have HBr := Lib.hid hbr
      have hsr := hbr.size
      have hfle := fal_le (fallsOf L l) t j
      have c0 := Below.cell_some hbr C0.out
      have c1 := Below.cell_some hbr C1.out
      have HAr := Lib.hid (HA1.out.below hbr)
      clear hbr
      go_wp2_with fail
      refine (HLF.out _ HAr.out).mono ?_
      rintro e w2 ⟨rfl, hb2⟩
      have HB2 := Lib.hid (HBr.out.trans (hb2.mono hsr))
      have c0 := Below.cell_some hb2 c0
      have c1 := Below.cell_some hb2 c1
      have HA2 := Lib.hid (HAr.out.below hb2)
      have hs2 : w1.heap.size ≤ w2.heap.size := HB2.out.size
      clear hb2
      by_cases hjn : j < nL L l
      · have hjF : j < (fallsOf L l).length := by omega
        obtain ⟨y, hy⟩ : ∃ y, (fallsOf L l)[j]? = some y := ⟨_, List.getElem?_eq_getElem hjF⟩
        have HSN := Lib.hid (fal_snoc (fallsOf L l) t j _ hy)
        have hjn2 : (j : Int) < (nL L l : Int) := by omega
        have hjF2 : (j : Int) < ((fallsOf L l).length : Int) := by omega
        have hj0 : (0 : Int) ≤ (j : Int) := by omega
        have hw : IntKind.i64.wrap (((falN (fallsOf L l) t j : Nat) : Int) + 1) = ((falN (fallsOf L l) t j : Nat) : Int) + 1 := IntWalk.i64_in _ (by omega)
        by_cases hyt : y ≤ t
        · have HSN2 : Hid (falN (fallsOf L l) t (j + 1) = falN (fallsOf L l) t j + 1) := by show _ = _; rw [HSN.out, if_pos hyt]
          generalize falN (fallsOf L l) t j = fj at *
          go_wp2_with fail
          refine (HF.out _ HA2.out).mono ?_
          rintro e w3 ⟨A3, n3, c3, rfl, hn3, ho3, hb3⟩
          subst hn3
          obtain ⟨b', off', rfl, l0', hc'⟩ := ho3.sl.int_at hjF
          have b0 := hc' j y hy
          have HB3 := Lib.hid (HB2.out.trans (hb3.mono hs2))
          clear hc' ho3 hb3 hy
          go_wp2
          go_roundw
          case rel => exact ⟨j + 1, by omega, by go_num, by rw [HSN2.out]; go_num, HB3.out⟩
          case measure => simp [intOf]; omega
        · have HSN2 : Hid (falN (fallsOf L l) t (j + 1) = falN (fallsOf L l) t j) := by show _ = _; rw [HSN.out, if_neg hyt]; rfl
          generalize falN (fallsOf L l) t j = fj at *
          go_wp2_with fail
          refine (HF.out _ HA2.out).mono ?_
          rintro e w3 ⟨A3, n3, c3, rfl, hn3, ho3, hb3⟩
          subst hn3
          obtain ⟨b', off', rfl, l0', hc'⟩ := ho3.sl.int_at hjF
          have b0 := hc' j y hy
          have HB3 := Lib.hid (HB2.out.trans (hb3.mono hs2))
          clear hc' ho3 hb3 hy
          go_wp2
          go_roundw
          case rel => exact ⟨j + 1, by omega, by go_num, by rw [HSN2.out], HB3.out⟩
          case measure => simp [intOf]; omega
      · obtain rfl : j = nL L l := by omega
        obtain ⟨z, hz⟩ := HX.out
        have HZD := Lib.hid (getD_of (d := (0, 0)) hz)
        have hjn2 : ¬ (nL L l : Int) < (nL L l : Int) := by omega
        have hwb : IntKind.i64.wrap ((k : Int) - ((falN (fallsOf L l) t (nL L l) : Nat) : Int)) = ((befN (fallsOf L l) t k : Nat) : Int) := by
          have h := HW.out
          rw [IntWalk.i64_in _ (by omega)]
          omega
        clear hz
        generalize falN (fallsOf L l) t (nL L l) = fN at *
        generalize befN (fallsOf L l) t k = bk at *
        have r0 := Below.cell_some HB2.out R0.out
        have r1 := Below.cell_some HB2.out R1.out
        have f0 := (HB2.out.frozen (p := ⟨w.heap.size + 1, 0, none⟩) hs).trans F0.out
        have f1 := (HB2.out.frozen (p := ⟨w.heap.size + 1, 1, none⟩) hs).trans F1.out
        have HB := Lib.hid (HB.out.trans (HB2.out.mono HB.out.size))
        have hs : w.heap.size + 1 < w2.heap.size := Nat.lt_of_lt_of_le hs hs2
        go_wp2_with fail
        refine (HGH.out _ HA2.out).mono ?_
        rintro e w3 ⟨A3, n3, c3, rfl, hn3, ho3, hb3⟩
        have hL6 := ho3.ants
        have r0 := Below.cell_some hb3 r0
        have r1 := Below.cell_some hb3 r1
        have f0 := (hb3.frozen (p := ⟨w.heap.size + 1, 0, none⟩) hs).trans f0
        have f1 := (hb3.frozen (p := ⟨w.heap.size + 1, 1, none⟩) hs).trans f1
        have HB := Lib.hid (HB.out.trans (hb3.mono HB.out.size))
        have hs : w.heap.size + 1 < w3.heap.size := Nat.lt_of_lt_of_le hs hb3.size
        generalize srtA (afL L t l) = m at *
        subst hn3
        obtain ⟨b6, off6, rfl, l6, hc6⟩ := hL6.at_ hw3
        obtain ⟨y0, y1⟩ := hc6 bk hw3
        rw [HZD.out] at y0 y1
        obtain ⟨z1, z2⟩ := z
        simp only at y0 y1
        have hb91 : (bk : Int) < (m.length : Int) := by omega
        have hb92 : (0 : Int) ≤ (bk : Int) := by omega
        have HV2 : Hid ((pwV L l k t).1 = z1 ∧ (pwV L l k t).2 = z2) := by show _ ∧ _; rw [HV.out.1, HZD.out]; exact ⟨rfl, rfl⟩
        clear hc6 ho3 hb3 hL6 hw2
        go_wp2
        refine bodyPost_ret (v := .tuple #[.agg #[.int .i64 z1, .int .i64 z2], .bool true]) (by simp [results, Try.results42, go_sem, r0, r1]) rfl ⟨ret_ab HV2.out.1.symm HV2.out.2.symm HV.out.2.symm, ?_⟩
        exact (HB.out.setCell (by simp) _).setCell (by simp) _

set_option maxHeartbeats 1000000 in
theorem implPlaceAfter_any (L : Int) (A : Option Addr) (c : Nat) (l : List (Int × Int)) (ant t : Int) (w : World) (hA : AntsAt w A l) :
    Calls Try.prog 17 #[.agg #[.int .i64 L, .slice A l.length c], .int .i64 ant, .int .i64 t] w fun e w' => e = .returned (.tuple #[.int .i64 (pwV L l ant t).1, .bool (pwOk L l ant t)]) ∧ Below w.heap.size w w' := by
  have HA := Lib.hid (hA.alloc (Obj.cells #[Value.int IntKind.i64 L, Value.slice A l.length c] 26))
  clear hA
  have HC := Lib.hid (fun W h => antAfter_any L A c l ant t W h)
  generalize pwV L l ant t = v at *
  obtain ⟨v1, v2⟩ := v
  generalize pwOk L l ant t = ok at *
  go_enter Try.func17, Try.ntmps17
  go_wp2_with fail
  refine (HC.out _ HA.out).mono ?_
  rintro e w1 ⟨rfl, hb⟩
  go_wp2
  go_ret2
  exact ⟨rfl, (((Below.refl _ w).alloc (Nat.le_refl _) _).trans (hb.mono (by simp))).alloc (by have := hb.size; simp at this; omega) _⟩

set_option maxHeartbeats 1000000 in
theorem specPlaceAfter_any (L : Int) (A : Option Addr) (c : Nat) (l : List (Int × Int)) (ant t : Int) (w : World) (hA : AntsAt w A l) :
    Calls Try.prog 21 #[.agg #[.int .i64 L, .slice A l.length c], .int .i64 ant, .int .i64 t] w fun e w' => e = .returned (.tuple #[.int .i64 (pwV L l ant t).1, .bool (pwOk L l ant t)]) ∧ Below w.heap.size w w' := by
  have HA := Lib.hid (hA.alloc (Obj.cells #[Value.int IntKind.i64 L, Value.slice A l.length c] 26))
  clear hA
  cases hf : foOk L l ant with
  | false =>
    have HV : Hid ((pwV L l ant t).1 = 0 ∧ pwOk L l ant t = false) := by
      have e : pwOk L l ant t = false := by unfold pwOk; unfold foOk at hf; rw [hf]; rfl
      exact ⟨by simp [pwV, e], e⟩
    have HF : Hid (∀ w, AntsAt w A l → Calls Try.prog 41 #[.agg #[.int .i64 L, .slice A l.length c], .int .i64 ant] w fun e w' => e = .returned (.bool false) ∧ Below w.heap.size w w') := fun w h => roAnt_at L A c l ant false hf w h
    clear hf
    go_enter Try.func21, Try.ntmps21
    go_wp2_with fail
    refine (HF.out _ HA.out).mono ?_
    rintro e w1 ⟨rfl, hb⟩
    have HB := Lib.hid (((Below.refl _ w).alloc (Nat.le_refl _) (Obj.cells #[Value.int IntKind.i64 L, Value.slice A l.length c] 26)).trans (hb.mono (by simp)))
    clear hb
    go_wp2
    go_ret2
    exact ⟨ret_ib HV.out.1.symm HV.out.2.symm, HB.out⟩
  | true =>
    have HF : Hid (∀ w, AntsAt w A l → Calls Try.prog 41 #[.agg #[.int .i64 L, .slice A l.length c], .int .i64 ant] w fun e w' => e = .returned (.bool true) ∧ Below w.heap.size w w') := fun w h => roAnt_at L A c l ant true hf w h
    cases ht : timeB t with
    | false =>
      have HV : Hid ((pwV L l ant t).1 = 0 ∧ pwOk L l ant t = false) := by
        have e : pwOk L l ant t = false := by simp [pwOk, ht]
        exact ⟨by simp [pwV, e], e⟩
      have HT : Hid (∀ w, Calls Try.prog 28 #[.int .i64 t] w fun e w' => e = .returned (.bool false) ∧ Below w.heap.size w w') := fun w => roTime_at t false ht w
      clear hf ht
      go_enter Try.func21, Try.ntmps21
      go_wp2_with fail
      refine (HF.out _ HA.out).mono ?_
      rintro e w1 ⟨rfl, hb⟩
      have HB := Lib.hid (((Below.refl _ w).alloc (Nat.le_refl _) (Obj.cells #[Value.int IntKind.i64 L, Value.slice A l.length c] 26)).trans (hb.mono (by simp)))
      clear hb
      go_wp2_with fail
      refine (HT.out _).mono ?_
      rintro e w2 ⟨rfl, hb2⟩
      have HB := Lib.hid (HB.out.trans (hb2.mono HB.out.size))
      clear hb2
      go_wp2
      go_ret2
      exact ⟨ret_ib HV.out.1.symm HV.out.2.symm, HB.out⟩
    | true =>
      have HT : Hid (∀ w, Calls Try.prog 28 #[.int .i64 t] w fun e w' => e = .returned (.bool true) ∧ Below w.heap.size w w') := fun w => roTime_at t true ht w
      have hfo := hf
      simp only [foOk, Bool.and_eq_true] at hfo
      have HC := Lib.hid (fun W h => roWhere_good L A c l ant t W hfo.1 hfo.2 ht h)
      clear hf ht hfo
      generalize pwV L l ant t = v at *
      obtain ⟨v1, v2⟩ := v
      generalize pwOk L l ant t = ok at *
      go_enter Try.func21, Try.ntmps21
      go_wp2_with fail
      refine (HF.out _ HA.out).mono ?_
      rintro e w1 ⟨rfl, hb⟩
      have c0 : w1.cell? ⟨w.heap.size, 0, none⟩ = some (.int .i64 L) := by rw [hb.cell (p := ⟨w.heap.size, 0, none⟩) (by simp)]; simp
      have c1 : w1.cell? ⟨w.heap.size, 1, none⟩ = some (.slice A l.length c) := by rw [hb.cell (p := ⟨w.heap.size, 1, none⟩) (by simp)]; simp
      have HB := Lib.hid (((Below.refl _ w).alloc (Nat.le_refl _) (Obj.cells #[Value.int IntKind.i64 L, Value.slice A l.length c] 26)).trans (hb.mono (by simp)))
      have HA1 := Lib.hid (HA.out.below hb)
      clear hb
      go_wp2_with fail
      refine (HT.out _).mono ?_
      rintro e w2 ⟨rfl, hb2⟩
      have c0 := Below.cell_some hb2 c0
      have c1 := Below.cell_some hb2 c1
      have HB := Lib.hid (HB.out.trans (hb2.mono HB.out.size))
      have HA2 := Lib.hid (HA1.out.below hb2)
      clear hb2
      go_wp2_with fail
      refine (HC.out _ HA2.out).mono ?_
      rintro e w3 ⟨rfl, hb3⟩
      go_wp2
      go_ret2
      exact ⟨rfl, (HB.out.trans (hb3.mono HB.out.size)).alloc (HB.out.trans (hb3.mono HB.out.size)).size _⟩

set_option maxHeartbeats 1000000 in
theorem implWayAfter_any (L : Int) (A : Option Addr) (c : Nat) (l : List (Int × Int)) (ant t : Int) (w : World) (hA : AntsAt w A l) :
    Calls Try.prog 18 #[.agg #[.int .i64 L, .slice A l.length c], .int .i64 ant, .int .i64 t] w fun e w' => e = .returned (.tuple #[.int .i64 (pwV L l ant t).2, .bool (pwOk L l ant t)]) ∧ Below w.heap.size w w' := by
  have HA := Lib.hid (hA.alloc (Obj.cells #[Value.int IntKind.i64 L, Value.slice A l.length c] 26))
  clear hA
  have HC := Lib.hid (fun W h => antAfter_any L A c l ant t W h)
  generalize pwV L l ant t = v at *
  obtain ⟨v1, v2⟩ := v
  generalize pwOk L l ant t = ok at *
  go_enter Try.func18, Try.ntmps18
  go_wp2_with fail
  refine (HC.out _ HA.out).mono ?_
  rintro e w1 ⟨rfl, hb⟩
  go_wp2
  go_ret2
  exact ⟨rfl, (((Below.refl _ w).alloc (Nat.le_refl _) _).trans (hb.mono (by simp))).alloc (by have := hb.size; simp at this; omega) _⟩

set_option maxHeartbeats 1000000 in
theorem specWayAfter_any (L : Int) (A : Option Addr) (c : Nat) (l : List (Int × Int)) (ant t : Int) (w : World) (hA : AntsAt w A l) :
    Calls Try.prog 22 #[.agg #[.int .i64 L, .slice A l.length c], .int .i64 ant, .int .i64 t] w fun e w' => e = .returned (.tuple #[.int .i64 (pwV L l ant t).2, .bool (pwOk L l ant t)]) ∧ Below w.heap.size w w' := by
  have HA := Lib.hid (hA.alloc (Obj.cells #[Value.int IntKind.i64 L, Value.slice A l.length c] 26))
  clear hA
  cases hf : foOk L l ant with
  | false =>
    have HV : Hid ((pwV L l ant t).2 = 0 ∧ pwOk L l ant t = false) := by
      have e : pwOk L l ant t = false := by unfold pwOk; unfold foOk at hf; rw [hf]; rfl
      exact ⟨by simp [pwV, e], e⟩
    have HF : Hid (∀ w, AntsAt w A l → Calls Try.prog 41 #[.agg #[.int .i64 L, .slice A l.length c], .int .i64 ant] w fun e w' => e = .returned (.bool false) ∧ Below w.heap.size w w') := fun w h => roAnt_at L A c l ant false hf w h
    clear hf
    go_enter Try.func22, Try.ntmps22
    go_wp2_with fail
    refine (HF.out _ HA.out).mono ?_
    rintro e w1 ⟨rfl, hb⟩
    have HB := Lib.hid (((Below.refl _ w).alloc (Nat.le_refl _) (Obj.cells #[Value.int IntKind.i64 L, Value.slice A l.length c] 26)).trans (hb.mono (by simp)))
    clear hb
    go_wp2
    go_ret2
    exact ⟨ret_ib HV.out.1.symm HV.out.2.symm, HB.out⟩
  | true =>
    have HF : Hid (∀ w, AntsAt w A l → Calls Try.prog 41 #[.agg #[.int .i64 L, .slice A l.length c], .int .i64 ant] w fun e w' => e = .returned (.bool true) ∧ Below w.heap.size w w') := fun w h => roAnt_at L A c l ant true hf w h
    cases ht : timeB t with
    | false =>
      have HV : Hid ((pwV L l ant t).2 = 0 ∧ pwOk L l ant t = false) := by
        have e : pwOk L l ant t = false := by simp [pwOk, ht]
        exact ⟨by simp [pwV, e], e⟩
      have HT : Hid (∀ w, Calls Try.prog 28 #[.int .i64 t] w fun e w' => e = .returned (.bool false) ∧ Below w.heap.size w w') := fun w => roTime_at t false ht w
      clear hf ht
      go_enter Try.func22, Try.ntmps22
      go_wp2_with fail
      refine (HF.out _ HA.out).mono ?_
      rintro e w1 ⟨rfl, hb⟩
      have HB := Lib.hid (((Below.refl _ w).alloc (Nat.le_refl _) (Obj.cells #[Value.int IntKind.i64 L, Value.slice A l.length c] 26)).trans (hb.mono (by simp)))
      clear hb
      go_wp2_with fail
      refine (HT.out _).mono ?_
      rintro e w2 ⟨rfl, hb2⟩
      have HB := Lib.hid (HB.out.trans (hb2.mono HB.out.size))
      clear hb2
      go_wp2
      go_ret2
      exact ⟨ret_ib HV.out.1.symm HV.out.2.symm, HB.out⟩
    | true =>
      have HT : Hid (∀ w, Calls Try.prog 28 #[.int .i64 t] w fun e w' => e = .returned (.bool true) ∧ Below w.heap.size w w') := fun w => roTime_at t true ht w
      have hfo := hf
      simp only [foOk, Bool.and_eq_true] at hfo
      have HC := Lib.hid (fun W h => roWhere_good L A c l ant t W hfo.1 hfo.2 ht h)
      clear hf ht hfo
      generalize pwV L l ant t = v at *
      obtain ⟨v1, v2⟩ := v
      generalize pwOk L l ant t = ok at *
      go_enter Try.func22, Try.ntmps22
      go_wp2_with fail
      refine (HF.out _ HA.out).mono ?_
      rintro e w1 ⟨rfl, hb⟩
      have c0 : w1.cell? ⟨w.heap.size, 0, none⟩ = some (.int .i64 L) := by rw [hb.cell (p := ⟨w.heap.size, 0, none⟩) (by simp)]; simp
      have c1 : w1.cell? ⟨w.heap.size, 1, none⟩ = some (.slice A l.length c) := by rw [hb.cell (p := ⟨w.heap.size, 1, none⟩) (by simp)]; simp
      have HB := Lib.hid (((Below.refl _ w).alloc (Nat.le_refl _) (Obj.cells #[Value.int IntKind.i64 L, Value.slice A l.length c] 26)).trans (hb.mono (by simp)))
      have HA1 := Lib.hid (HA.out.below hb)
      clear hb
      go_wp2_with fail
      refine (HT.out _).mono ?_
      rintro e w2 ⟨rfl, hb2⟩
      have c0 := Below.cell_some hb2 c0
      have c1 := Below.cell_some hb2 c1
      have HB := Lib.hid (HB.out.trans (hb2.mono HB.out.size))
      have HA2 := Lib.hid (HA1.out.below hb2)
      clear hb2
      go_wp2_with fail
      refine (HC.out _ HA2.out).mono ?_
      rintro e w3 ⟨rfl, hb3⟩
      go_wp2
      go_ret2
      exact ⟨rfl, (HB.out.trans (hb3.mono HB.out.size)).alloc (HB.out.trans (hb3.mono HB.out.size)).size _⟩

end Go.Proofs.Ythfacfoclekcbaa
