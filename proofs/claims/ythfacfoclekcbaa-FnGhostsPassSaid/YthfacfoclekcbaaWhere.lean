/- Where an ant is behind a time, and its way: PlaceAfter and WayAfter on both sides. -/
import Derived.Test.YthfacfoclekcbaaWhereMath
import Derived.Test.YthfacfoclekcbaaRodAfter
namespace Go.Proofs.Ythfacfoclekcbaa
open Go.RowKit

/-- whether an ant is on the rod behind a time; which one it is then -/
def pwOk (L : Int) (l : List (Int × Int)) (ant t : Int) : Bool := (goodB L l && hasB l.length ant) && (timeB t && !leB t ((fallsOf L l).getD ant.toNat 0))
def pwV (L : Int) (l : List (Int × Int)) (ant t : Int) : Int × Int := if pwOk L l ant t then (srtA (afL L t l)).getD (befN (fallsOf L l) t ant.toNat) (0, 0) else (0, 0)
theorem ret_ab {a b c d : Int} {x y : Bool} (h1 : a = b) (h2 : c = d) (h3 : x = y) : Ending.returned (.tuple #[.agg #[.int .i64 a, .int .i64 c], .bool x]) = .returned (.tuple #[.agg #[.int .i64 b, .int .i64 d], .bool y]) := by rw [h1, h2, h3]

theorem hasFallen_ft (a y L t : Int) (r : Bool) (hg : GoodGhost (a, y, L)) (hr : decide (ft (a, y, L) ≤ t) = r) (w : World) :
    Calls Try.prog 31 #[.agg #[.int .i64 a, .int .i64 y, .int .i64 L], .int .i64 t] w fun e w' => e = .returned (.bool r) ∧ Below w.heap.size w w' := by
  obtain ⟨h0, h1, h2, h3, hy⟩ := hg
  simp only at h0 h1 h2 h3 hy
  rw [ft_end (p := (a, y)) hy] at hr
  exact hasFallen_at a y L t r hr w hy h0 (by omega) (by omega) h3

set_option maxRecDepth 100000 in
set_option maxHeartbeats 2000000 in
theorem antAfter_any (L : Int) (A : Option Addr) (c : Nat) (l : List (Int × Int)) (ant t : Int) (w : World) (hA : AntsAt w A l) :
    Calls Try.prog 39 #[.agg #[.int .i64 L, .slice A l.length c], .int .i64 ant, .int .i64 t] w fun e w' => e = .returned (.tuple #[.agg #[.int .i64 (pwV L l ant t).1, .int .i64 (pwV L l ant t).2], .bool (pwOk L l ant t)]) ∧ Below w.heap.size w w' := by
  have HA := Lib.hid ((hA.alloc (Obj.cells #[Value.int IntKind.i64 L, Value.slice A l.length c] 26)).alloc (Obj.cells #[Value.int IntKind.i64 0, Value.int IntKind.i64 0] 42))
  clear hA
  cases hg : goodB L l with
  | false =>
    have HV : Hid ((pwV L l ant t).1 = 0 ∧ (pwV L l ant t).2 = 0 ∧ pwOk L l ant t = false) := by show _ ∧ _ ∧ _; simp [pwV, pwOk, hg]
    have HG : Hid (∀ w, AntsAt w A l → Calls Try.prog 14 #[.agg #[.int .i64 L, .slice A l.length c]] w fun e w' => e = .returned (.bool false) ∧ Below w.heap.size w w') := fun w h => by
      rw [← hg]; exact isRod_any L A c l w h
    clear hg
    go_enter Try.func39, Try.ntmps39
    go_wp2_with fail
    refine (HG.out _ HA.out).mono ?_
    rintro e w1 ⟨rfl, hb⟩
    have r0 : w1.cell? ⟨w.heap.size + 1, 0, none⟩ = some (.int .i64 0) := by rw [hb.cell (p := ⟨w.heap.size + 1, 0, none⟩) (by simp)]; simp [go_sem]
    have r1 : w1.cell? ⟨w.heap.size + 1, 1, none⟩ = some (.int .i64 0) := by rw [hb.cell (p := ⟨w.heap.size + 1, 1, none⟩) (by simp)]; simp [go_sem]
    have f0 : w1.frozen? ⟨w.heap.size + 1, 0, none⟩ = false := by rw [hb.frozen (p := ⟨w.heap.size + 1, 0, none⟩) (by simp)]; simp [go_sem]
    have f1 : w1.frozen? ⟨w.heap.size + 1, 1, none⟩ = false := by rw [hb.frozen (p := ⟨w.heap.size + 1, 1, none⟩) (by simp)]; simp [go_sem]
    have hs : w.heap.size + 1 < w1.heap.size := by have := hb.size; simp at this; omega
    have HB := Lib.hid (((Below.refl _ w).alloc (Nat.le_refl _) (Obj.cells #[Value.int IntKind.i64 L, Value.slice A l.length c] 26)).alloc (by simp) (Obj.cells #[Value.int IntKind.i64 0, Value.int IntKind.i64 0] 42) |>.trans (hb.mono (by simp; omega)))
    have c0 : w1.cell? ⟨w.heap.size, 0, none⟩ = some (.int .i64 L) := by rw [hb.cell (p := ⟨w.heap.size, 0, none⟩) (by simp; omega)]; simp [go_sem]
    have c1 : w1.cell? ⟨w.heap.size, 1, none⟩ = some (.slice A l.length c) := by rw [hb.cell (p := ⟨w.heap.size, 1, none⟩) (by simp; omega)]; simp [go_sem]
    have HA1 := Lib.hid (HA.out.below hb)
    clear hb
    go_wp2
    refine bodyPost_ret (v := .tuple #[.agg #[.int .i64 0, .int .i64 0], .bool false]) (by simp [results, Try.results39, go_sem, r0, r1]) rfl ⟨ret_ab HV.out.1.symm HV.out.2.1.symm HV.out.2.2.symm, ?_⟩
    exact (HB.out.setCell (by simp) _).setCell (by simp) _
  | true =>
    have HG : Hid (∀ w, AntsAt w A l → Calls Try.prog 14 #[.agg #[.int .i64 L, .slice A l.length c]] w fun e w' => e = .returned (.bool true) ∧ Below w.heap.size w w') := fun w h => by
      rw [← hg]; exact isRod_any L A c l w h
    cases hh : hasB l.length ant with
    | false =>
      have HV : Hid ((pwV L l ant t).1 = 0 ∧ (pwV L l ant t).2 = 0 ∧ pwOk L l ant t = false) := by show _ ∧ _ ∧ _; simp [pwV, pwOk, hh]
      have HH : Hid (∀ w, Calls Try.prog 57 #[.agg #[.int .i64 L, .slice A l.length c], .int .i64 ant] w fun e w' => e = .returned (.bool false) ∧ Below w.heap.size w w') := fun w => hasAnt_at L A l.length c ant false hh w
      clear hg hh
      go_enter Try.func39, Try.ntmps39
      go_wp2_with fail
      refine (HG.out _ HA.out).mono ?_
      rintro e w1 ⟨rfl, hb⟩
      have r0 : w1.cell? ⟨w.heap.size + 1, 0, none⟩ = some (.int .i64 0) := by rw [hb.cell (p := ⟨w.heap.size + 1, 0, none⟩) (by simp)]; simp [go_sem]
      have r1 : w1.cell? ⟨w.heap.size + 1, 1, none⟩ = some (.int .i64 0) := by rw [hb.cell (p := ⟨w.heap.size + 1, 1, none⟩) (by simp)]; simp [go_sem]
      have f0 : w1.frozen? ⟨w.heap.size + 1, 0, none⟩ = false := by rw [hb.frozen (p := ⟨w.heap.size + 1, 0, none⟩) (by simp)]; simp [go_sem]
      have f1 : w1.frozen? ⟨w.heap.size + 1, 1, none⟩ = false := by rw [hb.frozen (p := ⟨w.heap.size + 1, 1, none⟩) (by simp)]; simp [go_sem]
      have hs : w.heap.size + 1 < w1.heap.size := by have := hb.size; simp at this; omega
      have HB := Lib.hid (((Below.refl _ w).alloc (Nat.le_refl _) (Obj.cells #[Value.int IntKind.i64 L, Value.slice A l.length c] 26)).alloc (by simp) (Obj.cells #[Value.int IntKind.i64 0, Value.int IntKind.i64 0] 42) |>.trans (hb.mono (by simp; omega)))
      have c0 : w1.cell? ⟨w.heap.size, 0, none⟩ = some (.int .i64 L) := by rw [hb.cell (p := ⟨w.heap.size, 0, none⟩) (by simp; omega)]; simp [go_sem]
      have c1 : w1.cell? ⟨w.heap.size, 1, none⟩ = some (.slice A l.length c) := by rw [hb.cell (p := ⟨w.heap.size, 1, none⟩) (by simp; omega)]; simp [go_sem]
      have HA1 := Lib.hid (HA.out.below hb)
      clear hb
      go_wp2_with fail
      refine (HH.out _).mono ?_
      rintro e w2 ⟨rfl, hb2⟩
      have r0 := Below.cell_some hb2 r0
      have r1 := Below.cell_some hb2 r1
      have f0 := (hb2.frozen (p := ⟨w.heap.size + 1, 0, none⟩) hs).trans f0
      have f1 := (hb2.frozen (p := ⟨w.heap.size + 1, 1, none⟩) hs).trans f1
      have c0 := Below.cell_some hb2 c0
      have c1 := Below.cell_some hb2 c1
      have HB := Lib.hid (HB.out.trans (hb2.mono HB.out.size))
      have hs : w.heap.size + 1 < w2.heap.size := Nat.lt_of_lt_of_le hs hb2.size
      have HA1 := Lib.hid (HA1.out.below hb2)
      clear hb2
      go_wp2
      refine bodyPost_ret (v := .tuple #[.agg #[.int .i64 0, .int .i64 0], .bool false]) (by simp [results, Try.results39, go_sem, r0, r1]) rfl ⟨ret_ab HV.out.1.symm HV.out.2.1.symm HV.out.2.2.symm, ?_⟩
      exact (HB.out.setCell (by simp) _).setCell (by simp) _
    | true =>
      have HH : Hid (∀ w, Calls Try.prog 57 #[.agg #[.int .i64 L, .slice A l.length c], .int .i64 ant] w fun e w' => e = .returned (.bool true) ∧ Below w.heap.size w w') := fun w => hasAnt_at L A l.length c ant true hh w
      cases ht : timeB t with
      | false =>
        have HV : Hid ((pwV L l ant t).1 = 0 ∧ (pwV L l ant t).2 = 0 ∧ pwOk L l ant t = false) := by show _ ∧ _ ∧ _; simp [pwV, pwOk, ht]
        have HT : Hid (∀ w, Calls Try.prog 25 #[.int .i64 t] w fun e w' => e = .returned (.bool false) ∧ Below w.heap.size w w') := fun w => isRodTime_at t false ht w
        clear hg hh ht
        go_enter Try.func39, Try.ntmps39
        go_wp2_with fail
        refine (HG.out _ HA.out).mono ?_
        rintro e w1 ⟨rfl, hb⟩
        have r0 : w1.cell? ⟨w.heap.size + 1, 0, none⟩ = some (.int .i64 0) := by rw [hb.cell (p := ⟨w.heap.size + 1, 0, none⟩) (by simp)]; simp [go_sem]
        have r1 : w1.cell? ⟨w.heap.size + 1, 1, none⟩ = some (.int .i64 0) := by rw [hb.cell (p := ⟨w.heap.size + 1, 1, none⟩) (by simp)]; simp [go_sem]
        have f0 : w1.frozen? ⟨w.heap.size + 1, 0, none⟩ = false := by rw [hb.frozen (p := ⟨w.heap.size + 1, 0, none⟩) (by simp)]; simp [go_sem]
        have f1 : w1.frozen? ⟨w.heap.size + 1, 1, none⟩ = false := by rw [hb.frozen (p := ⟨w.heap.size + 1, 1, none⟩) (by simp)]; simp [go_sem]
        have hs : w.heap.size + 1 < w1.heap.size := by have := hb.size; simp at this; omega
        have HB := Lib.hid (((Below.refl _ w).alloc (Nat.le_refl _) (Obj.cells #[Value.int IntKind.i64 L, Value.slice A l.length c] 26)).alloc (by simp) (Obj.cells #[Value.int IntKind.i64 0, Value.int IntKind.i64 0] 42) |>.trans (hb.mono (by simp; omega)))
        have c0 : w1.cell? ⟨w.heap.size, 0, none⟩ = some (.int .i64 L) := by rw [hb.cell (p := ⟨w.heap.size, 0, none⟩) (by simp; omega)]; simp [go_sem]
        have c1 : w1.cell? ⟨w.heap.size, 1, none⟩ = some (.slice A l.length c) := by rw [hb.cell (p := ⟨w.heap.size, 1, none⟩) (by simp; omega)]; simp [go_sem]
        have HA1 := Lib.hid (HA.out.below hb)
        clear hb
        go_wp2_with fail
        refine (HH.out _).mono ?_
        rintro e w2 ⟨rfl, hb2⟩
        have r0 := Below.cell_some hb2 r0
        have r1 := Below.cell_some hb2 r1
        have f0 := (hb2.frozen (p := ⟨w.heap.size + 1, 0, none⟩) hs).trans f0
        have f1 := (hb2.frozen (p := ⟨w.heap.size + 1, 1, none⟩) hs).trans f1
        have c0 := Below.cell_some hb2 c0
        have c1 := Below.cell_some hb2 c1
        have HB := Lib.hid (HB.out.trans (hb2.mono HB.out.size))
        have hs : w.heap.size + 1 < w2.heap.size := Nat.lt_of_lt_of_le hs hb2.size
        have HA1 := Lib.hid (HA1.out.below hb2)
        clear hb2
        go_wp2_with fail
        refine (HT.out _).mono ?_
        rintro e w3 ⟨rfl, hb3⟩
        have r0 := Below.cell_some hb3 r0
        have r1 := Below.cell_some hb3 r1
        have f0 := (hb3.frozen (p := ⟨w.heap.size + 1, 0, none⟩) hs).trans f0
        have f1 := (hb3.frozen (p := ⟨w.heap.size + 1, 1, none⟩) hs).trans f1
        have c0 := Below.cell_some hb3 c0
        have c1 := Below.cell_some hb3 c1
        have HB := Lib.hid (HB.out.trans (hb3.mono HB.out.size))
        have hs : w.heap.size + 1 < w3.heap.size := Nat.lt_of_lt_of_le hs hb3.size
        have HA1 := Lib.hid (HA1.out.below hb3)
        clear hb3
        go_wp2
        refine bodyPost_ret (v := .tuple #[.agg #[.int .i64 0, .int .i64 0], .bool false]) (by simp [results, Try.results39, go_sem, r0, r1]) rfl ⟨ret_ab HV.out.1.symm HV.out.2.1.symm HV.out.2.2.symm, ?_⟩
        exact (HB.out.setCell (by simp) _).setCell (by simp) _
      | true =>
        have HT : Hid (∀ w, Calls Try.prog 25 #[.int .i64 t] w fun e w' => e = .returned (.bool true) ∧ Below w.heap.size w w') := fun w => isRodTime_at t true ht w
        have htl := timeB_le ht
        have hn := good_len hg
        have hlen := fallAs_len hg
        have hfl := fallsOf_len hg
        have HGG := Lib.hid hg
        simp only [hasB, Bool.and_eq_true, decide_eq_true_eq] at hh
        obtain ⟨h0, h1⟩ := hh
        obtain ⟨k, rfl⟩ := Int.eq_ofNat_of_zero_le h0
        have hk : k < l.length := by omega
        have hkG : k < (fallAs L l).length := by omega
        obtain ⟨g, hgk⟩ : ∃ g, (fallAs L l)[k]? = some g := ⟨_, List.getElem?_eq_getElem hkG⟩
        have hgood := fallAs_good hg g (List.mem_of_getElem? hgk)
        have hfk : (fallsOf L l)[k]? = some (ft g) := by unfold fallsOf; rw [List.getElem?_map, hgk]; rfl
        have hfd : (fallsOf L l).getD k 0 = ft g := by rw [List.getD_eq_getElem?_getD, hfk]; rfl
        have HF3 : Hid (∀ w, AntsAt w A l → Calls Try.prog 37 #[.agg #[.int .i64 L, .slice A l.length c]] w fun e w' => ∃ A' c', e = .returned (.slice A' (fallAs L l).length c') ∧ SlOwn tripS w' w.heap.size 57 (.slice A' (fallAs L l).length c') (fallAs L l) ∧ Below w.heap.size w w') := fun w h => fallAs_any L A c l w hn h
        have HAF : Hid (∀ w, AntsAt w A l → Calls Try.prog 26 #[.agg #[.int .i64 L, .slice A l.length c], .int .i64 t] w fun e w' => ∃ A' n' c', e = .returned (.slice A' n' c') ∧ n' = (srtA (afL L t l)).length ∧ AntsOwn w' w.heap.size 42 (.slice A' n' c') (srtA (afL L t l)) ∧ Below w.heap.size w w') := fun w h => antsAfter_any L A c l t w hg htl.1 htl.2 h
        have HGO : Hid (∀ (j : Nat) x, (fallAs L l)[j]? = some x → GoodGhost x ∧ (fallsOf L l)[j]? = some (ft x)) := fun j x h => ⟨fallAs_good hg x (List.mem_of_getElem? h), by unfold fallsOf; rw [List.getElem?_map, h]; rfl⟩
        have ht' := ht
        have hg' := hg
        have hB : hasB l.length (k : Int) = true := by simp only [hasB, Bool.and_eq_true, decide_eq_true_eq]; omega
        clear hg ht h1
        obtain ⟨ga, gy, gl⟩ := g
        have hk0 : (0 : Int) ≤ (k : Int) := h0
        have hk1 : (k : Int) < ((fallAs L l).length : Int) := by omega
        by_cases hf : ft (ga, gy, gl) ≤ t
        · have HV : Hid ((pwV L l k t).1 = 0 ∧ (pwV L l k t).2 = 0 ∧ pwOk L l k t = false) := by
            have e : pwOk L l k t = false := by
              simp only [pwOk, Int.toNat_natCast, hfd, leB]
              rw [decide_eq_true hf]; simp
            exact ⟨by simp [pwV, e], by simp [pwV, e], e⟩
          have HFA : Hid (∀ w, Calls Try.prog 31 #[.agg #[.int .i64 ga, .int .i64 gy, .int .i64 gl], .int .i64 t] w fun e w' => e = .returned (.bool true) ∧ Below w.heap.size w w') := fun w => hasFallen_ft ga gy gl t true hgood (decide_eq_true hf) w
          clear hf hfd hfk hg' ht' hgood
          go_enter Try.func39, Try.ntmps39
          go_wp2_with fail
          refine (HG.out _ HA.out).mono ?_
          rintro e w1 ⟨rfl, hb⟩
          have r0 : w1.cell? ⟨w.heap.size + 1, 0, none⟩ = some (.int .i64 0) := by rw [hb.cell (p := ⟨w.heap.size + 1, 0, none⟩) (by simp)]; simp [go_sem]
          have r1 : w1.cell? ⟨w.heap.size + 1, 1, none⟩ = some (.int .i64 0) := by rw [hb.cell (p := ⟨w.heap.size + 1, 1, none⟩) (by simp)]; simp [go_sem]
          have f0 : w1.frozen? ⟨w.heap.size + 1, 0, none⟩ = false := by rw [hb.frozen (p := ⟨w.heap.size + 1, 0, none⟩) (by simp)]; simp [go_sem]
          have f1 : w1.frozen? ⟨w.heap.size + 1, 1, none⟩ = false := by rw [hb.frozen (p := ⟨w.heap.size + 1, 1, none⟩) (by simp)]; simp [go_sem]
          have hs : w.heap.size + 1 < w1.heap.size := by have := hb.size; simp at this; omega
          have HB := Lib.hid (((Below.refl _ w).alloc (Nat.le_refl _) (Obj.cells #[Value.int IntKind.i64 L, Value.slice A l.length c] 26)).alloc (by simp) (Obj.cells #[Value.int IntKind.i64 0, Value.int IntKind.i64 0] 42) |>.trans (hb.mono (by simp; omega)))
          have c0 : w1.cell? ⟨w.heap.size, 0, none⟩ = some (.int .i64 L) := by rw [hb.cell (p := ⟨w.heap.size, 0, none⟩) (by simp; omega)]; simp [go_sem]
          have c1 : w1.cell? ⟨w.heap.size, 1, none⟩ = some (.slice A l.length c) := by rw [hb.cell (p := ⟨w.heap.size, 1, none⟩) (by simp; omega)]; simp [go_sem]
          have HA1 := Lib.hid (HA.out.below hb)
          clear hb
          go_wp2_with fail
          refine (HH.out _).mono ?_
          rintro e w2 ⟨rfl, hb2⟩
          have r0 := Below.cell_some hb2 r0
          have r1 := Below.cell_some hb2 r1
          have f0 := (hb2.frozen (p := ⟨w.heap.size + 1, 0, none⟩) hs).trans f0
          have f1 := (hb2.frozen (p := ⟨w.heap.size + 1, 1, none⟩) hs).trans f1
          have c0 := Below.cell_some hb2 c0
          have c1 := Below.cell_some hb2 c1
          have HB := Lib.hid (HB.out.trans (hb2.mono HB.out.size))
          have hs : w.heap.size + 1 < w2.heap.size := Nat.lt_of_lt_of_le hs hb2.size
          have HA1 := Lib.hid (HA1.out.below hb2)
          clear hb2
          go_wp2_with fail
          refine (HT.out _).mono ?_
          rintro e w3 ⟨rfl, hb3⟩
          have r0 := Below.cell_some hb3 r0
          have r1 := Below.cell_some hb3 r1
          have f0 := (hb3.frozen (p := ⟨w.heap.size + 1, 0, none⟩) hs).trans f0
          have f1 := (hb3.frozen (p := ⟨w.heap.size + 1, 1, none⟩) hs).trans f1
          have c0 := Below.cell_some hb3 c0
          have c1 := Below.cell_some hb3 c1
          have HB := Lib.hid (HB.out.trans (hb3.mono HB.out.size))
          have hs : w.heap.size + 1 < w3.heap.size := Nat.lt_of_lt_of_le hs hb3.size
          have HA1 := Lib.hid (HA1.out.below hb3)
          clear hb3
          go_wp2_with fail
          refine (HF3.out _ HA1.out).mono ?_
          rintro e w4 ⟨A4, c4, rfl, ho4, hb4⟩
          have r0 := Below.cell_some hb4 r0
          have r1 := Below.cell_some hb4 r1
          have f0 := (hb4.frozen (p := ⟨w.heap.size + 1, 0, none⟩) hs).trans f0
          have f1 := (hb4.frozen (p := ⟨w.heap.size + 1, 1, none⟩) hs).trans f1
          have c0 := Below.cell_some hb4 c0
          have c1 := Below.cell_some hb4 c1
          have HB := Lib.hid (HB.out.trans (hb4.mono HB.out.size))
          have hs : w.heap.size + 1 < w4.heap.size := Nat.lt_of_lt_of_le hs hb4.size
          have HA1 := Lib.hid (HA1.out.below hb4)
          have hcap := own_cap ho4
          obtain ⟨b, off, rfl, l0, hc⟩ := ho4.sl.trip_at hkG
          obtain ⟨a0, a1, a2⟩ := hc k _ hgk
          simp only at a0 a1 a2
          clear hc ho4 hb4
          go_wp2_with fail
          refine (HFA.out _).mono ?_
          rintro e w5 ⟨rfl, hb5⟩
          have r0 := Below.cell_some hb5 r0
          have r1 := Below.cell_some hb5 r1
          have f0 := (hb5.frozen (p := ⟨w.heap.size + 1, 0, none⟩) hs).trans f0
          have f1 := (hb5.frozen (p := ⟨w.heap.size + 1, 1, none⟩) hs).trans f1
          have c0 := Below.cell_some hb5 c0
          have c1 := Below.cell_some hb5 c1
          have HB := Lib.hid (HB.out.trans (hb5.mono HB.out.size))
          have hs : w.heap.size + 1 < w5.heap.size := Nat.lt_of_lt_of_le hs hb5.size
          have HA1 := Lib.hid (HA1.out.below hb5)
          clear hb5
          go_wp2
          refine bodyPost_ret (v := .tuple #[.agg #[.int .i64 0, .int .i64 0], .bool false]) (by simp [results, Try.results39, go_sem, r0, r1]) rfl ⟨ret_ab HV.out.1.symm HV.out.2.1.symm HV.out.2.2.symm, ?_⟩
          exact (HB.out.setCell (by simp) _).setCell (by simp) _
        · have HV : Hid (pwV L l k t = (srtA (afL L t l)).getD (befN (fallsOf L l) t k) (0, 0) ∧ pwOk L l k t = true) := by
            have e : pwOk L l k t = true := by
              simp only [pwOk, Int.toNat_natCast, hfd, leB, hg', ht', hB]
              rw [decide_eq_false hf]; rfl
            exact ⟨by simp [pwV, e], e⟩
          have HFA : Hid (∀ w, Calls Try.prog 31 #[.agg #[.int .i64 ga, .int .i64 gy, .int .i64 gl], .int .i64 t] w fun e w' => e = .returned (.bool false) ∧ Below w.heap.size w w') := fun w => hasFallen_ft ga gy gl t false hgood (decide_eq_false hf) w
          have hwh := (where_eq hg' t k _ hfk hf).2.2
          have HWH := Lib.hid hwh
          have HX : Hid (∃ x, (srtA (afL L t l))[befN (fallsOf L l) t k]? = some x) := ⟨_, List.getElem?_eq_getElem hwh⟩
          clear hf hfd hfk hg' ht' hgood hwh
          go_enter Try.func39, Try.ntmps39
          go_wp2_with fail
          refine (HG.out _ HA.out).mono ?_
          rintro e w1 ⟨rfl, hb⟩
          have r0 : w1.cell? ⟨w.heap.size + 1, 0, none⟩ = some (.int .i64 0) := by rw [hb.cell (p := ⟨w.heap.size + 1, 0, none⟩) (by simp)]; simp [go_sem]
          have r1 : w1.cell? ⟨w.heap.size + 1, 1, none⟩ = some (.int .i64 0) := by rw [hb.cell (p := ⟨w.heap.size + 1, 1, none⟩) (by simp)]; simp [go_sem]
          have f0 : w1.frozen? ⟨w.heap.size + 1, 0, none⟩ = false := by rw [hb.frozen (p := ⟨w.heap.size + 1, 0, none⟩) (by simp)]; simp [go_sem]
          have f1 : w1.frozen? ⟨w.heap.size + 1, 1, none⟩ = false := by rw [hb.frozen (p := ⟨w.heap.size + 1, 1, none⟩) (by simp)]; simp [go_sem]
          have hs : w.heap.size + 1 < w1.heap.size := by have := hb.size; simp at this; omega
          have HB := Lib.hid (((Below.refl _ w).alloc (Nat.le_refl _) (Obj.cells #[Value.int IntKind.i64 L, Value.slice A l.length c] 26)).alloc (by simp) (Obj.cells #[Value.int IntKind.i64 0, Value.int IntKind.i64 0] 42) |>.trans (hb.mono (by simp; omega)))
          have c0 : w1.cell? ⟨w.heap.size, 0, none⟩ = some (.int .i64 L) := by rw [hb.cell (p := ⟨w.heap.size, 0, none⟩) (by simp; omega)]; simp [go_sem]
          have c1 : w1.cell? ⟨w.heap.size, 1, none⟩ = some (.slice A l.length c) := by rw [hb.cell (p := ⟨w.heap.size, 1, none⟩) (by simp; omega)]; simp [go_sem]
          have HA1 := Lib.hid (HA.out.below hb)
          clear hb
          go_wp2_with fail
          refine (HH.out _).mono ?_
          rintro e w2 ⟨rfl, hb2⟩
          have r0 := Below.cell_some hb2 r0
          have r1 := Below.cell_some hb2 r1
          have f0 := (hb2.frozen (p := ⟨w.heap.size + 1, 0, none⟩) hs).trans f0
          have f1 := (hb2.frozen (p := ⟨w.heap.size + 1, 1, none⟩) hs).trans f1
          have c0 := Below.cell_some hb2 c0
          have c1 := Below.cell_some hb2 c1
          have HB := Lib.hid (HB.out.trans (hb2.mono HB.out.size))
          have hs : w.heap.size + 1 < w2.heap.size := Nat.lt_of_lt_of_le hs hb2.size
          have HA1 := Lib.hid (HA1.out.below hb2)
          clear hb2
          go_wp2_with fail
          refine (HT.out _).mono ?_
          rintro e w3 ⟨rfl, hb3⟩
          have r0 := Below.cell_some hb3 r0
          have r1 := Below.cell_some hb3 r1
          have f0 := (hb3.frozen (p := ⟨w.heap.size + 1, 0, none⟩) hs).trans f0
          have f1 := (hb3.frozen (p := ⟨w.heap.size + 1, 1, none⟩) hs).trans f1
          have c0 := Below.cell_some hb3 c0
          have c1 := Below.cell_some hb3 c1
          have HB := Lib.hid (HB.out.trans (hb3.mono HB.out.size))
          have hs : w.heap.size + 1 < w3.heap.size := Nat.lt_of_lt_of_le hs hb3.size
          have HA1 := Lib.hid (HA1.out.below hb3)
          clear hb3
          go_wp2_with fail
          refine (HF3.out _ HA1.out).mono ?_
          rintro e w4 ⟨A4, c4, rfl, ho4, hb4⟩
          have r0 := Below.cell_some hb4 r0
          have r1 := Below.cell_some hb4 r1
          have f0 := (hb4.frozen (p := ⟨w.heap.size + 1, 0, none⟩) hs).trans f0
          have f1 := (hb4.frozen (p := ⟨w.heap.size + 1, 1, none⟩) hs).trans f1
          have c0 := Below.cell_some hb4 c0
          have c1 := Below.cell_some hb4 c1
          have HB := Lib.hid (HB.out.trans (hb4.mono HB.out.size))
          have hs : w.heap.size + 1 < w4.heap.size := Nat.lt_of_lt_of_le hs hb4.size
          have HA1 := Lib.hid (HA1.out.below hb4)
          have hcap := own_cap ho4
          have hk2 : (k : Int) ≤ (c4 : Int) := by omega
          have HSL := Lib.hid ho4.sl
          obtain ⟨b, off, rfl, l0, hc⟩ := ho4.sl.trip_at hkG
          obtain ⟨a0, a1, a2⟩ := hc k _ hgk
          simp only at a0 a1 a2
          clear hc ho4 hb4
          go_wp2_with fail
          refine (HFA.out _).mono ?_
          rintro e w5 ⟨rfl, hb5⟩
          have r0 := Below.cell_some hb5 r0
          have r1 := Below.cell_some hb5 r1
          have f0 := (hb5.frozen (p := ⟨w.heap.size + 1, 0, none⟩) hs).trans f0
          have f1 := (hb5.frozen (p := ⟨w.heap.size + 1, 1, none⟩) hs).trans f1
          have c0 := Below.cell_some hb5 c0
          have c1 := Below.cell_some hb5 c1
          have HB := Lib.hid (HB.out.trans (hb5.mono HB.out.size))
          have hs : w.heap.size + 1 < w5.heap.size := Nat.lt_of_lt_of_le hs hb5.size
          have HA1 := Lib.hid (HA1.out.below hb5)
          have HSL := Lib.hid (HSL.out.below hb5)
          have R0 := Lib.hid r0
          have R1 := Lib.hid r1
          have F0 := Lib.hid f0
          have F1 := Lib.hid f1
          have C0 := Lib.hid c0
          have C1 := Lib.hid c1
          clear hb5 a0 a1 a2
          go_wp2
          go_loopw [9, 40] (fun s i wr => ∃ j : Nat, j ≤ k ∧ i = .int .i64 j ∧ s = .int .i64 ((befN (fallsOf L l) t j : Nat) : Int) ∧ Below w5.heap.size w5 wr)
            (fun _ i _ => k - (intOf i).toNat)
          case atStart => exact ⟨0, Nat.zero_le _, rfl, rfl, Below.refl _ _⟩
          case round =>
            clear c0 c1 r0 r1 f0 f1
            obtain ⟨j, hj, rfl, rfl, hbr⟩ := hrel
            have HBr := Lib.hid hbr
            have hsr := hbr.size
            have hble := bef_le (fallsOf L l) t j
            by_cases hjk : j < k
            · have HSr := Lib.hid (HSL.out.below hbr)
              clear hbr
              obtain ⟨b', off', he, l0', hc'⟩ := HSr.out.trip_at (show j < (fallAs L l).length by omega)
              injection he with he
              injection he with e1 e2 _
              subst e1; subst e2
              obtain ⟨x, hx⟩ : ∃ x, (fallAs L l)[j]? = some x := ⟨_, List.getElem?_eq_getElem (by omega)⟩
              obtain ⟨b0, b1, b2⟩ := hc' j _ hx
              obtain ⟨hgx, hfx⟩ := HGO.out j x hx
              have HSN := Lib.hid (bef_snoc (fallsOf L l) t j _ hfx)
              obtain ⟨xa, xy, xl⟩ := x
              simp only at b0 b1 b2
              have hjk2 : (j : Int) < (k : Int) := by omega
              have hw : IntKind.i64.wrap (((befN (fallsOf L l) t j : Nat) : Int) + 1) = ((befN (fallsOf L l) t j : Nat) : Int) + 1 := IntWalk.i64_in _ (by omega)
              by_cases hfj : ft (xa, xy, xl) ≤ t
              · have HFJ : Hid (∀ w, Calls Try.prog 31 #[.agg #[.int .i64 xa, .int .i64 xy, .int .i64 xl], .int .i64 t] w fun e w' => e = .returned (.bool true) ∧ Below w.heap.size w w') := fun w => hasFallen_ft xa xy xl t true hgx (decide_eq_true hfj) w
                have HSN2 : Hid (befN (fallsOf L l) t (j + 1) = befN (fallsOf L l) t j) := by show _ = _; rw [HSN.out, if_pos hfj]; rfl
                clear hc' hx hgx hfx hfj
                generalize befN (fallsOf L l) t j = bj at *
                go_wp2_with fail
                refine (HFJ.out _).mono ?_
                rintro e w6 ⟨rfl, hb6⟩
                go_wp2
                go_roundw
                case rel => exact ⟨j + 1, by omega, by go_num, by rw [HSN2.out], HBr.out.trans ((((Below.refl _ _).alloc (Nat.le_refl _) _).trans (hb6.mono (by simp))).mono hsr)⟩
                case measure => simp [intOf]; omega
              · have HFJ : Hid (∀ w, Calls Try.prog 31 #[.agg #[.int .i64 xa, .int .i64 xy, .int .i64 xl], .int .i64 t] w fun e w' => e = .returned (.bool false) ∧ Below w.heap.size w w') := fun w => hasFallen_ft xa xy xl t false hgx (decide_eq_false hfj) w
                have HSN2 : Hid (befN (fallsOf L l) t (j + 1) = befN (fallsOf L l) t j + 1) := by show _ = _; rw [HSN.out, if_neg hfj]
                clear hc' hx hgx hfx hfj
                generalize befN (fallsOf L l) t j = bj at *
                go_wp2_with fail
                refine (HFJ.out _).mono ?_
                rintro e w6 ⟨rfl, hb6⟩
                go_wp2
                go_roundw
                case rel => exact ⟨j + 1, by omega, by go_num, by rw [HSN2.out]; go_num, HBr.out.trans ((((Below.refl _ _).alloc (Nat.le_refl _) _).trans (hb6.mono (by simp))).mono hsr)⟩
                case measure => simp [intOf]; omega
            · obtain rfl : j = k := by omega
              obtain ⟨x, hx⟩ := HX.out
              have hxd := getD_of (d := (0, 0)) hx
              have HXD := Lib.hid hxd
              have hb9 := HWH.out
              have r0 := R0.out
              have r1 := R1.out
              have f0 := F0.out
              have f1 := F1.out
              have c0 := C0.out
              have c1 := C1.out
              have r0 := Below.cell_some hbr r0
              have r1 := Below.cell_some hbr r1
              have f0 := (hbr.frozen (p := ⟨w.heap.size + 1, 0, none⟩) hs).trans f0
              have f1 := (hbr.frozen (p := ⟨w.heap.size + 1, 1, none⟩) hs).trans f1
              have c0 := Below.cell_some hbr c0
              have c1 := Below.cell_some hbr c1
              have HB := Lib.hid (HB.out.trans (hbr.mono HB.out.size))
              have hs : w.heap.size + 1 < wr.heap.size := Nat.lt_of_lt_of_le hs hbr.size
              have HA1 := Lib.hid (HA1.out.below hbr)
              clear hbr hxd
              generalize befN (fallsOf L l) t j = bk at *
              go_wp2_with fail
              refine (HAF.out _ HA1.out).mono ?_
              rintro e w6 ⟨A6, n6, c6, rfl, hn6, ho6, hb6⟩
              have r0 := Below.cell_some hb6 r0
              have r1 := Below.cell_some hb6 r1
              have f0 := (hb6.frozen (p := ⟨w.heap.size + 1, 0, none⟩) hs).trans f0
              have f1 := (hb6.frozen (p := ⟨w.heap.size + 1, 1, none⟩) hs).trans f1
              have c0 := Below.cell_some hb6 c0
              have c1 := Below.cell_some hb6 c1
              have HB := Lib.hid (HB.out.trans (hb6.mono HB.out.size))
              have hs : w.heap.size + 1 < w6.heap.size := Nat.lt_of_lt_of_le hs hb6.size
              have HA1 := Lib.hid (HA1.out.below hb6)
              have hL6 := ho6.ants
              generalize srtA (afL L t l) = m at *
              subst hn6
              obtain ⟨b6, off6, rfl, l6, hc6⟩ := hL6.at_ hb9
              obtain ⟨y0, y1⟩ := hc6 bk hb9
              rw [HXD.out] at y0 y1
              obtain ⟨x1, x2⟩ := x
              simp only at y0 y1
              have hb91 : (bk : Int) < (m.length : Int) := by omega
              have HV2 : Hid ((pwV L l j t).1 = x1 ∧ (pwV L l j t).2 = x2) := by show _ ∧ _; rw [HV.out.1, HXD.out]; exact ⟨rfl, rfl⟩
              clear hc6 ho6 hb6 hL6 hx
              go_wp2
              refine bodyPost_ret (v := .tuple #[.agg #[.int .i64 x1, .int .i64 x2], .bool true]) (by simp [results, Try.results39, go_sem, r0, r1]) rfl ⟨ret_ab HV2.out.1.symm HV2.out.2.symm HV.out.2.symm, ?_⟩
              exact (HB.out.setCell (by simp) _).setCell (by simp) _


end Go.Proofs.Ythfacfoclekcbaa
