/- BoxPlace, BoxWay on both sides. -/
import Derived.Test.YthokkdipbckolaaBoxG
namespace Go.Proofs.Ythokkdipbckolaa
open Go.RowKit

def bpOk (L : Int) (l : List (Int × Int)) (ant t : Int) : Bool := boxB L l && (hasB l.length ant && timeB t)
def bpX (L : Int) (l : List (Int × Int)) (ant t : Int) : Int × Int := if bpOk L l ant t then (bxA L t l).getD ant.toNat (0, 0) else (0, 0)
theorem bp_no {L : Int} {l : List (Int × Int)} {ant t : Int} (h : bpOk L l ant t = false) : bpX L l ant t = (0, 0) := by unfold bpX; rw [h]; rfl
theorem bp_yes {L : Int} {l : List (Int × Int)} {ant t : Int} (h : bpOk L l ant t = true) : bpX L l ant t = (bxA L t l).getD ant.toNat (0, 0) := by unfold bpX; rw [h]; rfl
theorem ret_aggb {a b c d : Int} {x y : Bool} (h : a = b) (h2 : c = d) (h3 : x = y) : Ending.returned (.tuple #[.agg #[.int .i64 a, .int .i64 c], .bool x]) = .returned (.tuple #[.agg #[.int .i64 b, .int .i64 d], .bool y]) := by rw [h, h2, h3]
theorem ret_ib {a b : Int} {x y : Bool} (h : a = b) (h3 : x = y) : Ending.returned (.tuple #[.int .i64 a, .bool x]) = .returned (.tuple #[.int .i64 b, .bool y]) := by rw [h, h3]

set_option maxRecDepth 100000 in
set_option maxHeartbeats 1000000 in
theorem antInBox_any (L : Int) (A : Option Addr) (c : Nat) (l : List (Int × Int)) (ant t : Int) (w : World) (hA : AntsAt w A l) :
    Calls Try.prog 52 #[.agg #[.int .i64 L, .slice A l.length c], .int .i64 ant, .int .i64 t] w fun e w' => e = .returned (.tuple #[.agg #[.int .i64 (bpX L l ant t).1, .int .i64 (bpX L l ant t).2], .bool (bpOk L l ant t)]) ∧ Below w.heap.size w w' := by
  have HA := Lib.hid ((hA.alloc (Obj.cells #[Value.int IntKind.i64 L, Value.slice A l.length c] 29)).alloc (Obj.cells #[Value.int IntKind.i64 0, Value.int IntKind.i64 0] 53))
  clear hA
  cases hg : boxB L l with
  | false =>
    have HV : Hid (bpOk L l ant t = false) := by show _ = _; unfold bpOk; rw [hg]; rfl
    have HX := Lib.hid (bp_no HV.out)
    have HG : Hid (∀ w, AntsAt w A l → Calls Try.prog 15 #[.agg #[.int .i64 L, .slice A l.length c]] w fun e w' => e = .returned (.bool false) ∧ Below w.heap.size w w') := fun w h => by rw [← hg]; exact isBox_any L A c l w h
    clear hg
    go_enter Try.func52, Try.ntmps52
    go_wp2_with fail
    refine (HG.out _ HA.out).mono ?_
    rintro e w1 ⟨rfl, hb⟩
    have hs : w.heap.size + 2 ≤ w1.heap.size := by have := hb.size; simp at this; omega
    have c0 : w1.cell? ⟨w.heap.size, 0, none⟩ = some (.int .i64 L) := by rw [hb.cell (p := ⟨w.heap.size, 0, none⟩) (by simp; omega)]; simp [go_sem]
    have c1 : w1.cell? ⟨w.heap.size, 1, none⟩ = some (.slice A l.length c) := by rw [hb.cell (p := ⟨w.heap.size, 1, none⟩) (by simp; omega)]; simp [go_sem]
    have r0 : w1.cell? ⟨w.heap.size + 1, 0, none⟩ = some (.int .i64 0) := by rw [hb.cell (p := ⟨w.heap.size + 1, 0, none⟩) (by simp)]; simp [go_sem]
    have r1 : w1.cell? ⟨w.heap.size + 1, 1, none⟩ = some (.int .i64 0) := by rw [hb.cell (p := ⟨w.heap.size + 1, 1, none⟩) (by simp)]; simp [go_sem]
    have f0 : w1.frozen? ⟨w.heap.size + 1, 0, none⟩ = false := by rw [hb.frozen (p := ⟨w.heap.size + 1, 0, none⟩) (by simp)]; simp [go_sem]
    have f1 : w1.frozen? ⟨w.heap.size + 1, 1, none⟩ = false := by rw [hb.frozen (p := ⟨w.heap.size + 1, 1, none⟩) (by simp)]; simp [go_sem]
    have HB := Lib.hid (((Below.refl _ w).alloc (Nat.le_refl _) (Obj.cells #[Value.int IntKind.i64 L, Value.slice A l.length c] 29)).alloc (by simp) (Obj.cells #[Value.int IntKind.i64 0, Value.int IntKind.i64 0] 53) |>.trans (hb.mono (by simp; omega)))
    have HA1 := Lib.hid (HA.out.below hb)
    clear hb
    go_wp2
    refine bodyPost_ret (v := .tuple #[.agg #[.int .i64 0, .int .i64 0], .bool false]) (by simp [results, Try.results52, go_sem, r0, r1]) rfl ⟨ret_aggb (by rw [HX.out]) (by rw [HX.out]) HV.out.symm, ?_⟩
    exact (HB.out.setCell (by simp) _).setCell (by simp) _
  | true =>
    cases hh : hasB l.length ant with
    | false =>
      have HV : Hid (bpOk L l ant t = false) := by show _ = _; unfold bpOk; rw [hg, hh]; rfl
      have HX := Lib.hid (bp_no HV.out)
      have HG : Hid (∀ w, AntsAt w A l → Calls Try.prog 15 #[.agg #[.int .i64 L, .slice A l.length c]] w fun e w' => e = .returned (.bool true) ∧ Below w.heap.size w w') := fun w h => by rw [← hg]; exact isBox_any L A c l w h
      have HH : Hid (∀ w, Calls Try.prog 73 #[.agg #[.int .i64 L, .slice A l.length c], .int .i64 ant] w fun e w' => e = .returned (.bool false) ∧ Below w.heap.size w w') := fun w => hasAnt_at L A l.length c ant false hh w
      clear hg hh
      go_enter Try.func52, Try.ntmps52
      go_wp2_with fail
      refine (HG.out _ HA.out).mono ?_
      rintro e w1 ⟨rfl, hb⟩
      have hs : w.heap.size + 2 ≤ w1.heap.size := by have := hb.size; simp at this; omega
      have c0 : w1.cell? ⟨w.heap.size, 0, none⟩ = some (.int .i64 L) := by rw [hb.cell (p := ⟨w.heap.size, 0, none⟩) (by simp; omega)]; simp [go_sem]
      have c1 : w1.cell? ⟨w.heap.size, 1, none⟩ = some (.slice A l.length c) := by rw [hb.cell (p := ⟨w.heap.size, 1, none⟩) (by simp; omega)]; simp [go_sem]
      have r0 : w1.cell? ⟨w.heap.size + 1, 0, none⟩ = some (.int .i64 0) := by rw [hb.cell (p := ⟨w.heap.size + 1, 0, none⟩) (by simp)]; simp [go_sem]
      have r1 : w1.cell? ⟨w.heap.size + 1, 1, none⟩ = some (.int .i64 0) := by rw [hb.cell (p := ⟨w.heap.size + 1, 1, none⟩) (by simp)]; simp [go_sem]
      have f0 : w1.frozen? ⟨w.heap.size + 1, 0, none⟩ = false := by rw [hb.frozen (p := ⟨w.heap.size + 1, 0, none⟩) (by simp)]; simp [go_sem]
      have f1 : w1.frozen? ⟨w.heap.size + 1, 1, none⟩ = false := by rw [hb.frozen (p := ⟨w.heap.size + 1, 1, none⟩) (by simp)]; simp [go_sem]
      have HB := Lib.hid (((Below.refl _ w).alloc (Nat.le_refl _) (Obj.cells #[Value.int IntKind.i64 L, Value.slice A l.length c] 29)).alloc (by simp) (Obj.cells #[Value.int IntKind.i64 0, Value.int IntKind.i64 0] 53) |>.trans (hb.mono (by simp; omega)))
      have HA1 := Lib.hid (HA.out.below hb)
      clear hb
      go_wp2_with fail
      refine (HH.out _).mono ?_
      rintro e w2 ⟨rfl, hb⟩
      have hs : w.heap.size + 2 ≤ w2.heap.size := Nat.le_trans hs hb.size
      have c0 := Below.cell_some hb c0
      have c1 := Below.cell_some hb c1
      have r0 := Below.cell_some hb r0
      have r1 := Below.cell_some hb r1
      have f0 := (hb.frozen (p := ⟨w.heap.size + 1, 0, none⟩) (by simp only; omega)).trans f0
      have f1 := (hb.frozen (p := ⟨w.heap.size + 1, 1, none⟩) (by simp only; omega)).trans f1
      have HA1 := Lib.hid (HA1.out.below hb)
      have HB := Lib.hid (HB.out.trans (hb.mono HB.out.size))
      clear hb
      go_wp2
      refine bodyPost_ret (v := .tuple #[.agg #[.int .i64 0, .int .i64 0], .bool false]) (by simp [results, Try.results52, go_sem, r0, r1]) rfl ⟨ret_aggb (by rw [HX.out]) (by rw [HX.out]) HV.out.symm, ?_⟩
      exact (HB.out.setCell (by simp) _).setCell (by simp) _
    | true =>
      cases ht : timeB t with
      | false =>
        have HV : Hid (bpOk L l ant t = false) := by show _ = _; unfold bpOk; rw [hg, hh, ht]; rfl
        have HX := Lib.hid (bp_no HV.out)
        have HG : Hid (∀ w, AntsAt w A l → Calls Try.prog 15 #[.agg #[.int .i64 L, .slice A l.length c]] w fun e w' => e = .returned (.bool true) ∧ Below w.heap.size w w') := fun w h => by rw [← hg]; exact isBox_any L A c l w h
        have HH : Hid (∀ w, Calls Try.prog 73 #[.agg #[.int .i64 L, .slice A l.length c], .int .i64 ant] w fun e w' => e = .returned (.bool true) ∧ Below w.heap.size w w') := fun w => hasAnt_at L A l.length c ant true hh w
        have HT : Hid (∀ w, Calls Try.prog 47 #[.int .i64 t] w fun e w' => e = .returned (.bool false) ∧ Below w.heap.size w w') := fun w => isRodTime_at t false ht w
        clear hg hh ht
        go_enter Try.func52, Try.ntmps52
        go_wp2_with fail
        refine (HG.out _ HA.out).mono ?_
        rintro e w1 ⟨rfl, hb⟩
        have hs : w.heap.size + 2 ≤ w1.heap.size := by have := hb.size; simp at this; omega
        have c0 : w1.cell? ⟨w.heap.size, 0, none⟩ = some (.int .i64 L) := by rw [hb.cell (p := ⟨w.heap.size, 0, none⟩) (by simp; omega)]; simp [go_sem]
        have c1 : w1.cell? ⟨w.heap.size, 1, none⟩ = some (.slice A l.length c) := by rw [hb.cell (p := ⟨w.heap.size, 1, none⟩) (by simp; omega)]; simp [go_sem]
        have r0 : w1.cell? ⟨w.heap.size + 1, 0, none⟩ = some (.int .i64 0) := by rw [hb.cell (p := ⟨w.heap.size + 1, 0, none⟩) (by simp)]; simp [go_sem]
        have r1 : w1.cell? ⟨w.heap.size + 1, 1, none⟩ = some (.int .i64 0) := by rw [hb.cell (p := ⟨w.heap.size + 1, 1, none⟩) (by simp)]; simp [go_sem]
        have f0 : w1.frozen? ⟨w.heap.size + 1, 0, none⟩ = false := by rw [hb.frozen (p := ⟨w.heap.size + 1, 0, none⟩) (by simp)]; simp [go_sem]
        have f1 : w1.frozen? ⟨w.heap.size + 1, 1, none⟩ = false := by rw [hb.frozen (p := ⟨w.heap.size + 1, 1, none⟩) (by simp)]; simp [go_sem]
        have HB := Lib.hid (((Below.refl _ w).alloc (Nat.le_refl _) (Obj.cells #[Value.int IntKind.i64 L, Value.slice A l.length c] 29)).alloc (by simp) (Obj.cells #[Value.int IntKind.i64 0, Value.int IntKind.i64 0] 53) |>.trans (hb.mono (by simp; omega)))
        have HA1 := Lib.hid (HA.out.below hb)
        clear hb
        go_wp2_with fail
        refine (HH.out _).mono ?_
        rintro e w2 ⟨rfl, hb⟩
        have hs : w.heap.size + 2 ≤ w2.heap.size := Nat.le_trans hs hb.size
        have c0 := Below.cell_some hb c0
        have c1 := Below.cell_some hb c1
        have r0 := Below.cell_some hb r0
        have r1 := Below.cell_some hb r1
        have f0 := (hb.frozen (p := ⟨w.heap.size + 1, 0, none⟩) (by simp only; omega)).trans f0
        have f1 := (hb.frozen (p := ⟨w.heap.size + 1, 1, none⟩) (by simp only; omega)).trans f1
        have HA1 := Lib.hid (HA1.out.below hb)
        have HB := Lib.hid (HB.out.trans (hb.mono HB.out.size))
        clear hb
        go_wp2_with fail
        refine (HT.out _).mono ?_
        rintro e w3 ⟨rfl, hb⟩
        have hs : w.heap.size + 2 ≤ w3.heap.size := Nat.le_trans hs hb.size
        have c0 := Below.cell_some hb c0
        have c1 := Below.cell_some hb c1
        have r0 := Below.cell_some hb r0
        have r1 := Below.cell_some hb r1
        have f0 := (hb.frozen (p := ⟨w.heap.size + 1, 0, none⟩) (by simp only; omega)).trans f0
        have f1 := (hb.frozen (p := ⟨w.heap.size + 1, 1, none⟩) (by simp only; omega)).trans f1
        have HA1 := Lib.hid (HA1.out.below hb)
        have HB := Lib.hid (HB.out.trans (hb.mono HB.out.size))
        clear hb
        go_wp2
        refine bodyPost_ret (v := .tuple #[.agg #[.int .i64 0, .int .i64 0], .bool false]) (by simp [results, Try.results52, go_sem, r0, r1]) rfl ⟨ret_aggb (by rw [HX.out]) (by rw [HX.out]) HV.out.symm, ?_⟩
        exact (HB.out.setCell (by simp) _).setCell (by simp) _
      | true =>
        have HV : Hid (bpOk L l ant t = true) := by show _ = _; unfold bpOk; rw [hg, hh, ht]; rfl
        have HX := Lib.hid (bp_yes HV.out)
        have hx : 0 ≤ ant ∧ ant < (l.length : Int) := by unfold hasB at hh; simpa using hh
        have HBA : Hid (∀ w, AntsAt w A l → Calls Try.prog 48 #[.agg #[.int .i64 L, .slice A l.length c], .int .i64 t] w fun e w' => ∃ A' c', e = .returned (.slice A' l.length c') ∧ SlOwn pairS w' w.heap.size 53 (.slice A' l.length c') (bxA L t l) ∧ Below w.heap.size w w') := fun w h => boxAnts_any L A c l t w (boxB_good hg) ⟨(timeB_le ht).1, by have := timeB_le ht; omega⟩ h
        have hlen := bxA_len L t l
        have HG : Hid (∀ w, AntsAt w A l → Calls Try.prog 15 #[.agg #[.int .i64 L, .slice A l.length c]] w fun e w' => e = .returned (.bool true) ∧ Below w.heap.size w w') := fun w h => by rw [← hg]; exact isBox_any L A c l w h
        have HH : Hid (∀ w, Calls Try.prog 73 #[.agg #[.int .i64 L, .slice A l.length c], .int .i64 ant] w fun e w' => e = .returned (.bool true) ∧ Below w.heap.size w w') := fun w => hasAnt_at L A l.length c ant true hh w
        have HT : Hid (∀ w, Calls Try.prog 47 #[.int .i64 t] w fun e w' => e = .returned (.bool true) ∧ Below w.heap.size w w') := fun w => isRodTime_at t true ht w
        clear hg hh ht
        go_enter Try.func52, Try.ntmps52
        go_wp2_with fail
        refine (HG.out _ HA.out).mono ?_
        rintro e w1 ⟨rfl, hb⟩
        have hs : w.heap.size + 2 ≤ w1.heap.size := by have := hb.size; simp at this; omega
        have c0 : w1.cell? ⟨w.heap.size, 0, none⟩ = some (.int .i64 L) := by rw [hb.cell (p := ⟨w.heap.size, 0, none⟩) (by simp; omega)]; simp [go_sem]
        have c1 : w1.cell? ⟨w.heap.size, 1, none⟩ = some (.slice A l.length c) := by rw [hb.cell (p := ⟨w.heap.size, 1, none⟩) (by simp; omega)]; simp [go_sem]
        have r0 : w1.cell? ⟨w.heap.size + 1, 0, none⟩ = some (.int .i64 0) := by rw [hb.cell (p := ⟨w.heap.size + 1, 0, none⟩) (by simp)]; simp [go_sem]
        have r1 : w1.cell? ⟨w.heap.size + 1, 1, none⟩ = some (.int .i64 0) := by rw [hb.cell (p := ⟨w.heap.size + 1, 1, none⟩) (by simp)]; simp [go_sem]
        have f0 : w1.frozen? ⟨w.heap.size + 1, 0, none⟩ = false := by rw [hb.frozen (p := ⟨w.heap.size + 1, 0, none⟩) (by simp)]; simp [go_sem]
        have f1 : w1.frozen? ⟨w.heap.size + 1, 1, none⟩ = false := by rw [hb.frozen (p := ⟨w.heap.size + 1, 1, none⟩) (by simp)]; simp [go_sem]
        have HB := Lib.hid (((Below.refl _ w).alloc (Nat.le_refl _) (Obj.cells #[Value.int IntKind.i64 L, Value.slice A l.length c] 29)).alloc (by simp) (Obj.cells #[Value.int IntKind.i64 0, Value.int IntKind.i64 0] 53) |>.trans (hb.mono (by simp; omega)))
        have HA1 := Lib.hid (HA.out.below hb)
        clear hb
        go_wp2_with fail
        refine (HH.out _).mono ?_
        rintro e w2 ⟨rfl, hb⟩
        have hs : w.heap.size + 2 ≤ w2.heap.size := Nat.le_trans hs hb.size
        have c0 := Below.cell_some hb c0
        have c1 := Below.cell_some hb c1
        have r0 := Below.cell_some hb r0
        have r1 := Below.cell_some hb r1
        have f0 := (hb.frozen (p := ⟨w.heap.size + 1, 0, none⟩) (by simp only; omega)).trans f0
        have f1 := (hb.frozen (p := ⟨w.heap.size + 1, 1, none⟩) (by simp only; omega)).trans f1
        have HA1 := Lib.hid (HA1.out.below hb)
        have HB := Lib.hid (HB.out.trans (hb.mono HB.out.size))
        clear hb
        go_wp2_with fail
        refine (HT.out _).mono ?_
        rintro e w3 ⟨rfl, hb⟩
        have hs : w.heap.size + 2 ≤ w3.heap.size := Nat.le_trans hs hb.size
        have c0 := Below.cell_some hb c0
        have c1 := Below.cell_some hb c1
        have r0 := Below.cell_some hb r0
        have r1 := Below.cell_some hb r1
        have f0 := (hb.frozen (p := ⟨w.heap.size + 1, 0, none⟩) (by simp only; omega)).trans f0
        have f1 := (hb.frozen (p := ⟨w.heap.size + 1, 1, none⟩) (by simp only; omega)).trans f1
        have HA1 := Lib.hid (HA1.out.below hb)
        have HB := Lib.hid (HB.out.trans (hb.mono HB.out.size))
        clear hb
        go_wp2_with fail
        refine (HBA.out _ HA1.out).mono ?_
        rintro e w4 ⟨A4, c4, rfl, ho, hb⟩
        have hs : w.heap.size + 2 ≤ w4.heap.size := Nat.le_trans hs hb.size
        have r0 := Below.cell_some hb r0
        have r1 := Below.cell_some hb r1
        have f0 := (hb.frozen (p := ⟨w.heap.size + 1, 0, none⟩) (by simp only; omega)).trans f0
        have f1 := (hb.frozen (p := ⟨w.heap.size + 1, 1, none⟩) (by simp only; omega)).trans f1
        have HB := Lib.hid (HB.out.trans (hb.mono HB.out.size))
        have hcp := own_cap ho
        have hsl := ho.sl
        clear hb ho c0 c1
        obtain ⟨k, rfl⟩ : ∃ k : Nat, ant = k := ⟨ant.toNat, by omega⟩
        have hkl : k < (bxA L t l).length := by omega
        obtain ⟨b, off, rfl, l0, hc⟩ := hsl.at_ hkl
        have hxx : (bxA L t l)[k]? = some ((bxA L t l).getD k (0, 0)) := by rw [List.getD_eq_getElem?_getD, List.getElem?_eq_getElem hkl]; rfl
        have q0 := hc k _ hxx 0 (by decide)
        have q1 := hc k _ hxx 1 (by decide)
        rw [Int.toNat_natCast] at HX
        clear hc hxx hsl
        generalize (bxA L t l).getD k (0, 0) = x at *
        obtain ⟨x1, x2⟩ := x
        simp only [pairS] at q0 q1
        replace q0 : w4.cell? ⟨b, off + k * 2, none⟩ = some (.int .i64 x1) := q0
        replace q1 : w4.cell? ⟨b, off + k * 2 + 1, none⟩ = some (.int .i64 x2) := q1
        have hkn : (k : Int) < (l.length : Int) := hx.2
        go_wp2
        refine bodyPost_ret (v := .tuple #[.agg #[.int .i64 x1, .int .i64 x2], .bool true]) (by simp [results, Try.results52, go_sem, r0, r1]) rfl ⟨ret_aggb (by rw [HX.out]) (by rw [HX.out]) HV.out.symm, ?_⟩
        exact (HB.out.setCell (by simp) _).setCell (by simp) _

theorem implBoxPlace_any (L : Int) (A : Option Addr) (c : Nat) (l : List (Int × Int)) (ant t : Int) (w : World) (hA : AntsAt w A l) :
    Calls Try.prog 22 #[.agg #[.int .i64 L, .slice A l.length c], .int .i64 ant, .int .i64 t] w fun e w' => e = .returned (.tuple #[.int .i64 (bpX L l ant t).1, .bool (bpOk L l ant t)]) ∧ Below w.heap.size w w' := by
  have HC := Lib.hid (antInBox_any L A c l ant t _ (hA.alloc (Obj.cells #[Value.int IntKind.i64 L, Value.slice A l.length c] 29)))
  clear hA
  generalize bpX L l ant t = x at *
  generalize bpOk L l ant t = r at *
  obtain ⟨x1, x2⟩ := x
  simp only at HC ⊢
  go_enter Try.func22, Try.ntmps22
  go_wp2_with fail
  refine HC.out.mono ?_
  rintro e w1 ⟨rfl, hb⟩
  go_wp2
  go_ret2
  exact ⟨rfl, (((Below.refl _ _).alloc (Nat.le_refl _) _).trans (hb.mono (by simp))).alloc (by have := hb.size; simp at this; omega) _⟩

theorem implBoxWay_any (L : Int) (A : Option Addr) (c : Nat) (l : List (Int × Int)) (ant t : Int) (w : World) (hA : AntsAt w A l) :
    Calls Try.prog 24 #[.agg #[.int .i64 L, .slice A l.length c], .int .i64 ant, .int .i64 t] w fun e w' => e = .returned (.tuple #[.int .i64 (bpX L l ant t).2, .bool (bpOk L l ant t)]) ∧ Below w.heap.size w w' := by
  have HC := Lib.hid (antInBox_any L A c l ant t _ (hA.alloc (Obj.cells #[Value.int IntKind.i64 L, Value.slice A l.length c] 29)))
  clear hA
  generalize bpX L l ant t = x at *
  generalize bpOk L l ant t = r at *
  obtain ⟨x1, x2⟩ := x
  simp only at HC ⊢
  go_enter Try.func24, Try.ntmps24
  go_wp2_with fail
  refine HC.out.mono ?_
  rintro e w1 ⟨rfl, hb⟩
  go_wp2
  go_ret2
  exact ⟨rfl, (((Below.refl _ _).alloc (Nat.le_refl _) _).trans (hb.mono (by simp))).alloc (by have := hb.size; simp at this; omega) _⟩

theorem waAnt_at (L : Int) (A : Option Addr) (c : Nat) (l : List (Int × Int)) (ant t : Int) (r : Bool) (hr : bpOk L l ant t = r) (w : World) (hA : AntsAt w A l) :
    Calls Try.prog 51 #[.agg #[.int .i64 L, .slice A l.length c], .int .i64 ant, .int .i64 t] w fun e w' => e = .returned (.bool r) ∧ Below w.heap.size w w' := by
  subst hr
  have HA := Lib.hid (hA.alloc (Obj.cells #[Value.int IntKind.i64 L, Value.slice A l.length c] 29))
  clear hA
  cases hg : bfOk L l t with
  | false =>
    have HV : Hid (bpOk L l ant t = false) := by
      show _ = _
      unfold bfOk at hg
      unfold bpOk
      cases h1 : boxB L l with
      | false => rfl
      | true => rw [h1] at hg; simp only [Bool.true_and] at hg ⊢; rw [hg]; exact Bool.and_false _
    have HG : Hid (∀ w, AntsAt w A l → Calls Try.prog 45 #[.agg #[.int .i64 L, .slice A l.length c], .int .i64 t] w fun e w' => e = .returned (.bool false) ∧ Below w.heap.size w w') := fun w h => waAsked_at L A c l t false hg w h
    clear hg
    go_enter Try.func51, Try.ntmps51
    go_wp2_with fail
    refine (HG.out _ HA.out).mono ?_
    rintro e w1 ⟨rfl, hb⟩
    go_wp2
    go_ret
    exact ⟨ret_bool HV.out.symm, ((Below.refl _ _).alloc (Nat.le_refl _) _).trans (hb.mono (by simp))⟩
  | true =>
    have hbx : boxB L l = true ∧ timeB t = true := by unfold bfOk at hg; rwa [Bool.and_eq_true] at hg
    have hn := (boxB_len hbx.1).2.2.2
    have HV : Hid (bpOk L l ant t = (decide (0 ≤ ant) && decide (ant ≤ (l.length : Int) - 1))) := by
      show _ = _
      unfold bpOk hasB
      rw [hbx.1, hbx.2, Bool.and_true, Bool.true_and]
      congr 1
      rw [Bool.eq_iff_iff]
      simp only [decide_eq_true_eq]
      omega
    have HG : Hid (∀ w, AntsAt w A l → Calls Try.prog 45 #[.agg #[.int .i64 L, .slice A l.length c], .int .i64 t] w fun e w' => e = .returned (.bool true) ∧ Below w.heap.size w w') := fun w h => waAsked_at L A c l t true hg w h
    have HI : Hid (∀ w, Calls Try.prog 59 #[.int .i64 ant, .int .i64 0, .int .i64 ((l.length : Int) - 1)] w fun e w' => e = .returned (.bool (decide (0 ≤ ant) && decide (ant ≤ (l.length : Int) - 1))) ∧ w = w') := fun w => in_any _ _ _ w
    clear hg hbx
    have hwn : IntKind.i64.wrap ((l.length : Int) - 1) = (l.length : Int) - 1 := IntWalk.i64_in _ (by omega)
    generalize (decide (0 ≤ ant) && decide (ant ≤ (l.length : Int) - 1)) = r at *
    go_enter Try.func51, Try.ntmps51
    go_wp2_with fail
    refine (HG.out _ HA.out).mono ?_
    rintro e w1 ⟨rfl, hb⟩
    have c1 : w1.cell? ⟨w.heap.size, 1, none⟩ = some (.slice A l.length c) := by rw [hb.cell (p := ⟨w.heap.size, 1, none⟩) (by simp)]; simp [go_sem]
    go_wp2_with fail
    refine (HI.out _).mono ?_
    rintro e w2 ⟨rfl, rfl⟩
    go_wp2
    go_ret
    exact ⟨ret_bool HV.out.symm, ((Below.refl _ _).alloc (Nat.le_refl _) _).trans (hb.mono (by simp))⟩

set_option maxRecDepth 100000 in
set_option maxHeartbeats 1000000 in
theorem specBoxPlace_any (L : Int) (A : Option Addr) (c : Nat) (l : List (Int × Int)) (ant t : Int) (w : World) (hA : AntsAt w A l) :
    Calls Try.prog 21 #[.agg #[.int .i64 L, .slice A l.length c], .int .i64 ant, .int .i64 t] w fun e w' => e = .returned (.tuple #[.int .i64 (bpX L l ant t).1, .bool (bpOk L l ant t)]) ∧ Below w.heap.size w w' := by
  have HA := Lib.hid (hA.alloc (Obj.cells #[Value.int IntKind.i64 L, Value.slice A l.length c] 29))
  clear hA
  cases hg : bpOk L l ant t with
  | false =>
    have HX := Lib.hid (bp_no hg)
    have HG : Hid (∀ w, AntsAt w A l → Calls Try.prog 51 #[.agg #[.int .i64 L, .slice A l.length c], .int .i64 ant, .int .i64 t] w fun e w' => e = .returned (.bool false) ∧ Below w.heap.size w w') := fun w h => waAnt_at L A c l ant t false hg w h
    clear hg
    go_enter Try.func21, Try.ntmps21
    go_wp2_with fail
    refine (HG.out _ HA.out).mono ?_
    rintro e w1 ⟨rfl, hb⟩
    go_wp2
    go_ret2
    exact ⟨ret_ib (by rw [HX.out]) rfl, ((Below.refl _ _).alloc (Nat.le_refl _) _).trans (hb.mono (by simp))⟩
  | true =>
    have HX := Lib.hid (bp_yes hg)
    have HG : Hid (∀ w, AntsAt w A l → Calls Try.prog 51 #[.agg #[.int .i64 L, .slice A l.length c], .int .i64 ant, .int .i64 t] w fun e w' => e = .returned (.bool true) ∧ Below w.heap.size w w') := fun w h => waAnt_at L A c l ant t true hg w h
    have hgt : boxB L l = true ∧ hasB l.length ant = true ∧ timeB t = true := by unfold bpOk at hg; rwa [Bool.and_eq_true, Bool.and_eq_true] at hg
    have hx : 0 ≤ ant ∧ ant < (l.length : Int) := by have := hgt.2.1; unfold hasB at this; simpa using this
    have HF : Hid (∀ w, AntsAt w A l → Calls Try.prog 46 #[.agg #[.int .i64 L, .slice A l.length c], .int .i64 t] w fun e w' => ∃ b ab ca, e = .returned (.pointer (some ⟨b, 0, none⟩)) ∧ w'.cell? ⟨b, 1, none⟩ = some (.slice (some ⟨ab, 0, none⟩) l.length ca) ∧ w'.cell? ⟨b, 5, none⟩ = some (.int .i64 ((wtB L l l.length).map (gB L t)).sum) ∧ AntsOwn w' w.heap.size 53 (.slice (some ⟨ab, 0, none⟩) l.length ca) (bxA L t l) ∧ l.length ≤ ca ∧ Below w.heap.size w w') := fun w h => waFor_r L A c l t w hgt.1 (timeB_le hgt.2.2) h
    have hlen := bxA_len L t l
    clear hg hgt
    go_enter Try.func21, Try.ntmps21
    go_wp2_with fail
    refine (HG.out _ HA.out).mono ?_
    rintro e w1 ⟨rfl, hb⟩
    have c0 : w1.cell? ⟨w.heap.size, 0, none⟩ = some (.int .i64 L) := by rw [hb.cell (p := ⟨w.heap.size, 0, none⟩) (by simp)]; simp [go_sem]
    have c1 : w1.cell? ⟨w.heap.size, 1, none⟩ = some (.slice A l.length c) := by rw [hb.cell (p := ⟨w.heap.size, 1, none⟩) (by simp)]; simp [go_sem]
    have HA1 := Lib.hid (HA.out.below hb)
    have HB := Lib.hid (((Below.refl _ w).alloc (Nat.le_refl _) _).trans (hb.mono (by simp)))
    clear hb
    go_wp2_with fail
    refine (HF.out _ HA1.out).mono ?_
    rintro e w2 ⟨b4, ab, ca, rfl, hc1, _, ho, hcp, hb⟩
    have HB := Lib.hid (HB.out.trans (hb.mono HB.out.size))
    have hsl := (antsOwn_iff.1 ho).sl
    clear hb ho c0 c1
    obtain ⟨k, rfl⟩ : ∃ k : Nat, ant = k := ⟨ant.toNat, by omega⟩
    have hkl : k < (bxA L t l).length := by omega
    obtain ⟨b, off, hab, l0, hc⟩ := hsl.at_ hkl
    injection hab with hab
    injection hab with hab1 hab2
    subst hab1
    subst hab2
    have hxx : (bxA L t l)[k]? = some ((bxA L t l).getD k (0, 0)) := by rw [List.getD_eq_getElem?_getD, List.getElem?_eq_getElem hkl]; rfl
    have q := hc k _ hxx 0 (by decide)
    rw [Int.toNat_natCast] at HX
    clear hc hxx hsl
    generalize (bxA L t l).getD k (0, 0) = x at *
    obtain ⟨x1, x2⟩ := x
    simp only [pairS] at q
    replace q : w2.cell? ⟨ab, 0 + k * 2, none⟩ = some (.int .i64 x1) := q
    rw [Nat.zero_add] at q
    have hkn : (k : Int) < (l.length : Int) := hx.2
    have hkc : (k : Int) < (ca : Int) := by omega
    go_wp2
    go_ret2
    exact ⟨ret_ib (by rw [HX.out]) rfl, HB.out⟩

set_option maxRecDepth 100000 in
set_option maxHeartbeats 1000000 in
theorem specBoxWay_any (L : Int) (A : Option Addr) (c : Nat) (l : List (Int × Int)) (ant t : Int) (w : World) (hA : AntsAt w A l) :
    Calls Try.prog 23 #[.agg #[.int .i64 L, .slice A l.length c], .int .i64 ant, .int .i64 t] w fun e w' => e = .returned (.tuple #[.int .i64 (bpX L l ant t).2, .bool (bpOk L l ant t)]) ∧ Below w.heap.size w w' := by
  have HA := Lib.hid (hA.alloc (Obj.cells #[Value.int IntKind.i64 L, Value.slice A l.length c] 29))
  clear hA
  cases hg : bpOk L l ant t with
  | false =>
    have HX := Lib.hid (bp_no hg)
    have HG : Hid (∀ w, AntsAt w A l → Calls Try.prog 51 #[.agg #[.int .i64 L, .slice A l.length c], .int .i64 ant, .int .i64 t] w fun e w' => e = .returned (.bool false) ∧ Below w.heap.size w w') := fun w h => waAnt_at L A c l ant t false hg w h
    clear hg
    go_enter Try.func23, Try.ntmps23
    go_wp2_with fail
    refine (HG.out _ HA.out).mono ?_
    rintro e w1 ⟨rfl, hb⟩
    go_wp2
    go_ret2
    exact ⟨ret_ib (by rw [HX.out]) rfl, ((Below.refl _ _).alloc (Nat.le_refl _) _).trans (hb.mono (by simp))⟩
  | true =>
    have HX := Lib.hid (bp_yes hg)
    have HG : Hid (∀ w, AntsAt w A l → Calls Try.prog 51 #[.agg #[.int .i64 L, .slice A l.length c], .int .i64 ant, .int .i64 t] w fun e w' => e = .returned (.bool true) ∧ Below w.heap.size w w') := fun w h => waAnt_at L A c l ant t true hg w h
    have hgt : boxB L l = true ∧ hasB l.length ant = true ∧ timeB t = true := by unfold bpOk at hg; rwa [Bool.and_eq_true, Bool.and_eq_true] at hg
    have hx : 0 ≤ ant ∧ ant < (l.length : Int) := by have := hgt.2.1; unfold hasB at this; simpa using this
    have HF : Hid (∀ w, AntsAt w A l → Calls Try.prog 46 #[.agg #[.int .i64 L, .slice A l.length c], .int .i64 t] w fun e w' => ∃ b ab ca, e = .returned (.pointer (some ⟨b, 0, none⟩)) ∧ w'.cell? ⟨b, 1, none⟩ = some (.slice (some ⟨ab, 0, none⟩) l.length ca) ∧ w'.cell? ⟨b, 5, none⟩ = some (.int .i64 ((wtB L l l.length).map (gB L t)).sum) ∧ AntsOwn w' w.heap.size 53 (.slice (some ⟨ab, 0, none⟩) l.length ca) (bxA L t l) ∧ l.length ≤ ca ∧ Below w.heap.size w w') := fun w h => waFor_r L A c l t w hgt.1 (timeB_le hgt.2.2) h
    have hlen := bxA_len L t l
    clear hg hgt
    go_enter Try.func23, Try.ntmps23
    go_wp2_with fail
    refine (HG.out _ HA.out).mono ?_
    rintro e w1 ⟨rfl, hb⟩
    have c0 : w1.cell? ⟨w.heap.size, 0, none⟩ = some (.int .i64 L) := by rw [hb.cell (p := ⟨w.heap.size, 0, none⟩) (by simp)]; simp [go_sem]
    have c1 : w1.cell? ⟨w.heap.size, 1, none⟩ = some (.slice A l.length c) := by rw [hb.cell (p := ⟨w.heap.size, 1, none⟩) (by simp)]; simp [go_sem]
    have HA1 := Lib.hid (HA.out.below hb)
    have HB := Lib.hid (((Below.refl _ w).alloc (Nat.le_refl _) _).trans (hb.mono (by simp)))
    clear hb
    go_wp2_with fail
    refine (HF.out _ HA1.out).mono ?_
    rintro e w2 ⟨b4, ab, ca, rfl, hc1, _, ho, hcp, hb⟩
    have HB := Lib.hid (HB.out.trans (hb.mono HB.out.size))
    have hsl := (antsOwn_iff.1 ho).sl
    clear hb ho c0 c1
    obtain ⟨k, rfl⟩ : ∃ k : Nat, ant = k := ⟨ant.toNat, by omega⟩
    have hkl : k < (bxA L t l).length := by omega
    obtain ⟨b, off, hab, l0, hc⟩ := hsl.at_ hkl
    injection hab with hab
    injection hab with hab1 hab2
    subst hab1
    subst hab2
    have hxx : (bxA L t l)[k]? = some ((bxA L t l).getD k (0, 0)) := by rw [List.getD_eq_getElem?_getD, List.getElem?_eq_getElem hkl]; rfl
    have q := hc k _ hxx 1 (by decide)
    rw [Int.toNat_natCast] at HX
    clear hc hxx hsl
    generalize (bxA L t l).getD k (0, 0) = x at *
    obtain ⟨x1, x2⟩ := x
    simp only [pairS] at q
    replace q : w2.cell? ⟨ab, 0 + k * 2 + 1, none⟩ = some (.int .i64 x2) := q
    rw [Nat.zero_add] at q
    have hkn : (k : Int) < (l.length : Int) := hx.2
    have hkc : (k : Int) < (ca : Int) := by omega
    go_wp2
    go_ret2
    exact ⟨ret_ib (by rw [HX.out]) rfl, HB.out⟩
end Go.Proofs.Ythokkdipbckolaa
