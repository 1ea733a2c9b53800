/- What a box is: the contracts of both sides; times and ants that are asked for. -/
import Derived.Test.YthokkdipbckolaaBoxB
import Derived.Test.YthokkdipbckolaaGhosts
import Derived.Test.YthokkdipbckolaaTime
namespace Go.Proofs.Ythokkdipbckolaa
open Go.RowKit

def hasB (n : Nat) (ant : Int) : Bool := decide (0 ≤ ant) && decide (ant < (n : Int))
theorem hasAnt_at (L : Int) (A : Option Addr) (n c : Nat) (ant : Int) (r : Bool) (hr : hasB n ant = r) (w : World) :
    Calls Try.prog 73 #[.agg #[.int .i64 L, .slice A n c], .int .i64 ant] w fun e w' => e = .returned (.bool r) ∧ Below w.heap.size w w' := by
  subst hr
  go_enter Try.func73, Try.ntmps73
  go_wp2
  all_goals go_ret
  all_goals (refine ⟨ret_bool ?_, (Below.refl _ _).alloc (Nat.le_refl _) _⟩)
  all_goals (unfold hasB; simp [*])
  all_goals omega
/-- the first k ants, none of which goes out -/
def noneB (L : Int) (l : List (Int × Int)) (k : Nat) : Prop := ∀ (j : Nat) (x : Int × Int), j < k → l[j]? = some x → outB L x = false
theorem noneB_all {L : Int} {l : List (Int × Int)} (h : noneB L l l.length) : l.any (outB L) = false := by
  rw [List.any_eq_false]
  intro x hx
  obtain ⟨k, hk, rfl⟩ := List.mem_iff_getElem.1 hx
  rw [h k _ hk (List.getElem?_eq_getElem hk)]
  decide
theorem someB {L : Int} {l : List (Int × Int)} {k : Nat} {x : Int × Int} (hx : l[k]? = some x) (h : outB L x = true) : l.any (outB L) = true := by
  rw [List.any_eq_true]
  exact ⟨x, List.mem_of_getElem? hx, h⟩

set_option maxHeartbeats 1000000 in
theorem waGood_any (L : Int) (A : Option Addr) (c : Nat) (l : List (Int × Int)) (w : World) (hA : AntsAt w A l) :
    Calls Try.prog 39 #[.agg #[.int .i64 L, .slice A l.length c]] w fun e w' => e = .returned (.bool (boxB L l)) ∧ Below w.heap.size w w' := by
  have HA := Lib.hid (hA.alloc (Obj.cells #[Value.int IntKind.i64 L, Value.slice A l.length c] 29))
  clear hA
  cases hg : goodB L l with
  | false =>
    have HV : Hid (boxB L l = false) := by show _ = _; unfold boxB; rw [hg]; rfl
    have HG : Hid (∀ w, AntsAt w A l → Calls Try.prog 65 #[.agg #[.int .i64 L, .slice A l.length c]] w fun e w' => e = .returned (.bool false) ∧ Below w.heap.size w w') := fun w h => by
      rw [← hg]; exact roGood_any L A c l w h
    clear hg
    go_enter Try.func39, Try.ntmps39
    go_wp2_with fail
    refine (HG.out _ HA.out).mono ?_
    rintro e w1 ⟨rfl, hb⟩
    go_wp2
    go_ret
    exact ⟨ret_bool HV.out.symm, ((Below.refl _ _).alloc (Nat.le_refl _) _).trans (hb.mono (by simp))⟩
  | true =>
    have HV : Hid (boxB L l = !(l.any (outB L))) := by show _ = _; unfold boxB; rw [hg]; rfl
    have HG : Hid (∀ w, AntsAt w A l → Calls Try.prog 65 #[.agg #[.int .i64 L, .slice A l.length c]] w fun e w' => e = .returned (.bool true) ∧ Below w.heap.size w w') := fun w h => by
      rw [← hg]; exact roGood_any L A c l w h
    have hn := good_len hg
    have hh := good_hdr hg
    have HGG := Lib.hid hg
    clear hg
    go_enter Try.func39, Try.ntmps39
    go_wp2_with fail
    refine (HG.out _ HA.out).mono ?_
    rintro e w1 ⟨rfl, hb⟩
    have c0 : w1.cell? ⟨w.heap.size, 0, none⟩ = some (.int .i64 L) := by rw [hb.cell (p := ⟨w.heap.size, 0, none⟩) (by simp)]; simp
    have c1 : w1.cell? ⟨w.heap.size, 1, none⟩ = some (.slice A l.length c) := by rw [hb.cell (p := ⟨w.heap.size, 1, none⟩) (by simp)]; simp
    have HB := Lib.hid (((Below.refl _ w).alloc (Nat.le_refl _) _).trans (hb.mono (by simp)))
    have HA1 := Lib.hid (HA.out.below hb)
    have HC0 := Lib.hid c0
    clear hb
    go_wp2
    clear c0 c1
    go_loopw [11] (fun i wr => ∃ k : Nat, k ≤ l.length ∧ i = .int .i64 k ∧ noneB L l k ∧ Below w1.heap.size w1 wr)
      (fun i _ => l.length - (intOf i).toNat)
    case atStart => exact ⟨0, Nat.zero_le _, rfl, fun j x hj => absurd hj (Nat.not_lt_zero j), Below.refl _ _⟩
    case round =>
      obtain ⟨k, hk, rfl, hno, hbr⟩ := hrel
      have HNO := Lib.hid hno
      have HBR := Lib.hid hbr
      have HAr := Lib.hid (HA1.out.below hbr)
      have c0 := Below.cell_some hbr HC0.out
      have hs1 : w.heap.size < wr.heap.size := World.block_lt_of_cell? _ _ c0
      clear hno hbr
      by_cases hlt : k < l.length
      · obtain ⟨b, off, rfl, l0, hc⟩ := HAr.out.at_ hlt
        obtain ⟨a0, a1⟩ := hc k hlt
        have hx : l[k]? = some (l.getD k (0, 0)) := by rw [List.getD_eq_getElem?_getD, List.getElem?_eq_getElem hlt]; rfl
        have hq := good_ant HGG.out hx
        have HX := Lib.hid hx
        clear hc hx
        generalize l.getD k (0, 0) = x at *
        obtain ⟨x1, x2⟩ := x
        simp only at a0 a1 hq
        have HB3 : Hid (Below w1.heap.size w1 ((wr.alloc (Obj.cells #[Value.int IntKind.i64 x1, Value.int IntKind.i64 x2] 53)))) := HBR.out.alloc HBR.out.size _
        have e0 : (wr.alloc (Obj.cells #[Value.int IntKind.i64 x1, Value.int IntKind.i64 x2] 53)).cell? ⟨wr.heap.size, 0, none⟩ = some (.int .i64 x1) := by simp
        have e1 : (wr.alloc (Obj.cells #[Value.int IntKind.i64 x1, Value.int IntKind.i64 x2] 53)).cell? ⟨wr.heap.size, 1, none⟩ = some (.int .i64 x2) := by simp
        have r0 : (wr.alloc (Obj.cells #[Value.int IntKind.i64 x1, Value.int IntKind.i64 x2] 53)).cell? ⟨w.heap.size, 0, none⟩ = some (.int .i64 L) := alloc_some c0 _
        cases ho : outB L (x1, x2) with
        | false =>
          have HNK : Hid (noneB L l (k + 1)) := fun j y hj hy => by
            by_cases hjk : j = k
            · subst hjk
              rw [HX.out] at hy
              injection hy with hy
              rw [← hy]; exact ho
            · exact HNO.out j y (by omega) hy
          have hc1 : (x1 == 0 && decide (x2 < 0)) = false ∧ (x1 == L && decide (0 < x2)) = false := by
            unfold outB at ho
            simpa only [Bool.or_eq_false_iff] using ho
          clear ho
          by_cases h0 : x1 = 0
          · have d0 : (x1 == 0) = true := by simpa using h0
            have dL : (x1 == L) = false := by simp; omega
            have d1 : decide (x2 < 0) = false := by have := hc1.1; rw [d0] at this; simpa using this
            clear hc1 h0
            go_wp2
            go_roundw
            case rel => exact ⟨k + 1, by omega, by go_num, HNK.out, HB3.out⟩
            case measure => simp [intOf]; omega
          · have d0 : (x1 == 0) = false := by simpa using h0
            by_cases hL : x1 = L
            · have dL : (x1 == L) = true := by simpa using hL
              have d1 : decide (0 < x2) = false := by have := hc1.2; rw [dL] at this; simpa using this
              clear hc1 h0 hL
              go_wp2
              go_roundw
              case rel => exact ⟨k + 1, by omega, by go_num, HNK.out, HB3.out⟩
              case measure => simp [intOf]; omega
            · have dL : (x1 == L) = false := by simpa using hL
              clear hc1 h0 hL
              go_wp2
              go_roundw
              case rel => exact ⟨k + 1, by omega, by go_num, HNK.out, HB3.out⟩
              case measure => simp [intOf]; omega
        | true =>
          have HANY := Lib.hid (someB HX.out ho)
          have HVF : Hid (boxB L l = false) := by show _ = _; rw [HV.out, HANY.out]; rfl
          have hc1 : (x1 = 0 ∧ x2 < 0) ∨ (x1 = L ∧ 0 < x2) := by
            unfold outB at ho
            simpa only [Bool.or_eq_true, Bool.and_eq_true, beq_iff_eq, decide_eq_true_eq] using ho
          clear ho
          by_cases h0 : x1 = 0 ∧ x2 < 0
          · have d0 : (x1 == 0) = true := by simpa using h0.1
            have d1 : decide (x2 < 0) = true := by simpa using h0.2
            clear hc1 h0
            go_wp2
            go_ret
            exact ⟨ret_bool HVF.out.symm, HB.out.trans (HB3.out.mono HB.out.size)⟩
          · have hL : x1 = L ∧ 0 < x2 := hc1.resolve_left h0
            have d0 : (x1 == 0) = false := by simp; omega
            have dL : (x1 == L) = true := by simpa using hL.1
            have d1 : decide (0 < x2) = true := by simpa using hL.2
            clear hc1 h0 hL
            go_wp2
            go_ret
            exact ⟨ret_bool HVF.out.symm, HB.out.trans (HB3.out.mono HB.out.size)⟩
      · obtain rfl : k = l.length := by omega
        have HANY := Lib.hid (noneB_all HNO.out)
        have HVT : Hid (boxB L l = true) := by show _ = _; rw [HV.out, HANY.out]; rfl
        go_wp2
        go_ret
        exact ⟨ret_bool HVT.out.symm, HB.out.trans (HBR.out.mono HB.out.size)⟩

/-- when a ghost falls -/
def endT (L : Int) (x : Int × Int) : Int := if x.2 < 0 then x.1 else L - x.1
theorem fallTime_b (a y L : Int) (w : World) (hy : y = -1 ∨ y = 1) (h0 : 0 ≤ a) (h1 : a ≤ 1000) (h2 : 0 ≤ L) (h3 : L ≤ 1000) :
    Calls Try.prog 69 #[.agg #[.int .i64 a, .int .i64 y, .int .i64 L]] w fun e w' => e = .returned (.int .i64 (endT L (a, y))) ∧ Below w.heap.size w w' := by
  have hw : IntKind.i64.wrap (L - a) = L - a := IntWalk.i64_in _ (by omega)
  rcases hy with rfl | rfl
  · have HV : Hid (endT L (a, -1) = a) := by show _ = _; unfold endT; rw [if_pos (by omega)]
    go_enter Try.func69, Try.ntmps69
    go_wp2_with fail
    refine (goesLeft_at a (-1) L true rfl _).mono ?_
    rintro e w1 ⟨rfl, hb⟩
    have c0 : w1.cell? ⟨w.heap.size, 0, none⟩ = some (.int .i64 a) := by rw [hb.cell (p := ⟨w.heap.size, 0, none⟩) (by simp)]; simp
    go_wp2
    go_ret
    exact ⟨ret_int HV.out.symm, ((Below.refl _ _).alloc (Nat.le_refl _) _).trans (hb.mono (by simp))⟩
  · have HV : Hid (endT L (a, 1) = L - a) := by show _ = _; unfold endT; rw [if_neg (by omega)]
    go_enter Try.func69, Try.ntmps69
    go_wp2_with fail
    refine (goesLeft_at a 1 L false rfl _).mono ?_
    rintro e w1 ⟨rfl, hb⟩
    have c0 : w1.cell? ⟨w.heap.size, 0, none⟩ = some (.int .i64 a) := by rw [hb.cell (p := ⟨w.heap.size, 0, none⟩) (by simp)]; simp
    have c2 : w1.cell? ⟨w.heap.size, 2, none⟩ = some (.int .i64 L) := by rw [hb.cell (p := ⟨w.heap.size, 2, none⟩) (by simp)]; simp
    go_wp2
    go_ret
    exact ⟨ret_int HV.out.symm, ((Below.refl _ _).alloc (Nat.le_refl _) _).trans (hb.mono (by simp))⟩
theorem hasFallen_at (a y L t : Int) (r : Bool) (hr : decide (endT L (a, y) ≤ t) = r) (w : World) (hy : y = -1 ∨ y = 1) (h0 : 0 ≤ a) (h1 : a ≤ 1000) (h2 : 0 ≤ L) (h3 : L ≤ 1000) :
    Calls Try.prog 43 #[.agg #[.int .i64 a, .int .i64 y, .int .i64 L], .int .i64 t] w fun e w' => e = .returned (.bool r) ∧ Below w.heap.size w w' := by
  have HF : Hid (∀ w, Calls Try.prog 69 #[.agg #[.int .i64 a, .int .i64 y, .int .i64 L]] w fun e w' => e = .returned (.int .i64 (endT L (a, y))) ∧ Below w.heap.size w w') := fun w => fallTime_b a y L w hy h0 h1 h2 h3
  subst hr
  clear hy
  generalize endT L (a, y) = en at *
  go_enter Try.func43, Try.ntmps43
  go_wp2_with fail
  refine (HF.out _).mono ?_
  rintro e w1 ⟨rfl, hb⟩
  go_wp2
  go_ret
  exact ⟨ret_bool rfl, ((Below.refl _ _).alloc (Nat.le_refl _) _).trans (hb.mono (by simp))⟩
theorem out_end {L : Int} {x : Int × Int} (h : 0 ≤ x.1 ∧ x.1 ≤ L) (hw : x.2 = -1 ∨ x.2 = 1) : outB L x = decide (endT L x ≤ 0) := by
  rw [Bool.eq_iff_iff]
  unfold outB endT
  simp only [Bool.or_eq_true, Bool.and_eq_true, beq_iff_eq, decide_eq_true_eq]
  split <;> omega

set_option maxHeartbeats 1000000 in
theorem isBox_any (L : Int) (A : Option Addr) (c : Nat) (l : List (Int × Int)) (w : World) (hA : AntsAt w A l) :
    Calls Try.prog 15 #[.agg #[.int .i64 L, .slice A l.length c]] w fun e w' => e = .returned (.bool (boxB L l)) ∧ Below w.heap.size w w' := by
  have HA := Lib.hid (hA.alloc (Obj.cells #[Value.int IntKind.i64 L, Value.slice A l.length c] 29))
  clear hA
  cases hg : goodB L l with
  | false =>
    have HV : Hid (boxB L l = false) := by show _ = _; unfold boxB; rw [hg]; rfl
    have HG : Hid (∀ w, AntsAt w A l → Calls Try.prog 41 #[.agg #[.int .i64 L, .slice A l.length c]] w fun e w' => e = .returned (.bool false) ∧ Below w.heap.size w w') := fun w h => by
      rw [← hg]; exact isRod_any L A c l w h
    clear hg
    go_enter Try.func15, Try.ntmps15
    go_wp2_with fail
    refine (HG.out _ HA.out).mono ?_
    rintro e w1 ⟨rfl, hb⟩
    go_wp2
    go_ret
    exact ⟨ret_bool HV.out.symm, ((Below.refl _ _).alloc (Nat.le_refl _) _).trans (hb.mono (by simp))⟩
  | true =>
    have HV : Hid (boxB L l = !(l.any (outB L))) := by show _ = _; unfold boxB; rw [hg]; rfl
    have HG : Hid (∀ w, AntsAt w A l → Calls Try.prog 41 #[.agg #[.int .i64 L, .slice A l.length c]] w fun e w' => e = .returned (.bool true) ∧ Below w.heap.size w w') := fun w h => by
      rw [← hg]; exact isRod_any L A c l w h
    have hn := good_len hg
    have hh := good_hdr hg
    have HGG := Lib.hid hg
    clear hg
    go_enter Try.func15, Try.ntmps15
    go_wp2_with fail
    refine (HG.out _ HA.out).mono ?_
    rintro e w1 ⟨rfl, hb⟩
    have c0 : w1.cell? ⟨w.heap.size, 0, none⟩ = some (.int .i64 L) := by rw [hb.cell (p := ⟨w.heap.size, 0, none⟩) (by simp)]; simp
    have c1 : w1.cell? ⟨w.heap.size, 1, none⟩ = some (.slice A l.length c) := by rw [hb.cell (p := ⟨w.heap.size, 1, none⟩) (by simp)]; simp
    have HB := Lib.hid (((Below.refl _ w).alloc (Nat.le_refl _) _).trans (hb.mono (by simp)))
    have HGO := Lib.hid (ghostsOf_any L A c l w1 hn (HA.out.below hb))
    clear hb
    go_wp2_with fail
    refine HGO.out.mono ?_
    rintro e w2 ⟨A2, c2, rfl, ho, hb2⟩
    have HO2 := Lib.hid ho.sl
    have HB2 := Lib.hid (HB.out.trans (hb2.mono HB.out.size))
    clear hb2 ho c0 c1 HGO
    go_wp2
    go_loopw [11] (fun i wr => ∃ k : Nat, k ≤ l.length ∧ i = .int .i64 k ∧ noneB L l k ∧ Below w2.heap.size w2 wr)
      (fun i _ => l.length - (intOf i).toNat)
    case atStart => exact ⟨0, Nat.zero_le _, rfl, fun j x hj => absurd hj (Nat.not_lt_zero j), Below.refl _ _⟩
    case round =>
      obtain ⟨k, hk, rfl, hno, hbr⟩ := hrel
      have HNO := Lib.hid hno
      have HBR := Lib.hid hbr
      have HOr := Lib.hid (HO2.out.below hbr)
      clear hno hbr
      by_cases hlt : k < l.length
      · obtain ⟨b, off, rfl, l0, hc⟩ := HOr.out.trip_at (show k < (gsOf L l).length by simpa [gsOf] using hlt)
        have hx : l[k]? = some (l.getD k (0, 0)) := by rw [List.getD_eq_getElem?_getD, List.getElem?_eq_getElem hlt]; rfl
        have hgx : (gsOf L l)[k]? = some ((l.getD k (0, 0)).1, (l.getD k (0, 0)).2, L) := by unfold gsOf; rw [List.getElem?_map, hx]; rfl
        obtain ⟨a0, a1, a2⟩ := hc k _ hgx
        have hq := good_ant HGG.out hx
        have HX := Lib.hid hx
        clear hc hx hgx
        generalize l.getD k (0, 0) = x at *
        obtain ⟨x1, x2⟩ := x
        simp only at a0 a1 a2 hq
        have HOE : Hid (outB L (x1, x2) = decide (endT L (x1, x2) ≤ 0)) := out_end ⟨hq.1, hq.2.1⟩ hq.2.2.2
        cases ho : outB L (x1, x2) with
        | false =>
          have HF : Hid (∀ w, Calls Try.prog 43 #[.agg #[.int .i64 x1, .int .i64 x2, .int .i64 L], .int .i64 0] w fun e w' => e = .returned (.bool false) ∧ Below w.heap.size w w') := fun w => hasFallen_at x1 x2 L 0 false (by rw [← HOE.out]; exact ho) w hq.2.2.2 hq.1 (by omega) (by omega) hh.2.1
          have HNK : Hid (noneB L l (k + 1)) := fun j y hj hy => by
            by_cases hjk : j = k
            · subst hjk
              rw [HX.out] at hy
              injection hy with hy
              rw [← hy]; exact ho
            · exact HNO.out j y (by omega) hy
          clear ho hq
          go_wp2_with fail
          refine (HF.out _).mono ?_
          rintro e w3 ⟨rfl, hb3⟩
          go_wp2
          go_roundw
          case rel => exact ⟨k + 1, by omega, by go_num, HNK.out, HBR.out.trans (((Below.refl _ _).alloc (Nat.le_refl _) _).trans (hb3.mono (by simp)) |>.mono HBR.out.size)⟩
          case measure => simp [intOf]; omega
        | true =>
          have HF : Hid (∀ w, Calls Try.prog 43 #[.agg #[.int .i64 x1, .int .i64 x2, .int .i64 L], .int .i64 0] w fun e w' => e = .returned (.bool true) ∧ Below w.heap.size w w') := fun w => hasFallen_at x1 x2 L 0 true (by rw [← HOE.out]; exact ho) w hq.2.2.2 hq.1 (by omega) (by omega) hh.2.1
          have HANY := Lib.hid (someB HX.out ho)
          have HVF : Hid (boxB L l = false) := by show _ = _; rw [HV.out, HANY.out]; rfl
          clear ho hq
          go_wp2_with fail
          refine (HF.out _).mono ?_
          rintro e w3 ⟨rfl, hb3⟩
          go_wp2
          go_ret
          exact ⟨ret_bool HVF.out.symm, HB2.out.trans ((HBR.out.trans (((Below.refl _ _).alloc (Nat.le_refl _) _).trans (hb3.mono (by simp)) |>.mono HBR.out.size)).mono HB2.out.size)⟩
      · obtain rfl : k = l.length := by omega
        have HANY := Lib.hid (noneB_all HNO.out)
        have HVT : Hid (boxB L l = true) := by show _ = _; rw [HV.out, HANY.out]; rfl
        go_wp2
        go_ret
        exact ⟨ret_bool HVT.out.symm, HB2.out.trans (HBR.out.mono HB2.out.size)⟩

theorem specIsBox_any (L : Int) (A : Option Addr) (c : Nat) (l : List (Int × Int)) (w : World) (hA : AntsAt w A l) :
    Calls Try.prog 13 #[.agg #[.int .i64 L, .slice A l.length c]] w fun e w' => e = .returned (.bool (boxB L l)) ∧ Below w.heap.size w w' := by
  have HG := Lib.hid (waGood_any L A c l _ (hA.alloc (Obj.cells #[Value.int IntKind.i64 L, Value.slice A l.length c] 29)))
  clear hA
  generalize boxB L l = r at *
  go_enter Try.func13, Try.ntmps13
  go_wp2_with fail
  refine HG.out.mono ?_
  rintro e w1 ⟨rfl, hb⟩
  go_wp2
  go_ret
  exact ⟨ret_bool rfl, ((Below.refl _ _).alloc (Nat.le_refl _) _).trans (hb.mono (by simp))⟩
end Go.Proofs.Ythokkdipbckolaa
