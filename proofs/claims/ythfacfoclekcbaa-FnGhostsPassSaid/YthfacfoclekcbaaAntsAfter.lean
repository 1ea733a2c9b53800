/- The program's ants behind a time: the ghosts that have not fallen, moved on, sorted. -/
import Derived.Test.YthfacfoclekcbaaCompare
import Derived.Test.YthfacfoclekcbaaRoGhosts
namespace Go.Proofs.Ythfacfoclekcbaa
open Go.RowKit

theorem after_b (a y L t : Int) (w : World) (hy : y = -1 ∨ y = 1) (ha0 : -1000000 ≤ a) (ha1 : a ≤ 1000000) (ht0 : 0 ≤ t) (ht1 : t ≤ 1000000) :
    Calls Try.prog 32 #[.agg #[.int .i64 a, .int .i64 y, .int .i64 L], .int .i64 t] w fun e w' => e = .returned (.agg #[.int .i64 (a + y * t), .int .i64 y]) ∧ Below w.heap.size w w' := by
  have hw1 : IntKind.i64.wrap (y * t) = y * t := IntWalk.i64_in _ (by rcases hy with rfl | rfl <;> omega)
  have hw2 : IntKind.i64.wrap (a + y * t) = a + y * t := IntWalk.i64_in _ (by rcases hy with rfl | rfl <;> omega)
  go_enter Try.func32, Try.ntmps32
  go_wp2
  exact bodyPost_ret (v := .agg #[.int .i64 (a + y * t), .int .i64 y]) (by simp [results, Try.results32, go_sem]) rfl ⟨rfl, ((Below.refl _ _).alloc (Nat.le_refl _) _).alloc (by simp) _⟩

theorem fallTime_b (a y L : Int) (w : World) (hy : y = -1 ∨ y = 1) (h0 : 0 ≤ a) (h1 : a ≤ 1000) (h2 : 0 ≤ L) (h3 : L ≤ 1000) :
    Calls Try.prog 38 #[.agg #[.int .i64 a, .int .i64 y, .int .i64 L]] w fun e w' => e = .returned (.int .i64 (endT L (a, y))) ∧ Below w.heap.size w w' := by
  have hw : IntKind.i64.wrap (L - a) = L - a := IntWalk.i64_in _ (by omega)
  rcases hy with rfl | rfl
  · have HV : Hid (endT L (a, -1) = a) := by show _ = _; unfold endT; rw [if_pos (by omega)]
    go_enter Try.func38, Try.ntmps38
    go_wp2_with fail
    refine (goesLeft_at a (-1) L true rfl _).mono ?_
    rintro e w1 ⟨rfl, hb⟩
    have c0 : w1.cell? ⟨w.heap.size, 0, none⟩ = some (.int .i64 a) := by rw [hb.cell (p := ⟨w.heap.size, 0, none⟩) (by simp)]; simp
    go_wp2
    go_ret
    exact ⟨ret_int HV.out.symm, ((Below.refl _ _).alloc (Nat.le_refl _) _).trans (hb.mono (by simp))⟩
  · have HV : Hid (endT L (a, 1) = L - a) := by show _ = _; unfold endT; rw [if_neg (by omega)]
    go_enter Try.func38, Try.ntmps38
    go_wp2_with fail
    refine (goesLeft_at a 1 L false rfl _).mono ?_
    rintro e w1 ⟨rfl, hb⟩
    have c0 : w1.cell? ⟨w.heap.size, 0, none⟩ = some (.int .i64 a) := by rw [hb.cell (p := ⟨w.heap.size, 0, none⟩) (by simp)]; simp
    have c2 : w1.cell? ⟨w.heap.size, 2, none⟩ = some (.int .i64 L) := by rw [hb.cell (p := ⟨w.heap.size, 2, none⟩) (by simp)]; simp
    go_wp2
    go_ret
    exact ⟨ret_int HV.out.symm, ((Below.refl _ _).alloc (Nat.le_refl _) _).trans (hb.mono (by simp))⟩
theorem hasFallen_at (a y L t : Int) (r : Bool) (hr : decide (endT L (a, y) ≤ t) = r) (w : World) (hy : y = -1 ∨ y = 1) (h0 : 0 ≤ a) (h1 : a ≤ 1000) (h2 : 0 ≤ L) (h3 : L ≤ 1000) :
    Calls Try.prog 31 #[.agg #[.int .i64 a, .int .i64 y, .int .i64 L], .int .i64 t] w fun e w' => e = .returned (.bool r) ∧ Below w.heap.size w w' := by
  have HF : Hid (∀ w, Calls Try.prog 38 #[.agg #[.int .i64 a, .int .i64 y, .int .i64 L]] w fun e w' => e = .returned (.int .i64 (endT L (a, y))) ∧ Below w.heap.size w w') := fun w => fallTime_b a y L w hy h0 h1 h2 h3
  subst hr
  clear hy
  generalize endT L (a, y) = en at *
  go_enter Try.func31, Try.ntmps31
  go_wp2_with fail
  refine (HF.out _).mono ?_
  rintro e w1 ⟨rfl, hb⟩
  go_wp2
  go_ret
  exact ⟨ret_bool rfl, ((Below.refl _ _).alloc (Nat.le_refl _) _).trans (hb.mono (by simp))⟩

set_option maxRecDepth 100000 in
set_option maxHeartbeats 2000000 in
theorem antsAfter_any (L : Int) (A : Option Addr) (c : Nat) (l : List (Int × Int)) (t : Int) (w : World) (hg : goodB L l = true) (ht0 : 0 ≤ t) (ht1 : t ≤ 2000) (hA : AntsAt w A l) :
    Calls Try.prog 26 #[.agg #[.int .i64 L, .slice A l.length c], .int .i64 t] w fun e w' => ∃ A' n' c', e = .returned (.slice A' n' c') ∧ n' = (srtA (afL L t l)).length ∧ AntsOwn w' w.heap.size 42 (.slice A' n' c') (srtA (afL L t l)) ∧ Below w.heap.size w w' := by
  obtain ⟨i0, hi, hz0, hz1, hz2⟩ := info_parts antI
  have HA := Lib.hid (hA.alloc (Obj.cells #[Value.int IntKind.i64 L, Value.slice A l.length c] 26))
  have hn := good_len hg
  obtain ⟨hL0, hL1, _⟩ := good_hdr hg
  have HGG := Lib.hid hg
  clear hA hg
  go_enter Try.func26, Try.ntmps26
  go_wp2_with fail
  refine (ghostsOf_any L A c l _ hn HA.out).mono ?_
  rintro e w2 ⟨A2, c2, rfl, ho, hb2⟩
  have HO2 := Lib.hid ho.sl
  have hs2 : w.heap.size + 1 ≤ w2.heap.size := by have := hb2.size; simpa using this
  have HB2 := Lib.hid (((Below.refl _ w).alloc (Nat.le_refl _) _).trans (hb2.mono (by simp)))
  clear hb2 ho
  go_wp2
  go_loopw [5, 11] (fun v i wr => ∃ (k : Nat) (A3 : Option Addr) (n3 c3 : Nat), k ≤ l.length ∧ i = .int .i64 k ∧ v = .slice A3 n3 c3 ∧ Below w2.heap.size w2 wr ∧ SlOwn pairS wr w2.heap.size 42 (.slice A3 n3 c3) (afL L t (l.take k)))
    (fun _ i _ => l.length - (intOf i).toNat)
  case atStart => exact ⟨0, none, 0, 0, Nat.zero_le _, rfl, rfl, Below.refl _ _, by rw [List.take_zero]; exact SlOwn.nil pairS _ _ _⟩
  case round =>
    obtain ⟨k, A3, n3, c3, hk, rfl, rfl, hbr, hown⟩ := hrel
    have HBr := Lib.hid hbr
    have hsr := hbr.size
    have HOr := Lib.hid (HO2.out.below hbr)
    have hl3 : (afL L t (l.take k)).length ≤ k := by
      have := afL_len L t l k
      rwa [srtA_len] at this
    have HO := Lib.hid hown
    have HL3 := Lib.hid hl3
    clear hbr hl3
    by_cases hlt : k < l.length
    · obtain ⟨b, off, rfl, l0, hc⟩ := HOr.out.trip_at (show k < (gsOf L l).length by simpa [gsOf] using hlt)
      have hx : l[k]? = some (l.getD k (0, 0)) := by rw [List.getD_eq_getElem?_getD, List.getElem?_eq_getElem hlt]; rfl
      have hgx : (gsOf L l)[k]? = some ((l.getD k (0, 0)).1, (l.getD k (0, 0)).2, L) := by unfold gsOf; rw [List.getElem?_map, hx]; rfl
      obtain ⟨a0, a1, a2⟩ := hc k _ hgx
      have HNO := Lib.hid (afL_no L t l k _ hx)
      have HYES := Lib.hid (afL_yes L t l k _ hx)
      obtain ⟨q0, q1, _, qw⟩ := good_ant HGG.out hx
      clear hc hx hgx hown
      generalize l.getD k (0, 0) = x at *
      obtain ⟨p, y⟩ := x
      simp only at a0 a1 a2 q0 q1 qw
      by_cases hf : endT L (p, y) ≤ t
      · have HF : Hid (∀ w, Calls Try.prog 31 #[.agg #[.int .i64 p, .int .i64 y, .int .i64 L], .int .i64 t] w fun e w' => e = .returned (.bool true) ∧ Below w.heap.size w w') := fun w => hasFallen_at p y L t true (by simpa using hf) w qw q0 (by omega) (by omega) hL1
        have HSN := Lib.hid (HNO.out hf)
        clear hf
        go_wp2_with fail
        refine (HF.out _).mono ?_
        rintro e w3 ⟨rfl, hb3⟩
        go_wp2
        go_roundw
        case rel =>
          have hb4 : Below wr.heap.size wr w3 := ((Below.refl _ _).alloc (Nat.le_refl _) _).trans (hb3.mono (by simp))
          refine ⟨k + 1, A3, n3, c3, by omega, by go_num, rfl, HBr.out.trans (hb4.mono hsr), ?_⟩
          rw [HSN.out]; exact HO.out.below hb4
        case measure => simp [intOf]; omega
      · have HF : Hid (∀ w, Calls Try.prog 31 #[.agg #[.int .i64 p, .int .i64 y, .int .i64 L], .int .i64 t] w fun e w' => e = .returned (.bool false) ∧ Below w.heap.size w w') := fun w => hasFallen_at p y L t false (by simpa using hf) w qw q0 (by omega) (by omega) hL1
        have HSN := Lib.hid (HYES.out hf)
        have HAF : Hid (∀ w, Calls Try.prog 32 #[.agg #[.int .i64 p, .int .i64 y, .int .i64 L], .int .i64 t] w fun e w' => e = .returned (.agg #[.int .i64 (mvF t (p, y)).1, .int .i64 (mvF t (p, y)).2]) ∧ Below w.heap.size w w') := fun w => after_b p y L t w qw (by omega) (by omega) ht0 (by omega)
        clear hf
        generalize mvF t (p, y) = g at *
        obtain ⟨g1, g2⟩ := g
        generalize (afL L t (l.take k)) = m at *
        go_wp2_with fail
        refine (HF.out _).mono ?_
        rintro e w3 ⟨rfl, hb3⟩
        have d0 : w3.cell? ⟨wr.heap.size, 0, none⟩ = some (.int .i64 p) := by rw [hb3.cell (p := ⟨wr.heap.size, 0, none⟩) (by simp)]; simp
        have d1 : w3.cell? ⟨wr.heap.size, 1, none⟩ = some (.int .i64 y) := by rw [hb3.cell (p := ⟨wr.heap.size, 1, none⟩) (by simp)]; simp
        have d2 : w3.cell? ⟨wr.heap.size, 2, none⟩ = some (.int .i64 L) := by rw [hb3.cell (p := ⟨wr.heap.size, 2, none⟩) (by simp)]; simp
        have hb4 : Below wr.heap.size wr w3 := ((Below.refl _ _).alloc (Nat.le_refl _) _).trans (hb3.mono (by simp))
        have HB3 := Lib.hid (HBr.out.trans (hb4.mono hsr))
        have HO3 := Lib.hid (HO.out.below hb4)
        clear hb3 hb4
        go_wp2_with fail
        refine (HAF.out _).mono ?_
        rintro e w4 ⟨rfl, hb4⟩
        have HO4 := Lib.hid (HO3.out.below hb4)
        have HB4 := Lib.hid (HB3.out.trans (hb4.mono HB3.out.size))
        have hs4 : w2.heap.size ≤ w4.heap.size := HB4.out.size
        clear hb4
        go_wp2_with (at_builtin; go_must (refine wpList_append_slsv pairS _ rfl _ _ 24 rfl w2.heap.size 42 i0 _ 16 Try.underlying24 hi hz0 hz1 hz2 rfl (by decide) _ m rfl (HO4.out.below ((Below.refl _ _).alloc (Nat.le_refl _) _)) (some ⟨w4.heap.size, 0, none⟩) 1 1 [(g1, g2)] rfl rfl (slAt_one (heap_new rfl)) (by have := HL3.out; simp only [List.length_cons, List.length_nil]; omega) (by simp; omega) ?_); intro A5 n5 k5 w5 hn5 hown5 hb5; clear hn5)
        go_roundw
        case rel =>
          refine ⟨k + 1, A5, n5, k5, by omega, by go_num, rfl, ?_, ?_⟩
          · exact HB4.out.trans ((((Below.refl _ w4).alloc (Nat.le_refl _) _).mono hs4).trans hb5)
          · rw [HSN.out]; exact hown5
        case measure => simp [intOf]; omega
    · obtain rfl : k = l.length := by omega
      have HE : Hid (l.take l.length = l) := List.take_length
      have HOE : Hid (SlOwn pairS wr w2.heap.size 42 (.slice A3 n3 c3) (afL L t l)) := by
        have := HO.out
        rwa [HE.out] at this
      have hn3 : n3 = (srtA (afL L t l)).length := by
        obtain ⟨_, _, he, _, _⟩ := HOE.out.form
        injection he with _ h _
        rw [srtA_len]; exact h
      have HN3 := Lib.hid hn3
      have HLL : Hid ((afL L t l).length ≤ 65536) := by
        have := HL3.out
        rw [HE.out] at this
        show _ ≤ _
        omega
      clear hn3 hown
      go_wp2_with fail
      refine (sort_any HLL.out HOE.out).mono ?_
      rintro e w3 ⟨rfl, ho3, hb3⟩
      have HO3 := Lib.hid ho3
      have HB3 := Lib.hid (HBr.out.trans hb3)
      clear ho3 hb3
      go_wp2
      go_ret
      exact ⟨A3, n3, c3, rfl, HN3.out, HO3.out.base (by omega), HB2.out.trans (HB3.out.mono (by omega))⟩
end Go.Proofs.Ythfacfoclekcbaa
