/- The contracts of impl.ghostsThat, for both ways; what a rod's falls are. -/
import Derived.Test.YtenpmjinbjlpbaaCount
namespace Go.Proofs.Ytenpmjinbjlpbaa
open Go.RowKit

def way (y : Int) (l : List (Int × Int × Int)) : List (Int × Int × Int) := l.filter fun g => g.2.1 == y
theorem way_snoc_yes (y : Int) (l : List (Int × Int × Int)) (g : Int × Int × Int) (h : (g.2.1 == y) = true) : way y (l ++ [g]) = way y l ++ [g] := by simp [way, List.filter_append, h]
theorem way_snoc_no (y : Int) (l : List (Int × Int × Int)) (g : Int × Int × Int) (h : (g.2.1 == y) = false) : way y (l ++ [g]) = way y l := by simp [way, List.filter_append, h]
theorem way_len (y : Int) (l : List (Int × Int × Int)) : (way y l).length ≤ l.length := List.length_filter_le _ _

set_option maxRecDepth 100000 in
set_option maxHeartbeats 1000000 in
theorem thatL_any (L : Int) (A : Option Addr) (c : Nat) (l : List (Int × Int)) (w : World) (hn : (l.length : Int) ≤ 16) (hA : AntsAt w A l) :
    Calls Try.prog 76 #[.agg #[.int .i64 L, .slice A l.length c], .func (.func 77) #[] #[]] w fun e w' => ∃ A' c', e = .returned (.slice A' (way (-1) (gsOf L l)).length c') ∧ SlOwn tripS w' w.heap.size 102 (.slice A' (way (-1) (gsOf L l)).length c') (way (-1) (gsOf L l)) ∧ Below w.heap.size w w' := by
  obtain ⟨i0, hi, hz0, hz1, hz2⟩ := info_parts ghostInfo
  have HA := Lib.hid (hA.alloc (Obj.cells #[Value.int IntKind.i64 L, Value.slice A l.length c] 47))
  clear hA
  go_enter Try.func76, Try.ntmps76
  go_wp2_with fail
  refine (ghostsOf_any L A c l _ hn HA.out).mono ?_
  rintro e w2 ⟨A2, c2, rfl, ho, hb2⟩
  have HO := Lib.hid ho.sl
  have HB2 := Lib.hid (((Below.refl _ w).alloc (Nat.le_refl _) _).trans (hb2.mono (by simp)))
  clear hb2 ho
  go_wp2
  go_loopw [5, 11] (fun v i wr => ∃ k : Nat, k ≤ l.length ∧ i = .int .i64 k ∧ Below w2.heap.size w2 wr ∧ SlOwn tripS wr w2.heap.size 102 v (way (-1) (gsOf L (l.take k))))
    (fun _ i _ => l.length - (intOf i).toNat)
  case atStart => exact ⟨0, Nat.zero_le _, rfl, Below.refl _ _, SlOwn.nil _ _ _ _⟩
  case round =>
    obtain ⟨k, hk, rfl, hb, hown⟩ := hrel
    have HB := Lib.hid hb
    have HOr := Lib.hid (HO.out.below hb)
    have hs := hb.size
    clear hb
    obtain ⟨A3, k3, rfl, hat, hin⟩ := hown.form
    have HOW := Lib.hid hown
    clear hown hat hin
    by_cases hlt : k < l.length
    · obtain ⟨b, off, rfl, l0, hc⟩ := HOr.out.trip_at (show k < (gsOf L l).length by simpa [gsOf] using hlt)
      have hx : l[k]? = some (l.getD k (0, 0)) := by rw [List.getD_eq_getElem?_getD, List.getElem?_eq_getElem hlt]; rfl
      have hgx : (gsOf L l)[k]? = some ((l.getD k (0, 0)).1, (l.getD k (0, 0)).2, L) := by unfold gsOf; rw [List.getElem?_map, hx]; rfl
      obtain ⟨a0, a1, a2⟩ := hc k _ hgx
      have HT := Lib.hid (gsOf_take L l k _ hx)
      clear hc hx hgx
      generalize l.getD k (0, 0) = x at *
      obtain ⟨x1, x2⟩ := x
      simp only at a0 a1 a2
      have hlen : (way (-1) (gsOf L (l.take k))).length ≤ k := by
        have h1 := way_len (-1) (gsOf L (l.take k))
        have h2 : (gsOf L (l.take k)).length ≤ k := by simp [gsOf]; omega
        omega
      have HLEN := Lib.hid hlen
      clear hlen
      cases hy : (x2 == -1) with
      | false =>
        have HY := Lib.hid hy
        have HW : Hid (way (-1) (gsOf L (l.take (k + 1))) = way (-1) (gsOf L (l.take k))) := by
          show _ = _
          rw [HT.out]; exact way_snoc_no _ _ _ hy
        clear hy
        go_wp2_with fail
        refine (goesLeft_at x1 x2 L false HY.out _).mono ?_
        rintro e w3 ⟨rfl, hb3⟩
        have HB3 := Lib.hid (((Below.refl _ wr).alloc (Nat.le_refl _) _).trans (hb3.mono (by simp)))
        clear hb3
        go_wp2
        go_roundw
        case rel => exact ⟨k + 1, by omega, by go_num, HB.out.trans (HB3.out.mono hs), by rw [HW.out]; exact HOW.out.below HB3.out⟩
        case measure => simp [intOf]; omega
      | true =>
        have HY := Lib.hid hy
        have HW : Hid (way (-1) (gsOf L (l.take (k + 1))) = way (-1) (gsOf L (l.take k)) ++ [(x1, x2, L)]) := by
          show _ = _
          rw [HT.out]; exact way_snoc_yes _ _ _ hy
        clear hy
        go_wp2_with fail
        refine (goesLeft_at x1 x2 L true HY.out _).mono ?_
        rintro e w3 ⟨rfl, hb3⟩
        have hz3 : wr.heap.size < w3.heap.size := by have := hb3.size; simp at this; omega
        have g0 : w3.cell? ⟨wr.heap.size, 0, none⟩ = some (.int .i64 x1) := by rw [hb3.cell (p := ⟨wr.heap.size, 0, none⟩) (by simp)]; simp
        have g1 : w3.cell? ⟨wr.heap.size, 1, none⟩ = some (.int .i64 x2) := by rw [hb3.cell (p := ⟨wr.heap.size, 1, none⟩) (by simp)]; simp
        have g2 : w3.cell? ⟨wr.heap.size, 2, none⟩ = some (.int .i64 L) := by rw [hb3.cell (p := ⟨wr.heap.size, 2, none⟩) (by simp)]; simp
        have HB3 := Lib.hid (((Below.refl _ wr).alloc (Nat.le_refl _) _).trans (hb3.mono (by simp)))
        clear hb3
        go_wp2_with (at_builtin; refine wpList_append_sl tripS _ rfl _ _ 97 rfl w2.heap.size 102 i0 _ 24 Try.underlying97 hi hz0 hz1 hz2 rfl (by decide) _ _ rfl ((HOW.out.below HB3.out).below ((Below.refl _ _).alloc (Nat.le_refl _) _)) w3.heap.size (x1, x2, L) #[.int .i64 x1, .int .i64 x2, .int .i64 L] _ _ rfl (heap_new rfl) rfl (by have := HLEN.out; omega) (by simp; omega) ?_; intro A5 k5 w5 hown5 hb5 hg5)
        go_roundw
        case rel =>
          refine ⟨k + 1, by omega, by go_num, ?_, ?_⟩
          · exact HB.out.trans ((HB3.out.mono hs).trans (((Below.refl _ _).alloc (by have := HB3.out.size; omega) _).trans hb5))
          · rw [HW.out]; simpa using hown5
        case measure => simp [intOf]; omega
    · obtain rfl : k = l.length := by omega
      have e : l.take l.length = l := List.take_length
      rw [e] at HOW
      go_wp2
      go_ret
      exact ⟨A3, k3, by simp, by simpa using HOW.out.base HB2.out.size, HB2.out.trans (HB.out.mono HB2.out.size)⟩

set_option maxRecDepth 100000 in
set_option maxHeartbeats 1000000 in
theorem thatR_any (L : Int) (A : Option Addr) (c : Nat) (l : List (Int × Int)) (w : World) (hn : (l.length : Int) ≤ 16) (hA : AntsAt w A l) :
    Calls Try.prog 76 #[.agg #[.int .i64 L, .slice A l.length c], .func (.func 78) #[] #[]] w fun e w' => ∃ A' c', e = .returned (.slice A' (way (1) (gsOf L l)).length c') ∧ SlOwn tripS w' w.heap.size 102 (.slice A' (way (1) (gsOf L l)).length c') (way (1) (gsOf L l)) ∧ Below w.heap.size w w' := by
  obtain ⟨i0, hi, hz0, hz1, hz2⟩ := info_parts ghostInfo
  have HA := Lib.hid (hA.alloc (Obj.cells #[Value.int IntKind.i64 L, Value.slice A l.length c] 47))
  clear hA
  go_enter Try.func76, Try.ntmps76
  go_wp2_with fail
  refine (ghostsOf_any L A c l _ hn HA.out).mono ?_
  rintro e w2 ⟨A2, c2, rfl, ho, hb2⟩
  have HO := Lib.hid ho.sl
  have HB2 := Lib.hid (((Below.refl _ w).alloc (Nat.le_refl _) _).trans (hb2.mono (by simp)))
  clear hb2 ho
  go_wp2
  go_loopw [5, 11] (fun v i wr => ∃ k : Nat, k ≤ l.length ∧ i = .int .i64 k ∧ Below w2.heap.size w2 wr ∧ SlOwn tripS wr w2.heap.size 102 v (way (1) (gsOf L (l.take k))))
    (fun _ i _ => l.length - (intOf i).toNat)
  case atStart => exact ⟨0, Nat.zero_le _, rfl, Below.refl _ _, SlOwn.nil _ _ _ _⟩
  case round =>
    obtain ⟨k, hk, rfl, hb, hown⟩ := hrel
    have HB := Lib.hid hb
    have HOr := Lib.hid (HO.out.below hb)
    have hs := hb.size
    clear hb
    obtain ⟨A3, k3, rfl, hat, hin⟩ := hown.form
    have HOW := Lib.hid hown
    clear hown hat hin
    by_cases hlt : k < l.length
    · obtain ⟨b, off, rfl, l0, hc⟩ := HOr.out.trip_at (show k < (gsOf L l).length by simpa [gsOf] using hlt)
      have hx : l[k]? = some (l.getD k (0, 0)) := by rw [List.getD_eq_getElem?_getD, List.getElem?_eq_getElem hlt]; rfl
      have hgx : (gsOf L l)[k]? = some ((l.getD k (0, 0)).1, (l.getD k (0, 0)).2, L) := by unfold gsOf; rw [List.getElem?_map, hx]; rfl
      obtain ⟨a0, a1, a2⟩ := hc k _ hgx
      have HT := Lib.hid (gsOf_take L l k _ hx)
      clear hc hx hgx
      generalize l.getD k (0, 0) = x at *
      obtain ⟨x1, x2⟩ := x
      simp only at a0 a1 a2
      have hlen : (way (1) (gsOf L (l.take k))).length ≤ k := by
        have h1 := way_len (1) (gsOf L (l.take k))
        have h2 : (gsOf L (l.take k)).length ≤ k := by simp [gsOf]; omega
        omega
      have HLEN := Lib.hid hlen
      clear hlen
      cases hy : (x2 == 1) with
      | false =>
        have HY := Lib.hid hy
        have HW : Hid (way (1) (gsOf L (l.take (k + 1))) = way (1) (gsOf L (l.take k))) := by
          show _ = _
          rw [HT.out]; exact way_snoc_no _ _ _ hy
        clear hy
        go_wp2_with fail
        refine (goesRight_at x1 x2 L false HY.out _).mono ?_
        rintro e w3 ⟨rfl, hb3⟩
        have HB3 := Lib.hid (((Below.refl _ wr).alloc (Nat.le_refl _) _).trans (hb3.mono (by simp)))
        clear hb3
        go_wp2
        go_roundw
        case rel => exact ⟨k + 1, by omega, by go_num, HB.out.trans (HB3.out.mono hs), by rw [HW.out]; exact HOW.out.below HB3.out⟩
        case measure => simp [intOf]; omega
      | true =>
        have HY := Lib.hid hy
        have HW : Hid (way (1) (gsOf L (l.take (k + 1))) = way (1) (gsOf L (l.take k)) ++ [(x1, x2, L)]) := by
          show _ = _
          rw [HT.out]; exact way_snoc_yes _ _ _ hy
        clear hy
        go_wp2_with fail
        refine (goesRight_at x1 x2 L true HY.out _).mono ?_
        rintro e w3 ⟨rfl, hb3⟩
        have hz3 : wr.heap.size < w3.heap.size := by have := hb3.size; simp at this; omega
        have g0 : w3.cell? ⟨wr.heap.size, 0, none⟩ = some (.int .i64 x1) := by rw [hb3.cell (p := ⟨wr.heap.size, 0, none⟩) (by simp)]; simp
        have g1 : w3.cell? ⟨wr.heap.size, 1, none⟩ = some (.int .i64 x2) := by rw [hb3.cell (p := ⟨wr.heap.size, 1, none⟩) (by simp)]; simp
        have g2 : w3.cell? ⟨wr.heap.size, 2, none⟩ = some (.int .i64 L) := by rw [hb3.cell (p := ⟨wr.heap.size, 2, none⟩) (by simp)]; simp
        have HB3 := Lib.hid (((Below.refl _ wr).alloc (Nat.le_refl _) _).trans (hb3.mono (by simp)))
        clear hb3
        go_wp2_with (at_builtin; refine wpList_append_sl tripS _ rfl _ _ 97 rfl w2.heap.size 102 i0 _ 24 Try.underlying97 hi hz0 hz1 hz2 rfl (by decide) _ _ rfl ((HOW.out.below HB3.out).below ((Below.refl _ _).alloc (Nat.le_refl _) _)) w3.heap.size (x1, x2, L) #[.int .i64 x1, .int .i64 x2, .int .i64 L] _ _ rfl (heap_new rfl) rfl (by have := HLEN.out; omega) (by simp; omega) ?_; intro A5 k5 w5 hown5 hb5 hg5)
        go_roundw
        case rel =>
          refine ⟨k + 1, by omega, by go_num, ?_, ?_⟩
          · exact HB.out.trans ((HB3.out.mono hs).trans (((Below.refl _ _).alloc (by have := HB3.out.size; omega) _).trans hb5))
          · rw [HW.out]; simpa using hown5
        case measure => simp [intOf]; omega
    · obtain rfl : k = l.length := by omega
      have e : l.take l.length = l := List.take_length
      rw [e] at HOW
      go_wp2
      go_ret
      exact ⟨A3, k3, by simp, by simpa using HOW.out.base HB2.out.size, HB2.out.trans (HB.out.mono HB2.out.size)⟩

end Go.Proofs.Ytenpmjinbjlpbaa
