/- The program's ants of a box behind a time: the ghosts on their round, sorted. -/
import Derived.Test.YthokkdipbckolaaCompare
import Derived.Test.YthokkdipbckolaaIsBox
import Derived.Test.YthokkdipbckolaaAround
import Derived.Test.YthokkdipbckolaaStepR
namespace Go.Proofs.Ythokkdipbckolaa
open Go.RowKit

theorem onRound_b (L : Int) (x : Int × Int) (t : Int) (w : World) (hx : 0 ≤ x.1 ∧ x.1 ≤ 1000) (hy : x.2 = -1 ∨ x.2 = 1) (hL : 2 ≤ L ∧ L ≤ 1000) (ht : 0 ≤ t ∧ t ≤ 100000) :
    Calls Try.prog 54 #[.agg #[.int .i64 x.1, .int .i64 x.2, .int .i64 L], .int .i64 t] w fun e w' => e = .returned (.int .i64 (rdB L x t)) ∧ Below w.heap.size w w' := by
  obtain ⟨a, y⟩ := x
  simp only at hx hy ⊢
  have hm : -1000 ≤ y * a ∧ y * a ≤ 1000 := by rcases hy with rfl | rfl <;> omega
  have HV : Hid (rdB L (a, y) t = (y * a + t) % (2 * L)) := rfl
  generalize hp : y * a = p at *
  have hw1 : IntKind.i64.wrap (y * a) = p := by rw [hp]; exact IntWalk.i64_in _ (by omega)
  have hw2 : IntKind.i64.wrap (p + t) = p + t := IntWalk.i64_in _ (by omega)
  have hw3 : IntKind.i64.wrap (2 * L) = 2 * L := IntWalk.i64_in _ (by omega)
  have HA : Hid (∀ w, Calls Try.prog 53 #[.int .i64 (p + t), .int .i64 (2 * L)] w fun e w' => e = .returned (.int .i64 ((p + t) % (2 * L))) ∧ w = w') := fun w => around_any _ _ w (by omega) (by omega) (by omega) (by omega)
  clear hp
  go_enter Try.func54, Try.ntmps54
  go_wp2_with fail
  refine (HA.out _).mono ?_
  rintro e w1 ⟨rfl, rfl⟩
  go_wp2
  go_ret
  exact ⟨ret_int HV.out.symm, (Below.refl _ _).alloc (Nat.le_refl _) _⟩
theorem ret_agg2 {a b c d : Int} (h : a = b) (h2 : c = d) : Ending.returned (.agg #[.int .i64 a, .int .i64 c]) = .returned (.agg #[.int .i64 b, .int .i64 d]) := by rw [h, h2]
theorem inBox_b (L : Int) (x : Int × Int) (t : Int) (w : World) (hx : 0 ≤ x.1 ∧ x.1 ≤ 1000) (hy : x.2 = -1 ∨ x.2 = 1) (hL : 2 ≤ L ∧ L ≤ 1000) (ht : 0 ≤ t ∧ t ≤ 100000) :
    Calls Try.prog 72 #[.agg #[.int .i64 x.1, .int .i64 x.2, .int .i64 L], .int .i64 t] w fun e w' => e = .returned (.agg #[.int .i64 (bxG L t x).1, .int .i64 (bxG L t x).2]) ∧ Below w.heap.size w w' := by
  have HO : Hid (∀ w, Calls Try.prog 54 #[.agg #[.int .i64 x.1, .int .i64 x.2, .int .i64 L], .int .i64 t] w fun e w' => e = .returned (.int .i64 (rdB L x t)) ∧ Below w.heap.size w w') := fun w => onRound_b L x t w hx hy hL ht
  have HR := rdB_in hL.1 x t
  have HV1 : Hid (rdB L x t < L → bxG L t x = (rdB L x t, 1)) := fun h => by unfold bxG; rw [if_pos h]
  have HV2 : Hid (¬ rdB L x t < L → bxG L t x = (2 * L - rdB L x t, -1)) := fun h => by unfold bxG; rw [if_neg h]
  generalize rdB L x t = p at *
  generalize bxG L t x = z at *
  obtain ⟨a, y⟩ := x
  simp only at HO ⊢
  clear hx hy
  have hw3 : IntKind.i64.wrap (2 * L) = 2 * L := IntWalk.i64_in _ (by omega)
  have hw4 : IntKind.i64.wrap (2 * L - p) = 2 * L - p := IntWalk.i64_in _ (by omega)
  go_enter Try.func72, Try.ntmps72
  go_wp2_with fail
  refine (HO.out _).mono ?_
  rintro e w1 ⟨rfl, hb⟩
  have hs : w.heap.size + 2 ≤ w1.heap.size := by have := hb.size; simp at this; omega
  have c2 : w1.cell? ⟨w.heap.size, 2, none⟩ = some (.int .i64 L) := by rw [hb.cell (p := ⟨w.heap.size, 2, none⟩) (by simp; omega)]; simp
  have d0 : w1.cell? ⟨w.heap.size + 1, 0, none⟩ = some (.int .i64 0) := by rw [hb.cell (p := ⟨w.heap.size + 1, 0, none⟩) (by simp)]; simp [go_sem]
  have d1 : w1.cell? ⟨w.heap.size + 1, 1, none⟩ = some (.int .i64 0) := by rw [hb.cell (p := ⟨w.heap.size + 1, 1, none⟩) (by simp)]; simp [go_sem]
  have f0 : w1.frozen? ⟨w.heap.size + 1, 0, none⟩ = false := by rw [hb.frozen (p := ⟨w.heap.size + 1, 0, none⟩) (by simp)]; simp [go_sem]
  have f1 : w1.frozen? ⟨w.heap.size + 1, 1, none⟩ = false := by rw [hb.frozen (p := ⟨w.heap.size + 1, 1, none⟩) (by simp)]; simp [go_sem]
  have HB1 : Hid (Below w.heap.size w w1) := (((Below.refl _ w).alloc (Nat.le_refl _) _).alloc (by simp) _).trans (hb.mono (by simp; omega))
  clear hb
  by_cases hp : p < L
  · have HZ := Lib.hid (HV1.out hp)
    go_wp2
    exact bodyPost_ret (v := .agg #[.int .i64 p, .int .i64 1]) (by simp [results, Try.results72, go_sem, d0, d1]) rfl ⟨by rw [HZ.out], (HB1.out.setCell (by simp) _).setCell (by simp) _⟩
  · have HZ := Lib.hid (HV2.out (by omega))
    go_wp2
    exact bodyPost_ret (v := .agg #[.int .i64 (2 * L - p), .int .i64 (-1)]) (by simp [results, Try.results72, go_sem, d0, d1]) rfl ⟨by rw [HZ.out], (HB1.out.setCell (by simp) _).setCell (by simp) _⟩

theorem bxG_snoc (L t : Int) (l : List (Int × Int)) (k : Nat) (x : Int × Int) (hx : l[k]? = some x) : (l.take (k + 1)).map (bxG L t) = (l.take k).map (bxG L t) ++ [bxG L t x] := by
  obtain ⟨hk, rfl⟩ := List.getElem?_eq_some_iff.1 hx
  rw [List.take_succ_eq_append_getElem hk, List.map_append]
  rfl
set_option maxRecDepth 100000 in
set_option maxHeartbeats 2000000 in
theorem boxAnts_any (L : Int) (A : Option Addr) (c : Nat) (l : List (Int × Int)) (t : Int) (w : World) (hg : goodB L l = true) (ht : 0 ≤ t ∧ t ≤ 100000) (hA : AntsAt w A l) :
    Calls Try.prog 48 #[.agg #[.int .i64 L, .slice A l.length c], .int .i64 t] w fun e w' => ∃ A' c', e = .returned (.slice A' l.length c') ∧ SlOwn pairS w' w.heap.size 53 (.slice A' l.length c') (bxA L t l) ∧ Below w.heap.size w w' := by
  obtain ⟨i0, hi, hz0, hz1, hz2⟩ := info_parts antI
  have HA := Lib.hid (hA.alloc (Obj.cells #[Value.int IntKind.i64 L, Value.slice A l.length c] 29))
  have hn := good_len hg
  obtain ⟨hL0, hL1, _⟩ := good_hdr hg
  have HGG := Lib.hid hg
  clear hA hg
  go_enter Try.func48, Try.ntmps48
  go_wp2_with fail
  refine (ghostsOf_any L A c l _ hn HA.out).mono ?_
  rintro e w2 ⟨A2, c2, rfl, ho, hb2⟩
  have HO2 := Lib.hid ho.sl
  have hs2 : w.heap.size + 1 ≤ w2.heap.size := by have := hb2.size; simpa using this
  have HB2 := Lib.hid (((Below.refl _ w).alloc (Nat.le_refl _) _).trans (hb2.mono (by simp)))
  clear hb2 ho
  go_wp2
  go_loopw [5, 11] (fun v i wr => ∃ (k : Nat) (A3 : Option Addr) (c3 : Nat), k ≤ l.length ∧ i = .int .i64 k ∧ v = .slice A3 k c3 ∧ Below w2.heap.size w2 wr ∧ SlOwn pairS wr w2.heap.size 53 (.slice A3 k c3) ((l.take k).map (bxG L t)))
    (fun _ i _ => l.length - (intOf i).toNat)
  case atStart => exact ⟨0, none, 0, Nat.zero_le _, rfl, rfl, Below.refl _ _, SlOwn.nil pairS _ _ _⟩
  case round =>
    obtain ⟨k, A3, c3, hk, rfl, rfl, hbr, hown⟩ := hrel
    have HBr := Lib.hid hbr
    have hsr := hbr.size
    have HOr := Lib.hid (HO2.out.below hbr)
    have HO := Lib.hid hown
    clear hbr hown
    by_cases hlt : k < l.length
    · obtain ⟨b, off, rfl, l0, hc⟩ := HOr.out.trip_at (show k < (gsOf L l).length by simpa [gsOf] using hlt)
      have hx : l[k]? = some (l.getD k (0, 0)) := by rw [List.getD_eq_getElem?_getD, List.getElem?_eq_getElem hlt]; rfl
      have hgx : (gsOf L l)[k]? = some ((l.getD k (0, 0)).1, (l.getD k (0, 0)).2, L) := by unfold gsOf; rw [List.getElem?_map, hx]; rfl
      obtain ⟨a0, a1, a2⟩ := hc k _ hgx
      have HSN := Lib.hid (bxG_snoc L t l k _ hx)
      have hq := good_ant HGG.out hx
      clear hc hx hgx
      generalize l.getD k (0, 0) = x at *
      obtain ⟨p, y⟩ := x
      simp only at a0 a1 a2 hq
      have HAF : Hid (∀ w, Calls Try.prog 72 #[.agg #[.int .i64 p, .int .i64 y, .int .i64 L], .int .i64 t] w fun e w' => e = .returned (.agg #[.int .i64 (bxG L t (p, y)).1, .int .i64 (bxG L t (p, y)).2]) ∧ Below w.heap.size w w') := fun w => inBox_b L (p, y) t w ⟨hq.1, by show p ≤ 1000; omega⟩ hq.2.2.2 ⟨hL0, hL1⟩ ht
      generalize bxG L t (p, y) = g at *
      obtain ⟨g1, g2⟩ := g
      have hml : ((l.take k).map (bxG L t)).length = k := by simp; omega
      have HML := Lib.hid hml
      clear hml
      generalize (l.take k).map (bxG L t) = m at *
      go_wp2_with fail
      refine (HAF.out _).mono ?_
      rintro e w4 ⟨rfl, hb4⟩
      have hb5 : Below wr.heap.size wr w4 := ((Below.refl _ _).alloc (Nat.le_refl _) _).trans (hb4.mono (by simp))
      have HO4 := Lib.hid (HO.out.below hb5)
      have HB4 := Lib.hid (HBr.out.trans (hb5.mono hsr))
      have hs4 : w2.heap.size ≤ w4.heap.size := HB4.out.size
      clear hb4 hb5
      go_wp2_with (at_builtin; go_must (refine wpList_append_slsv pairS _ rfl _ _ 27 rfl w2.heap.size 53 i0 _ 16 Try.underlying27 hi hz0 hz1 hz2 rfl (by decide) _ m rfl (HO4.out.below ((Below.refl _ _).alloc (Nat.le_refl _) _)) (some ⟨w4.heap.size, 0, none⟩) 1 1 [(g1, g2)] rfl rfl (slAt_one (heap_new rfl)) (by have := HML.out; simp only [List.length_cons, List.length_nil]; omega) (by simp; omega) ?_); intro A5 n5 k5 w5 hn5 hown5 hb5; have hn6 : n5 = k + 1 := (by rw [hn5, List.length_append, HML.out]; rfl); clear hn5; subst hn6)
      go_roundw
      case rel =>
        refine ⟨k + 1, A5, k5, by omega, by go_num, rfl, ?_, ?_⟩
        · exact HB4.out.trans ((((Below.refl _ w4).alloc (Nat.le_refl _) _).mono hs4).trans hb5)
        · rw [HSN.out]; exact hown5
      case measure => simp [intOf]; omega
    · obtain rfl : k = l.length := by omega
      have HE : Hid (l.take l.length = l) := List.take_length
      have HOE : Hid (SlOwn pairS wr w2.heap.size 53 (.slice A3 l.length c3) (l.map (bxG L t))) := by
        have := HO.out
        rwa [HE.out] at this
      have HLL : Hid ((l.map (bxG L t)).length ≤ 65536) := by show _ ≤ _; rw [List.length_map]; omega
      go_wp2_with fail
      refine (sort_any HLL.out HOE.out).mono ?_
      rintro e w3 ⟨rfl, ho3, hb3⟩
      have HO3 := Lib.hid ho3
      have HB3 := Lib.hid (HBr.out.trans hb3)
      clear ho3 hb3
      go_wp2
      go_ret
      exact ⟨A3, c3, rfl, HO3.out.base (by omega), HB2.out.trans (HB3.out.mono (by omega))⟩
end Go.Proofs.Ythokkdipbckolaa
