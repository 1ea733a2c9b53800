/- impl.CountMeetings' contract, out of XCount. -/
import Derived.Test.YtenpmjinbjlpbaaCount
namespace Go.Proofs.Ytenpmjinbjlpbaa
open Go.RowKit
set_option maxHeartbeats 1000000 in
theorem implCountMeetings_any (L : Int) (A : Option Addr) (c : Nat) (l : List (Int × Int)) (w : World) (hA : AntsAt w A l) :
    Calls Try.prog 64 #[.agg #[.int .i64 L, .slice A l.length c]] w fun e w' => e = .returned (.tuple #[.int .i64 (cmV L l), .bool (goodB L l)]) ∧ Below w.heap.size w w' := by
  have HA := Lib.hid (hA.alloc (Obj.cells #[Value.int IntKind.i64 L, Value.slice A l.length c] 47))
  clear hA
  cases hg : goodB L l with
  | false =>
    have HV : Hid (cmV L l = 0) := by show _ = _; simp [cmV, hg]
    have HG : Hid (∀ w, AntsAt w A l → Calls Try.prog 62 #[.agg #[.int .i64 L, .slice A l.length c]] w fun e w' => e = .returned (.bool false) ∧ Below w.heap.size w w') := fun w h => by
      rw [← hg]; exact isRod_any L A c l w h
    clear hg
    go_enter Try.func64, Try.ntmps64
    go_wp2_with fail
    refine (HG.out _ HA.out).mono ?_
    rintro e w1 ⟨rfl, hb⟩
    go_wp2
    go_ret2
    exact ⟨ret_ib HV.out.symm rfl, ((Below.refl _ _).alloc (Nat.le_refl _) _).trans (hb.mono (by simp))⟩
  | true =>
    have HV : Hid (cmV L l = (mAll l).1) := by show _ = _; simp [cmV, hg]
    have HG : Hid (∀ w, AntsAt w A l → Calls Try.prog 62 #[.agg #[.int .i64 L, .slice A l.length c]] w fun e w' => e = .returned (.bool true) ∧ Below w.heap.size w w') := fun w h => by
      rw [← hg]; exact isRod_any L A c l w h
    have hn := good_len hg
    have HGG := Lib.hid hg
    clear hg
    go_enter Try.func64, Try.ntmps64
    go_wp2_with fail
    refine (HG.out _ HA.out).mono ?_
    rintro e w1 ⟨rfl, hb⟩
    have c0 : w1.cell? ⟨w.heap.size, 0, none⟩ = some (.int .i64 L) := by rw [hb.cell (p := ⟨w.heap.size, 0, none⟩) (by simp)]; simp
    have c1 : w1.cell? ⟨w.heap.size, 1, none⟩ = some (.slice A l.length c) := by rw [hb.cell (p := ⟨w.heap.size, 1, none⟩) (by simp)]; simp
    have HB := Lib.hid (((Below.refl _ w).alloc (Nat.le_refl _) _).trans (hb.mono (by simp)))
    have HA1 := Lib.hid (HA.out.below hb)
    clear hb
    go_wp2_with fail
    refine (ghostsOf_any L A c l _ hn HA1.out).mono ?_
    rintro e w2 ⟨A2, c2, rfl, ho, hb2⟩
    have HO := Lib.hid ho.sl
    have HB2 := Lib.hid (HB.out.trans (hb2.mono HB.out.size))
    clear hb2 ho
    go_wp2
    go_loopw [4, 5, 14] (fun m r i wr => ∃ k : Nat, k ≤ l.length ∧ i = .int .i64 k ∧ m = .int .i64 (mAll (l.take k)).1 ∧ r = .int .i64 (mAll (l.take k)).2 ∧ Below w2.heap.size w2 wr)
      (fun _ _ i _ => l.length - (intOf i).toNat)
    case atStart => exact ⟨0, Nat.zero_le _, rfl, rfl, rfl, Below.refl _ _⟩
    case round =>
      obtain ⟨k, hk, rfl, rfl, rfl, hbr⟩ := hrel
      have HBr := Lib.hid hbr
      have HOr := Lib.hid (HO.out.below hbr)
      clear hbr
      by_cases hlt : k < l.length
      · obtain ⟨b, off, rfl, l0, hc⟩ := HOr.out.trip_at (show k < (gsOf L l).length by simpa [gsOf] using hlt)
        have hx : l[k]? = some (l.getD k (0, 0)) := by rw [List.getD_eq_getElem?_getD, List.getElem?_eq_getElem hlt]; rfl
        have hgx : (gsOf L l)[k]? = some ((l.getD k (0, 0)).1, (l.getD k (0, 0)).2, L) := by unfold gsOf; rw [List.getElem?_map, hx]; rfl
        obtain ⟨a0, a1, a2⟩ := hc k _ hgx
        have hm := mAll_snoc l k _ hx
        have hw := (good_ant HGG.out hx).2.2.2
        obtain ⟨b1, b2, b3, b4⟩ := mAll_bounds l k hk (by omega)
        clear hc hx hgx
        generalize l.getD k (0, 0) = x at *
        obtain ⟨x1, x2⟩ := x
        simp only at a0 a1 a2 hm hw
        generalize mAll (l.take k) = s at *
        obtain ⟨m, r⟩ := s
        simp only at b1 b2 b3 b4 hm
        rcases hw with rfl | rfl
        · have HM : Hid (mAll (l.take (k + 1)) = (m + r, r)) := by show _ = _; rw [hm]; rfl
          clear hm
          go_wp2_with fail
          refine (goesRight_at x1 (-1) L false rfl _).mono ?_
          rintro e w3 ⟨rfl, hb3⟩
          go_wp2
          go_roundw
          case rel => exact ⟨k + 1, by omega, by go_num, by rw [HM.out], by rw [HM.out], HBr.out.trans ((((Below.refl _ _).alloc (Nat.le_refl _) _).trans (hb3.mono (by simp))).mono HBr.out.size)⟩
          case measure => simp [intOf]; omega
        · have HM : Hid (mAll (l.take (k + 1)) = (m, r + 1)) := by show _ = _; rw [hm]; rfl
          clear hm
          go_wp2_with fail
          refine (goesRight_at x1 1 L true rfl _).mono ?_
          rintro e w3 ⟨rfl, hb3⟩
          go_wp2
          go_roundw
          case rel => exact ⟨k + 1, by omega, by go_num, by rw [HM.out], by rw [HM.out], HBr.out.trans ((((Below.refl _ _).alloc (Nat.le_refl _) _).trans (hb3.mono (by simp))).mono HBr.out.size)⟩
          case measure => simp [intOf]; omega
      · obtain rfl : k = l.length := by omega
        have HE : Hid (l.take l.length = l) := List.take_length
        go_wp2
        go_ret2
        exact ⟨ret_ib (by rw [HE.out, HV.out]) rfl, HB2.out.trans (HBr.out.mono HB2.out.size)⟩

end Go.Proofs.Ytenpmjinbjlpbaa
