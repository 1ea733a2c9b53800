/- CountMeetings: the contracts of the program's and of the model's, and of roMeetings. -/
import Derived.Test.YthgggdaopkejpaaGood
import Derived.Test.YthgggdaopkejpaaGhosts
namespace Go.Proofs.Ythgggdaopkejpaa
open Go.RowKit

def mStep (s : Int × Int) (y : Int) : Int × Int := if y = 1 then (s.1, s.2 + 1) else (s.1 + s.2, s.2)
def mAll (l : List (Int × Int)) : Int × Int := l.foldl (fun s p => mStep s p.2) (0, 0)
theorem mAll_snoc (l : List (Int × Int)) (k : Nat) (x : Int × Int) (hx : l[k]? = some x) : mAll (l.take (k + 1)) = mStep (mAll (l.take k)) x.2 := by
  obtain ⟨hk, rfl⟩ := List.getElem?_eq_some_iff.1 hx
  unfold mAll
  rw [List.take_succ_eq_append_getElem hk, List.foldl_append]
  rfl
theorem mAll_bounds (l : List (Int × Int)) : ∀ k, k ≤ l.length → k ≤ 16 → 0 ≤ (mAll (l.take k)).2 ∧ (mAll (l.take k)).2 ≤ k ∧ 0 ≤ (mAll (l.take k)).1 ∧ (mAll (l.take k)).1 ≤ 16 * k := by
  intro k
  induction k with
  | zero => intro _ _; simp [mAll]
  | succ k ih =>
    intro hk h16
    obtain ⟨h1, h2, h3, h4⟩ := ih (by omega) (by omega)
    rw [mAll_snoc l k _ (List.getElem?_eq_getElem hk)]
    unfold mStep
    split <;> refine ⟨?_, ?_, ?_, ?_⟩ <;> simp only <;> omega

theorem getD_of {α : Type} {l : List α} {k : Nat} {x d : α} (h : l[k]? = some x) : l.getD k d = x := by rw [List.getD_eq_getElem?_getD, h]; rfl
theorem good_len {L : Int} {l : List (Int × Int)} (h : goodB L l = true) : (l.length : Int) ≤ 16 := by
  simp only [goodB, Bool.and_eq_true] at h
  have := (hdr_iff _ _).1 h.1
  omega
theorem good_hdr {L : Int} {l : List (Int × Int)} (h : goodB L l = true) : 2 ≤ L ∧ L ≤ 1000 ∧ L % 2 = 0 := by
  simp only [goodB, Bool.and_eq_true] at h
  have := (hdr_iff _ _).1 h.1
  omega
theorem good_ant {L : Int} {l : List (Int × Int)} (h : goodB L l = true) {k : Nat} {x : Int × Int} (hx : l[k]? = some x) : 0 ≤ x.1 ∧ x.1 ≤ L ∧ x.1 % 2 = 0 ∧ (x.2 = -1 ∨ x.2 = 1) := by
  simp only [goodB, Bool.and_eq_true, List.all_eq_true] at h
  have h1 := h.2 k (List.mem_range.2 (List.getElem?_eq_some_iff.1 hx).1)
  simp only [okAt, Bool.and_eq_true, getD_of hx] at h1
  have h2 := h1.1
  simp only [isAntB, Bool.and_eq_true, Bool.or_eq_true, decide_eq_true_eq, beq_iff_eq] at h2
  obtain ⟨⟨⟨a, b⟩, c⟩, d⟩ := h2
  exact ⟨a, b, c, d⟩

/-- what CountMeetings returns -/
def cmV (L : Int) (l : List (Int × Int)) : Int := if goodB L l then (mAll l).1 else 0

theorem ret_ib {a b : Int} {x y : Bool} (h : a = b) (h' : x = y) : Ending.returned (.tuple #[.int .i64 a, .bool x]) = .returned (.tuple #[.int .i64 b, .bool y]) := by rw [h, h']

set_option maxHeartbeats 1000000 in
theorem roMeetings_good (L : Int) (A : Option Addr) (c : Nat) (l : List (Int × Int)) (w : World) (hg : goodB L l = true) (hA : AntsAt w A l) :
    Calls Try.prog 100 #[.agg #[.int .i64 L, .slice A l.length c]] w fun e w' => e = .returned (.int .i64 (mAll l).1) ∧ Below w.heap.size w w' := by
  have hn := good_len hg
  have HA := Lib.hid hA
  have HG := Lib.hid hg
  clear hA hg
  go_enter Try.func100, Try.ntmps100
  go_wp2
  go_loopw [3, 4, 10] (fun m r i wr => ∃ k : Nat, k ≤ l.length ∧ i = .int .i64 k ∧ m = .int .i64 (mAll (l.take k)).1 ∧ r = .int .i64 (mAll (l.take k)).2 ∧ Below (w.heap.size + 1) (w.alloc (Obj.cells #[Value.int IntKind.i64 L, Value.slice A l.length c] 26)) wr)
    (fun _ _ i _ => l.length - (intOf i).toNat)
  case atStart => exact ⟨0, Nat.zero_le _, rfl, rfl, rfl, Below.refl _ _⟩
  case round =>
    obtain ⟨k, hk, rfl, rfl, rfl, hb⟩ := hrel
    have HB := Lib.hid hb
    have hs1 : w.heap.size < wr.heap.size := by have := hb.size; simp at this; omega
    have HAr := Lib.hid (HA.out.below (((Below.refl _ _).alloc (Nat.le_refl _) _).trans (hb.mono (by simp))))
    clear hb
    by_cases hlt : k < l.length
    · obtain ⟨b, off, rfl, l0, hc⟩ := HAr.out.at_ hlt
      obtain ⟨a0, a1⟩ := hc k hlt
      have hx : l[k]? = some (l.getD k (0, 0)) := by rw [List.getD_eq_getElem?_getD, List.getElem?_eq_getElem hlt]; rfl
      have hm := mAll_snoc l k _ hx
      have hw := (good_ant HG.out hx).2.2.2
      obtain ⟨b1, b2, b3, b4⟩ := mAll_bounds l k hk (by omega)
      clear hc hx
      generalize l.getD k (0, 0) = x at *
      obtain ⟨x1, x2⟩ := x
      simp only at a0 a1 hm hw
      generalize mAll (l.take k) = s at *
      obtain ⟨m, r⟩ := s
      simp only at b1 b2 b3 b4 hm
      rcases hw with rfl | rfl
      · have HM : Hid (mAll (l.take (k + 1)) = (m + r, r)) := by show _ = _; rw [hm]; rfl
        clear hm
        go_wp2
        go_roundw
        case rel => exact ⟨k + 1, by omega, by go_num, by rw [HM.out], by rw [HM.out], HB.out.trans (((Below.refl _ _).alloc (Nat.le_refl _) _).mono (by omega))⟩
        case measure => simp [intOf]; omega
      · have HM : Hid (mAll (l.take (k + 1)) = (m, r + 1)) := by show _ = _; rw [hm]; rfl
        clear hm
        go_wp2
        go_roundw
        case rel => exact ⟨k + 1, by omega, by go_num, by rw [HM.out], by rw [HM.out], HB.out.trans (((Below.refl _ _).alloc (Nat.le_refl _) _).mono (by omega))⟩
        case measure => simp [intOf]; omega
    · obtain rfl : k = l.length := by omega
      have HE : Hid (l.take l.length = l) := List.take_length
      go_wp2
      go_ret
      exact ⟨ret_int (by rw [HE.out]), ((Below.refl _ _).alloc (Nat.le_refl _) _).trans (HB.out.mono (by simp))⟩

set_option maxHeartbeats 1000000 in
theorem specCountMeetings_any (L : Int) (A : Option Addr) (c : Nat) (l : List (Int × Int)) (w : World) (hA : AntsAt w A l) :
    Calls Try.prog 56 #[.agg #[.int .i64 L, .slice A l.length c]] w fun e w' => e = .returned (.tuple #[.int .i64 (cmV L l), .bool (goodB L l)]) ∧ Below w.heap.size w w' := by
  have HA := Lib.hid (hA.alloc (Obj.cells #[Value.int IntKind.i64 L, Value.slice A l.length c] 26))
  clear hA
  cases hg : goodB L l with
  | false =>
    have HV : Hid (cmV L l = 0) := by show _ = _; simp [cmV, hg]
    have HG : Hid (∀ w, AntsAt w A l → Calls Try.prog 71 #[.agg #[.int .i64 L, .slice A l.length c]] w fun e w' => e = .returned (.bool false) ∧ Below w.heap.size w w') := fun w h => by
      rw [← hg]; exact roGood_any L A c l w h
    clear hg
    go_enter Try.func56, Try.ntmps56
    go_wp2_with fail
    refine (HG.out _ HA.out).mono ?_
    rintro e w1 ⟨rfl, hb⟩
    go_wp2
    go_ret2
    exact ⟨ret_ib HV.out.symm rfl, ((Below.refl _ _).alloc (Nat.le_refl _) _).trans (hb.mono (by simp))⟩
  | true =>
    have HV : Hid (cmV L l = (mAll l).1) := by show _ = _; simp [cmV, hg]
    have HG : Hid (∀ w, AntsAt w A l → Calls Try.prog 71 #[.agg #[.int .i64 L, .slice A l.length c]] w fun e w' => e = .returned (.bool true) ∧ Below w.heap.size w w') := fun w h => by
      rw [← hg]; exact roGood_any L A c l w h
    have HGG := Lib.hid hg
    clear hg
    go_enter Try.func56, Try.ntmps56
    go_wp2_with fail
    refine (HG.out _ HA.out).mono ?_
    rintro e w1 ⟨rfl, hb⟩
    have c0 : w1.cell? ⟨w.heap.size, 0, none⟩ = some (.int .i64 L) := by rw [hb.cell (p := ⟨w.heap.size, 0, none⟩) (by simp)]; simp
    have c1 : w1.cell? ⟨w.heap.size, 1, none⟩ = some (.slice A l.length c) := by rw [hb.cell (p := ⟨w.heap.size, 1, none⟩) (by simp)]; simp
    have HB := Lib.hid (((Below.refl _ w).alloc (Nat.le_refl _) _).trans (hb.mono (by simp)))
    have HA1 := Lib.hid (HA.out.below hb)
    clear hb
    go_wp2_with fail
    refine (roMeetings_good L A c l _ HGG.out HA1.out).mono ?_
    rintro e w2 ⟨rfl, hb2⟩
    go_wp2
    go_ret2
    exact ⟨ret_ib HV.out.symm rfl, HB.out.trans (hb2.mono HB.out.size)⟩

set_option maxHeartbeats 1000000 in
theorem implCountMeetings_any (L : Int) (A : Option Addr) (c : Nat) (l : List (Int × Int)) (w : World) (hA : AntsAt w A l) :
    Calls Try.prog 57 #[.agg #[.int .i64 L, .slice A l.length c]] w fun e w' => e = .returned (.tuple #[.int .i64 (cmV L l), .bool (goodB L l)]) ∧ Below w.heap.size w w' := by
  have HA := Lib.hid (hA.alloc (Obj.cells #[Value.int IntKind.i64 L, Value.slice A l.length c] 26))
  clear hA
  cases hg : goodB L l with
  | false =>
    have HV : Hid (cmV L l = 0) := by show _ = _; simp [cmV, hg]
    have HG : Hid (∀ w, AntsAt w A l → Calls Try.prog 30 #[.agg #[.int .i64 L, .slice A l.length c]] w fun e w' => e = .returned (.bool false) ∧ Below w.heap.size w w') := fun w h => by
      rw [← hg]; exact isRod_any L A c l w h
    clear hg
    go_enter Try.func57, Try.ntmps57
    go_wp2_with fail
    refine (HG.out _ HA.out).mono ?_
    rintro e w1 ⟨rfl, hb⟩
    go_wp2
    go_ret2
    exact ⟨ret_ib HV.out.symm rfl, ((Below.refl _ _).alloc (Nat.le_refl _) _).trans (hb.mono (by simp))⟩
  | true =>
    have HV : Hid (cmV L l = (mAll l).1) := by show _ = _; simp [cmV, hg]
    have HG : Hid (∀ w, AntsAt w A l → Calls Try.prog 30 #[.agg #[.int .i64 L, .slice A l.length c]] w fun e w' => e = .returned (.bool true) ∧ Below w.heap.size w w') := fun w h => by
      rw [← hg]; exact isRod_any L A c l w h
    have hn := good_len hg
    have HGG := Lib.hid hg
    clear hg
    go_enter Try.func57, Try.ntmps57
    go_wp2_with fail
    refine (HG.out _ HA.out).mono ?_
    rintro e w1 ⟨rfl, hb⟩
    have c0 : w1.cell? ⟨w.heap.size, 0, none⟩ = some (.int .i64 L) := by rw [hb.cell (p := ⟨w.heap.size, 0, none⟩) (by simp)]; simp
    have c1 : w1.cell? ⟨w.heap.size, 1, none⟩ = some (.slice A l.length c) := by rw [hb.cell (p := ⟨w.heap.size, 1, none⟩) (by simp)]; simp
    have HB := Lib.hid (((Below.refl _ w).alloc (Nat.le_refl _) _).trans (hb.mono (by simp)))
    have HA1 := Lib.hid (HA.out.below hb)
    clear hb
    go_wp2_with fail
    refine (ghostsOf_any L A c l _ hn HA1.out).mono ?_
    rintro e w2 ⟨A2, c2, rfl, ho, hb2⟩
    have HO := Lib.hid ho.sl
    have HB2 := Lib.hid (HB.out.trans (hb2.mono HB.out.size))
    clear hb2 ho
    go_wp2
    go_loopw [4, 5, 14] (fun m r i wr => ∃ k : Nat, k ≤ l.length ∧ i = .int .i64 k ∧ m = .int .i64 (mAll (l.take k)).1 ∧ r = .int .i64 (mAll (l.take k)).2 ∧ Below w2.heap.size w2 wr)
      (fun _ _ i _ => l.length - (intOf i).toNat)
    case atStart => exact ⟨0, Nat.zero_le _, rfl, rfl, rfl, Below.refl _ _⟩
    case round =>
      obtain ⟨k, hk, rfl, rfl, rfl, hbr⟩ := hrel
      have HBr := Lib.hid hbr
      have HOr := Lib.hid (HO.out.below hbr)
      clear hbr
      by_cases hlt : k < l.length
      · obtain ⟨b, off, rfl, l0, hc⟩ := HOr.out.trip_at (show k < (gsOf L l).length by simpa [gsOf] using hlt)
        have hx : l[k]? = some (l.getD k (0, 0)) := by rw [List.getD_eq_getElem?_getD, List.getElem?_eq_getElem hlt]; rfl
        have hgx : (gsOf L l)[k]? = some ((l.getD k (0, 0)).1, (l.getD k (0, 0)).2, L) := by unfold gsOf; rw [List.getElem?_map, hx]; rfl
        obtain ⟨a0, a1, a2⟩ := hc k _ hgx
        have hm := mAll_snoc l k _ hx
        have hw := (good_ant HGG.out hx).2.2.2
        obtain ⟨b1, b2, b3, b4⟩ := mAll_bounds l k hk (by omega)
        clear hc hx hgx
        generalize l.getD k (0, 0) = x at *
        obtain ⟨x1, x2⟩ := x
        simp only at a0 a1 a2 hm hw
        generalize mAll (l.take k) = s at *
        obtain ⟨m, r⟩ := s
        simp only at b1 b2 b3 b4 hm
        rcases hw with rfl | rfl
        · have HM : Hid (mAll (l.take (k + 1)) = (m + r, r)) := by show _ = _; rw [hm]; rfl
          clear hm
          go_wp2_with fail
          refine (goesRight_at x1 (-1) L false rfl _).mono ?_
          rintro e w3 ⟨rfl, hb3⟩
          go_wp2
          go_roundw
          case rel => exact ⟨k + 1, by omega, by go_num, by rw [HM.out], by rw [HM.out], HBr.out.trans ((((Below.refl _ _).alloc (Nat.le_refl _) _).trans (hb3.mono (by simp))).mono HBr.out.size)⟩
          case measure => simp [intOf]; omega
        · have HM : Hid (mAll (l.take (k + 1)) = (m, r + 1)) := by show _ = _; rw [hm]; rfl
          clear hm
          go_wp2_with fail
          refine (goesRight_at x1 1 L true rfl _).mono ?_
          rintro e w3 ⟨rfl, hb3⟩
          go_wp2
          go_roundw
          case rel => exact ⟨k + 1, by omega, by go_num, by rw [HM.out], by rw [HM.out], HBr.out.trans ((((Below.refl _ _).alloc (Nat.le_refl _) _).trans (hb3.mono (by simp))).mono HBr.out.size)⟩
          case measure => simp [intOf]; omega
      · obtain rfl : k = l.length := by omega
        have HE : Hid (l.take l.length = l) := List.take_length
        go_wp2
        go_ret2
        exact ⟨ret_ib (by rw [HE.out, HV.out]) rfl, HB2.out.trans (HBr.out.mono HB2.out.size)⟩

end Go.Proofs.Ythgggdaopkejpaa
